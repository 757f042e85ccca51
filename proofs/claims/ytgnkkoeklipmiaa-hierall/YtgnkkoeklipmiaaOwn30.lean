/-
  Whether a class may stand where it does, by the statements' own.
-/
import Derived.Test.YtgnkkoeklipmiaaChain
namespace Go.Proofs.Ytgnkkoeklipmiaa
open Go.RowKit
set_option linter.unusedVariables false

set_option maxHeartbeats 16000000 in
set_option maxRecDepth 100000 in
theorem check30 (L : List Fc) (hL : L.length ≤ 8) (s : ByteArray) (a0 : Option Addr) (n0 c0 : Nat) (w : World) (h : Sl w 4 (FcR w) L (.slice a0 n0 c0)) :
    Calls Try.prog 30 #[.slice a0 n0 c0, .string s] w fun e w' => e = .returned (.int .i64 (chk L s)) ∧ Below w.heap.size w w' := by
  have HH := Lib.hid h
  have HF := Lib.hid (find16g L s a0 n0 c0 w w (Below.refl _ _) h)
  clear h
  go_enter Try.func30, Try.ntmps30
  go_wp2_with fail
  refine HF.out.mono ?_
  rintro e w1 ⟨cs, rfl, hF, hb1⟩
  obtain ⟨x1, x2, x3, y1, y2, y3, rfl, hfs, hms⟩ := hF
  cases hfd : fnd L s with
  | none =>
    have HE : Hid (chk L s = 23) := Lib.hid (by unfold chk; rw [ab_nil (.inl hfd)]; rfl)
    simp only [Option.getD_none, Option.isSome_none]
    unfold zF
    have HB := Lib.hid (hb1.trans ((below1 w1 (.cells #[.string ⟨#[]⟩, .string ⟨#[]⟩, .slice x1 x2 x3, .slice y1 y2 y3] 35)).mono hb1.size))
    clear HF hfs hms hb1
    go_wp2
    go_ret
    exact ⟨by rw [HE.out]; rfl, HB.out⟩
  | some f =>
    rw [hfd] at hfs hms
    simp only [Option.getD_some, Option.isSome_some] at hfs hms ⊢
    have hB1 : Below w.heap.size w (w1.alloc (.cells #[.string f.name, .string f.sup, .slice x1 x2 x3, .slice y1 y2 y3] 35)) := hb1.trans ((below1 w1 _).mono hb1.size)
    have HB1 := Lib.hid (Blk.new w1 [.string f.name, .string f.sup, .slice x1 x2 x3, .slice y1 y2 y3] 35)
    have hl1 := hfs.at.2.1
    have k1 := hfs.at.2.2.1
    have hl2 := hms.at.2.1
    have k2 := hms.at.2.2.1
    unfold maxLen at k1 k2
    have E1 := Lib.hid hfs.at.1
    have HK1 := Lib.hid hfs.at.2.2.2
    have E2 := Lib.hid hms.at.1
    have HK2 := Lib.hid hms.at.2.2.2
    have HBe := Lib.hid hB1
    clear HF hfs hms hb1 hB1
    by_cases hse : s = eE
    · have he := tempty hse
      have HE : Hid (chk L s = 23) := Lib.hid (by unfold chk; rw [ab_nil (.inr hse)]; rfl)
      clear hse
      go_wp2
      go_ret
      exact ⟨by rw [HE.out]; rfl, HBe.out⟩
    have he := tfull hse
    have HCH : Hid (chk L s = chkG L (ab L s).1 (ab L s).2 f) := Lib.hid (by unfold chk; rw [hfd]; rfl)
    have HTL : Hid (∀ x l, (ab L s).2 = true → (ab L s).1 = x :: l → x = s ∧ s ≠ eE ∧ ∃ f, fnd L s = some f ∧ (ab L f.sup).1 = l) := Lib.hid (fun x l h1 h2 => ab_tail h1 h2)
    have HBQ := Lib.hid (@brk_eq L s)
    have HCO := Lib.hid (ab_cons hfd hse)
    have HFD := Lib.hid hfd
    have HU := Lib.hid (up12 L hL s a0 n0 c0 (w1.alloc (.cells #[.string f.name, .string f.sup, .slice x1 x2 x3, .slice y1 y2 y3] 35)) (fcs_keep (Keeps.of_below HBe.out) HH.out))
    clear hse hfd
    go_wp2_with fail
    refine HU.out.mono ?_
    rintro e w2 ⟨ua, uc, rfl, hS2, hb2⟩
    have hB2 : Below w.heap.size w w2 := HBe.out.trans (hb2.mono HBe.out.size)
    have HB2 := Lib.hid (HB1.out.below hb2)
    have HS2 := Lib.hid hS2
    have huc := hS2.at.2.2.1
    unfold maxLen at huc
    have hul := hS2.at.2.1
    clear HU hS2 hb2 HB1 HBe
    generalize (ab L s).2 = wh at *
    generalize (ab L s).1 = la at *
    cases la with
    | nil => exact absurd rfl HCO.out
    | cons x l =>
      cases wh with
      | false =>
        have hlast := lastD x l eE
        obtain ⟨g, o, cs, rfl, hcell, rfl⟩ := HS2.out.at.2.2.2 _ _ hlast
        have c9 : w2.cell? ⟨g, o + l.length, none⟩ = some (.string ((x :: l).getLastD eE)) := by have := hcell 0 _ rfl; simpa using this
        have HE0 : Hid (chk L s = if ((fnd L ((x :: l).getLastD eE)).getD zF).sup ∈ (x :: l) then 26 else 23) := Lib.hid (by rw [HCH.out]; exact HBQ.out rfl (by simp))
        have hsub : ((x :: l).length : Int) - 1 = l.length := by simp
        have hll : (x :: l).length = l.length + 1 := by simp
        have HF3 := Lib.hid (find16 L ((x :: l).getLastD eE) a0 n0 c0 w2 (fcs_keep (Keeps.of_below hB2) HH.out))
        generalize (x :: l).getLastD eE = last at *
        clear hlast hcell HCH HBQ HTL HCO
        go_wp2_with fail
        refine HF3.out.mono ?_
        rintro e w3 ⟨cs, rfl, hF3, hb3⟩
        obtain ⟨p1, p2, p3, q1, q2, q3, rfl, _, _⟩ := hF3
        generalize ((fnd L last).getD zF).name = ln at *
        generalize ((fnd L last).getD zF).sup = lsu at *
        generalize (fnd L last).isSome = lr at *
        have hb4 := hb3.trans ((below1 w3 (.cells #[.string ln, .string lsu, .slice p1 p2 p3, .slice q1 q2 q3] 35)).mono hb3.size)
        have HB4 := Lib.hid (hB2.trans (hb4.mono hB2.size))
        have HIN := Lib.hid (in14 (x :: l) _ lsu _ (strs_keep (Keeps.of_below hb4) HS2.out))
        obtain ⟨d, HD⟩ : ∃ d, Hid (decide (lsu ∈ x :: l) = d) := ⟨_, Lib.hid rfl⟩
        rw [HD.out] at HIN
        clear HF3 hb3 hb4
        go_wp2_with fail
        refine HIN.out.mono ?_
        rintro e w5 ⟨rfl, rfl⟩
        cases d with
        | true =>
          have HE : Hid (chk L s = 26) := Lib.hid (by rw [HE0.out, if_pos (by simpa using HD.out)])
          clear HE0 HD HIN
          go_wp2
          go_ret
          exact ⟨by rw [HE.out]; rfl, HB4.out⟩
        | false =>
          have HE : Hid (chk L s = 23) := Lib.hid (by rw [HE0.out, if_neg (by simpa using HD.out)])
          clear HE0 HD HIN
          go_wp2
          go_ret
          exact ⟨by rw [HE.out]; rfl, HB4.out⟩
      | true =>
        obtain ⟨_, _, f', hf', hab⟩ := HTL.out x l rfl rfl
        obtain rfl : f = f' := Option.some.inj (HFD.out.symm.trans hf')
        have HAB := Lib.hid hab
        have HC2 := HCH
        have HADJ : Hid (Adj (f.fs.map (·.name)) ∨ Adj (f.ms.map (·.name)) → chk L s = 6) := Lib.hid (fun h => by rw [HC2.out]; exact chkG_adj h)
        have HRST : Hid (¬ (Adj (f.fs.map (·.name)) ∨ Adj (f.ms.map (·.name))) → chk L s = if chkF L l f.fs ≠ 0 then chkF L l f.fs else chkM L l f.ms) := Lib.hid (fun h => by rw [HC2.out]; exact chkG_rest h)
        clear HTL HBQ HCO HCH hf' hab HS2 HFD HC2
        go_wp2
        go_loopw [11] (fun i wr => ∃ k : Nat, 1 ≤ k ∧ (k ≤ x2 ∨ k = 1) ∧ i = .int .i64 k ∧ Hid (∀ i, 0 < i → i < k → (f.fs.map (·.name))[i]? ≠ (f.fs.map (·.name))[i - 1]?) ∧ Hid (Blk wr w1.heap.size [.string f.name, .string f.sup, .slice x1 x2 x3, .slice y1 y2 y3] 35) ∧ Below w.heap.size w wr) (fun i _ => x2 - (intOf i).toNat)
        case atStart => exact ⟨1, Nat.le_refl _, .inr rfl, rfl, Lib.hid (fun i h0 h1 => by omega), HB2, hB2⟩
        case round =>
          obtain ⟨k, hk0, hk1, rfl, HA, HB, hbr⟩ := hrel
          have b2 : wr.cell? ⟨w1.heap.size, 2, none⟩ = some (.slice x1 x2 x3) := HB.out.cell 2
          have hlb := HB.out.lt
          clear HB2 hB2
          by_cases hlt : k < x2
          · obtain ⟨u, hu⟩ : ∃ v, f.fs[k]? = some v := ⟨_, List.getElem?_eq_getElem (by have := E1.out; omega)⟩
            obtain ⟨v, hv⟩ : ∃ v, f.fs[k - 1]? = some v := ⟨_, List.getElem?_eq_getElem (by have := E1.out; omega)⟩
            obtain ⟨g, o, cs, rfl, hcell, rfl⟩ := HK1.out k u hu
            obtain ⟨g', o', cs, ea, hcell', rfl⟩ := HK1.out (k - 1) v hv
            cases ea
            have c5 : wr.cell? ⟨g, o + k * 3, none⟩ = some (.string u.name) := (hbr.cell (World.block_lt_of_cell? _ _ (hcell 0 _ rfl))).trans (hcell 0 _ rfl)
            have d5 : wr.cell? ⟨g, o + (k - 1) * 3, none⟩ = some (.string v.name) := (hbr.cell (World.block_lt_of_cell? _ _ (hcell' 0 _ rfl))).trans (hcell' 0 _ rfl)
            have hki : (k : Int) - 1 = ((k - 1 : Nat) : Int) := by omega
            have HU := Lib.hid hu
            have HV := Lib.hid hv
            clear hcell hcell' hu hv
            by_cases e : u.name = v.name
            · have he2 := teq e
              have HE : Hid (chk L s = 6) := Lib.hid (HADJ.out (.inl ⟨k, u.name, by omega, by simp [HU.out], by simp [HV.out, e]⟩))
              clear e
              go_wp2
              go_quiet (fail)
              go_wp2
              go_ret
              exact ⟨by rw [HE.out]; rfl, ⟨hbr.os, hbr.tape, hbr.output, hbr.size, hbr.block⟩⟩
            · have he2 := tne e
              have HA2 : Hid (∀ i, 0 < i → i < k + 1 → (f.fs.map (·.name))[i]? ≠ (f.fs.map (·.name))[i - 1]?) := Lib.hid (fun i h0 h1 => by
                by_cases hik : i = k
                · subst hik
                  simp [HU.out, HV.out, e]
                · exact HA.out i h0 (by omega))
              clear e
              go_wp2
              go_quiet (fail)
              go_wp2
              go_roundw
              case rel => exact ⟨k + 1, by omega, by omega, by go_num, HA2, HB, ⟨hbr.os, hbr.tape, hbr.output, hbr.size, hbr.block⟩⟩
              case measure => simp [intOf]; omega
          · have HN1 : Hid (¬ Adj (f.fs.map (·.name))) := Lib.hid (adj_no (fun i h0 h1 => HA.out i h0 (by have := E1.out; simp at h1; omega)))
            obtain ⟨wq, hwq⟩ : ∃ wq, wq = wr := ⟨_, rfl⟩
            subst hwq
            have hbq := hbr
            have HBq := HB
            clear HA HB hbr
            go_wp2
            go_loopw [12] (fun i wr => ∃ k : Nat, 1 ≤ k ∧ (k ≤ y2 ∨ k = 1) ∧ i = .int .i64 k ∧ Hid (∀ i, 0 < i → i < k → (f.ms.map (·.name))[i]? ≠ (f.ms.map (·.name))[i - 1]?) ∧ Hid (Blk wr w1.heap.size [.string f.name, .string f.sup, .slice x1 x2 x3, .slice y1 y2 y3] 35) ∧ Below w.heap.size w wr) (fun i _ => y2 - (intOf i).toNat)
            case atStart => exact ⟨1, Nat.le_refl _, .inr rfl, rfl, Lib.hid (fun i h0 h1 => by omega), HBq, hbq⟩
            case round =>
              obtain ⟨k, hk0, hk1, rfl, HA, HB, hbr⟩ := hrel
              have b3 : wr.cell? ⟨w1.heap.size, 3, none⟩ = some (.slice y1 y2 y3) := HB.out.cell 3
              have hlb := HB.out.lt
              clear HBq hbq
              by_cases hlt : k < y2
              · obtain ⟨u, hu⟩ : ∃ v, f.ms[k]? = some v := ⟨_, List.getElem?_eq_getElem (by have := E2.out; omega)⟩
                obtain ⟨v, hv⟩ : ∃ v, f.ms[k - 1]? = some v := ⟨_, List.getElem?_eq_getElem (by have := E2.out; omega)⟩
                obtain ⟨g, o, cs, rfl, hcell, _, _, _, rfl, _⟩ := HK2.out k u hu
                obtain ⟨g', o', cs, ea, hcell', _, _, _, rfl, _⟩ := HK2.out (k - 1) v hv
                cases ea
                have c5 : wr.cell? ⟨g, o + k * 5, none⟩ = some (.string u.name) := (hbr.cell (World.block_lt_of_cell? _ _ (hcell 0 _ rfl))).trans (hcell 0 _ rfl)
                have d5 : wr.cell? ⟨g, o + (k - 1) * 5, none⟩ = some (.string v.name) := (hbr.cell (World.block_lt_of_cell? _ _ (hcell' 0 _ rfl))).trans (hcell' 0 _ rfl)
                have hki : (k : Int) - 1 = ((k - 1 : Nat) : Int) := by omega
                have HU := Lib.hid hu
                have HV := Lib.hid hv
                clear hcell hcell' hu hv
                by_cases e : u.name = v.name
                · have he2 := teq e
                  have HE : Hid (chk L s = 6) := Lib.hid (HADJ.out (.inr ⟨k, u.name, by omega, by simp [HU.out], by simp [HV.out, e]⟩))
                  clear e
                  go_wp2
                  go_quiet (fail)
                  go_wp2
                  go_ret
                  exact ⟨by rw [HE.out]; rfl, ⟨hbr.os, hbr.tape, hbr.output, hbr.size, hbr.block⟩⟩
                · have he2 := tne e
                  have HA2 : Hid (∀ i, 0 < i → i < k + 1 → (f.ms.map (·.name))[i]? ≠ (f.ms.map (·.name))[i - 1]?) := Lib.hid (fun i h0 h1 => by
                    by_cases hik : i = k
                    · subst hik
                      simp [HU.out, HV.out, e]
                    · exact HA.out i h0 (by omega))
                  clear e
                  go_wp2
                  go_quiet (fail)
                  go_wp2
                  go_roundw
                  case rel => exact ⟨k + 1, by omega, by omega, by go_num, HA2, HB, ⟨hbr.os, hbr.tape, hbr.output, hbr.size, hbr.block⟩⟩
                  case measure => simp [intOf]; omega
              · have HCK : Hid (chk L s = if chkF L l f.fs ≠ 0 then chkF L l f.fs else chkM L l f.ms) := Lib.hid (HRST.out (fun h => by
                  rcases h with h | h
                  · exact HN1.out h
                  · exact adj_no (fun i h0 h1 => HA.out i h0 (by have := E2.out; simp at h1; omega)) h))
                have b2 : wr.cell? ⟨w1.heap.size, 2, none⟩ = some (.slice x1 x2 x3) := HB.out.cell 2
                obtain ⟨wq2, hwq2⟩ : ∃ wq, wq = wr := ⟨_, rfl⟩
                subst hwq2
                have hbq := hbr
                have HBq := HB
                clear HA HB hbr HADJ HRST HN1
                go_wp2
                go_loopw [105] (fun i wr => ∃ k : Nat, k ≤ x2 ∧ i = .int .i64 k ∧ Hid (chkF L l f.fs = chkF L l (f.fs.drop k)) ∧ Hid (Blk wr w1.heap.size [.string f.name, .string f.sup, .slice x1 x2 x3, .slice y1 y2 y3] 35) ∧ Below w.heap.size w wr) (fun i _ => x2 - (intOf i).toNat)
                case atStart => exact ⟨0, Nat.zero_le _, rfl, Lib.hid (by simp), HBq, hbq⟩
                case round =>
                  obtain ⟨k, hk1, rfl, HA, HB, hbr⟩ := hrel
                  have hsr := hbr.size
                  have b1 : wr.cell? ⟨w1.heap.size, 1, none⟩ = some (.string f.sup) := HB.out.cell 1
                  have b3 : wr.cell? ⟨w1.heap.size, 3, none⟩ = some (.slice y1 y2 y3) := HB.out.cell 3
                  have hlb := HB.out.lt
                  clear HBq hbq
                  by_cases hlt : k < x2
                  · obtain ⟨v, hv⟩ : ∃ v, f.fs[k]? = some v := ⟨_, List.getElem?_eq_getElem (by have := E1.out; omega)⟩
                    obtain ⟨g, o, cs, rfl, hcell, rfl⟩ := HK1.out k v hv
                    have p0 : wr.cell? ⟨g, o + k * 3, none⟩ = some (.string v.name) := (hbr.cell (World.block_lt_of_cell? _ _ (hcell 0 _ rfl))).trans (hcell 0 _ rfl)
                    have hgl : g < wr.heap.size := World.block_lt_of_cell? _ _ p0
                    have p1 := (hbr.cell (World.block_lt_of_cell? _ _ (hcell 1 _ rfl))).trans (hcell 1 _ rfl)
                    have p2 := (hbr.cell (World.block_lt_of_cell? _ _ (hcell 2 _ rfl))).trans (hcell 2 _ rfl)
                    have HD : Hid (chkF L l f.fs = if knB L v.tn = false then 23 else if (fldOf L l v.name).isSome then 6 else chkF L l (f.fs.drop (k + 1))) := Lib.hid (by rw [HA.out, drop_at hv]; rfl)
                    clear hcell hv HA
                    obtain ⟨vn, tn, ta⟩ := v
                    dsimp only at p0 p1 p2 HD
                    have hb4 := below1 wr (.cells #[.string vn, .string tn, .bool ta] 69)
                    have HKN := Lib.hid (known28 L tn ta a0 n0 c0 (wr.alloc (.cells #[.string vn, .string tn, .bool ta] 69)) (fcs_keep (Keeps.of_below (hbr.trans (hb4.mono hsr))) HH.out))
                    have HBV := Lib.hid (Blk.new wr [.string vn, .string tn, .bool ta] 69)
                    go_wp2_with fail
                    refine HKN.out.mono ?_
                    rintro e w4 ⟨rfl, hb5⟩
                    have hb6 : Below wr.heap.size wr w4 := hb4.trans (hb5.mono (by simp))
                    have hB6 : Below w.heap.size w w4 := hbr.trans (hb6.mono hsr)
                    have HB6 := Lib.hid (HB.out.below hb6)
                    have V6 := HBV.out.below hb5
                    have v0 : w4.cell? ⟨wr.heap.size, 0, none⟩ = some (.string vn) := V6.cell 0
                    have e1 : w4.cell? ⟨w1.heap.size, 1, none⟩ = some (.string f.sup) := HB6.out.cell 1
                    clear HKN hb4 hb5 hb6 HB HBV V6
                    cases hkn : knB L tn with
                    | false =>
                      have HE : Hid (chk L s = 23) := Lib.hid (by rw [HCK.out, HD.out, if_pos hkn]; rfl)
                      clear hkn HD HCK
                      go_wp2
                      go_ret
                      exact ⟨by rw [HE.out]; rfl, hB6⟩
                    | true =>
                      have HFO := Lib.hid (field21 L hL f.sup vn a0 n0 c0 w4 (fcs_keep (Keeps.of_below hB6) HH.out))
                      rw [HAB.out] at HFO
                      have HD2 : Hid (chkF L l f.fs = if (fldOf L l vn).isSome then 6 else chkF L l (f.fs.drop (k + 1))) := Lib.hid (by rw [HD.out, hkn]; rfl)
                      clear hkn HD
                      go_wp2_with fail
                      refine HFO.out.mono ?_
                      rintro e w5 ⟨rfl, hb7⟩
                      have HB7 := Lib.hid (HB6.out.below hb7)
                      have hB7 : Below w.heap.size w w5 := hB6.trans (hb7.mono hB6.size)
                      generalize fldOf L l vn = fo at *
                      generalize fo.getD (eE, zT) = fp
                      obtain ⟨fc, ft⟩ := fp
                      unfold tyV
                      dsimp only
                      have hb8 := below1 w5 (.cells #[.string ft.n, .bool ft.a] 44)
                      have hB8 : Below w.heap.size w (w5.alloc (.cells #[.string ft.n, .bool ft.a] 44)) := hB7.trans (hb8.mono hB7.size)
                      have HB8 := Lib.hid (HB7.out.below hb8)
                      clear HFO hb7 HB6 HB7 hB6 hB7 hb8
                      cases hfo : fo.isSome with
                      | true =>
                        have HE : Hid (chk L s = 6) := Lib.hid (by rw [HCK.out, HD2.out, hfo]; rfl)
                        clear hfo HD2 HCK
                        go_wp2
                        go_ret
                        exact ⟨by rw [HE.out]; rfl, hB8⟩
                      | false =>
                        have HA2 : Hid (chkF L l f.fs = chkF L l (f.fs.drop (k + 1))) := Lib.hid (by rw [HD2.out, hfo]; rfl)
                        clear hfo HD2
                        go_wp2
                        go_roundw
                        case rel => exact ⟨k + 1, by omega, by go_num, HA2, HB8, hB8⟩
                        case measure => simp [intOf]; omega
                  · have HCM : Hid (chk L s = chkM L l f.ms) := Lib.hid (by
                      rw [HCK.out]
                      have : chkF L l f.fs = 0 := by rw [HA.out, List.drop_of_length_le (by have := E1.out; omega)]; rfl
                      rw [this]; simp)
                    obtain ⟨wq3, hwq3⟩ : ∃ wq, wq = wr := ⟨_, rfl⟩
                    subst hwq3
                    have hbq := hbr
                    have HBq := HB
                    clear HA HB hbr HCK
                    go_wp2
                    go_loopw [129] (fun i wr => ∃ k : Nat, k ≤ y2 ∧ i = .int .i64 k ∧ Hid (chkM L l f.ms = chkM L l (f.ms.drop k)) ∧ Hid (Blk wr w1.heap.size [.string f.name, .string f.sup, .slice x1 x2 x3, .slice y1 y2 y3] 35) ∧ Below w.heap.size w wr) (fun i _ => y2 - (intOf i).toNat)
                    case atStart => exact ⟨0, Nat.zero_le _, rfl, Lib.hid (by simp), HBq, hbq⟩
                    case round =>
                      obtain ⟨k, hk1, rfl, HA, HB, hbr⟩ := hrel
                      have hsr := hbr.size
                      have hlb := HB.out.lt
                      clear HBq hbq
                      by_cases hlt : k < y2
                      · obtain ⟨m, hv⟩ : ∃ v, f.ms[k]? = some v := ⟨_, List.getElem?_eq_getElem (by have := E2.out; omega)⟩
                        obtain ⟨g, o, cs, rfl, hcell, pa, pn, pc, rfl, hp⟩ := HK2.out k m hv
                        have p0 : wr.cell? ⟨g, o + k * 5, none⟩ = some (.string m.name) := (hbr.cell (World.block_lt_of_cell? _ _ (hcell 0 _ rfl))).trans (hcell 0 _ rfl)
                        have hgl : g < wr.heap.size := World.block_lt_of_cell? _ _ p0
                        have p1 := (hbr.cell (World.block_lt_of_cell? _ _ (hcell 1 _ rfl))).trans (hcell 1 _ rfl)
                        have p2 := (hbr.cell (World.block_lt_of_cell? _ _ (hcell 2 _ rfl))).trans (hcell 2 _ rfl)
                        have p3 := (hbr.cell (World.block_lt_of_cell? _ _ (hcell 3 _ rfl))).trans (hcell 3 _ rfl)
                        have p4 := (hbr.cell (World.block_lt_of_cell? _ _ (hcell 4 _ rfl))).trans (hcell 4 _ rfl)
                        have HD : Hid (chkM L l f.ms = if knM L m = false then 23 else if ovr L l m = true then 27 else chkM L l (f.ms.drop (k + 1))) := Lib.hid (by rw [HA.out, drop_at hv]; rfl)
                        have hpl := hp.at.2.1
                        have hpc := hp.at.2.2.1
                        unfold maxLen at hpc
                        have EP := Lib.hid hp.at.1
                        have HKP := Lib.hid hp.at.2.2.2
                        have HPS := Lib.hid hp
                        clear hcell hv HA hp
                        obtain ⟨wp, hwp⟩ : ∃ wq, wq = wr := ⟨_, rfl⟩
                        subst hwp
                        have hb4 := below1 wp (.cells #[.string m.name, .bool m.st, .slice pa pn pc, .string m.rn, .bool m.ra] 50)
                        have HBm := Lib.hid (Blk.new wp [.string m.name, .bool m.st, .slice pa pn pc, .string m.rn, .bool m.ra] 50)
                        have HBf := Lib.hid (HB.out.below hb4)
                        have hBm := hbr.trans (hb4.mono hsr)
                        clear HB hb4 hbr
                        go_wp2
                        go_loopw [136] (fun i wr => ∃ j : Nat, j ≤ pn ∧ i = .int .i64 j ∧ Hid (∀ t ∈ m.ps.take j, knB L t.n = true) ∧ Hid (Blk wr w1.heap.size [.string f.name, .string f.sup, .slice x1 x2 x3, .slice (some ⟨g, o, none⟩) y2 y3] 35) ∧ Hid (Blk wr wp.heap.size [.string m.name, .bool m.st, .slice pa pn pc, .string m.rn, .bool m.ra] 50) ∧ Below w.heap.size w wr) (fun i _ => pn - (intOf i).toNat)
                        case atStart => exact ⟨0, Nat.zero_le _, rfl, Lib.hid (by simp), HBf, HBm, hBm⟩
                        case round =>
                          obtain ⟨j, hj1, rfl, HJ, HBf2, HBm2, hbr⟩ := hrel
                          have hsr2 := hbr.size
                          have hlm := HBm2.out.lt
                          clear HBf HBm hBm
                          by_cases hlt2 : j < pn
                          · obtain ⟨t, ht⟩ : ∃ t, m.ps[j]? = some t := ⟨_, List.getElem?_eq_getElem (by have := EP.out; omega)⟩
                            obtain ⟨g', o', cs, rfl, hcell, rfl⟩ := HKP.out j t ht
                            have q0 : wr.cell? ⟨g', o' + j * 2, none⟩ = some (.string t.n) := (hbr.cell (World.block_lt_of_cell? _ _ (hcell 0 _ rfl))).trans (hcell 0 _ rfl)
                            have hgl' : g' < wr.heap.size := World.block_lt_of_cell? _ _ q0
                            have q1 := (hbr.cell (World.block_lt_of_cell? _ _ (hcell 1 _ rfl))).trans (hcell 1 _ rfl)
                            have HTM := Lib.hid (List.mem_of_getElem? ht)
                            have HTX := Lib.hid ht
                            clear hcell ht
                            have hb5 := below1 wr (.cells #[.string t.n, .bool t.a] 44)
                            have HKN := Lib.hid (known28 L t.n t.a a0 n0 c0 (wr.alloc (.cells #[.string t.n, .bool t.a] 44)) (fcs_keep (Keeps.of_below (hbr.trans (hb5.mono hsr2))) HH.out))
                            go_wp2_with fail
                            refine HKN.out.mono ?_
                            rintro e w5 ⟨rfl, hb6⟩
                            have hb7 : Below wr.heap.size wr w5 := hb5.trans (hb6.mono (by simp))
                            have hB7 : Below w.heap.size w w5 := hbr.trans (hb7.mono hsr2)
                            have HBf3 := Lib.hid (HBf2.out.below hb7)
                            have HBm3 := Lib.hid (HBm2.out.below hb7)
                            clear HKN hb5 hb6 hb7 HBf2 HBm2
                            cases hkn : knB L t.n with
                            | false =>
                              have HE : Hid (chk L s = 23) := Lib.hid (by
                                rw [HCM.out, HD.out, if_pos]
                                unfold knM
                                rw [List.all_eq_false.2 ⟨t, HTM.out, by simp [hkn]⟩, Bool.and_false])
                              clear hkn HD HCM
                              go_wp2
                              go_ret
                              exact ⟨by rw [HE.out]; rfl, hB7⟩
                            | true =>
                              have HJ2 := Lib.hid (all_snoc (P := fun t => knB L t.n = true) HTX.out HJ.out hkn)
                              clear hkn HJ HTX HTM
                              go_wp2
                              go_roundw
                              case rel => exact ⟨j + 1, by omega, by go_num, HJ2, HBf3, HBm3, hB7⟩
                              case measure => simp [intOf]; omega
                          · have HAL : Hid (m.ps.all (fun t => knB L t.n) = true) := Lib.hid (by
                              have := HJ.out
                              rw [List.take_of_length_le (by have := EP.out; omega)] at this
                              exact List.all_eq_true.2 this)
                            have r0 : wr.cell? ⟨wp.heap.size, 0, none⟩ = some (.string m.name) := HBm2.out.cell 0
                            have r1 : wr.cell? ⟨wp.heap.size, 1, none⟩ = some (.bool m.st) := HBm2.out.cell 1
                            have r2 : wr.cell? ⟨wp.heap.size, 2, none⟩ = some (.slice pa pn pc) := HBm2.out.cell 2
                            have r3 : wr.cell? ⟨wp.heap.size, 3, none⟩ = some (.string m.rn) := HBm2.out.cell 3
                            have r4 : wr.cell? ⟨wp.heap.size, 4, none⟩ = some (.bool m.ra) := HBm2.out.cell 4
                            have HKN := Lib.hid (known28 L m.rn m.ra a0 n0 c0 wr (fcs_keep (Keeps.of_below hbr) HH.out))
                            clear HJ
                            go_wp2_with fail
                            refine HKN.out.mono ?_
                            rintro e w5 ⟨rfl, hb6⟩
                            have hB7 : Below w.heap.size w w5 := hbr.trans (hb6.mono hsr2)
                            have HBf3 := Lib.hid (HBf2.out.below hb6)
                            have HBm3 := Lib.hid (HBm2.out.below hb6)
                            clear HKN hb6 HBf2 HBm2 r0 r1 r2 r3 r4
                            cases hkn : knB L m.rn with
                            | false =>
                              have HE : Hid (chk L s = 23) := Lib.hid (by rw [HCM.out, HD.out, if_pos (by unfold knM; rw [hkn]; rfl)])
                              clear hkn HD HCM
                              go_wp2
                              go_ret
                              exact ⟨by rw [HE.out]; rfl, hB7⟩
                            | true =>
                              have HD2 : Hid (chkM L l f.ms = if ovr L l m = true then 27 else chkM L l (f.ms.drop (k + 1))) := Lib.hid (by rw [HD.out, if_neg (by unfold knM; rw [hkn, HAL.out]; simp)])
                              have e1 : w5.cell? ⟨w1.heap.size, 1, none⟩ = some (.string f.sup) := HBf3.out.cell 1
                              have r0 : w5.cell? ⟨wp.heap.size, 0, none⟩ = some (.string m.name) := HBm3.out.cell 0
                              have HMO := Lib.hid (method23 L hL f.sup m.name false a0 n0 c0 w5 (fcs_keep (Keeps.of_below hB7) HH.out))
                              rw [HAB.out] at HMO
                              have HOV : Hid (ovr L l m = (!m.st && (mthOf L l m.name false).isSome && !decide (((mthOf L l m.name false).getD (eE, zS)).2 = m))) := Lib.hid rfl
                              clear hkn HD HAL
                              go_wp2_with fail
                              refine HMO.out.mono ?_
                              rintro e w6 ⟨qa, qn, qc, rfl, hS6, hb8⟩
                              generalize mthOf L l m.name false = mo at *
                              generalize mo.getD (eE, zS) = mp at *
                              generalize hmr : mo.isSome = mr at *
                              obtain ⟨mc, o⟩ := mp
                              dsimp only at hS6 HOV ⊢
                              have hb9 : Below w5.heap.size w5 (w6.alloc (.cells #[.string o.name, .bool o.st, .slice qa qn qc, .string o.rn, .bool o.ra] 50)) := hb8.trans ((below1 w6 _).mono hb8.size)
                              have hB9 : Below w.heap.size w (w6.alloc (.cells #[.string o.name, .bool o.st, .slice qa qn qc, .string o.rn, .bool o.ra] 50)) := hB7.trans (hb9.mono hB7.size)
                              have HBf4 := Lib.hid (HBf3.out.below hb9)
                              have HBm4 := Lib.hid (HBm3.out.below hb9)
                              have t0 : (w6.alloc (.cells #[.string o.name, .bool o.st, .slice qa qn qc, .string o.rn, .bool o.ra] 50)).cell? ⟨wp.heap.size, 0, none⟩ = some (.string m.name) := HBm4.out.cell 0
                              have t1 : (w6.alloc (.cells #[.string o.name, .bool o.st, .slice qa qn qc, .string o.rn, .bool o.ra] 50)).cell? ⟨wp.heap.size, 1, none⟩ = some (.bool m.st) := HBm4.out.cell 1
                              have t2 : (w6.alloc (.cells #[.string o.name, .bool o.st, .slice qa qn qc, .string o.rn, .bool o.ra] 50)).cell? ⟨wp.heap.size, 2, none⟩ = some (.slice pa pn pc) := HBm4.out.cell 2
                              have t3 : (w6.alloc (.cells #[.string o.name, .bool o.st, .slice qa qn qc, .string o.rn, .bool o.ra] 50)).cell? ⟨wp.heap.size, 3, none⟩ = some (.string m.rn) := HBm4.out.cell 3
                              have t4 : (w6.alloc (.cells #[.string o.name, .bool o.st, .slice qa qn qc, .string o.rn, .bool o.ra] 50)).cell? ⟨wp.heap.size, 4, none⟩ = some (.bool m.ra) := HBm4.out.cell 4
                              have HSA := Lib.hid (same24 o m qa qn qc pa pn pc (w6.alloc (.cells #[.string o.name, .bool o.st, .slice qa qn qc, .string o.rn, .bool o.ra] 50)) (tys_keep (Keeps.of_below (below1 _ _)) hS6) (tys_keep (Keeps.of_below hB9) HPS.out))
                              obtain ⟨dd, HDD⟩ : ∃ d, Hid (decide (o = m) = d) := ⟨_, Lib.hid rfl⟩
                              rw [HDD.out] at HSA HOV
                              obtain ⟨stt, HST⟩ : ∃ d, Hid (m.st = d) := ⟨_, Lib.hid rfl⟩
                              rw [HST.out] at HOV HSA t1
                              clear HMO hS6 hb8 hb9 HBf3 HBm3 hB7 hmr e1 r0
                              cases mr with
                              | false =>
                                have HA2 : Hid (chkM L l f.ms = chkM L l (f.ms.drop (k + 1))) := Lib.hid (by rw [HD2.out, HOV.out]; cases stt <;> rfl)
                                clear HD2 HOV HSA
                                go_wp2
                                go_roundw
                                case rel => exact ⟨k + 1, by omega, by go_num, HA2, HBf4, hB9⟩
                                case measure => simp [intOf]; omega
                              | true =>
                                cases stt with
                                | true =>
                                  have HA2 : Hid (chkM L l f.ms = chkM L l (f.ms.drop (k + 1))) := Lib.hid (by rw [HD2.out, HOV.out]; rfl)
                                  clear HD2 HOV HSA
                                  go_wp2
                                  go_roundw
                                  case rel => exact ⟨k + 1, by omega, by go_num, HA2, HBf4, hB9⟩
                                  case measure => simp [intOf]; omega
                                | false =>
                                  go_wp2_with fail
                                  refine HSA.out.mono ?_
                                  rintro e w7 ⟨rfl, hb10⟩
                                  have hB10 : Below w.heap.size w w7 := hB9.trans (hb10.mono hB9.size)
                                  have HBf5 := Lib.hid (HBf4.out.below hb10)
                                  clear HSA hb10 HBf4 HBm4 hB9 t0 t1 t2 t3 t4
                                  cases dd with
                                  | true =>
                                    have HA2 : Hid (chkM L l f.ms = chkM L l (f.ms.drop (k + 1))) := Lib.hid (by rw [HD2.out, HOV.out]; rfl)
                                    clear HD2 HOV
                                    go_wp2
                                    go_roundw
                                    case rel => exact ⟨k + 1, by omega, by go_num, HA2, HBf5, hB10⟩
                                    case measure => simp [intOf]; omega
                                  | false =>
                                    have HE : Hid (chk L s = 27) := Lib.hid (by rw [HCM.out, HD2.out, HOV.out]; rfl)
                                    clear HD2 HOV
                                    go_wp2
                                    go_ret
                                    exact ⟨by rw [HE.out]; rfl, hB10⟩
                      · have HE : Hid (chk L s = 0) := Lib.hid (by rw [HCM.out, HA.out, List.drop_of_length_le (by have := E2.out; omega)]; rfl)
                        go_wp2
                        go_ret
                        exact ⟨by rw [HE.out]; rfl, hbr⟩
end Go.Proofs.Ytgnkkoeklipmiaa
