/-
  HierAll walked.
-/
import Derived.Test.YtgnkkoeklipmiaaAllSt
namespace Go.Proofs.Ytgnkkoeklipmiaa
open Go.RowKit
set_option linter.unusedVariables false

set_option maxHeartbeats 16000000 in
set_option maxRecDepth 100000 in
theorem all8 (W : World) (L : List Fc) (v0 : Option Addr) (n cp : Nat) (h : Sl W 4 (FcR W) L (.slice v0 n cp)) :
    Calls Try.prog 8 #[.slice v0 n cp] W fun e w' => e = .returned (.bool true) ∧ Below W.heap.size W w' := by
  have hmm := @run_makeMap Try.prog
  have HH := Lib.hid h
  have hn := h.at.1
  have hl := h.at.2.1
  have hc := h.at.2.2.1
  unfold maxLen at hc
  have HN := Lib.hid hn
  have HKK := Lib.hid h.at.2.2.2
  clear h hn
  go_enter Try.func8, Try.ntmps8
  go_wp2_with fail
  refine (head9 W).mono ?_
  rintro e w1 ⟨rfl, hb1⟩
  have HF := Lib.hid (few10 L v0 n cp w1 (fcs_keep (Keeps.of_below hb1) HH.out))
  have hz1 := hb1.size
  go_wp2_with fail
  refine HF.out.mono ?_
  rintro e w2 ⟨r, rfl, hr, hb2⟩
  have hB2 : Below W.heap.size W w2 := hb1.trans (hb2.mono hz1)
  clear HF hb2 hb1
  cases r with
  | false =>
    clear hr
    go_wp2
    go_ret
    exact ⟨rfl, hB2⟩
  | true =>
    obtain ⟨hl8, hsm⟩ := hr rfl
    have HSM := Lib.hid hsm
    clear hr hsm
    have HNW := Lib.hid (new11 w2 L v0 n cp (fcs_keep (Keeps.of_below hB2) HH.out) (by have := HN.out; omega) HSM.out)
    go_wp2_with fail
    refine HNW.out.mono ?_
    rintro e w3 ⟨tb, fm, rfl, hT, hb3⟩
    have HT3 : Hid (TS W tb fm L 0 w3) := Lib.hid (TS.start hB2 hT hb3)
    clear HNW hT hb3 hB2
    go_wp2
    go_loopw [31] (fun i wr => ∃ k : Nat, k ≤ n ∧ i = .int .i64 k ∧ Hid (TS W tb fm L (10000 * k) wr) ∧ Hid (∀ x ∈ L.take k, chk L x.name = 0)) (fun i _ => n - (intOf i).toNat)
    case atStart => exact ⟨0, Nat.zero_le _, rfl, HT3, Lib.hid (fun x hx => by simp at hx)⟩
    case round =>
      obtain ⟨k, hk1, rfl, HT, HP⟩ := hrel
      clear HT3
      by_cases hlt : k < n
      · obtain ⟨x, hx⟩ : ∃ v, L[k]? = some v := ⟨_, List.getElem?_eq_getElem (by have := HN.out; omega)⟩
        obtain ⟨g, o, cs, rfl, hcell, b1, m1, d1, b2, m2, d2, rfl, _, _⟩ := HKK.out k x hx
        have hbr := HT.out.bel
        have c0 : wr.cell? ⟨g, o + k * 4, none⟩ = some (.string x.name) := (hbr.cell (World.block_lt_of_cell? _ _ (hcell 0 _ rfl))).trans (hcell 0 _ rfl)
        have hgl : g < wr.heap.size := World.block_lt_of_cell? _ _ c0
        have q1 := (hbr.cell (World.block_lt_of_cell? _ _ (hcell 1 _ rfl))).trans (hcell 1 _ rfl)
        have q2 := (hbr.cell (World.block_lt_of_cell? _ _ (hcell 2 _ rfl))).trans (hcell 2 _ rfl)
        have q3 := (hbr.cell (World.block_lt_of_cell? _ _ (hcell 3 _ rfl))).trans (hcell 3 _ rfl)
        have hxs : x.name.size ≤ maxLen := by have := (HSM.out x (List.mem_of_getElem? hx)).name; unfold maxLen; omega
        have HX := Lib.hid hx
        clear hcell hx hbr
        have HCK := Lib.hid (check_ts (HT.out.below (below1 wr (.cells #[.string x.name, .string x.sup, .slice b1 m1 d1, .slice b2 m2 d2] 35))) (by omega) (by have := HN.out; omega) x.name hxs)
        obtain ⟨ck, hck⟩ : ∃ c, c = chk L x.name := ⟨_, rfl⟩
        rw [← hck] at HCK
        have HCKE := Lib.hid hck
        clear HT hck
        go_wp2_with fail
        refine HCK.out.mono ?_
        rintro e w4 ⟨rfl, hT4, hk4⟩
        have HT4 := Lib.hid hT4
        clear hT4 hk4 HCK
        by_cases hz : ck = 0
        · have HP2 : Hid (∀ y ∈ L.take (k + 1), chk L y.name = 0) := Lib.hid (fun y hy => by
            rw [take_snoc HX.out, List.mem_append] at hy
            rcases hy with hy | hy
            · exact HP.out y hy
            · simp at hy
              subst hy
              rw [← HCKE.out, hz])
          subst hz
          go_wp2
          go_roundw
          case rel => exact ⟨k + 1, by omega, by go_num, HT4, HP2⟩
          case measure => simp [intOf]; omega
        · go_wp2
          go_ret
          exact ⟨rfl, HT4.out.bel⟩
      · have HCH : Hid (∀ x ∈ L, chk L x.name = 0) := Lib.hid (fun x hx => HP.out x (by rw [List.take_of_length_le (by have := HN.out; omega)]; exact hx))
        have hkn : n = k := by omega
        subst hkn
        have HT3 := HT
        clear HT HP
        obtain ⟨wq, hwq⟩ : ∃ wq, wq = wr := ⟨_, rfl⟩
        subst hwq
        go_wp2
        --@1
        go_loopw [43] (fun i wr => ∃ k : Nat, k ≤ n ∧ i = .int .i64 k ∧ Hid (TS W tb fm L (10000 * n + 300 * k) wr)) (fun i _ => n - (intOf i).toNat)
        case atStart => exact ⟨0, Nat.zero_le _, rfl, HT3⟩
        case round =>
          obtain ⟨k2, hk2, rfl, HT⟩ := hrel
          clear HT3
          by_cases hlt2 : k2 < n
          · obtain ⟨x, hx⟩ : ∃ v, L[k2]? = some v := ⟨_, List.getElem?_eq_getElem (by have := HN.out; omega)⟩
            obtain ⟨g, o, cs, rfl, hcell, b1, m1, d1, b2, m2, d2, rfl, _, _⟩ := HKK.out k2 x hx
            have hbr := HT.out.bel
            have c0 : wr.cell? ⟨g, o + k2 * 4, none⟩ = some (.string x.name) := (hbr.cell (World.block_lt_of_cell? _ _ (hcell 0 _ rfl))).trans (hcell 0 _ rfl)
            have hgl : g < wr.heap.size := World.block_lt_of_cell? _ _ c0
            have q1 := (hbr.cell (World.block_lt_of_cell? _ _ (hcell 1 _ rfl))).trans (hcell 1 _ rfl)
            have q2 := (hbr.cell (World.block_lt_of_cell? _ _ (hcell 2 _ rfl))).trans (hcell 2 _ rfl)
            have q3 := (hbr.cell (World.block_lt_of_cell? _ _ (hcell 3 _ rfl))).trans (hcell 3 _ rfl)
            have hxs : x.name.size ≤ maxLen := by have := (HSM.out x (List.mem_of_getElem? hx)).name; unfold maxLen; omega
            have HWH := Lib.hid (chk_zero (HCH.out x (List.mem_of_getElem? hx))).1
            have HAB := Lib.hid (above_ts (HT.out.below (below1 wr (.cells #[.string x.name, .string x.sup, .slice b1 m1 d1, .slice b2 m2 d2] 35))) (by omega) (by have := HN.out; omega) x.name hxs)
            have hal := ab_len L x.name
            clear hcell hx hbr HT
            go_wp2_with fail
            refine HAB.out.mono ?_
            rintro e w5 ⟨ga, gc, rfl, hS5, hT5, hk5⟩
            have HN5 := Lib.hid (N3.start (s := x.name) hT5 hS5)
            have hgc := hS5.at.2.2.1
            unfold maxLen at hgc
            obtain ⟨la, hla⟩ : ∃ la, la = (ab L x.name).1 := ⟨_, rfl⟩
            rw [← hla] at HN5 hal
            rw [← hla]
            have HLA := Lib.hid hla
            clear HAB hS5 hT5 hk5 hla c0 q1 q2 q3
            go_wp2
            --@2
            go_loopw [58] (fun i wr => ∃ p : Nat, p ≤ la.length ∧ i = .int .i64 p ∧ Hid (N3 W tb fm L (10000 * n + 300 * k2 + 101) la (.slice ga la.length gc) w5.heap.size (w5.heap.size + 1) p wr)) (fun i _ => la.length - (intOf i).toNat)
            case atStart => exact ⟨0, Nat.zero_le _, rfl, HN5⟩
            case round =>
              obtain ⟨p, hp, rfl, HNP⟩ := hrel
              clear HN5
              by_cases hlt3 : p < la.length
              · obtain ⟨b, hb⟩ : ∃ v, la[p]? = some v := ⟨_, List.getElem?_eq_getElem hlt3⟩
                obtain ⟨g', o', cs, rfl, hcell', rfl⟩ := HNP.out.names.at.2.2.2 p b hb
                have c1 : wr.cell? ⟨g', o' + p, none⟩ = some (.string b) := by have := hcell' 0 _ rfl; simpa using this
                have hbs := up_name HSM.out HWH.out HLA.out hb
                have HB := Lib.hid hb
                have HFC := Lib.hid (HNP.out.call hbs (by have := HN.out; omega))
                clear hcell' hb HNP
                go_wp2_with fail
                refine HFC.out.mono ?_
                rintro e w6 ⟨cs, rfl, hF, hF4, hsf⟩
                obtain ⟨x1, x2, x3, y1, y2, y3, rfl, hfs, hms⟩ := hF
                dsimp only
                obtain ⟨f, hf⟩ : ∃ f, f = fc L b := ⟨_, rfl⟩
                rw [← hf] at hfs hms hF4 hsf
                rw [← hf]
                have HFE := Lib.hid hf
                obtain ⟨is, his⟩ : ∃ is, is = (fnd L b).isSome := ⟨_, rfl⟩
                rw [← his]
                have hf12 := hsf.fs
                have hm12 := hsf.ms
                have HSF := Lib.hid hsf
                have hx2 := hfs.at.1
                have hy2 := hms.at.1
                have hx3 := hfs.at.2.1
                have hx4 := hfs.at.2.2.1
                have hy3 := hms.at.2.1
                have hy4 := hms.at.2.2.1
                unfold maxLen at hx4 hy4
                have hbx := below1 w6 (.cells #[.string f.name, .string f.sup, .slice x1 x2 x3, .slice y1 y2 y3] 35)
                have HF4 := Lib.hid (hF4.below hbx)
                have HFS := Lib.hid (vrs_keep (Keeps.of_below hbx) hfs)
                have HMS := Lib.hid (sgs_keep (Keeps.of_below hbx) hms)
                have e2 : (w6.alloc (.cells #[.string f.name, .string f.sup, .slice x1 x2 x3, .slice y1 y2 y3] 35)).cell? ⟨w6.heap.size, 2, none⟩ = some (.slice x1 x2 x3) := (Blk.new w6 [.string f.name, .string f.sup, .slice x1 x2 x3, .slice y1 y2 y3] 35).cell 2
                have e3 : (w6.alloc (.cells #[.string f.name, .string f.sup, .slice x1 x2 x3, .slice y1 y2 y3] 35)).cell? ⟨w6.heap.size, 3, none⟩ = some (.slice y1 y2 y3) := (Blk.new w6 [.string f.name, .string f.sup, .slice x1 x2 x3, .slice y1 y2 y3] 35).cell 3
                have hg6 : w6.heap.size < (w6.alloc (.cells #[.string f.name, .string f.sup, .slice x1 x2 x3, .slice y1 y2 y3] 35)).heap.size := by simp
                clear hf his hF4 hfs hms hbx HFC c1 hsf
                subst hx2
                subst hy2
                go_wp2
                --@3
                go_loopw [71] (fun i wr => ∃ j : Nat, j ≤ f.fs.length ∧ i = .int .i64 j ∧ wr.cell? ⟨w6.heap.size, 2, none⟩ = some (.slice x1 f.fs.length x3) ∧ wr.cell? ⟨w6.heap.size, 3, none⟩ = some (.slice y1 f.ms.length y3) ∧ w6.heap.size < wr.heap.size ∧ Hid (Sl wr 3 VrR f.fs (.slice x1 f.fs.length x3)) ∧ Hid (Sl wr 5 (SgR wr) f.ms (.slice y1 f.ms.length y3)) ∧ Hid (F4 W tb fm L (10000 * n + 300 * k2 + 101) la (.slice (some ⟨g', o', none⟩) la.length gc) w5.heap.size (w5.heap.size + 1) p f j wr)) (fun i _ => f.fs.length - (intOf i).toNat)
                case atStart => exact ⟨0, Nat.zero_le _, rfl, e2, e3, hg6, HFS, HMS, HF4⟩
                case round =>
                  obtain ⟨j, hj, rfl, r2, r3, hg7, HFR, HMR, HFJ⟩ := hrel
                  clear HFS HMS HF4 e2 e3 hg6
                  by_cases hlt4 : j < f.fs.length
                  · obtain ⟨u, hu⟩ : ∃ v, f.fs[j]? = some v := ⟨_, List.getElem?_eq_getElem hlt4⟩
                    obtain ⟨g2, o2, cs, rfl, hcell2, rfl⟩ := HFR.out.at.2.2.2 j u hu
                    have s0 : wr.cell? ⟨g2, o2 + j * 3, none⟩ = some (.string u.name) := hcell2 0 _ rfl
                    have s1 := hcell2 1 _ rfl
                    have s2 := hcell2 2 _ rfl
                    have hgl2 : g2 < wr.heap.size := World.block_lt_of_cell? _ _ s0
                    have hus : u.name.size ≤ maxLen := by have := (HSF.out.f1 u (List.mem_of_getElem? hu)).1; unfold maxLen; omega
                    have hb9 := below1 wr (.cells #[.string u.name, .string u.tn, .bool u.ta] 69)
                    have HF9 := Lib.hid (fun m => (HFJ.out.below hb9).below (w1 := (wr.alloc (.cells #[.string u.name, .string u.tn, .bool u.ta] 69)).drewN m) ⟨rfl, rfl, rfl, Nat.le_refl _, fun _ _ => rfl⟩)
                    have HK9 : Hid (∀ m, Keeps wr ((wr.alloc (.cells #[.string u.name, .string u.tn, .bool u.ta] 69)).drewN m)) := Lib.hid (fun m p v hv hp => Keeps.of_below hb9 p v hv hp)
                    have k0 : (wr.alloc (.cells #[.string u.name, .string u.tn, .bool u.ta] 69)).cell? ⟨wr.heap.size, 0, none⟩ = some (.string u.name) := (Blk.new wr [.string u.name, .string u.tn, .bool u.ta] 69).cell 0
                    have HU := Lib.hid hu
                    have HC2 := Lib.hid hcell2
                    clear hcell2 hu hb9
                    cases j with
                    | zero =>
                      simp only [Nat.zero_mul, Nat.add_zero] at s0 s1 s2
                      --@4
                      go_wp2
                      go_quiet (fail)
                      obtain ⟨hlk, w9, hup, hF10, hm10, hk10⟩ := (HF9.out nq).step HCH.out HWH.out HLA.out HB.out HFE.out HU.out (.inl rfl) hus (by have := HN.out; omega)
                      have HF10 := Lib.hid hF10
                      have HK10 := Lib.hid ((HK9.out nq).trans hk10)
                      have hz10 : w6.heap.size < w9.heap.size := by have := hm10.size; simp at this; omega
                      clear hF10 hk10 hm10 HF9 HFJ HU
                      go_wp2
                      go_roundw
                      case rel => exact ⟨0 + 1, by omega, by go_num, HK10.out _ _ r2 (pl_slice _ _ _), HK10.out _ _ r3 (pl_slice _ _ _), hz10, Lib.hid (vrs_keep HK10.out HFR.out), Lib.hid (sgs_keep HK10.out HMR.out), HF10⟩
                      case measure => simp [intOf]; omega
                    | succ j' =>
                      obtain ⟨z, hz⟩ : ∃ v, f.fs[j']? = some v := ⟨_, List.getElem?_eq_getElem (by omega)⟩
                      obtain ⟨g3, o3, cs, ea, hcell3, rfl⟩ := HFR.out.at.2.2.2 j' z hz
                      cases ea
                      have d0 : wr.cell? ⟨g2, o2 + j' * 3, none⟩ = some (.string z.name) := hcell3 0 _ rfl
                      have HZ := Lib.hid hz
                      clear hcell3 hz
                      cases hbl : bl z.name u.name with
                      | false =>
                        have hge : ∀ w, (binOp .geq 9 (.string z.name) (.string u.name)).run Try.prog w = .ok (.bool true) w := fun w => by rw [geqS, hbl]; rfl
                        clear hbl
                        go_wp2
                        go_quiet (fail)
                        go_wp2
                        go_ret
                        exact ⟨rfl, (HF9.out _).bel⟩
                      | true =>
                        have hge : ∀ w, (binOp .geq 9 (.string z.name) (.string u.name)).run Try.prog w = .ok (.bool false) w := fun w => by rw [geqS, hbl]; rfl
                        --@5
                        go_wp2
                        go_quiet (fail)
                        obtain ⟨hlk, w9, hup, hF10, hm10, hk10⟩ := (HF9.out nq).step HCH.out HWH.out HLA.out HB.out HFE.out HU.out (.inr ⟨z.name, by simp [HZ.out], hbl⟩) hus (by have := HN.out; omega)
                        have HF10 := Lib.hid hF10
                        have HK10 := Lib.hid ((HK9.out nq).trans hk10)
                        have hz10 : w6.heap.size < w9.heap.size := by have := hm10.size; simp at this; omega
                        clear hF10 hk10 hm10 HF9 HFJ HU
                        go_wp2
                        go_roundw
                        case rel => exact ⟨(j' + 1) + 1, by omega, by go_num, HK10.out _ _ r2 (pl_slice _ _ _), HK10.out _ _ r3 (pl_slice _ _ _), hz10, Lib.hid (vrs_keep HK10.out HFR.out), Lib.hid (sgs_keep HK10.out HMR.out), HF10⟩
                        case measure => simp [intOf]; omega
                  · have HM0 := Lib.hid (HFJ.out.next HB.out HFE.out (by omega) (by omega))
                    obtain ⟨wk, hwk⟩ : ∃ wk, wk = wr := ⟨_, rfl⟩
                    subst hwk
                    clear HFJ HFR
                    go_wp2
                    --@6
                    go_loopw [101] (fun i wr => ∃ j : Nat, j ≤ f.ms.length ∧ i = .int .i64 j ∧ wr.cell? ⟨w6.heap.size, 3, none⟩ = some (.slice y1 f.ms.length y3) ∧ w6.heap.size < wr.heap.size ∧ Hid (Sl wr 5 (SgR wr) f.ms (.slice y1 f.ms.length y3)) ∧ Hid (M5 W tb fm L (10000 * n + 300 * k2 + 101) la (.slice (some ⟨g', o', none⟩) la.length gc) w5.heap.size (w5.heap.size + 1) p f j wr)) (fun i _ => f.ms.length - (intOf i).toNat)
                    case atStart => exact ⟨0, Nat.zero_le _, rfl, r3, hg7, HMR, HM0⟩
                    case round =>
                      obtain ⟨q, hq, rfl, r4, hg8, HMQ, HMJ⟩ := hrel
                      clear HMR HM0 r2 r3 hg7
                      by_cases hlt5 : q < f.ms.length
                      · obtain ⟨m, hm⟩ : ∃ v, f.ms[q]? = some v := ⟨_, List.getElem?_eq_getElem hlt5⟩
                        obtain ⟨g4, o4, cs, rfl, hcell4, pa, pn, pc, rfl, hps⟩ := HMQ.out.at.2.2.2 q m hm
                        obtain ⟨st, hst⟩ : ∃ st, m.st = st := ⟨_, rfl⟩
                        rw [hst] at hcell4
                        have s0 : wr.cell? ⟨g4, o4 + q * 5, none⟩ = some (.string m.name) := hcell4 0 _ rfl
                        have s1 := hcell4 1 _ rfl
                        have s2 := hcell4 2 _ rfl
                        have s3 := hcell4 3 _ rfl
                        have s4 := hcell4 4 _ rfl
                        have hgl4 : g4 < wr.heap.size := World.block_lt_of_cell? _ _ s0
                        have hms9 : m.name.size ≤ maxLen := by have := (HSF.out.m1 m (List.mem_of_getElem? hm)).1; unfold maxLen; omega
                        have hb9 := below1 wr (.cells #[.string m.name, .bool st, .slice pa pn pc, .string m.rn, .bool m.ra] 50)
                        have HM9 := Lib.hid (fun mm => (HMJ.out.below hb9).below (w1 := (wr.alloc (.cells #[.string m.name, .bool st, .slice pa pn pc, .string m.rn, .bool m.ra] 50)).drewN mm) ⟨rfl, rfl, rfl, Nat.le_refl _, fun _ _ => rfl⟩)
                        have HK9 : Hid (∀ mm, Keeps wr ((wr.alloc (.cells #[.string m.name, .bool st, .slice pa pn pc, .string m.rn, .bool m.ra] 50)).drewN mm)) := Lib.hid (fun mm p v hv hp => Keeps.of_below hb9 p v hv hp)
                        have HB9 : Hid (∀ mm, Blk ((wr.alloc (.cells #[.string m.name, .bool st, .slice pa pn pc, .string m.rn, .bool m.ra] 50)).drewN mm) wr.heap.size [.string m.name, .bool st, .slice pa pn pc, .string m.rn, .bool m.ra] 50) := Lib.hid (fun mm => Blk.new wr [.string m.name, .bool st, .slice pa pn pc, .string m.rn, .bool m.ra] 50)
                        have k0 : (wr.alloc (.cells #[.string m.name, .bool st, .slice pa pn pc, .string m.rn, .bool m.ra] 50)).cell? ⟨wr.heap.size, 0, none⟩ = some (.string m.name) := (Blk.new wr [.string m.name, .bool st, .slice pa pn pc, .string m.rn, .bool m.ra] 50).cell 0
                        have HM := Lib.hid hm
                        have HST := Lib.hid hst
                        have HPS := Lib.hid hps
                        clear hcell4 hm hb9 HMJ hst hps
                        cases q with
                        | zero =>
                          simp only [Nat.zero_mul, Nat.add_zero] at s0 s1 s2 s3 s4
                          --@7
                          go_wp2
                          go_quiet (fail)
                          obtain ⟨o9, is9, a9, n9, c9, hlk, hS9, ho9⟩ := (HM9.out nq).look HCH.out HWH.out HLA.out HB.out HFE.out HM.out (.inl rfl) hms9
                          have hbY := below1 ((wr.alloc (.cells #[.string m.name, .bool st, .slice pa pn pc, .string m.rn, .bool m.ra] 50)).drewN nq) (.cells #[.string o9.name, .bool o9.st, .slice a9 n9 c9, .string o9.rn, .bool o9.ra] 50)
                          have HMY := Lib.hid ((HM9.out nq).below hbY)
                          have HKY := Lib.hid ((HK9.out nq).trans (Keeps.of_below hbY))
                          have HBY := Lib.hid ((HB9.out nq).below hbY)
                          have HS9 := Lib.hid (tys_keep (Keeps.of_below hbY) hS9)
                          have hzY : w6.heap.size < (((wr.alloc (.cells #[.string m.name, .bool st, .slice pa pn pc, .string m.rn, .bool m.ra] 50)).drewN nq).alloc (.cells #[.string o9.name, .bool o9.st, .slice a9 n9 c9, .string o9.rn, .bool o9.ra] 50)).heap.size := by simp; omega
                          have HO9 := Lib.hid ho9
                          clear hS9 ho9 hbY HM9 HK9 HB9
                          cases st with
                          | true =>
                            have HMZ := Lib.hid (HMY.out.stat HM.out (.inl rfl) HST.out)
                            clear HMY HS9 HO9 HBY
                            cases is9
                            all_goals
                              go_wp2
                              go_roundw
                              case rel => exact ⟨0 + 1, by omega, by go_num, HKY.out _ _ r4 (pl_slice _ _ _), hzY, Lib.hid (sgs_keep HKY.out HMQ.out), HMZ⟩
                              case measure => simp [intOf]; omega
                          | false =>
                            cases is9 with
                            | false =>
                              obtain ⟨wz, hup, hMZ, hmz, hkz⟩ := HMY.out.put HM.out (.inl rfl) HST.out hms9 (by have := HN.out; omega) (tys_keep HKY.out HPS.out)
                              rw [HST.out] at hup
                              have HMZ := Lib.hid hMZ
                              have HKZ := Lib.hid (HKY.out.trans hkz)
                              have hzZ : w6.heap.size < wz.heap.size := Nat.lt_of_lt_of_le hzY hmz.size
                              clear hMZ hmz hkz HMY HS9 HO9 HBY
                              go_wp2
                              go_roundw
                              case rel => exact ⟨0 + 1, by omega, by go_num, HKZ.out _ _ r4 (pl_slice _ _ _), hzZ, Lib.hid (sgs_keep HKZ.out HMQ.out), HMZ⟩
                              case measure => simp [intOf]; omega
                            | true =>
                              have hom := decide_eq_true (HO9.out rfl HST.out)
                              have HSA := Lib.hid (same24 o9 m a9 n9 c9 pa pn pc _ HS9.out (tys_keep HKY.out HPS.out))
                              rw [HST.out] at HSA
                              have HOM := Lib.hid hom
                              clear hom HO9
                              --@9
                              go_wp2_with fail
                              refine HSA.out.mono ?_
                              rintro e wc ⟨he, hbc⟩
                              rw [HOM.out] at he
                              subst he
                              have hBC := HBY.out.below hbc
                              have t0 : wc.cell? ⟨wr.heap.size, 0, none⟩ = some (.string m.name) := hBC.cell 0
                              have t1 : wc.cell? ⟨wr.heap.size, 1, none⟩ = some (.bool false) := hBC.cell 1
                              have t2 : wc.cell? ⟨wr.heap.size, 2, none⟩ = some (.slice pa pn pc) := hBC.cell 2
                              have t3 : wc.cell? ⟨wr.heap.size, 3, none⟩ = some (.string m.rn) := hBC.cell 3
                              have t4 : wc.cell? ⟨wr.heap.size, 4, none⟩ = some (.bool m.ra) := hBC.cell 4
                              have hlc := hBC.lt
                              have HKC := Lib.hid (HKY.out.trans (Keeps.of_below hbc))
                              obtain ⟨wz, hup, hMZ, hmz, hkz⟩ := (HMY.out.below hbc).put HM.out (.inl rfl) HST.out hms9 (by have := HN.out; omega) (tys_keep HKC.out HPS.out)
                              rw [HST.out] at hup
                              have HMZ := Lib.hid hMZ
                              have HKZ := Lib.hid (HKC.out.trans hkz)
                              have hzZ : w6.heap.size < wz.heap.size := Nat.lt_of_lt_of_le hzY (Nat.le_trans hbc.size hmz.size)
                              clear hMZ hmz hkz HMY HS9 HBY HSA hBC hbc HKC HKY hlk hzY
                              go_wp2
                              go_roundw
                              case rel => exact ⟨0 + 1, by omega, by go_num, HKZ.out _ _ r4 (pl_slice _ _ _), hzZ, Lib.hid (sgs_keep HKZ.out HMQ.out), HMZ⟩
                              case measure => simp [intOf]; omega
                        | succ q' =>
                          obtain ⟨z, hz⟩ : ∃ v, f.ms[q']? = some v := ⟨_, List.getElem?_eq_getElem (by omega)⟩
                          obtain ⟨g3, o3, cs, ea, hcell3, _, _, _, rfl, _⟩ := HMQ.out.at.2.2.2 q' z hz
                          cases ea
                          have d0 : wr.cell? ⟨g4, o4 + q' * 5, none⟩ = some (.string z.name) := hcell3 0 _ rfl
                          have HZ := Lib.hid hz
                          clear hcell3 hz
                          cases hbl : bl z.name m.name with
                          | false =>
                            have hge : ∀ w, (binOp .geq 9 (.string z.name) (.string m.name)).run Try.prog w = .ok (.bool true) w := fun w => by rw [geqS, hbl]; rfl
                            clear hbl
                            go_wp2
                            go_quiet (fail)
                            go_wp2
                            go_ret
                            exact ⟨rfl, (HM9.out _).bel⟩
                          | true =>
                            have hge : ∀ w, (binOp .geq 9 (.string z.name) (.string m.name)).run Try.prog w = .ok (.bool false) w := fun w => by rw [geqS, hbl]; rfl
                            have HBL := Lib.hid hbl
                            clear hbl
                            --@8
                            go_wp2
                            go_quiet (fail)
                            obtain ⟨o9, is9, a9, n9, c9, hlk, hS9, ho9⟩ := (HM9.out nq).look HCH.out HWH.out HLA.out HB.out HFE.out HM.out (.inr ⟨z.name, by simp [HZ.out], HBL.out⟩) hms9
                            have hbY := below1 ((wr.alloc (.cells #[.string m.name, .bool st, .slice pa pn pc, .string m.rn, .bool m.ra] 50)).drewN nq) (.cells #[.string o9.name, .bool o9.st, .slice a9 n9 c9, .string o9.rn, .bool o9.ra] 50)
                            have HMY := Lib.hid ((HM9.out nq).below hbY)
                            have HKY := Lib.hid ((HK9.out nq).trans (Keeps.of_below hbY))
                            have HBY := Lib.hid ((HB9.out nq).below hbY)
                            have HS9 := Lib.hid (tys_keep (Keeps.of_below hbY) hS9)
                            have hzY : w6.heap.size < (((wr.alloc (.cells #[.string m.name, .bool st, .slice pa pn pc, .string m.rn, .bool m.ra] 50)).drewN nq).alloc (.cells #[.string o9.name, .bool o9.st, .slice a9 n9 c9, .string o9.rn, .bool o9.ra] 50)).heap.size := by simp; omega
                            have HO9 := Lib.hid ho9
                            clear hS9 ho9 hbY HM9 HK9 HB9
                            cases st with
                            | true =>
                              have HMZ := Lib.hid (HMY.out.stat HM.out (.inr ⟨z.name, by simp [HZ.out], HBL.out⟩) HST.out)
                              clear HMY HS9 HO9 HBY
                              cases is9
                              all_goals
                                go_wp2
                                go_roundw
                                case rel => exact ⟨(q' + 1) + 1, by omega, by go_num, HKY.out _ _ r4 (pl_slice _ _ _), hzY, Lib.hid (sgs_keep HKY.out HMQ.out), HMZ⟩
                                case measure => simp [intOf]; omega
                            | false =>
                              cases is9 with
                              | false =>
                                obtain ⟨wz, hup, hMZ, hmz, hkz⟩ := HMY.out.put HM.out (.inr ⟨z.name, by simp [HZ.out], HBL.out⟩) HST.out hms9 (by have := HN.out; omega) (tys_keep HKY.out HPS.out)
                                rw [HST.out] at hup
                                have HMZ := Lib.hid hMZ
                                have HKZ := Lib.hid (HKY.out.trans hkz)
                                have hzZ : w6.heap.size < wz.heap.size := Nat.lt_of_lt_of_le hzY hmz.size
                                clear hMZ hmz hkz HMY HS9 HO9 HBY
                                go_wp2
                                go_roundw
                                case rel => exact ⟨(q' + 1) + 1, by omega, by go_num, HKZ.out _ _ r4 (pl_slice _ _ _), hzZ, Lib.hid (sgs_keep HKZ.out HMQ.out), HMZ⟩
                                case measure => simp [intOf]; omega
                              | true =>
                                have hom := decide_eq_true (HO9.out rfl HST.out)
                                have HSA := Lib.hid (same24 o9 m a9 n9 c9 pa pn pc _ HS9.out (tys_keep HKY.out HPS.out))
                                rw [HST.out] at HSA
                                have HOM := Lib.hid hom
                                clear hom HO9
                                --@9
                                go_wp2_with fail
                                refine HSA.out.mono ?_
                                rintro e wc ⟨he, hbc⟩
                                rw [HOM.out] at he
                                subst he
                                have hBC := HBY.out.below hbc
                                have t0 : wc.cell? ⟨wr.heap.size, 0, none⟩ = some (.string m.name) := hBC.cell 0
                                have t1 : wc.cell? ⟨wr.heap.size, 1, none⟩ = some (.bool false) := hBC.cell 1
                                have t2 : wc.cell? ⟨wr.heap.size, 2, none⟩ = some (.slice pa pn pc) := hBC.cell 2
                                have t3 : wc.cell? ⟨wr.heap.size, 3, none⟩ = some (.string m.rn) := hBC.cell 3
                                have t4 : wc.cell? ⟨wr.heap.size, 4, none⟩ = some (.bool m.ra) := hBC.cell 4
                                have hlc := hBC.lt
                                have HKC := Lib.hid (HKY.out.trans (Keeps.of_below hbc))
                                obtain ⟨wz, hup, hMZ, hmz, hkz⟩ := (HMY.out.below hbc).put HM.out (.inr ⟨z.name, by simp [HZ.out], HBL.out⟩) HST.out hms9 (by have := HN.out; omega) (tys_keep HKC.out HPS.out)
                                rw [HST.out] at hup
                                have HMZ := Lib.hid hMZ
                                have HKZ := Lib.hid (HKC.out.trans hkz)
                                have hzZ : w6.heap.size < wz.heap.size := Nat.lt_of_lt_of_le hzY (Nat.le_trans hbc.size hmz.size)
                                clear hMZ hmz hkz HMY HS9 HBY HSA hBC hbc HKC HKY hlk hzY
                                go_wp2
                                go_roundw
                                case rel => exact ⟨(q' + 1) + 1, by omega, by go_num, HKZ.out _ _ r4 (pl_slice _ _ _), hzZ, Lib.hid (sgs_keep HKZ.out HMQ.out), HMZ⟩
                                case measure => simp [intOf]; omega
                      · have HN9 := Lib.hid (HMJ.out.next HB.out HFE.out (by omega) (by omega))
                        clear HMJ HMQ
                        go_wp2
                        go_roundw
                        case rel => exact ⟨p + 1, by omega, by go_num, HN9⟩
                        case measure => simp [intOf]; omega
              · have HT9 := Lib.hid (HNP.out.end (cn' := 10000 * n + 300 * (k2 + 1)) (by have := HN.out; omega))
                clear HNP
                go_wp2
                go_roundw
                case rel => exact ⟨k2 + 1, by omega, by go_num, HT9⟩
                case measure => simp [intOf]; omega
          · have HB9 := Lib.hid HT.out.bel
            clear HT
            go_wp2
            go_ret
            exact ⟨rfl, HB9.out⟩
end Go.Proofs.Ytgnkkoeklipmiaa
