/-
  HierAbove walked.
-/
import Derived.Test.YtgnkkoeklipmiaaFace
import Derived.Test.YtgnkkoeklipmiaaUps
import Derived.Test.YtgnkkoeklipmiaaSame
namespace Go.Proofs.Ytgnkkoeklipmiaa
open Go.RowKit
set_option linter.unusedVariables false

theorem find_drop {α : Type} {l : List α} {p : α → Bool} {k : Nat} {x : α} (hx : l[k]? = some x) : (l.drop k).find? p = if p x then some x else (l.drop (k + 1)).find? p := by
  have hk : k < l.length := (List.getElem?_eq_some_iff.1 hx).1
  rw [List.drop_eq_getElem_cons hk, (List.getElem?_eq_some_iff.1 hx).2, List.find?_cons]
  cases p x <;> rfl

set_option maxHeartbeats 8000000 in
set_option maxRecDepth 100000 in
theorem above3 (W : World) (L : List Fc) (v0 : Option Addr) (n cp : Nat) (a b : ByteArray) (h : Sl W 4 (FcR W) L (.slice v0 n cp)) (hz : a.size ≤ maxLen ∧ b.size ≤ maxLen) :
    Calls Try.prog 3 #[.slice v0 n cp, .string a, .string b] W fun e w' => e = .returned (.bool true) ∧ Below W.heap.size W w' := by
  have HH := Lib.hid h
  obtain ⟨hma, hmb⟩ := hz
  have hn := h.at.1
  have hl := h.at.2.1
  have hc := h.at.2.2.1
  have hma' := hma
  have hmb' := hmb
  unfold maxLen at hc hma' hmb'
  have HN := Lib.hid hn
  clear h hn
  go_enter Try.func3, Try.ntmps3
  go_wp2_with fail
  refine (head9 W).mono ?_
  rintro e w1 ⟨rfl, hb1⟩
  have HF := Lib.hid (few10 L v0 n cp w1 (fcs_keep (Keeps.of_below hb1) HH.out))
  have hz1 := hb1.size
  go_wp2_with fail
  refine HF.out.mono ?_
  rintro e w2 ⟨r, rfl, hr, hb2⟩
  have hB2 : Below W.heap.size W w2 := hb1.trans (hb2.mono hz1)
  clear HF hb2 hb1
  cases r with
  | false =>
    clear hr
    go_wp2
    go_ret
    exact ⟨rfl, hB2⟩
  | true =>
    obtain ⟨hl8, hsm⟩ := hr rfl
    have HSM := Lib.hid hsm
    clear hr hsm
    by_cases hla : 60 < a.size
    · go_wp2
      go_ret
      exact ⟨rfl, hB2⟩
    by_cases hlb : 60 < b.size
    · go_wp2
      go_ret
      exact ⟨rfl, hB2⟩
    have HNW := Lib.hid (new11 w2 L v0 n cp (fcs_keep (Keeps.of_below hB2) HH.out) (by have := HN.out; omega) HSM.out)
    go_wp2_with fail
    refine HNW.out.mono ?_
    rintro e w3 ⟨tb, fm, rfl, hT, hb3⟩
    have HT3 : Hid (TS W tb fm L 0 w3) := Lib.hid (TS.start hB2 hT hb3)
    clear HNW hT hb3 hB2
    have HU := Lib.hid (up12 L hl8 a v0 n cp w3 (fcs_keep (Keeps.of_below HT3.out.bel) HH.out))
    go_wp2_with fail
    refine HU.out.mono ?_
    rintro e w4 ⟨wa, wc, rfl, hS4, hb4⟩
    have HT4 := Lib.hid (HT3.out.below hb4)
    have HAB := Lib.hid (above_ts HT4.out (by omega) (by omega) a hma)
    have HS4 := Lib.hid hS4
    clear HU hS4 hb4 HT3
    go_wp2_with fail
    refine HAB.out.mono ?_
    rintro e w5 ⟨ga, gc, rfl, hS5, hT5, hk5⟩
    have HS5 := Lib.hid hS5
    have HS4' := Lib.hid (strs_keep hk5 HS4.out)
    have HT5 := Lib.hid hT5
    have HCM : Hid (com L a b = ((ab L a).1.find? (fun t => decide (t ∈ (ab L b).1))).getD eE) := Lib.hid rfl
    have HBE : Hid (bel L a b = decide (b ∈ (ab L a).1)) := Lib.hid rfl
    clear HAB hS5 hT5 hk5 HS4 HT4
    have hgl := HS5.out.at.2.1
    have hgc := HS5.out.at.2.2.1
    have hwl := HS4'.out.at.2.1
    have hwc := HS4'.out.at.2.2.1
    unfold maxLen at hgc hwc
    have hal := ab_len L a
    generalize (ab L a).1 = la at *
    have hlen : ((la.length : Int) == la.length) = true := by simp
    generalize (ab L a).2 = wh at *
    have hrr : (wh == wh) = true := by simp
    go_wp2
    go_loopw [62] (fun i wr => ∃ k : Nat, k ≤ la.length ∧ i = .int .i64 k ∧ Hid (TS W tb fm L 101 wr) ∧ Hid (Sl wr 1 StrR la (.slice ga la.length gc)) ∧ Hid (Sl wr 1 StrR la (.slice wa la.length wc))) (fun i _ => la.length - (intOf i).toNat)
    case atStart => exact ⟨0, Nat.zero_le _, rfl, HT5, HS5, HS4'⟩
    case round =>
      obtain ⟨k, hk1, rfl, HT, HG, HW⟩ := hrel
      clear HT5 HS5 HS4'
      by_cases hlt : k < la.length
      · obtain ⟨x, hx⟩ : ∃ x, la[k]? = some x := ⟨_, List.getElem?_eq_getElem hlt⟩
        obtain ⟨g, o, cs, rfl, hcell, rfl⟩ := HG.out.at.2.2.2 k x hx
        obtain ⟨g', o', cs, rfl, hcell', rfl⟩ := HW.out.at.2.2.2 k x hx
        have c0 : wr.cell? ⟨g, o + k, none⟩ = some (.string x) := by have := hcell 0 _ rfl; simpa using this
        have c1 : wr.cell? ⟨g', o' + k, none⟩ = some (.string x) := by have := hcell' 0 _ rfl; simpa using this
        have hxx := teq (rfl : x = x)
        clear hcell hcell' hx
        go_wp2
        go_quiet (fail)
        go_wp2
        go_roundw
        case rel => exact ⟨k + 1, by omega, by go_num, Lib.hid (HT.out.below ⟨rfl, rfl, rfl, Nat.le_refl _, fun _ _ => rfl⟩), HG, HW⟩
        case measure => simp [intOf]; omega
      · skip
        have HU := Lib.hid (up12 L hl8 b v0 n cp wr (fcs_keep (Keeps.of_below HT.out.bel) HH.out))
        obtain ⟨wq, hwq⟩ : ∃ wq, wq = wr := ⟨_, rfl⟩
        subst hwq
        go_wp2_with fail
        refine HU.out.mono ?_
        rintro e w6 ⟨oa, oc, rfl, hS6, hb6⟩
        have HT6 := Lib.hid (HT.out.below hb6)
        have HW6 := Lib.hid (strs_keep (Keeps.of_below hb6) HW.out)
        have HO6 := Lib.hid hS6
        clear HU hS6 hb6 HT HG HW
        generalize (ab L b).1 = lb at *
        go_wp2
        go_loopw [16, 15] (fun i cmn wr => ∃ k : Nat, k ≤ la.length ∧ i = .int .i64 ((k : Int) - 1) ∧ cmn = .string (((la.drop k).find? (fun t => decide (t ∈ lb))).getD eE) ∧ Hid (TS W tb fm L 101 wr) ∧ Hid (Sl wr 1 StrR la (.slice wa la.length wc)) ∧ Hid (Sl wr 1 StrR lb (.slice oa lb.length oc))) (fun i _ _ => (intOf i + 1).toNat)
        case atStart => exact ⟨la.length, Nat.le_refl _, by simp, by simp [eE], HT6, HW6, HO6⟩
        case round =>
          obtain ⟨k, hk1, rfl, rfl, HT, HW, HO⟩ := hrel
          clear HT6 HW6 HO6
          cases k with
          | succ j =>
            obtain ⟨x, hx⟩ : ∃ x, la[j]? = some x := ⟨_, List.getElem?_eq_getElem (by omega)⟩
            obtain ⟨g', o', cs, rfl, hcell', rfl⟩ := HW.out.at.2.2.2 j x hx
            have c1 : wr.cell? ⟨g', o' + j, none⟩ = some (.string x) := by have := hcell' 0 _ rfl; simpa using this
            have hj : ((j + 1 : Nat) : Int) - 1 = j := by omega
            rw [hj]
            have HD := Lib.hid (find_drop (p := fun t => decide (t ∈ lb)) hx)
            have HIN := Lib.hid (in14 lb _ x wr HO.out)
            clear hcell' hx
            generalize (la.drop (j + 1)).find? (fun t => decide (t ∈ lb)) = rest at *
            go_wp2_with fail
            refine HIN.out.mono ?_
            rintro e w7 ⟨rfl, rfl⟩
            by_cases hin : x ∈ lb
            · have hd : decide (x ∈ lb) = true := by simpa using hin
              have HD2 : Hid (((la.drop j).find? (fun t => decide (t ∈ lb))).getD eE = x) := Lib.hid (by rw [HD.out, if_pos hd]; rfl)
              clear hin HD HIN
              go_wp2
              go_roundw
              case rel => exact ⟨j, by omega, by go_num, by rw [HD2.out], HT, HW, HO⟩
              case measure => simp [intOf]
            · have hd : decide (x ∈ lb) = false := by simpa using hin
              have HD2 : Hid ((la.drop j).find? (fun t => decide (t ∈ lb)) = rest) := Lib.hid (by rw [HD.out, hd]; simp)
              clear hin HD HIN
              go_wp2
              go_roundw
              case rel => exact ⟨j, by omega, by go_num, by rw [HD2.out], HT, HW, HO⟩
              case measure => simp [intOf]
          | zero =>
            simp only [List.drop_zero]
            rw [← HCM.out]
            have HFA := Lib.hid (face_ts HT.out (by omega) a hma)
            obtain ⟨x, HX⟩ : ∃ x, Hid (com L a b = x) := ⟨_, Lib.hid rfl⟩
            rw [HX.out]
            go_wp2_with fail
            refine HFA.out.mono ?_
            rintro e w8 ⟨cs8, rfl, hF8, hT8, hk8⟩
            obtain ⟨p1, p2, p3, p4, p5, p6, rfl, _, _⟩ := id hF8
            have HF8 := Lib.hid hF8
            have HW8 := Lib.hid (strs_keep hk8 HW.out)
            have HT8 := Lib.hid hT8
            clear HFA hF8 hT8 hk8 HT HW HO
            have HFI := Lib.hid (find16 L a v0 n cp (w8.alloc (.cells #[.string ((fnd L a).getD zF).name, .string ((fnd L a).getD zF).sup, .slice p1 p2 p3, .slice p4 p5 p6] 35)) (fcs_keep (Keeps.of_below ((HT8.out.below (below1 _ _)).bel)) HH.out))
            have HBX1 := Lib.hid (Blk.new w8 [.string ((fnd L a).getD zF).name, .string ((fnd L a).getD zF).sup, .slice p1 p2 p3, .slice p4 p5 p6] 35)
            go_wp2_with fail
            refine HFI.out.mono ?_
            rintro e w9 ⟨cs9, rfl, hF9, hb9⟩
            obtain ⟨q1, q2, q3, q4, q5, q6, rfl, _, _⟩ := id hF9
            have HF9 := Lib.hid hF9
            have hk9 : Keeps w8 w9 := (Keeps.of_below (below1 _ _)).trans (Keeps.of_below hb9)
            have HF8' := Lib.hid (HF8.out.keep hk9)
            have HW9 := Lib.hid (strs_keep hk9 HW8.out)
            have HT9 := Lib.hid ((HT8.out.below (below1 _ _)).below hb9)
            have HBX2 := Lib.hid (HBX1.out.below hb9)
            clear HFI hF9 hb9 hk9 HF8 HW8 HT8 HBX1
            generalize (fnd L a).getD zF = y at *
            generalize (fnd L a).isSome = r at *
            have hrr2 : (r == r) = true := by simp
            have HT10 := Lib.hid (HT9.out.below (below1 w9 (.cells #[.string y.name, .string y.sup, .slice q1 q2 q3, .slice q4 q5 q6] 35)))
            have hk10 := Keeps.of_below (below1 w9 (.cells #[.string y.name, .string y.sup, .slice q1 q2 q3, .slice q4 q5 q6] 35))
            have HBE2 := Lib.hid (below_ts HT10.out (by omega) (by omega) a b hma)
            rw [HBE.out] at HBE2
            have HX1 := Lib.hid (HF8'.out.keep hk10)
            have HX2 := Lib.hid (HF9.out.keep hk10)
            have HW10 := Lib.hid (strs_keep hk10 HW9.out)
            have HB1 := Lib.hid (HBX2.out.below (below1 w9 (.cells #[.string y.name, .string y.sup, .slice q1 q2 q3, .slice q4 q5 q6] 35)))
            have HB2 := Lib.hid (Blk.new w9 [.string y.name, .string y.sup, .slice q1 q2 q3, .slice q4 q5 q6] 35)
            clear HT9 HF8' HF9 HW9 HBX2 hk10 HBE
            generalize hdd : decide (b ∈ la) = dd at *
            have HDD := Lib.hid hdd
            clear hdd
            have hdd2 : (dd == dd) = true := by simp
            go_wp2_with fail
            refine HBE2.out.mono ?_
            rintro e w11 ⟨rfl, hT11, hk11⟩
            have HIN := Lib.hid (in14 la _ b w11 (strs_keep hk11 HW10.out))
            rw [HDD.out] at HIN
            have HT11 := Lib.hid hT11
            have HK11 := Lib.hid hk11
            clear HBE2 hT11 hk11 HT10 HW10
            go_wp2_with fail
            refine HIN.out.mono ?_
            rintro e w12 ⟨rfl, rfl⟩
            have HCO := Lib.hid (common_ts HT11.out (by omega) (by omega) a b hma hmb)
            have HXE : Hid (com L a b = x) := HX
            rw [HXE.out] at HCO
            have hxx := teq (rfl : x = x)
            clear HIN HT11
            go_wp2_with fail
            refine HCO.out.mono ?_
            rintro e w13 ⟨rfl, hT13, hk13⟩
            have hkk := HK11.out.trans hk13
            have d0 : w13.cell? ⟨w8.heap.size, 0, none⟩ = some (.string y.name) := hkk _ _ (HB1.out.cell 0) (pl_str _)
            have d1 : w13.cell? ⟨w8.heap.size, 1, none⟩ = some (.string y.sup) := hkk _ _ (HB1.out.cell 1) (pl_str _)
            have d2 : w13.cell? ⟨w8.heap.size, 2, none⟩ = some (.slice p1 p2 p3) := hkk _ _ (HB1.out.cell 2) (pl_slice _ _ _)
            have d3 : w13.cell? ⟨w8.heap.size, 3, none⟩ = some (.slice p4 p5 p6) := hkk _ _ (HB1.out.cell 3) (pl_slice _ _ _)
            have e0 : w13.cell? ⟨w9.heap.size, 0, none⟩ = some (.string y.name) := hkk _ _ (HB2.out.cell 0) (pl_str _)
            have e1 : w13.cell? ⟨w9.heap.size, 1, none⟩ = some (.string y.sup) := hkk _ _ (HB2.out.cell 1) (pl_str _)
            have e2 : w13.cell? ⟨w9.heap.size, 2, none⟩ = some (.slice q1 q2 q3) := hkk _ _ (HB2.out.cell 2) (pl_slice _ _ _)
            have e3 : w13.cell? ⟨w9.heap.size, 3, none⟩ = some (.slice q4 q5 q6) := hkk _ _ (HB2.out.cell 3) (pl_slice _ _ _)
            have HSA := Lib.hid (same19 y y _ _ w13 (HX1.out.keep hkk) (HX2.out.keep hkk))
            have hyy : decide (y = y) = true := by simp
            rw [hyy] at HSA
            have HBL := Lib.hid hT13.bel
            clear HCO HK11 hT13 hk13 hkk hyy HX1 HX2 HB1 HB2
            go_wp2_with fail
            refine HSA.out.mono ?_
            rintro e w14 ⟨rfl, hb14⟩
            have HEN : Hid (Below W.heap.size W w14) := Lib.hid (HBL.out.trans (hb14.mono HBL.out.size))
            clear HSA hb14
            go_wp2
            go_ret
            exact ⟨rfl, HEN.out⟩
end Go.Proofs.Ytgnkkoeklipmiaa
