/-
  HierMembers walked.
-/
import Derived.Test.YtgnkkoeklipmiaaOwn
import Derived.Test.YtgnkkoeklipmiaaSame
namespace Go.Proofs.Ytgnkkoeklipmiaa
open Go.RowKit
set_option linter.unusedVariables false

theorem field_ts {W w : World} {tb fm k : Nat} {L : List Fc} (h : TS W tb fm L k w) (hL : L.length ≤ 100) (hk : k < 500000) (cl s : ByteArray) (hs : cl.size ≤ maxLen) :
    Calls Try.prog 20 #[.pointer (some ⟨tb, 0, none⟩), .string cl, .string s] w fun e w' => e = .returned (.tuple #[.string ((fldOf L (ab L cl).1 s).getD (eE, zT)).1, tyV ((fldOf L (ab L cl).1 s).getD (eE, zT)).2, .bool (fldOf L (ab L cl).1 s).isSome]) ∧ TS W tb fm L (k + 202) w' ∧ Keeps w w' := by
  obtain ⟨B, sv, c, h1, h2, h3, h4, h5⟩ := h
  refine (field20 B tb fm L hL cl s hs w sv c h3 h1 (by omega)).mono ?_
  rintro e w' ⟨sv', c', rfl, hT, hst, hc⟩
  exact ⟨rfl, TS.next h1 h2 h3 h4 h5 hT hst hc⟩
theorem method_ts {W w : World} {tb fm k : Nat} {L : List Fc} (h : TS W tb fm L k w) (hL : L.length ≤ 100) (hk : k < 500000) (cl s : ByteArray) (st : Bool) (hs : cl.size ≤ maxLen) :
    Calls Try.prog 22 #[.pointer (some ⟨tb, 0, none⟩), .string cl, .string s, .bool st] w fun e w' => ∃ a n cp, e = .returned (.tuple #[.string ((mthOf L (ab L cl).1 s st).getD (eE, zS)).1, .agg #[.string ((mthOf L (ab L cl).1 s st).getD (eE, zS)).2.name, .bool ((mthOf L (ab L cl).1 s st).getD (eE, zS)).2.st, .slice a n cp, .string ((mthOf L (ab L cl).1 s st).getD (eE, zS)).2.rn, .bool ((mthOf L (ab L cl).1 s st).getD (eE, zS)).2.ra], .bool (mthOf L (ab L cl).1 s st).isSome]) ∧ Sl w' 2 TyR ((mthOf L (ab L cl).1 s st).getD (eE, zS)).2.ps (.slice a n cp) ∧ TS W tb fm L (k + 202) w' ∧ Keeps w w' := by
  obtain ⟨B, sv, c, h1, h2, h3, h4, h5⟩ := h
  refine (method22 B tb fm L hL cl s st hs w sv c h3 h1 (by omega)).mono ?_
  rintro e w' ⟨a, n, cp, sv', c', rfl, hS, _, hT, hst, hc⟩
  exact ⟨a, n, cp, rfl, hS, TS.next h1 h2 h3 h4 h5 hT hst hc⟩

set_option maxHeartbeats 8000000 in
set_option maxRecDepth 100000 in
theorem members4 (W : World) (L : List Fc) (v0 : Option Addr) (n cp : Nat) (a b : ByteArray) (st : Bool) (h : Sl W 4 (FcR W) L (.slice v0 n cp)) (hz : a.size ≤ maxLen ∧ b.size ≤ maxLen) :
    Calls Try.prog 4 #[.slice v0 n cp, .string a, .string b, .bool st] W fun e w' => e = .returned (.bool true) ∧ Below W.heap.size W w' := by
  have HH := Lib.hid h
  obtain ⟨hma, hmb⟩ := hz
  have hn := h.at.1
  have hl := h.at.2.1
  have hc := h.at.2.2.1
  have hma' := hma
  have hmb' := hmb
  unfold maxLen at hc hma' hmb'
  have HN := Lib.hid hn
  clear h hn
  go_enter Try.func4, Try.ntmps4
  go_wp2_with fail
  refine (head9 W).mono ?_
  rintro e w1 ⟨rfl, hb1⟩
  have HF := Lib.hid (few10 L v0 n cp w1 (fcs_keep (Keeps.of_below hb1) HH.out))
  have hz1 := hb1.size
  go_wp2_with fail
  refine HF.out.mono ?_
  rintro e w2 ⟨r, rfl, hr, hb2⟩
  have hB2 : Below W.heap.size W w2 := hb1.trans (hb2.mono hz1)
  clear HF hb2 hb1
  cases r with
  | false =>
    clear hr
    go_wp2
    go_ret
    exact ⟨rfl, hB2⟩
  | true =>
    obtain ⟨hl8, hsm⟩ := hr rfl
    have HSM := Lib.hid hsm
    clear hr hsm
    by_cases hla : 60 < a.size
    · go_wp2
      go_ret
      exact ⟨rfl, hB2⟩
    by_cases hlb : 60 < b.size
    · go_wp2
      go_ret
      exact ⟨rfl, hB2⟩
    have HNW := Lib.hid (new11 w2 L v0 n cp (fcs_keep (Keeps.of_below hB2) HH.out) (by have := HN.out; omega) HSM.out)
    go_wp2_with fail
    refine HNW.out.mono ?_
    rintro e w3 ⟨tb, fm, rfl, hT, hb3⟩
    have HT3 : Hid (TS W tb fm L 0 w3) := Lib.hid (TS.start hB2 hT hb3)
    clear HNW hT hb3 hB2
    have HFI := Lib.hid (field_ts HT3.out (by omega) (by omega) a b hma)
    go_wp2_with fail
    refine HFI.out.mono ?_
    rintro e w4 ⟨rfl, hT4, _⟩
    obtain ⟨fo, hfo⟩ : ∃ o, o = fldOf L (ab L a).1 b := ⟨_, rfl⟩
    rw [← hfo]
    have HFO := Lib.hid hfo
    generalize hfp : fo.getD (eE, zT) = fp
    have HFP := Lib.hid hfp
    generalize hfr : fo.isSome = fr
    have HFR := Lib.hid hfr
    obtain ⟨fc, ft⟩ := fp
    unfold tyV
    dsimp only
    have HT4 := Lib.hid (hT4.below (below1 w4 (.cells #[.string ft.n, .bool ft.a] 44)))
    have HB4 := Lib.hid (Blk.new w4 [.string ft.n, .bool ft.a] 44)
    have HFS := Lib.hid (field21 L hl8 a b v0 n cp (w4.alloc (.cells #[.string ft.n, .bool ft.a] 44)) (fcs_keep (Keeps.of_below HT4.out.bel) HH.out))
    clear HFI HT3 hT4 hfo hfp hfr
    go_wp2_with fail
    refine HFS.out.mono ?_
    rintro e w5 ⟨rfl, hb5⟩
    rw [← HFO.out, HFP.out, HFR.out]
    unfold tyV
    dsimp only
    have hk5 := Keeps.of_below hb5
    have HT5 := Lib.hid ((HT4.out.below hb5).below (below1 w5 (.cells #[.string ft.n, .bool ft.a] 44)))
    have HB5 := Lib.hid ((HB4.out.below hb5).below (below1 w5 (.cells #[.string ft.n, .bool ft.a] 44)))
    have HC5 := Lib.hid (Blk.new w5 [.string ft.n, .bool ft.a] 44)
    have HME := Lib.hid (method_ts HT5.out (by omega) (by omega) a b st hma)
    clear HFS hb5 hk5 HT4 HB4 HFO HFP HFR
    go_wp2_with fail
    refine HME.out.mono ?_
    rintro e w6 ⟨pa, pn, pc, rfl, hS6, hT6, hk6⟩
    obtain ⟨mo, hmo⟩ : ∃ o, o = mthOf L (ab L a).1 b st := ⟨_, rfl⟩
    rw [← hmo] at hS6 ⊢
    have HMO := Lib.hid hmo
    generalize hmp : mo.getD (eE, zS) = mp at *
    have HMP := Lib.hid hmp
    generalize hmr : mo.isSome = mr at *
    have HMR := Lib.hid hmr
    obtain ⟨mc, m⟩ := mp
    dsimp only at hS6 ⊢
    have HS6 := Lib.hid (tys_keep (Keeps.of_below (below1 w6 (.cells #[.string m.name, .bool m.st, .slice pa pn pc, .string m.rn, .bool m.ra] 50))) hS6)
    have HT6 := Lib.hid (hT6.below (below1 w6 (.cells #[.string m.name, .bool m.st, .slice pa pn pc, .string m.rn, .bool m.ra] 50)))
    have hk6' := hk6.trans (Keeps.of_below (below1 w6 (.cells #[.string m.name, .bool m.st, .slice pa pn pc, .string m.rn, .bool m.ra] 50)))
    have HK6 := Lib.hid hk6'
    have HB6 := Lib.hid (Blk.new w6 [.string m.name, .bool m.st, .slice pa pn pc, .string m.rn, .bool m.ra] 50)
    have HMS := Lib.hid (method23 L hl8 a b st v0 n cp (w6.alloc (.cells #[.string m.name, .bool m.st, .slice pa pn pc, .string m.rn, .bool m.ra] 50)) (fcs_keep (Keeps.of_below HT6.out.bel) HH.out))
    clear HME hS6 hT6 hk6 hk6' hmo hmp hmr HT5
    go_wp2_with fail
    refine HMS.out.mono ?_
    rintro e w7 ⟨qa, qn, qc, rfl, hS7, hb7⟩
    rw [← HMO.out] at hS7 ⊢
    rw [HMP.out] at hS7 ⊢
    rw [HMR.out]
    dsimp only at hS7 ⊢
    have hb8 : Below (w6.alloc (.cells #[.string m.name, .bool m.st, .slice pa pn pc, .string m.rn, .bool m.ra] 50)).heap.size (w6.alloc (.cells #[.string m.name, .bool m.st, .slice pa pn pc, .string m.rn, .bool m.ra] 50)) (w7.alloc (.cells #[.string m.name, .bool m.st, .slice qa qn qc, .string m.rn, .bool m.ra] 50)) := hb7.trans ((below1 w7 _).mono hb7.size)
    have hkk := HK6.out.trans (Keeps.of_below hb8)
    have d0 : (w7.alloc (.cells #[.string m.name, .bool m.st, .slice qa qn qc, .string m.rn, .bool m.ra] 50)).cell? ⟨w4.heap.size, 0, none⟩ = some (.string ft.n) := hkk _ _ (HB5.out.cell 0) (pl_str _)
    have d1 : (w7.alloc (.cells #[.string m.name, .bool m.st, .slice qa qn qc, .string m.rn, .bool m.ra] 50)).cell? ⟨w4.heap.size, 1, none⟩ = some (.bool ft.a) := hkk _ _ (HB5.out.cell 1) (pl_bool _)
    have e0 : (w7.alloc (.cells #[.string m.name, .bool m.st, .slice qa qn qc, .string m.rn, .bool m.ra] 50)).cell? ⟨w5.heap.size, 0, none⟩ = some (.string ft.n) := hkk _ _ (HC5.out.cell 0) (pl_str _)
    have e1 : (w7.alloc (.cells #[.string m.name, .bool m.st, .slice qa qn qc, .string m.rn, .bool m.ra] 50)).cell? ⟨w5.heap.size, 1, none⟩ = some (.bool ft.a) := hkk _ _ (HC5.out.cell 1) (pl_bool _)
    have B8 := HB6.out.below hb8
    have g0 := B8.cell 0
    have g1 := B8.cell 1
    have g2 := B8.cell 2
    have g3 := B8.cell 3
    have g4 := B8.cell 4
    simp only [List.getElem?_cons_zero, List.getElem?_cons_succ] at g0 g1 g2 g3 g4
    have HSA := Lib.hid (same24 m m pa pn pc qa qn qc (w7.alloc (.cells #[.string m.name, .bool m.st, .slice qa qn qc, .string m.rn, .bool m.ra] 50)) (tys_keep (Keeps.of_below hb8) HS6.out) (tys_keep (Keeps.of_below (below1 _ _)) hS7))
    have hmm : decide (m = m) = true := by simp
    rw [hmm] at HSA
    have HBL := Lib.hid (HT6.out.below hb8).bel
    have t1 := teq (rfl : fc = fc)
    have t2 := teq (rfl : ft.n = ft.n)
    have t3 : (ft.a == ft.a) = true := by simp
    have t4 : (fr == fr) = true := by simp
    have t5 := teq (rfl : mc = mc)
    have t6 : (mr == mr) = true := by simp
    clear HMS hS7 hb7 hb8 hkk B8 hmm HB5 HC5 HK6 HB6 HT6 HS6 HMO HMP HMR
    go_wp2_with fail
    refine HSA.out.mono ?_
    rintro e w9 ⟨rfl, hb9⟩
    have HEN : Hid (Below W.heap.size W w9) := Lib.hid (HBL.out.trans (hb9.mono HBL.out.size))
    clear HSA hb9
    go_wp2
    go_ret
    exact ⟨rfl, HEN.out⟩
end Go.Proofs.Ytgnkkoeklipmiaa
