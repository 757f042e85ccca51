/-
  A class out of bytes.
-/
import Derived.Test.YtomlbfkkhhhfkaaDoorCsReads10
import Derived.Test.YtomlbfkkhhhfkaaDoorCsEnc
namespace Go.Proofs.YtomlbfkkhhhfkaaDoor.Fc
open Go.RowKit
set_option linter.unusedVariables false

theorem rint_ok (st : Pk.St) : OkI (Pk.rInt st).1 := by
  unfold Pk.rInt OkI
  split
  · simp
  · simp only
    have h1 := Pk.rNum_most st 4294967295
    have h2 := Pk.rNum_most (Pk.rNum st 4294967295).2 4294967295
    unfold Pk.zag
    have e1 : ((4294967295 : Nat) : Int) = 4294967295 := rfl
    rw [e1] at h1 h2
    split <;> omega
theorem nums_ok (k : Nat) (st : Pk.St) : ∀ z ∈ (rdN Pk.rInt k st).1, OkI z := by
  induction k with
  | zero => intro z hz; simp [rdN] at hz
  | succ k ih =>
    intro z hz
    unfold rdN at hz
    simp only [List.mem_append, List.mem_singleton] at hz
    rcases hz with hz | rfl
    · exact ih z hz
    · exact rint_ok _
theorem rdfl_ok (st : Pk.St) : ∀ z ∈ (rdFl st).1.nu, OkI z := nums_ok _ _
/-- bytes that are a right file's -/
def DecOk (s : List UInt8) : Prop := RightF (rdFl ⟨s, false⟩).1 ∧ flB (rdFl ⟨s, false⟩).1 = s
def DecV (s : List UInt8) (w : World) (e : Ending) (w' : World) : Prop :=
  ((∃ x : FsP, e = .returned (.tuple #[.agg (encFl x).toArray, .int .i64 0]) ∧ x.fl = (rdFl ⟨s, false⟩).1 ∧ DecOk s ∧ FlO w.heap.size w' x) ∨
   (e = .returned (.tuple #[.agg #[.string ⟨#[]⟩, .string ⟨#[]⟩, .slice none 0 0, .slice none 0 0, .slice none 0 0, .slice none 0 0, .slice none 0 0, .slice none 0 0, .slice none 0 0, .slice none 0 0], .int .i64 2]) ∧ ¬ DecOk s)) ∧ Below w.heap.size w w'
set_option maxHeartbeats 4000000 in
set_option maxRecDepth 100000 in
theorem decode14 (s : List UInt8) (w : World) (hs : s.length ≤ 140737488355328) (hT : TabR w) :
    Calls Tryd.prog 14 #[.string ⟨s.toArray⟩] w (DecV s w) := by
  have h0 : 0 < w.heap.size := by
    have h := hT.pool (k := 0) (by omega)
    exact World.block_lt_of_cell? _ _ h
  have HT := Lib.hid hT
  have HOK := Lib.hid (rdfl_ok ⟨s, false⟩)
  obtain ⟨w0, HW0⟩ : ∃ W, Hid (W = w.alloc (.cells #[.string ⟨#[]⟩, .string ⟨#[]⟩, .slice none 0 0, .slice none 0 0, .slice none 0 0, .slice none 0 0, .slice none 0 0, .slice none 0 0, .slice none 0 0, .slice none 0 0] 35)) := ⟨_, Lib.hid rfl⟩
  have R0 : Hid (Blk w0 w.heap.size [.string ⟨#[]⟩, .string ⟨#[]⟩, .slice none 0 0, .slice none 0 0, .slice none 0 0, .slice none 0 0, .slice none 0 0, .slice none 0 0, .slice none 0 0, .slice none 0 0] 35) := Lib.hid (by rw [HW0.out]; exact Blk.new w _ 35)
  have HB0 : Hid (Below w.heap.size w w0) := Lib.hid (by rw [HW0.out]; exact below1 w _)
  have hs0 : w0.heap.size = w.heap.size + 1 := by rw [HW0.out]; simp
  have HR := Lib.hid (Pk.read_any s w0)
  clear hT
  unfold DecV
  go_enter Tryd.func14, Tryd.ntmps14
  go_upto_region 1 with fail
  rw [← HW0.out]
  clear HW0
  go_wp2_with fail
  refine HR.out.mono ?_
  rintro e w1 ⟨rfl, hw1⟩
  have hra : Pk.RAt w0.heap.size w1 ⟨s, false⟩ := by rw [hw1]; exact Pk.RAt.new w0 s
  have hs1 : w1.heap.size = w0.heap.size + 1 := by rw [hw1]; simp
  have R1 : Hid (Blk w1 w.heap.size [.string ⟨#[]⟩, .string ⟨#[]⟩, .slice none 0 0, .slice none 0 0, .slice none 0 0, .slice none 0 0, .slice none 0 0, .slice none 0 0, .slice none 0 0, .slice none 0 0] 35) := Lib.hid (by rw [hw1]; exact R0.out.below (below1 w0 _))
  have HB1 : Hid (Below w.heap.size w w1) := Lib.hid (by rw [hw1]; exact HB0.out.alloc HB0.out.size _)
  have HRF := Lib.hid (readfile36 w0.heap.size ⟨s, false⟩ w1 hra hs (by omega) (HT.out.below HB1.out))
  generalize w0.heap.size = br at *
  have hbr : w.heap.size < br := by omega
  have hbr1 : br < w1.heap.size := by omega
  clear hw1 hra R0 HB0 HR hs0 hs1
  go_wp2_with fail
  refine HRF.out.mono ?_
  rintro e w2 ⟨⟨fl, ⟨a1, n1, c1⟩, ⟨a2, n2, c2⟩, ⟨a3, n3, c3⟩, ⟨a4, n4, c4⟩, ⟨a5, n5, c5⟩, ⟨a6, n6, c6⟩, ⟨a7, n7, c7⟩, ⟨a8, n8, c8⟩⟩, he, hx, hfo, hm2⟩
  have he' : e = .returned (.agg #[.string fl.fc.name, .string fl.fc.sup, .slice a1 n1 c1, .slice a2 n2 c2, .slice a3 n3 c3, .slice a4 n4 c4, .slice a5 n5 c5, .slice a6 n6 c6, .slice a7 n7 c7, .slice a8 n8 c8]) := he
  subst he'
  clear he
  have HX : Hid (fl = (rdFl ⟨s, false⟩).1) := Lib.hid hx
  clear hx
  have hs2 := hm2.size
  have R2 : Hid (Blk w2 w.heap.size [.string ⟨#[]⟩, .string ⟨#[]⟩, .slice none 0 0, .slice none 0 0, .slice none 0 0, .slice none 0 0, .slice none 0 0, .slice none 0 0, .slice none 0 0, .slice none 0 0] 35) := Lib.hid (R1.out.keep hm2 (by omega))
  have HB2 : Hid (Below w.heap.size w w2) := Lib.hid (HB1.out.trans (hm2.below (fun j e => by omega) (by omega)))
  have HF2 : Hid (FlO w.heap.size w2 ⟨fl, (a1, n1, c1), (a2, n2, c2), (a3, n3, c3), (a4, n4, c4), (a5, n5, c5), (a6, n6, c6), (a7, n7, c7), (a8, n8, c8)⟩) := Lib.hid (hfo.mono (by omega))
  clear hfo hm2 R1 HB1 HRF
  obtain ⟨w3, HW3⟩ : ∃ W, Hid (W = w2.alloc (.cells #[.string fl.fc.name, .string fl.fc.sup, .slice a1 n1 c1, .slice a2 n2 c2, .slice a3 n3 c3, .slice a4 n4 c4, .slice a5 n5 c5, .slice a6 n6 c6, .slice a7 n7 c7, .slice a8 n8 c8] 35)) := ⟨_, Lib.hid rfl⟩
  have R3 : Hid (Blk w3 w.heap.size [.string ⟨#[]⟩, .string ⟨#[]⟩, .slice none 0 0, .slice none 0 0, .slice none 0 0, .slice none 0 0, .slice none 0 0, .slice none 0 0, .slice none 0 0, .slice none 0 0] 35) := Lib.hid (by rw [HW3.out]; exact R2.out.below (below1 w2 _))
  have HB3 : Hid (Below w.heap.size w w3) := Lib.hid (by rw [HW3.out]; exact HB2.out.alloc HB2.out.size _)
  have HF3 : Hid (FlO w.heap.size w3 ⟨fl, (a1, n1, c1), (a2, n2, c2), (a3, n3, c3), (a4, n4, c4), (a5, n5, c5), (a6, n6, c6), (a7, n7, c7), (a8, n8, c8)⟩) := Lib.hid (by rw [HW3.out]; exact HF2.out.keep (Kf.below (below1 w2 _)))
  have F3 : Hid (Blk w3 w2.heap.size [.string fl.fc.name, .string fl.fc.sup, .slice a1 n1 c1, .slice a2 n2 c2, .slice a3 n3 c3, .slice a4 n4 c4, .slice a5 n5 c5, .slice a6 n6 c6, .slice a7 n7 c7, .slice a8 n8 c8] 35) := Lib.hid (by rw [HW3.out]; exact Blk.new w2 [.string fl.fc.name, .string fl.fc.sup, .slice a1 n1 c1, .slice a2 n2 c2, .slice a3 n3 c3, .slice a4 n4 c4, .slice a5 n5 c5, .slice a6 n6 c6, .slice a7 n7 c7, .slice a8 n8 c8] 35)
  have hs3 : w3.heap.size = w2.heap.size + 1 := by rw [HW3.out]; simp
  obtain ⟨FB, HFB⟩ : ∃ b, Hid (b = w2.heap.size) := ⟨_, Lib.hid rfl⟩
  rw [← HFB.out] at F3 hs3 hs2
  have hFB : br < FB := by omega
  have hFB1 : FB < w3.heap.size := by omega
  clear hs2 hs3
  have HE := Lib.hid (encode13 fl [.string fl.fc.name, .string fl.fc.sup, .slice a1 n1 c1, .slice a2 n2 c2, .slice a3 n3 c3, .slice a4 n4 c4, .slice a5 n5 c5, .slice a6 n6 c6, .slice a7 n7 c7, .slice a8 n8 c8] w3 HF3.out.flr (HT.out.below HB3.out) (by rw [HX.out]; exact HOK.out))
  have F := F3.out
  have p0 := F.cell 0
  have p1 := F.cell 1
  have p2 := F.cell 2
  have p3 := F.cell 3
  have p4 := F.cell 4
  have p5 := F.cell 5
  have p6 := F.cell 6
  have p7 := F.cell 7
  have p8 := F.cell 8
  have p9 := F.cell 9
  simp only [List.getElem?_cons_succ, List.getElem?_cons_zero] at p0 p1 p2 p3 p4 p5 p6 p7 p8 p9
  clear F
  go_upto_region 2 with fail
  rw [← HW3.out, ← HFB.out]
  clear HFB HW3 R2 HB2 HF2
  go_wp2_with fail
  refine HE.out.mono ?_
  rintro e w4 ⟨hv, hb4⟩
  have RD : Hid (Blk w4 w.heap.size [.string ⟨#[]⟩, .string ⟨#[]⟩, .slice none 0 0, .slice none 0 0, .slice none 0 0, .slice none 0 0, .slice none 0 0, .slice none 0 0, .slice none 0 0, .slice none 0 0] 35) := Lib.hid (R3.out.below hb4)
  have HB4 : Hid (Below w.heap.size w w4) := Lib.hid (HB3.out.trans (hb4.mono HB3.out.size))
  have HF4 : Hid (FlO w.heap.size w4 ⟨fl, (a1, n1, c1), (a2, n2, c2), (a3, n3, c3), (a4, n4, c4), (a5, n5, c5), (a6, n6, c6), (a7, n7, c7), (a8, n8, c8)⟩) := Lib.hid (HF3.out.keep (Kf.below hb4))
  have F4 : Hid (Blk w4 FB [.string fl.fc.name, .string fl.fc.sup, .slice a1 n1 c1, .slice a2 n2 c2, .slice a3 n3 c3, .slice a4 n4 c4, .slice a5 n5 c5, .slice a6 n6 c6, .slice a7 n7 c7, .slice a8 n8 c8] 35) := Lib.hid (F3.out.below hb4)
  clear R3 HB3 HF3 F3 HE hb4 p0 p1 p2 p3 p4 p5 p6 p7 p8 p9
  rcases hv with ⟨hr, rfl⟩ | ⟨hr, rfl⟩
  · by_cases hq : flB fl = s
    · have HQ : Hid (DecOk s) := Lib.hid ⟨by rw [← HX.out]; exact hr, by rw [← HX.out]; exact hq⟩
      rw [hq]
      have F := F4.out
      have p0 := F.cell 0
      have p1 := F.cell 1
      have p2 := F.cell 2
      have p3 := F.cell 3
      have p4 := F.cell 4
      have p5 := F.cell 5
      have p6 := F.cell 6
      have p7 := F.cell 7
      have p8 := F.cell 8
      have p9 := F.cell 9
      simp only [List.getElem?_cons_succ, List.getElem?_cons_zero] at p0 p1 p2 p3 p4 p5 p6 p7 p8 p9
      have RR := RD.out
      clear F RD
      have M := st10_mods (w := w4) (fb := w.heap.size) (.string fl.fc.name) (.string fl.fc.sup) (.slice a1 n1 c1) (.slice a2 n2 c2) (.slice a3 n3 c3) (.slice a4 n4 c4) (.slice a5 n5 c5) (.slice a6 n6 c6) (.slice a7 n7 c7) (.slice a8 n8 c8)
      have s0 := RR.frozen 0
      have t0 := RR.cell 0
      have s1 := RR.frozen 1
      have t1 := RR.cell 1
      have s2 := RR.frozen 2
      have t2 := RR.cell 2
      have s3 := RR.frozen 3
      have t3 := RR.cell 3
      have s4 := RR.frozen 4
      have t4 := RR.cell 4
      have s5 := RR.frozen 5
      have t5 := RR.cell 5
      have s6 := RR.frozen 6
      have t6 := RR.cell 6
      have s7 := RR.frozen 7
      have t7 := RR.cell 7
      have s8 := RR.frozen 8
      have t8 := RR.cell 8
      have s9 := RR.frozen 9
      have t9 := RR.cell 9
      simp only [List.getElem?_cons_succ, List.getElem?_cons_zero] at t0 t1 t2 t3 t4 t5 t6 t7 t8 t9
      have ZZ := ((((((((((RR.set 0 (.string fl.fc.name)).set 1 (.string fl.fc.sup)).set 2 (.slice a1 n1 c1)).set 3 (.slice a2 n2 c2)).set 4 (.slice a3 n3 c3)).set 5 (.slice a4 n4 c4)).set 6 (.slice a5 n5 c5)).set 7 (.slice a6 n6 c6)).set 8 (.slice a7 n7 c7)).set 9 (.slice a8 n8 c8))
      have z0 := ZZ.cell 0
      have z1 := ZZ.cell 1
      have z2 := ZZ.cell 2
      have z3 := ZZ.cell 3
      have z4 := ZZ.cell 4
      have z5 := ZZ.cell 5
      have z6 := ZZ.cell 6
      have z7 := ZZ.cell 7
      have z8 := ZZ.cell 8
      have z9 := ZZ.cell 9
      simp only [List.set_cons_zero, List.set_cons_succ, List.getElem?_cons_succ, List.getElem?_cons_zero] at z0 z1 z2 z3 z4 z5 z6 z7 z8 z9
      have HBF := Lib.hid (HB4.out.trans (M.below (fun j e => by omega) HB4.out.size))
      have HFF := Lib.hid (HF4.out.keep (Kf.mods M (fun cur e _ a3 => blk_no RR (fun h => a3 h.symm) cur)))
      clear M ZZ RR hq hr
      go_wp2_with fail
      refine bodyPost_ret (v := .tuple #[.agg #[.string fl.fc.name, .string fl.fc.sup, .slice a1 n1 c1, .slice a2 n2 c2, .slice a3 n3 c3, .slice a4 n4 c4, .slice a5 n5 c5, .slice a6 n6 c6, .slice a7 n7 c7, .slice a8 n8 c8], .int .i64 0]) (by simp [results, Tryd.results14, go_sem, z0, z1, z2, z3, z4, z5, z6, z7, z8, z9]) rfl ?_
      exact ⟨.inl ⟨⟨fl, (a1, n1, c1), (a2, n2, c2), (a3, n3, c3), (a4, n4, c4), (a5, n5, c5), (a6, n6, c6), (a7, n7, c7), (a8, n8, c8)⟩, rfl, HX.out, HQ.out, HFF.out⟩, HBF.out⟩
    · have HQ : Hid (¬ DecOk s) := Lib.hid (fun h => hq (by rw [HX.out]; exact h.2))
      have d1 : (flB fl == s) = false := beq_eq_false_iff_ne.2 hq
      clear hq hr
      have RR := RD.out
      clear RD
      have M := st10_mods (w := w4) (fb := w.heap.size) (.string ⟨#[]⟩) (.string ⟨#[]⟩) (.slice none 0 0) (.slice none 0 0) (.slice none 0 0) (.slice none 0 0) (.slice none 0 0) (.slice none 0 0) (.slice none 0 0) (.slice none 0 0)
      have s0 := RR.frozen 0
      have t0 := RR.cell 0
      have s1 := RR.frozen 1
      have t1 := RR.cell 1
      have s2 := RR.frozen 2
      have t2 := RR.cell 2
      have s3 := RR.frozen 3
      have t3 := RR.cell 3
      have s4 := RR.frozen 4
      have t4 := RR.cell 4
      have s5 := RR.frozen 5
      have t5 := RR.cell 5
      have s6 := RR.frozen 6
      have t6 := RR.cell 6
      have s7 := RR.frozen 7
      have t7 := RR.cell 7
      have s8 := RR.frozen 8
      have t8 := RR.cell 8
      have s9 := RR.frozen 9
      have t9 := RR.cell 9
      simp only [List.getElem?_cons_succ, List.getElem?_cons_zero] at t0 t1 t2 t3 t4 t5 t6 t7 t8 t9
      have ZZ := ((((((((((RR.set 0 (.string ⟨#[]⟩)).set 1 (.string ⟨#[]⟩)).set 2 (.slice none 0 0)).set 3 (.slice none 0 0)).set 4 (.slice none 0 0)).set 5 (.slice none 0 0)).set 6 (.slice none 0 0)).set 7 (.slice none 0 0)).set 8 (.slice none 0 0)).set 9 (.slice none 0 0))
      have z0 := ZZ.cell 0
      have z1 := ZZ.cell 1
      have z2 := ZZ.cell 2
      have z3 := ZZ.cell 3
      have z4 := ZZ.cell 4
      have z5 := ZZ.cell 5
      have z6 := ZZ.cell 6
      have z7 := ZZ.cell 7
      have z8 := ZZ.cell 8
      have z9 := ZZ.cell 9
      simp only [List.set_cons_zero, List.set_cons_succ, List.getElem?_cons_succ, List.getElem?_cons_zero] at z0 z1 z2 z3 z4 z5 z6 z7 z8 z9
      have HBF := Lib.hid (HB4.out.trans (M.below (fun j e => by omega) HB4.out.size))
      clear M ZZ RR
      go_wp2
      refine bodyPost_ret (v := .tuple #[.agg #[.string ⟨#[]⟩, .string ⟨#[]⟩, .slice none 0 0, .slice none 0 0, .slice none 0 0, .slice none 0 0, .slice none 0 0, .slice none 0 0, .slice none 0 0, .slice none 0 0], .int .i64 2]) (by simp [results, Tryd.results14, go_sem, z0, z1, z2, z3, z4, z5, z6, z7, z8, z9]) rfl ?_
      exact ⟨.inr ⟨rfl, HQ.out⟩, HBF.out⟩
  · have HQ : Hid (¬ DecOk s) := Lib.hid (fun h => hr (by rw [HX.out]; exact h.1))
    have RR := RD.out
    clear RD
    have M := st10_mods (w := w4) (fb := w.heap.size) (.string ⟨#[]⟩) (.string ⟨#[]⟩) (.slice none 0 0) (.slice none 0 0) (.slice none 0 0) (.slice none 0 0) (.slice none 0 0) (.slice none 0 0) (.slice none 0 0) (.slice none 0 0)
    have s0 := RR.frozen 0
    have t0 := RR.cell 0
    have s1 := RR.frozen 1
    have t1 := RR.cell 1
    have s2 := RR.frozen 2
    have t2 := RR.cell 2
    have s3 := RR.frozen 3
    have t3 := RR.cell 3
    have s4 := RR.frozen 4
    have t4 := RR.cell 4
    have s5 := RR.frozen 5
    have t5 := RR.cell 5
    have s6 := RR.frozen 6
    have t6 := RR.cell 6
    have s7 := RR.frozen 7
    have t7 := RR.cell 7
    have s8 := RR.frozen 8
    have t8 := RR.cell 8
    have s9 := RR.frozen 9
    have t9 := RR.cell 9
    simp only [List.getElem?_cons_succ, List.getElem?_cons_zero] at t0 t1 t2 t3 t4 t5 t6 t7 t8 t9
    have ZZ := ((((((((((RR.set 0 (.string ⟨#[]⟩)).set 1 (.string ⟨#[]⟩)).set 2 (.slice none 0 0)).set 3 (.slice none 0 0)).set 4 (.slice none 0 0)).set 5 (.slice none 0 0)).set 6 (.slice none 0 0)).set 7 (.slice none 0 0)).set 8 (.slice none 0 0)).set 9 (.slice none 0 0))
    have z0 := ZZ.cell 0
    have z1 := ZZ.cell 1
    have z2 := ZZ.cell 2
    have z3 := ZZ.cell 3
    have z4 := ZZ.cell 4
    have z5 := ZZ.cell 5
    have z6 := ZZ.cell 6
    have z7 := ZZ.cell 7
    have z8 := ZZ.cell 8
    have z9 := ZZ.cell 9
    simp only [List.set_cons_zero, List.set_cons_succ, List.getElem?_cons_succ, List.getElem?_cons_zero] at z0 z1 z2 z3 z4 z5 z6 z7 z8 z9
    have HBF := Lib.hid (HB4.out.trans (M.below (fun j e => by omega) HB4.out.size))
    clear M ZZ RR
    go_wp2
    refine bodyPost_ret (v := .tuple #[.agg #[.string ⟨#[]⟩, .string ⟨#[]⟩, .slice none 0 0, .slice none 0 0, .slice none 0 0, .slice none 0 0, .slice none 0 0, .slice none 0 0, .slice none 0 0, .slice none 0 0], .int .i64 2]) (by simp [results, Tryd.results14, go_sem, z0, z1, z2, z3, z4, z5, z6, z7, z8, z9]) rfl ?_
    exact ⟨.inr ⟨rfl, HQ.out⟩, HBF.out⟩
end Go.Proofs.YtomlbfkkhhhfkaaDoor.Fc
