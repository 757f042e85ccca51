/-
  A body, as it is read.
-/
import Derived.Test.YtomlbfkkhhhfkaaDoorCsReads2
namespace Go.Proofs.YtomlbfkkhhhfkaaDoor.Fc
open Go.RowKit
set_option linter.unusedVariables false

set_option maxHeartbeats 2000000 in
set_option maxRecDepth 100000 in
theorem body69 (br : Nat) (st : Pk.St) (w : World) (h : Pk.RAt br w st) (hs : st.s.length ≤ 140737488355328) (hb0 : 0 < br) (hT : TabR w) :
    Calls Tryd.prog 69 #[.pointer (some ⟨br, 0, none⟩)] w fun e w' => ∃ a n c, e = .returned (.agg #[.int .i64 (rdBd st).1.lo, .int .i64 (rdBd st).1.st, .slice a n c]) ∧ Sl w' 2 InR (rdBd st).1.co (.slice a n c) ∧ Own w.heap.size w' 66 a ∧ Pk.RAt br w' (rdBd st).2 ∧ Mods (· = br) w w' := by
  have hlt := rat_lt h
  have HT := Lib.hid hT
  have H1 := Lib.hid (Pk.rnum_any br st 401 (w.alloc (.cells #[.int .i64 0, .int .i64 0, .slice none 0 0] 69)) (rat_al h _) hs)
  have L1 := Pk.rNum_len st 401
  have hE : rdBd st = (⟨((Pk.rNum st 401).1 : Nat), ((Pk.rNum (Pk.rNum st 401).2 1000).1 : Nat), (rdMany rdIn 16384 (Pk.rNum (Pk.rNum st 401).2 1000).2).1⟩, (rdMany rdIn 16384 (Pk.rNum (Pk.rNum st 401).2 1000).2).2) := rfl
  rw [hE]
  clear hE
  generalize Pk.rNum st 401 = r at *
  have L2 := Pk.rNum_len r.2 1000
  have H2 : Hid (∀ w1, Pk.RAt br w1 r.2 → Calls Tryd.prog 74 #[.pointer (some ⟨br, 0, none⟩), .int .i64 1000] w1 fun e w' => e = .returned (.int .i64 ((Pk.rNum r.2 1000).1 : Nat)) ∧ Pk.RAt br w' (Pk.rNum r.2 1000).2 ∧ Pk.On br w1 w') := Lib.hid (fun w1 h1 => Pk.rnum_any br r.2 1000 w1 h1 (by omega))
  generalize Pk.rNum r.2 1000 = q at *
  have H3 : Hid (∀ w1, Pk.RAt br w1 q.2 → TabR w1 → Calls Tryd.prog 96 #[.pointer (some ⟨br, 0, none⟩), .func (.func 97) #[] #[]] w1 fun e w' => ∃ a n c, e = .returned (.slice a n c) ∧ Sl w' 2 InR (rdMany rdIn 16384 q.2).1 (.slice a n c) ∧ Own w1.heap.size w' 66 a ∧ Pk.RAt br w' (rdMany rdIn 16384 q.2).2 ∧ Mods (· = br) w1 w') := Lib.hid (fun w1 h1 h2 => many96 br q.2 w1 h1 (by omega) hb0 h2)
  generalize rdMany rdIn 16384 q.2 = u at *
  have R0 : Hid (Blk (w.alloc (.cells #[.int .i64 0, .int .i64 0, .slice none 0 0] 69)) w.heap.size [.int .i64 0, .int .i64 0, .slice none 0 0] 69) := Lib.hid (Blk.new w [.int .i64 0, .int .i64 0, .slice none 0 0] 69)
  clear h L1 L2 hs hT
  go_enter Tryd.func69, Tryd.ntmps69
  go_wp2_with fail
  refine H1.out.mono ?_
  rintro e w1 ⟨rfl, hr1, ho1⟩
  have hm1 := mods_on ho1
  have hs1 := hm1.size
  simp at hs1
  have R1 := Lib.hid (R0.out.keep hm1 (by omega))
  have HM1 := Lib.hid (mods_new hm1)
  clear hm1 ho1 R0 H1
  go_wp2_with fail
  refine (H2.out w1 hr1).mono ?_
  rintro e w2 ⟨rfl, hr2, ho2⟩
  have hs2 := (mods_on ho2).size
  have R2 := Lib.hid (R1.out.keep (mods_on ho2) (by omega))
  have HM2 := Lib.hid (HM1.out.trans (mods_on ho2) (fun _ _ e => e) (fun _ _ e => e))
  clear ho2 R1 HM1 H2 hr1
  go_wp2_with fail
  refine (H3.out w2 hr2 (HT.out.mods HM2.out hb0)).mono ?_
  rintro e w3 ⟨a, n, c, rfl, hS3, hO3, hr3, hm3⟩
  have hs3 := hm3.size
  have R3 := R2.out.keep hm3 (by omega)
  have HM3 := Lib.hid (HM2.out.trans hm3 (fun _ _ e => e) (fun _ _ e => e))
  have r0 := R3.cell 0
  have r1 := R3.cell 1
  have r2 := R3.cell 2
  simp only [List.getElem?_cons_succ, List.getElem?_cons_zero] at r0 r1 r2
  have s0 := R3.frozen 0
  have s1 := R3.frozen 1
  have s2 := R3.frozen 2
  have M := st3_mods (w := w3) (fb := w.heap.size) (.int .i64 (r.1 : Int)) (.int .i64 (q.1 : Int)) (.slice a n c)
  have Z := ((R3.set 0 (.int .i64 (r.1 : Int))).set 1 (.int .i64 (q.1 : Int))).set 2 (.slice a n c)
  have z0 := Z.cell 0
  have z1 := Z.cell 1
  have z2 := Z.cell 2
  simp only [List.set_cons_zero, List.set_cons_succ, List.getElem?_cons_succ, List.getElem?_cons_zero] at z0 z1 z2
  have AP := own_apart hO3 (show w.heap.size < w2.heap.size by omega)
  have HSF := Lib.hid (hS3.mods M AP)
  have HOF := Lib.hid (own_mods (own_mono hO3 (show w.heap.size ≤ w2.heap.size by omega)) M AP)
  have HMF := Lib.hid (mods_more HM3.out M (Nat.le_refl _))
  have HRF := Lib.hid (rat_keep hr3 M (by omega))
  clear hr2 R2 hm3 hr3 R3 M Z HM2 HM3 hS3 hO3 AP H3 HT
  go_wp2
  refine bodyPost_ret (v := .agg #[.int .i64 (r.1 : Int), .int .i64 (q.1 : Int), .slice a n c]) (by simp [results, Tryd.results69, go_sem, z0, z1, z2]) rfl ?_
  exact ⟨a, n, c, rfl, HSF.out, HOF.out, HRF.out, HMF.out⟩
end Go.Proofs.YtomlbfkkhhhfkaaDoor.Fc
