/-
  A method, as it is read.
-/
import Derived.Test.YtomlbfkkhhhfkaaDoorFcMany
import Derived.Deep.Cut
import Derived.Deep.CutRange
namespace Go.Proofs.YtomlbfkkhhhfkaaDoor.Fc
open Go.RowKit
set_option linter.unusedVariables false

theorem st5_mods {w : World} {fb : Nat} (v0 v1 v2 v3 v4 : Value) : Mods (· = fb) w (((((w.setCell ⟨fb, 0, none⟩ v0).setCell ⟨fb, 1, none⟩ v1).setCell ⟨fb, 2, none⟩ v2).setCell ⟨fb, 3, none⟩ v3).setCell ⟨fb, 4, none⟩ v4) :=
  (((((Mods.refl (· = fb) w).setCell (p := ⟨fb, 0, none⟩) (.inl rfl) _).setCell (p := ⟨fb, 1, none⟩) (.inl rfl) _).setCell (p := ⟨fb, 2, none⟩) (.inl rfl) _).setCell (p := ⟨fb, 3, none⟩) (.inl rfl) _).setCell (p := ⟨fb, 4, none⟩) (.inl rfl) _
theorem st1_mods {w : World} {fb i : Nat} (v : Value) : Mods (· = fb) w (w.setCell ⟨fb, i, none⟩ v) := (Mods.refl (· = fb) w).setCell (p := ⟨fb, i, none⟩) (.inl rfl) _
theorem rdTy_len (st : Pk.St) : (rdTy 40 st).2.s.length ≤ st.s.length := (cod_ty 40).len st
theorem rFlag_len (st : Pk.St) : (Pk.rFlag st).2.s.length ≤ st.s.length := cod_flag.len st
abbrev zSg : List Value := [.string ⟨#[]⟩, .bool false, .slice none 0 0, .string ⟨#[]⟩, .bool false]

set_option maxHeartbeats 2000000 in
set_option maxRecDepth 100000 in
theorem sig45 (br : Nat) (st : Pk.St) (w : World) (h : Pk.RAt br w st) (hs : st.s.length ≤ 140737488355328) :
    Calls Tryd.prog 85 #[.pointer (some ⟨br, 0, none⟩)] w fun e w' => ∃ a n c, e = .returned (.agg #[.string (rdSg 40 200 st).1.name, .bool (rdSg 40 200 st).1.st, .slice a n c, .string (rdSg 40 200 st).1.rn, .bool (rdSg 40 200 st).1.ra]) ∧ Sl w' 2 TyR (rdSg 40 200 st).1.ps (.slice a n c) ∧ Own w.heap.size w' 60 a ∧ Pk.RAt br w' (rdSg 40 200 st).2 ∧ Mods (· = br) w w' := by
  have hlt := rat_lt h
  have H1 := Lib.hid (name41 br st (w.alloc (.cells zSg.toArray 63)) (rat_al h _) hs)
  have L1 := rdS_len 40 st
  have hE : rdSg 40 200 st = (⟨(rdS 40 st).1, (Pk.rFlag (rdS 40 st).2).1, (rdMany (rdTy 40) 200 (rdTy 40 (Pk.rFlag (rdS 40 st).2).2).2).1, (rdTy 40 (Pk.rFlag (rdS 40 st).2).2).1.n, (rdTy 40 (Pk.rFlag (rdS 40 st).2).2).1.a⟩, (rdMany (rdTy 40) 200 (rdTy 40 (Pk.rFlag (rdS 40 st).2).2).2).2) := rfl
  rw [hE]
  clear hE
  generalize rdS 40 st = r at *
  have L2 := rFlag_len r.2
  have H2 : Hid (∀ w1, Pk.RAt br w1 r.2 → Calls Tryd.prog 99 #[.pointer (some ⟨br, 0, none⟩)] w1 fun e w' => e = .returned (.bool (Pk.rFlag r.2).1) ∧ Pk.RAt br w' (Pk.rFlag r.2).2 ∧ Pk.On br w1 w') := Lib.hid (fun w1 h1 => Pk.rflag_any br r.2 w1 h1 (by omega))
  generalize Pk.rFlag r.2 = q at *
  have L3 := rdTy_len q.2
  have H3 : Hid (∀ w1, Pk.RAt br w1 q.2 → Calls Tryd.prog 91 #[.pointer (some ⟨br, 0, none⟩)] w1 fun e w' => e = .returned (tyV (rdTy 40 q.2).1) ∧ Pk.RAt br w' (rdTy 40 q.2).2 ∧ Mods (· = br) w1 w') := Lib.hid (fun w1 h1 => type20 br q.2 w1 h1 (by omega))
  generalize rdTy 40 q.2 = t at *
  have H4 : Hid (∀ w1, Pk.RAt br w1 t.2 → Calls Tryd.prog 100 #[.pointer (some ⟨br, 0, none⟩), .func (.func 91) #[] #[]] w1 fun e w' => ∃ a n c, e = .returned (.slice a n c) ∧ Sl w' 2 TyR (rdMany (rdTy 40) 200 t.2).1 (.slice a n c) ∧ Own w1.heap.size w' 60 a ∧ Pk.RAt br w' (rdMany (rdTy 40) 200 t.2).2 ∧ Mods (· = br) w1 w') := Lib.hid (fun w1 h1 => many71 br t.2 w1 h1 (by omega))
  generalize rdMany (rdTy 40) 200 t.2 = u at *
  have R0 : Hid (Blk (w.alloc (.cells zSg.toArray 63)) w.heap.size zSg 63) := Lib.hid (Blk.new w zSg 63)
  clear h L1 L2 L3 hs
  go_enter Tryd.func85, Tryd.ntmps85
  go_wp2_with fail
  refine H1.out.mono ?_
  rintro e w1 ⟨rfl, hr1, hm1⟩
  have hs1 := hm1.size
  simp at hs1
  have R1 := Lib.hid (R0.out.keep hm1 (by omega))
  have HM1 := Lib.hid (mods_new hm1)
  clear hm1 R0 H1
  go_wp2_with fail
  refine (H2.out w1 hr1).mono ?_
  rintro e w2 ⟨rfl, hr2, ho2⟩
  have hs2 := (mods_on ho2).size
  have R2 := Lib.hid (R1.out.keep (mods_on ho2) (by omega))
  have HM2 := Lib.hid (HM1.out.trans (mods_on ho2) (fun _ _ e => e) (fun _ _ e => e))
  clear ho2 R1 HM1 H2 hr1
  go_wp2_with fail
  refine (H3.out w2 hr2).mono ?_
  rintro e w3 ⟨rfl, hr3, hm3⟩
  have hs3 := hm3.size
  have R3 := Lib.hid (R2.out.keep hm3 (by omega))
  have HM3 := Lib.hid (HM2.out.trans hm3 (fun _ _ e => e) (fun _ _ e => e))
  clear hm3 R2 HM2 H3 hr2
  go_wp2_with fail
  refine (H4.out _ (rat_al hr3 _)).mono ?_
  rintro e w5 ⟨a, n, c, rfl, hS5, hO5, hr5, hm5⟩
  have hs5 := hm5.size
  simp at hs5
  have S5 := (Blk.new w3 [.string r.1, .bool q.1, .slice none 0 0, .string t.1.n, .bool t.1.a] 63).keep hm5 (by have := rat_lt hr3; omega)
  have R5 := (R3.out.al _).keep hm5 (by omega)
  have HM5 : Hid (Mods (· = br) w w5) := Lib.hid (HM3.out.trans (mods_new hm5) (fun _ _ e => e) (fun _ _ e => e))
  have f2 := S5.frozen 2
  have g2 := S5.cell 2
  simp only [List.getElem?_cons_succ, List.getElem?_cons_zero] at g2
  have HS5 := Lib.hid S5
  have HR5 := Lib.hid R5
  have HSL := Lib.hid hS5
  have HOW := Lib.hid hO5
  have HRA := Lib.hid hr5
  clear S5 R5 hS5 hO5 hr5 hm5 hr3 H4 R3 HM3
  go_upto_region 3 with fail
  obtain ⟨w6, HW6⟩ : ∃ w6, Hid (w6 = w5.setCell ⟨w3.heap.size, 2, none⟩ (.slice a n c)) := ⟨_, Lib.hid rfl⟩
  rw [← HW6.out]
  have M6 : Mods (· = w3.heap.size) w5 w6 := by rw [HW6.out]; exact st1_mods _
  have S6 : Blk w6 w3.heap.size [.string r.1, .bool q.1, .slice a n c, .string t.1.n, .bool t.1.a] 63 := by rw [HW6.out]; exact HS5.out.set 2 _
  have R6 := HR5.out.keep M6 (by omega)
  have O6 : Own w.heap.size w6 60 a := own_mods (own_mono HOW.out (by simp; omega)) M6 (own_apart HOW.out (by simp))
  have SL6 := HSL.out.mods M6 (own_apart HOW.out (by simp))
  have RA6 := rat_keep HRA.out M6 (by omega)
  have HM6 := Lib.hid (mods_more HM5.out M6 (by omega))
  have APR := own_apart HOW.out (show w.heap.size < (w3.alloc _).heap.size by simp; omega)
  have k0 := S6.cell 0
  have k1 := S6.cell 1
  have k2 := S6.cell 2
  have k3 := S6.cell 3
  have k4 := S6.cell 4
  have r0 := R6.cell 0
  have r1 := R6.cell 1
  have r2 := R6.cell 2
  have r3 := R6.cell 3
  have r4 := R6.cell 4
  have s0 := R6.frozen 0
  have s1 := R6.frozen 1
  have s2 := R6.frozen 2
  have s3 := R6.frozen 3
  have s4 := R6.frozen 4
  have M := st5_mods (w := w6) (fb := w.heap.size) (.string r.1) (.bool q.1) (.slice a n c) (.string t.1.n) (.bool t.1.a)
  have Z := ((((R6.set 0 (.string r.1)).set 1 (.bool q.1)).set 2 (.slice a n c)).set 3 (.string t.1.n)).set 4 (.bool t.1.a)
  have z0 := Z.cell 0
  have z1 := Z.cell 1
  have z2 := Z.cell 2
  have z3 := Z.cell 3
  have z4 := Z.cell 4
  simp only [List.set_cons_zero, List.set_cons_succ, List.getElem?_cons_succ, List.getElem?_cons_zero] at k0 k1 k2 k3 k4 r0 r1 r2 r3 r4 z0 z1 z2 z3 z4
  have HMF := Lib.hid (mods_more HM6.out M (Nat.le_refl _))
  have HRF := Lib.hid (rat_keep RA6 M (by omega))
  have HSF := Lib.hid (SL6.mods M APR)
  have HOF := Lib.hid (own_mods O6 M APR)
  clear M6 S6 R6 O6 SL6 RA6 HM6 APR M Z HS5 HR5 HSL HOW HRA HM5 HW6 f2 g2
  go_wp2
  refine bodyPost_ret (v := .agg #[.string r.1, .bool q.1, .slice a n c, .string t.1.n, .bool t.1.a]) (by simp [results, Tryd.results85, go_sem, z0, z1, z2, z3, z4]) rfl ?_
  exact ⟨a, n, c, rfl, HSF.out, HOF.out, HRF.out, HMF.out⟩
end Go.Proofs.YtomlbfkkhhhfkaaDoor.Fc
