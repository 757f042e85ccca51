/-
  Names, types and fields, as they are read.
-/
import Derived.Test.YtomlbfkkhhhfkaaDoorFcRd
import Derived.Test.YtomlbfkkhhhfkaaDoorFcX
namespace Go.Proofs.YtomlbfkkhhhfkaaDoor.Fc
open Go.RowKit
set_option linter.unusedVariables false

theorem mods_on {br : Nat} {w w' : World} (h : Pk.On br w w') : Mods (· = br) w w' := ⟨h.os, h.tape, h.output, Nat.le_of_eq h.size.symm, fun k _ hk => h.block k hk⟩
theorem rat_lt {br : Nat} {w : World} {st : Pk.St} (h : Pk.RAt br w st) : br < w.heap.size := lt_of_block h
theorem rat_keep {br q : Nat} {w w' : World} {st : Pk.St} (h : Pk.RAt br w st) (hm : Mods (· = q) w w') (hq : br ≠ q) : Pk.RAt br w' st := (hm.block br (rat_lt h) hq).trans h
theorem rat_al {br : Nat} {w : World} {st : Pk.St} (h : Pk.RAt br w st) (o : Obj) : Pk.RAt br (w.alloc o) st := (Below.heap_alloc _ _ _ (rat_lt h)).trans h
theorem mods_al {fp : Nat → Prop} (w : World) (o : Obj) : Mods fp w (w.alloc o) := (Mods.refl fp w).alloc o
/-- behind a block of one's own -/
theorem mods_new {br : Nat} {w w' : World} {o : Obj} (h : Mods (· = br) (w.alloc o) w') : Mods (· = br) w w' := (mods_al w o).trans h (fun _ _ e => e) (fun _ _ e => e)
theorem mods_more {br q : Nat} {w x y : World} (h : Mods (· = br) w x) (k : Mods (· = q) x y) (hq : w.heap.size ≤ q) : Mods (· = br) w y := h.trans k (fun _ _ e => e) (fun i hi e => by omega)

set_option maxHeartbeats 400000 in
theorem name41 (br : Nat) (st : Pk.St) (w : World) (h : Pk.RAt br w st) (hs : st.s.length ≤ 140737488355328) :
    Calls Tryd.prog 81 #[.pointer (some ⟨br, 0, none⟩)] w fun e w' => e = .returned (.string (rdS 40 st).1) ∧ Pk.RAt br w' (rdS 40 st).2 ∧ Mods (· = br) w w' := by
  have H := Lib.hid (Pk.rtext_any br st 40 w h hs)
  unfold rdS
  generalize Pk.rText st 40 = r at *
  clear h
  go_enter Tryd.func81, Tryd.ntmps81
  go_wp2_with (go_at_call 44; refine H.out.mono ?_; rintro e w' ⟨rfl, hr, ho⟩)
  go_ret
  exact ⟨rfl, hr, mods_on ho⟩
theorem st2_mods {w : World} {fb : Nat} (v0 v1 : Value) : Mods (· = fb) w ((w.setCell ⟨fb, 0, none⟩ v0).setCell ⟨fb, 1, none⟩ v1) :=
  ((Mods.refl (· = fb) w).setCell (p := ⟨fb, 0, none⟩) (.inl rfl) _).setCell (p := ⟨fb, 1, none⟩) (.inl rfl) _
theorem st3_mods {w : World} {fb : Nat} (v0 v1 v2 : Value) : Mods (· = fb) w (((w.setCell ⟨fb, 0, none⟩ v0).setCell ⟨fb, 1, none⟩ v1).setCell ⟨fb, 2, none⟩ v2) :=
  (((Mods.refl (· = fb) w).setCell (p := ⟨fb, 0, none⟩) (.inl rfl) _).setCell (p := ⟨fb, 1, none⟩) (.inl rfl) _).setCell (p := ⟨fb, 2, none⟩) (.inl rfl) _
theorem rdS_len (mn : Int) (st : Pk.St) : (rdS mn st).2.s.length ≤ st.s.length := (cod_s mn).len st

set_option maxHeartbeats 1000000 in
set_option maxRecDepth 100000 in
theorem type20 (br : Nat) (st : Pk.St) (w : World) (h : Pk.RAt br w st) (hs : st.s.length ≤ 140737488355328) :
    Calls Tryd.prog 91 #[.pointer (some ⟨br, 0, none⟩)] w fun e w' => e = .returned (tyV (rdTy 40 st).1) ∧ Pk.RAt br w' (rdTy 40 st).2 ∧ Mods (· = br) w w' := by
  have hlt := rat_lt h
  have H1 := Lib.hid (name41 br st (w.alloc (.cells #[.string ⟨#[]⟩, .bool false] 60)) (rat_al h _) hs)
  have HL := Lib.hid (rdS_len 40 st)
  have hE : rdTy 40 st = (⟨(rdS 40 st).1, (Pk.rFlag (rdS 40 st).2).1⟩, (Pk.rFlag (rdS 40 st).2).2) := rfl
  rw [hE]
  clear hE
  generalize rdS 40 st = r at *
  have R0 : Hid (Blk (w.alloc (.cells #[.string ⟨#[]⟩, .bool false] 60)) w.heap.size [.string ⟨#[]⟩, .bool false] 60) := Lib.hid (Blk.new w [.string ⟨#[]⟩, .bool false] 60)
  have H2 : Hid (∀ w1, Pk.RAt br w1 r.2 → Calls Tryd.prog 99 #[.pointer (some ⟨br, 0, none⟩)] w1 fun e w' => e = .returned (.bool (Pk.rFlag r.2).1) ∧ Pk.RAt br w' (Pk.rFlag r.2).2 ∧ Pk.On br w1 w') := Lib.hid (fun w1 h1 => Pk.rflag_any br r.2 w1 h1 (by have := HL.out; omega))
  generalize Pk.rFlag r.2 = q at *
  clear h
  go_enter Tryd.func91, Tryd.ntmps91
  go_wp2_with fail
  refine H1.out.mono ?_
  rintro e w1 ⟨rfl, hr1, hm1⟩
  have R1 := R0.out.keep hm1 (by omega)
  have HM1 := Lib.hid (mods_new hm1)
  clear hm1 R0 H1
  go_wp2_with fail
  refine (H2.out w1 hr1).mono ?_
  rintro e w2 ⟨rfl, hr2, ho2⟩
  have R2 := R1.keep (mods_on ho2) (by omega)
  have HM2 := Lib.hid (HM1.out.trans (mods_on ho2) (fun _ _ e => e) (fun _ _ e => e))
  have r0 := R2.cell 0
  have r1 := R2.cell 1
  simp only [List.getElem?_cons_succ, List.getElem?_cons_zero] at r0 r1
  have s0 := R2.frozen 0
  have s1 := R2.frozen 1
  have M := st2_mods (w := w2) (fb := w.heap.size) (.string r.1) (.bool q.1)
  have Z := (R2.set 0 (.string r.1)).set 1 (.bool q.1)
  have z0 := Z.cell 0
  have z1 := Z.cell 1
  simp only [List.set_cons_zero, List.set_cons_succ, List.getElem?_cons_succ, List.getElem?_cons_zero] at z0 z1
  have HMF := Lib.hid (mods_more HM2.out M (Nat.le_refl _))
  have HRF := Lib.hid (rat_keep hr2 M (by omega))
  clear hr1 R1 ho2 hr2 R2 M Z HM1 HM2
  go_wp2
  refine bodyPost_ret (v := .agg #[.string r.1, .bool q.1]) (by simp [results, Tryd.results91, go_sem, z0, z1]) rfl ?_
  exact ⟨rfl, HRF.out, HMF.out⟩

set_option maxHeartbeats 1000000 in
set_option maxRecDepth 100000 in
theorem field43 (br : Nat) (st : Pk.St) (w : World) (h : Pk.RAt br w st) (hs : st.s.length ≤ 140737488355328) :
    Calls Tryd.prog 83 #[.pointer (some ⟨br, 0, none⟩)] w fun e w' => e = .returned (.agg #[.string (rdVr 40 st).1.name, .string (rdVr 40 st).1.tn, .bool (rdVr 40 st).1.ta]) ∧ Pk.RAt br w' (rdVr 40 st).2 ∧ Mods (· = br) w w' := by
  have hlt := rat_lt h
  have H1 := Lib.hid (name41 br st (w.alloc (.cells #[.string ⟨#[]⟩, .string ⟨#[]⟩, .bool false] 75)) (rat_al h _) hs)
  have HL := Lib.hid (rdS_len 40 st)
  have hE : rdVr 40 st = (⟨(rdS 40 st).1, (rdTy 40 (rdS 40 st).2).1.n, (rdTy 40 (rdS 40 st).2).1.a⟩, (rdTy 40 (rdS 40 st).2).2) := rfl
  rw [hE]
  clear hE
  generalize rdS 40 st = r at *
  have R0 : Hid (Blk (w.alloc (.cells #[.string ⟨#[]⟩, .string ⟨#[]⟩, .bool false] 75)) w.heap.size [.string ⟨#[]⟩, .string ⟨#[]⟩, .bool false] 75) := Lib.hid (Blk.new w [.string ⟨#[]⟩, .string ⟨#[]⟩, .bool false] 75)
  have H2 : Hid (∀ w1, Pk.RAt br w1 r.2 → Calls Tryd.prog 91 #[.pointer (some ⟨br, 0, none⟩)] w1 fun e w' => e = .returned (tyV (rdTy 40 r.2).1) ∧ Pk.RAt br w' (rdTy 40 r.2).2 ∧ Mods (· = br) w1 w') := Lib.hid (fun w1 h1 => type20 br r.2 w1 h1 (by have := HL.out; omega))
  generalize rdTy 40 r.2 = q at *
  clear h
  go_enter Tryd.func83, Tryd.ntmps83
  go_wp2_with fail
  refine H1.out.mono ?_
  rintro e w1 ⟨rfl, hr1, hm1⟩
  have hs1 := hm1.size
  simp at hs1
  have R1 := R0.out.keep hm1 (by omega)
  have HM1 := Lib.hid (mods_new hm1)
  clear hm1 R0 H1
  go_wp2_with fail
  refine (H2.out w1 hr1).mono ?_
  rintro e w2 ⟨rfl, hr2, hm2⟩
  have R2 := R1.keep hm2 (by omega)
  have HM2 := Lib.hid (HM1.out.trans hm2 (fun _ _ e => e) (fun _ _ e => e))
  have r0 := R2.cell 0
  have r1 := R2.cell 1
  have r2 := R2.cell 2
  simp only [List.getElem?_cons_succ, List.getElem?_cons_zero] at r0 r1 r2
  have s0 := R2.frozen 0
  have s1 := R2.frozen 1
  have s2 := R2.frozen 2
  have M := st3_mods (w := w2) (fb := w.heap.size) (.string r.1) (.string q.1.n) (.bool q.1.a)
  have Z := ((R2.set 0 (.string r.1)).set 1 (.string q.1.n)).set 2 (.bool q.1.a)
  have z0 := Z.cell 0
  have z1 := Z.cell 1
  have z2 := Z.cell 2
  simp only [List.set_cons_zero, List.set_cons_succ, List.getElem?_cons_succ, List.getElem?_cons_zero] at z0 z1 z2
  have HMF := Lib.hid (mods_more HM2.out M (Nat.le_refl _))
  have HRF := Lib.hid (rat_keep hr2 M (by omega))
  clear hr1 R1 hm2 hr2 R2 M Z HM1 HM2
  go_wp2
  refine bodyPost_ret (v := .agg #[.string r.1, .string q.1.n, .bool q.1.a]) (by simp [results, Tryd.results83, go_sem, z0, z1, z2]) rfl ?_
  exact ⟨rfl, HRF.out, HMF.out⟩
end Go.Proofs.YtomlbfkkhhhfkaaDoor.Fc
