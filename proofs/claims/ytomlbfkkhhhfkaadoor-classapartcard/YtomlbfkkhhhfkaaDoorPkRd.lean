/-
  The Reader: what each of its calls tells, and what is left behind it.
-/
import Derived.Test.YtomlbfkkhhhfkaaDoorPkFst
import Derived.Test.YtomlbfkkhhhfkaaDoorPkMem
namespace Go.Proofs.YtomlbfkkhhhfkaaDoor.Pk
open Go.RowKit

/-- a Reader's state: the bytes that are left, and whether there was an error -/
structure St where
  s : List UInt8
  bad : Bool

/-- the Reader in block br is in this state -/
def RAt (br : Nat) (w : World) (st : St) : Prop := w.heap[br]? = some (.cells #[.string ⟨st.s.toArray⟩, .bool st.bad] 120 (0, 0))

/-- nothing but block br has turned, and nothing is new -/
structure On (br : Nat) (w w' : World) : Prop where
  os : w'.os = w.os
  tape : w'.tape = w.tape
  output : w'.output = w.output
  size : w'.heap.size = w.heap.size
  block : ∀ k, k ≠ br → w'.heap[k]? = w.heap[k]?

theorem On.refl (br : Nat) (w : World) : On br w w := ⟨rfl, rfl, rfl, rfl, fun _ _ => rfl⟩
theorem On.trans {br : Nat} {a b c : World} (h : On br a b) (k : On br b c) : On br a c :=
  ⟨k.os.trans h.os, k.tape.trans h.tape, k.output.trans h.output, k.size.trans h.size, fun i hi => (k.block i hi).trans (h.block i hi)⟩
theorem On.setCell {br : Nat} {a w : World} (h : On br a w) (i : Nat) (u : Value) : On br a (w.setCell ⟨br, i, none⟩ u) :=
  h.trans ⟨rfl, rfl, rfl, by simp [World.setCell], fun k hk => Below.heap_setCell _ _ _ _ hk⟩
theorem On.below {br B : Nat} {w w' : World} (h : On br w w') (hB : B ≤ br) : Below B w w' := ⟨h.os, h.tape, h.output, by rw [h.size]; exact Nat.le_refl _, fun k hk => h.block k (by omega)⟩
theorem On.kp {br base : Nat} {w w' : World} (h : On br w w') : Kp base br w w' := ⟨h.os, h.tape, h.output, by rw [h.size]; exact Nat.le_refl _, fun k _ hk => h.block k hk, fun k _ hk _ => h.block k hk⟩

section
variable {br : Nat} {w : World} {st : St}
theorem RAt.c0 (h : RAt br w st) : w.cell? ⟨br, 0, none⟩ = some (.string ⟨st.s.toArray⟩) := by unfold RAt at h; simp [World.cell?, h]
theorem RAt.c1 (h : RAt br w st) : w.cell? ⟨br, 1, none⟩ = some (.bool st.bad) := by unfold RAt at h; simp [World.cell?, h]
theorem RAt.f0 (h : RAt br w st) (i : Nat) : w.frozen? ⟨br, i, none⟩ = false := by unfold RAt at h; simp [World.frozen?, h]
theorem RAt.set0 (h : RAt br w st) (s : List UInt8) : RAt br (w.setCell ⟨br, 0, none⟩ (.string ⟨s.toArray⟩)) ⟨s, st.bad⟩ := by
  unfold RAt at h ⊢
  simp [World.setCell, Array.getElem?_modify, h]
theorem RAt.set1 (h : RAt br w st) (b : Bool) : RAt br (w.setCell ⟨br, 1, none⟩ (.bool b)) ⟨st.s, b⟩ := by
  unfold RAt at h ⊢
  simp [World.setCell, Array.getElem?_modify, h]
end

set_option maxHeartbeats 400000 in
theorem ok_any (br : Nat) (st : St) (w : World) (h : RAt br w st) :
    Calls Tryd.prog 75 #[.pointer (some ⟨br, 0, none⟩)] w fun e w' => e = .returned (.bool (!st.bad)) ∧ w = w' := by
  have h1 := h.c1
  clear h
  go_enter Tryd.func75, Tryd.ntmps75
  go_wp2
  go_ret
  exact ⟨rfl, rfl⟩

theorem ok_nil (w : World) : Calls Tryd.prog 75 #[.pointer none] w fun e w' => e = .returned (.bool false) ∧ w = w' := by
  go_enter Tryd.func75, Tryd.ntmps75
  go_wp2
  go_ret
  exact ⟨rfl, rfl⟩

set_option maxHeartbeats 400000 in
theorem fail_any (br : Nat) (st : St) (w : World) (h : RAt br w st) :
    Calls Tryd.prog 76 #[.pointer (some ⟨br, 0, none⟩)] w fun e w' => e = .returned (.tuple #[]) ∧ RAt br w' ⟨[], true⟩ ∧ On br w w' := by
  have h0 := h.c0
  have h1 := h.c1
  have h2 := h.f0 0
  have h3 := h.f0 1
  have H := Lib.hid h
  clear h
  go_enter Tryd.func76, Tryd.ntmps76
  go_wp2
  go_end0
  exact ⟨rfl, (H.out.set0 []).set1 true, ((On.refl _ _).setCell 0 _).setCell 1 _⟩

def rNum (st : St) (most : Int) : Nat × St :=
  if st.bad then (0, st) else
    match dec st.s with
    | none => (0, ⟨[], true⟩)
    | some (n, k) => if max most 0 < (n : Int) then (0, ⟨[], true⟩) else (n, ⟨st.s.drop k, false⟩)

end Go.Proofs.YtomlbfkkhhhfkaaDoor.Pk
