/-
  What a right face is.
-/
import Derived.Test.YthimpjfmelmhpaaDoorFcX
import Derived.Test.YthimpjfmelmhpaaDoorFcTyp
import Derived.Test.YthimpjfmelmhpaaDoorFcFew
namespace Go.Proofs.YthimpjfmelmhpaaDoor.Fc
open Go.RowKit
set_option linter.unusedVariables false

theorem empty_no {n : ByteArray} (h0 : 0 < n.size) : n.toList.isEmpty = false := by
  cases h : n.toList.isEmpty
  · rfl
  · rw [ByteArray.toList_eq, List.isEmpty_iff, ← List.length_eq_zero_iff] at h; exact absurd h (by show ¬ n.size = 0; omega)
theorem empty_yes {n : ByteArray} (h0 : ¬ 0 < n.size) : n.toList.isEmpty = true := by
  rw [ByteArray.toList_eq, List.isEmpty_iff, ← List.length_eq_zero_iff]; show n.size = 0; omega
theorem great_no0 {n : ByteArray} (h0 : ¬ 0 < n.size) : greatB n = false := by unfold greatB; rw [dif_neg h0]
theorem great_yes {n : ByteArray} (h0 : 0 < n.size) (h1 : (65 : Int) ≤ n[0].toNat) (h2 : (n[0].toNat : Int) ≤ 90) : greatB n = true := by unfold greatB; rw [dif_pos h0]; simp [h1, h2]
theorem great_no1 {n : ByteArray} (h0 : 0 < n.size) (h1 : ¬ (65 : Int) ≤ n[0].toNat) : greatB n = false := by unfold greatB; rw [dif_pos h0, decide_eq_false h1]; rfl
theorem great_no2 {n : ByteArray} (h0 : 0 < n.size) (h2 : ¬ (n[0].toNat : Int) ≤ 90) : greatB n = false := by unfold greatB; rw [dif_pos h0, decide_eq_false h2]; simp
set_option maxHeartbeats 1000000 in
set_option maxRecDepth 100000 in
/-- which of two names comes first -/
def ltS (a b : ByteArray) : Bool := Op.bytesLess a.toList b.toList
def cmpS (a b : ByteArray) : Int := if ltS a b then -1 else if a = b then 0 else 1
theorem gtr9 (a b : ByteArray) (w : World) : (binOp .gtr 9 (.string a) (.string b)).run Tryd.prog w = .ok (.bool (!(Op.bytesLess a.toList b.toList || a.toList == b.toList))) w := by simp [binOp, Op.stringOp]
theorem geq9 (a b : ByteArray) (w : World) : (binOp .geq 9 (.string a) (.string b)).run Tryd.prog w = .ok (.bool (!(Op.bytesLess a.toList b.toList))) w := by simp [binOp, Op.stringOp]
def classB (s : ByteArray) : Bool := greatB s && decide ((s.size : Int) ≤ 40)
def lastN {α : Type} (nm : α → ByteArray) (xs : List α) : Nat → ByteArray
  | 0 => ⟨#[]⟩
  | k + 1 => (xs[k]?.map nm).getD ⟨#[]⟩
def okV (last : ByteArray) (x : Vr) : Prop := ltS last x.name = true ∧ x.name.size ≤ 40 ∧ goodB x.tn = true
def okG (last : ByteArray) (m : Sg) : Prop := ltS last m.name = true ∧ m.name.size ≤ 40 ∧ goodB m.rn = true ∧ m.ps.length ≤ 200 ∧ ∀ p ∈ m.ps, goodB p.n = true
def RF (fs : List Vr) : Prop := ∀ k x, fs[k]? = some x → okV (lastN Vr.name fs k) x
def RG (ms : List Sg) : Prop := ∀ k x, ms[k]? = some x → okG (lastN Sg.name ms k) x
structure RightP (f : Fc) : Prop where
  name : classB f.name = true
  sup : f.sup.size = 0 ∨ classB f.sup = true
  nf : f.fs.length ≤ 200
  nm : f.ms.length ≤ 200
  fs : RF f.fs
  ms : RG f.ms
theorem ltS_nil {s : ByteArray} (h : 0 < s.size) : ltS ⟨#[]⟩ s = true := by
  unfold ltS
  have : s.toList ≠ [] := fun e => by
    have := congrArg List.length e
    rw [ByteArray.toList_eq] at this
    exact absurd this (by show ¬ s.size = 0; omega)
  cases h2 : s.toList with
  | nil => exact absurd h2 this
  | cons a l =>
    rw [show (⟨#[]⟩ : ByteArray).toList = [] from by rw [ByteArray.toList_eq]]
    rfl
theorem ltS_pos {a s : ByteArray} (h : ltS a s = true) : 0 < s.size := by
  rcases Nat.eq_zero_or_pos s.size with h0 | h0
  · have e : s.toList = [] := by rw [ByteArray.toList_eq, ← List.length_eq_zero_iff]; exact h0
    unfold ltS at h
    rw [e] at h
    cases ha : a.toList <;> rw [ha] at h <;> cases h
  · exact h0
theorem toL_nil (s : ByteArray) (h : ¬ 0 < s.size) : s.toList = [] := by rw [ByteArray.toList_eq, ← List.length_eq_zero_iff]; show s.size = 0; omega

theorem bl_al' {w y : World} {o : Obj} (h : Below w.heap.size w y) : Below w.heap.size w (y.alloc o) := h.alloc h.size _
def okG4 (last : ByteArray) (m : Sg) : Prop := ltS last m.name = true ∧ m.name.size ≤ 40 ∧ goodB m.rn = true ∧ m.ps.length ≤ 200
/-- the face and one member, each in its own block -/
structure RtB (w : World) (F X : Nat) (fs xs : List Value) (t : TypeId) (y : World) : Prop where
  f : Blk y F fs 35
  m : Blk y X xs t
  b : Below w.heap.size w y
theorem RtB.step {w y z : World} {F X : Nat} {fs xs : List Value} {t : TypeId} (h : RtB w F X fs xs t y) (hb : Below y.heap.size y z) : RtB w F X fs xs t z := ⟨h.f.below hb, h.m.below hb, h.b.trans (hb.mono h.b.size)⟩
theorem RtB.dr {w y : World} {F X : Nat} {fs xs : List Value} {t : TypeId} (h : RtB w F X fs xs t y) : RtB w F X fs xs t y.drew := h.step (bl_dr (Below.refl _ _))
theorem rt_cells {w y : World} {F X : Nat} {u0 u1 u2 u3 v0 v1 v2 : Value} (h : RtB w F X [u0, u1, u2, u3] [v0, v1, v2] 68 y) : y.cell? ⟨X, 0, none⟩ = some v0 ∧ y.cell? ⟨X, 1, none⟩ = some v1 ∧ y.cell? ⟨X, 2, none⟩ = some v2 ∧ y.cell? ⟨F, 2, none⟩ = some u2 := ⟨h.m.cell 0, h.m.cell 1, h.m.cell 2, h.f.cell 2⟩
theorem rt_cellsG {w y : World} {F X : Nat} {u0 u1 u2 u3 v0 v1 v2 v3 v4 : Value} (h : RtB w F X [u0, u1, u2, u3] [v0, v1, v2, v3, v4] 51 y) : y.cell? ⟨X, 0, none⟩ = some v0 ∧ y.cell? ⟨X, 2, none⟩ = some v2 ∧ y.cell? ⟨X, 3, none⟩ = some v3 ∧ y.cell? ⟨X, 4, none⟩ = some v4 ∧ y.cell? ⟨F, 3, none⟩ = some u3 := ⟨h.m.cell 0, h.m.cell 2, h.m.cell 3, h.m.cell 4, h.f.cell 3⟩
theorem rt_old {w y : World} {F X : Nat} {fs xs : List Value} {t : TypeId} {p : Addr} {v : Value} (hp : w.cell? p = some v) (h : RtB w F X fs xs t y) : y.cell? p = some v := (h.b.cell (World.block_lt_of_cell? _ _ hp)).trans hp
end Go.Proofs.YthimpjfmelmhpaaDoor.Fc
