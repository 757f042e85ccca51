/-
  The state in memory.
-/
import Derived.Test.YtbpdeehpeflbeaaDoorTurn
import Derived.Deep.Draws
import Derived.Deep.QuietTactic
import Derived.BigQuiet
import Derived.Deep.RegionHeld3
import Derived.Deep.WholeRow
namespace Go.Proofs.YtbpdeehpeflbeaaDoor
open Go.RowKit

theorem results_cell1 {fn : Func} {p : Tmp} {ty : TypeId} {a : Addr} {v : Value} {tmps : Array Value} {P : Program} {w : World} (h : fn.results = #[.cell p ty]) (ha : tmps.getD p undef = .pointer (some a)) (hv : (loadVar ty a).run P w = .ok v w) :
    (results fn tmps).run P w = .ok v w := by
  have e : (results fn tmps).run P w = ((asAddr (tmps.getD p undef)).run P w).andThen fun a w₁ => (loadVar ty a).run P w₁ := by
    simp only [results, h]
    simp [Sem.run_bind, Result.andThen]
  rw [e, ha]
  simp [asAddr, hv]

def U32 (n : Nat) : Value := .int .u32 (n : Int)
def U8 (n : Nat) : Value := .int .u8 (n : Int)
/-- the cells of a state: eight sums, a block, how many bytes of it are used, how many there were in all -/
def stL (hs bl : List Nat) (u t : Nat) : List Value := hs.map U32 ++ (bl.map U8 ++ [.int .i64 (u : Int), .int .u64 (t : Int)])
def SAt (b : Nat) (w : World) (hs bl : List Nat) (u t : Nat) : Prop := w.heap[b]? = some (.cells (stL hs bl u t).toArray 43 (0, 0)) ∧ hs.length = 8 ∧ bl.length = 64
/-- only block b has turned; new ones may be there -/
structure Mod (b : Nat) (w w' : World) : Prop where
  os : w'.os = w.os
  tape : w'.tape = w.tape
  output : w'.output = w.output
  size : w.heap.size ≤ w'.heap.size
  block : ∀ k, k < w.heap.size → k ≠ b → w'.heap[k]? = w.heap[k]?

theorem Mod.refl (b : Nat) (w : World) : Mod b w w := ⟨rfl, rfl, rfl, Nat.le_refl _, fun _ _ _ => rfl⟩
theorem Mod.trans {b : Nat} {x y z : World} (h : Mod b x y) (k : Mod b y z) : Mod b x z :=
  ⟨k.os.trans h.os, k.tape.trans h.tape, k.output.trans h.output, Nat.le_trans h.size k.size, fun i h1 h2 => (k.block i (Nat.lt_of_lt_of_le h1 h.size) h2).trans (h.block i h1 h2)⟩
theorem Mod.of_below {b : Nat} {x y : World} (h : Below x.heap.size x y) : Mod b x y := ⟨h.os, h.tape, h.output, h.size, fun k hk _ => h.block k hk⟩
theorem Mod.below {b B : Nat} {x y : World} (h : Mod b x y) (h1 : B ≤ b) (h2 : B ≤ x.heap.size) : Below B x y := ⟨h.os, h.tape, h.output, h.size, fun k hk => h.block k (by omega) (by omega)⟩
theorem Mod.drew {b : Nat} {x y : World} (h : Mod b x y) : Mod b x y.drew := ⟨h.os, h.tape, h.output, h.size, h.block⟩
theorem Mod.drewN {b : Nat} {x y : World} (h : Mod b x y) (n : Nat) : Mod b x (y.drewN n) := ⟨h.os, h.tape, h.output, h.size, h.block⟩
theorem Mod.setCell {b : Nat} {x y : World} (h : Mod b x y) {p : Addr} (hp : p.block = b ∨ x.heap.size ≤ p.block) (u : Value) : Mod b x (y.setCell p u) :=
  ⟨h.os, h.tape, h.output, by simpa [World.setCell] using h.size, fun k h1 h2 => (Below.heap_setCell _ _ _ _ (by omega)).trans (h.block k h1 h2)⟩
theorem Mod.alloc {b : Nat} {x y : World} (h : Mod b x y) (o : Obj) : Mod b x (y.alloc o) :=
  ⟨h.os, h.tape, h.output, Nat.le_trans h.size (by simp), fun k h1 h2 => (Below.heap_alloc _ _ _ (Nat.lt_of_lt_of_le h1 h.size)).trans (h.block k h1 h2)⟩

section
variable {b : Nat} {w : World} {hs bl : List Nat} {u t : Nat}
theorem SAt.lt (h : SAt b w hs bl u t) : b < w.heap.size := lt_of_block h.1
theorem SAt.cell (h : SAt b w hs bl u t) (i : Nat) : w.cell? ⟨b, i, none⟩ = (stL hs bl u t)[i]? := by
  simp [World.cell?, h.1]
theorem SAt.frozen (h : SAt b w hs bl u t) (i : Nat) : w.frozen? ⟨b, i, none⟩ = false := by simp [World.frozen?, h.1]
theorem SAt.sum (h : SAt b w hs bl u t) (i : Nat) (hi : i < 8) : w.cell? ⟨b, i, none⟩ = some (.int .u32 ((hs.getD i 0 : Nat) : Int)) := by
  have hl := h.2.1
  rw [h.cell, stL, List.getElem?_append_left (by simp; omega)]
  simp [U32, List.getElem?_eq_getElem (show i < hs.length by omega), List.getD]
theorem SAt.byte (h : SAt b w hs bl u t) (i : Nat) (hi : i < 64) : w.cell? ⟨b, 8 + i, none⟩ = some (.int .u8 ((bl.getD i 0 : Nat) : Int)) := by
  have hl := h.2.1
  have hl2 := h.2.2
  rw [h.cell, stL, List.getElem?_append_right (by simp; omega), List.getElem?_append_left (by simp; omega)]
  simp [U8, hl, List.getElem?_eq_getElem (show i < bl.length by omega), List.getD]
theorem SAt.used (h : SAt b w hs bl u t) : w.cell? ⟨b, 72, none⟩ = some (.int .i64 (u : Int)) := by
  have hl := h.2.1
  have hl2 := h.2.2
  rw [h.cell, stL, List.getElem?_append_right (by simp; omega), List.getElem?_append_right (by simp; omega)]
  simp [hl, hl2]
theorem SAt.total (h : SAt b w hs bl u t) : w.cell? ⟨b, 73, none⟩ = some (.int .u64 (t : Int)) := by
  have hl := h.2.1
  have hl2 := h.2.2
  rw [h.cell, stL, List.getElem?_append_right (by simp; omega), List.getElem?_append_right (by simp; omega)]
  simp [hl, hl2]
theorem heap_set (w : World) (b i : Nat) (l : List Value) (ty : TypeId) (v : Value) (h : w.heap[b]? = some (.cells l.toArray ty (0, 0))) : (w.setCell ⟨b, i, none⟩ v).heap[b]? = some (.cells (l.set i v).toArray ty (0, 0)) := by
  simp [World.setCell, Array.getElem?_modify, h]
theorem SAt.setSum (h : SAt b w hs bl u t) (i v : Nat) (hi : i < 8) : SAt b (w.setCell ⟨b, i, none⟩ (.int .u32 (v : Int))) (hs.set i v) bl u t := by
  have hl := h.2.1
  refine ⟨?_, by simpa using hl, h.2.2⟩
  rw [heap_set w b i _ _ _ h.1]
  unfold stL
  rw [List.set_append_left _ _ (by simp; omega), List.map_set]
  rfl
theorem SAt.setByte (h : SAt b w hs bl u t) (i v : Nat) (hi : i < 64) : SAt b (w.setCell ⟨b, 8 + i, none⟩ (.int .u8 (v : Int))) hs (bl.set i v) u t := by
  have hl := h.2.1
  have hl2 := h.2.2
  refine ⟨?_, hl, by simpa using hl2⟩
  rw [heap_set w b _ _ _ _ h.1]
  unfold stL
  rw [List.set_append_right _ _ (by simp; omega), List.set_append_left _ _ (by simp; omega), List.map_set]
  simp [hl, U8]
theorem SAt.setUsed (h : SAt b w hs bl u t) (v : Nat) : SAt b (w.setCell ⟨b, 72, none⟩ (.int .i64 (v : Int))) hs bl v t := by
  have hl := h.2.1
  have hl2 := h.2.2
  refine ⟨?_, hl, hl2⟩
  rw [heap_set w b _ _ _ _ h.1]
  unfold stL
  rw [List.set_append_right _ _ (by simp; omega), List.set_append_right _ _ (by simp; omega)]
  simp [hl, hl2]
theorem SAt.setTotal (h : SAt b w hs bl u t) (v : Nat) : SAt b (w.setCell ⟨b, 73, none⟩ (.int .u64 (v : Int))) hs bl u v := by
  have hl := h.2.1
  have hl2 := h.2.2
  refine ⟨?_, hl, hl2⟩
  rw [heap_set w b _ _ _ _ h.1]
  unfold stL
  rw [List.set_append_right _ _ (by simp; omega), List.set_append_right _ _ (by simp; omega)]
  simp [hl, hl2]
theorem SAt.keep {w' : World} {b' : Nat} (h : SAt b w hs bl u t) (hm : Mod b' w w') (hne : b ≠ b') : SAt b w' hs bl u t := ⟨(hm.block b h.lt hne).trans h.1, h.2⟩
theorem SAt.alloc (h : SAt b w hs bl u t) (o : Obj) : SAt b (w.alloc o) hs bl u t := ⟨(Below.heap_alloc w o b h.lt).trans h.1, h.2⟩
theorem SAt.drew (h : SAt b w hs bl u t) : SAt b w.drew hs bl u t := h
theorem SAt.drewN (h : SAt b w hs bl u t) (n : Nat) : SAt b (w.drewN n) hs bl u t := h
theorem SAt.far (h : SAt b w hs bl u t) {p : Addr} (hp : b ≠ p.block) (v : Value) : SAt b (w.setCell p v) hs bl u t := ⟨(Below.heap_setCell w p v b hp).trans h.1, h.2⟩
end

end Go.Proofs.YtbpdeehpeflbeaaDoor
