/-
  Blocks of cells, and what a call leaves alone; the names in a block of their own.
-/
import Derived.Test.YtkdgneinjkongaaDoorFind
import Derived.Deep.Slices
import Derived.OwnWalk
import Derived.MapKept
import Derived.Lib.ItoaMem
import Derived.Test.YtkdgneinjkongaaDoorShelf
namespace Go.Proofs.YtkdgneinjkongaaDoor
open Go.RowKit Go.Lib Go.Sort

theorem below1 (w : World) (o : Obj) : Below w.heap.size w (w.alloc o) := (Below.refl _ _).alloc (Nat.le_refl _) _
/-- a block of cells, whole -/
def Blk (w : World) (b : Nat) (cs : List Value) (t : TypeId) : Prop := w.heap[b]? = some (.cells cs.toArray t (0, 0))
section
variable {w : World} {b : Nat} {cs : List Value} {t : TypeId}
theorem Blk.lt (h : Blk w b cs t) : b < w.heap.size := lt_of_block h
theorem Blk.cell (h : Blk w b cs t) (i : Nat) : w.cell? ⟨b, i, none⟩ = cs[i]? := by simp [World.cell?, show w.heap[b]? = _ from h]
theorem Blk.frozen (h : Blk w b cs t) (i : Nat) : w.frozen? ⟨b, i, none⟩ = false := by simp [World.frozen?, show w.heap[b]? = _ from h]
theorem Blk.set (h : Blk w b cs t) (i : Nat) (v : Value) : Blk (w.setCell ⟨b, i, none⟩ v) b (cs.set i v) t := by
  show (w.setCell ⟨b, i, none⟩ v).heap[b]? = _
  simp [World.setCell, Array.getElem?_modify, show w.heap[b]? = _ from h]
theorem Blk.below {w' : World} (h : Blk w b cs t) (hm : Below w.heap.size w w') : Blk w' b cs t := (hm.block b h.lt).trans h
theorem Blk.new (w : World) (cs : List Value) (t : TypeId) : Blk (w.alloc (.cells cs.toArray t)) w.heap.size cs t := by
  exact (MapKept.heap_alloc w _).1
end
theorem TabR.below {w w' : World} (h : TabR w) (hb : Below w.heap.size w w') : TabR w' := fun j v hv =>
  (hb.cell (World.block_lt_of_cell? _ _ (h j v hv))).trans (h j v hv)

theorem grow_below (w : World) (k : Nat) (os : Array Obj) : Below w.heap.size w (grow (w.drewN k) os) :=
  ⟨rfl, rfl, rfl, by simp [grow], fun j hj => by (show (w.heap ++ os)[j]? = _); rw [Array.getElem?_append_left hj]⟩
abbrev Pow (w : World) : Prop := Lib.TabIs Tryd.prog w "internal/strconv.uint64pow10" .u64 Lib.pow10Tab

theorem Pow.below {w w' : World} (h : Pow w) (hb : Below w.heap.size w w') : Pow w' := by
  unfold Pow Lib.TabIs World.var? at *
  cases hg : Tryd.prog.globalNamed "internal/strconv.uint64pow10" with
  | none => simp [hg] at h
  | some g =>
    simp only [hg, Option.bind_some] at h ⊢
    have hlt : g < w.heap.size := by
      rcases Nat.lt_or_ge g w.heap.size with h' | h'
      · exact h'
      · rw [Array.getElem?_eq_none h'] at h; simp at h
    rw [hb.block g hlt]
    exact h

def namesL : List Bs := (rowsL.drop 1).map (·.1)
theorem names_at {k : Nat} (h : k < 32) : (namesL.map S8)[k]? = some (S8 (nameN (k + 1))) := by
  have : ∀ j ∈ List.range 32, (namesL.map S8)[j]? = some (S8 (nameN (j + 1))) := by
    unfold namesL S8; simp [List.range, List.range.loop, rowsL, nameN]
  exact this k (List.mem_range.2 h)
def namesPost (W : World) (e : Ending) (w' : World) : Prop := e = .returned (.slice (some ⟨W.heap.size, 0, none⟩) 32 32) ∧ Blk w' W.heap.size (namesL.map S8) 9 ∧ Below W.heap.size W w'
set_option maxHeartbeats 400000 in
set_option maxRecDepth 10000 in
theorem names14 (w : World) : Calls Tryd.prog 14 #[] w (namesPost w) := by
  go_enter Tryd.func14, Tryd.ntmps14
  go_wp2
  go_ret
  exact ⟨rfl, Blk.new w (namesL.map S8) 9, below1 w _⟩
end Go.Proofs.YtkdgneinjkongaaDoor
