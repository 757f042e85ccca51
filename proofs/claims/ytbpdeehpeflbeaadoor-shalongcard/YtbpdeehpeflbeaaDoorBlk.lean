/-
  Plain facts on blocks: what bytes more do to the sums.
-/
import Derived.Test.YtbpdeehpeflbeaaDoorSpec
namespace Go.Proofs.YtbpdeehpeflbeaaDoor

theorem blk_snoc (n : Nat) : ∀ hs l, blk (n + 1) hs l = mixOf (blk n hs l) ((l.drop (64 * n)).take 64) := by
  induction n with
  | zero => intro hs l; simp [blk]
  | succ n ih =>
    intro hs l
    rw [blk, ih, blk, List.drop_drop]
    congr 3
    omega
theorem blk_append (n : Nat) : ∀ hs l s, 64 * n ≤ l.length → blk n hs (l ++ s) = blk n hs l := by
  induction n with
  | zero => intro hs l s _; rfl
  | succ n ih =>
    intro hs l s h
    rw [blk, blk, List.take_append_of_le_length (by omega), List.drop_append_of_le_length (by omega), ih _ _ _ (by simp; omega)]

/-- the sums behind all whole blocks -/
def hsOf (L : List Nat) : List Nat := blk (L.length / 64) H0 L
/-- what is left of the last block -/
def tailOf (L : List Nat) : List Nat := L.drop (64 * (L.length / 64))
theorem tailOf_length (L : List Nat) : (tailOf L).length = L.length % 64 := by unfold tailOf; rw [List.length_drop]; omega

theorem hsOf_few (L s : List Nat) (h : L.length % 64 + s.length < 64) : hsOf (L ++ s) = hsOf L ∧ tailOf (L ++ s) = tailOf L ++ s ∧ (L ++ s).length % 64 = L.length % 64 + s.length := by
  have hq : (L ++ s).length / 64 = L.length / 64 := by rw [List.length_append]; omega
  refine ⟨?_, ?_, by rw [List.length_append]; omega⟩
  · unfold hsOf; rw [hq, blk_append _ _ _ _ (by omega)]
  · unfold tailOf; rw [hq, List.drop_append_of_le_length (by omega)]
theorem hsOf_full (L s : List Nat) (h : L.length % 64 + s.length = 64) : hsOf (L ++ s) = mixOf (hsOf L) (tailOf L ++ s) ∧ tailOf (L ++ s) = [] ∧ (L ++ s).length % 64 = 0 := by
  have hq : (L ++ s).length / 64 = L.length / 64 + 1 := by rw [List.length_append]; omega
  have hl : (L ++ s).length = 64 * (L.length / 64 + 1) := by rw [List.length_append]; omega
  refine ⟨?_, ?_, by omega⟩
  · unfold hsOf
    rw [hq, blk_snoc, blk_append _ _ _ _ (by omega), List.drop_append_of_le_length (by omega), List.take_of_length_le]
    · rfl
    · rw [List.length_append, List.length_drop]; omega
  · unfold tailOf; rw [hq]; exact List.drop_of_length_le (by omega)

theorem mixOf_lt (hs bl : List Nat) : ∀ x ∈ mixOf hs bl, x < 4294967296 := by
  intro x hx
  unfold mixOf at hx
  rw [List.mem_iff_getElem] at hx
  obtain ⟨i, hi, rfl⟩ := hx
  rw [List.getElem_zipWith]
  exact Nat.mod_lt _ (by omega)
theorem blk_lt (n : Nat) : ∀ hs l, (∀ x ∈ hs, x < 4294967296) → ∀ x ∈ blk n hs l, x < 4294967296 := by
  induction n with
  | zero => intro hs l h; exact h
  | succ n ih => intro hs l _; exact ih _ _ (mixOf_lt _ _)
theorem hsOf_lt (L : List Nat) : ∀ x ∈ hsOf L, x < 4294967296 := blk_lt _ _ _ (by decide)

end Go.Proofs.YtbpdeehpeflbeaaDoor
