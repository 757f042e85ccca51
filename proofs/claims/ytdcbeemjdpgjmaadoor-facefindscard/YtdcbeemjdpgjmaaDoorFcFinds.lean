/-
  FaceFinds: plain facts on names that rise.
-/
import Derived.Test.YtdcbeemjdpgjmaaDoorFcRight
import Derived.Test.YtdcbeemjdpgjmaaDoorFcFld
import Derived.Test.YtdcbeemjdpgjmaaDoorFcApart
namespace Go.Proofs.YtdcbeemjdpgjmaaDoor.Fc
open Go.RowKit
set_option linter.unusedVariables false

section
variable {α : Type} (nm : α → ByteArray)
theorem chain_lt (xs : List α) (h : ∀ k x, xs[k]? = some x → ltS (lastN nm xs k) (nm x) = true) : ∀ (j i : Nat) (x y : α), i < j → xs[i]? = some x → xs[j]? = some y → ltS (nm x) (nm y) = true
  | 0, i, x, y, hij, _, _ => by omega
  | j + 1, i, x, y, hij, hx, hy => by
    have hl : j < xs.length := by have := (List.getElem?_eq_some_iff.1 hy).1; omega
    have hz : xs[j]? = some xs[j] := List.getElem?_eq_getElem hl
    have h1 := h (j + 1) y hy
    have h2 : lastN nm xs (j + 1) = nm xs[j] := by simp [lastN, hz]
    rw [h2] at h1
    rcases Nat.lt_succ_iff_lt_or_eq.1 hij with h3 | rfl
    · exact ltS_trans (chain_lt xs h j i x _ h3 hx hz) h1
    · rw [hz] at hx
      cases hx
      exact h1
theorem chain_ne {xs : List α} (h : ∀ k x, xs[k]? = some x → ltS (lastN nm xs k) (nm x) = true) {i j : Nat} {x y : α} (hij : i < j) (hx : xs[i]? = some x) (hy : xs[j]? = some y) : nm x ≠ nm y := fun e => by
  have := chain_lt nm xs h j i x y hij hx hy
  rw [e, ltS_irrefl] at this
  cases this
theorem chain_find {xs : List α} (h : ∀ k x, xs[k]? = some x → ltS (lastN nm xs k) (nm x) = true) {k : Nat} {x : α} (hx : xs[k]? = some x) : xs.find? (fun v => decide (nm v = nm x)) = some x :=
  find_at hx (fun y hy => by
    obtain ⟨i, hi, e⟩ := List.mem_iff_getElem.1 hy
    have hi' : i < k ∧ i < xs.length := by rw [List.length_take] at hi; omega
    have hy' : xs[i]? = some y := by rw [List.getElem?_eq_getElem hi'.2, ← e]; simp
    simpa using chain_ne nm h hi'.1 hy' hx) (by simp)
theorem chain_pair {xs : List α} (h : ∀ k x, xs[k]? = some x → ltS (lastN nm xs k) (nm x) = true) : xs.Pairwise (fun a b => nm a ≠ nm b) := by
  rw [List.pairwise_iff_getElem]
  intro i j hi hj hij
  exact chain_ne nm h hij (List.getElem?_eq_getElem hi) (List.getElem?_eq_getElem hj)
theorem cnt_one (s : ByteArray) : ∀ {xs : List α}, xs.Pairwise (fun a b => nm a ≠ nm b) → xs.countP (fun v => decide (nm v = s)) ≤ 1
  | [], _ => by simp
  | x :: xs, h => by
    rw [List.pairwise_cons] at h
    rw [List.countP_cons]
    by_cases e : nm x = s
    · have : xs.countP (fun v => decide (nm v = s)) = 0 := by
        rw [List.countP_eq_zero]
        intro y hy
        have := h.1 y hy
        simp only [decide_eq_true_eq]
        exact fun e2 => this (e.trans e2.symm)
      rw [this]; simp [e]
    · have := cnt_one s h.2
      simp [e, this]
theorem find_cnt (s : ByteArray) {xs : List α} (h : xs.countP (fun v => decide (nm v = s)) ≤ 1) : (xs.countP (fun v => decide (nm v = s)) = 0 ∧ xs.find? (fun v => decide (nm v = s)) = none) ∨ (xs.countP (fun v => decide (nm v = s)) = 1 ∧ ∃ x, xs.find? (fun v => decide (nm v = s)) = some x) := by
  cases hf : xs.find? (fun v => decide (nm v = s)) with
  | none =>
    refine .inl ⟨?_, rfl⟩
    rw [List.countP_eq_zero]
    intro y hy
    exact List.find?_eq_none.1 hf y hy
  | some x =>
    refine .inr ⟨?_, x, rfl⟩
    have hpx := List.find?_some hf
    have : 0 < xs.countP (fun v => decide (nm v = s)) := List.countP_pos_iff.2 ⟨x, List.mem_of_find?_eq_some hf, hpx⟩
    omega
theorem cnt_snoc (s : ByteArray) {xs : List α} {k : Nat} {x : α} (hx : xs[k]? = some x) : (xs.take (k + 1)).countP (fun v => decide (nm v = s)) = (xs.take k).countP (fun v => decide (nm v = s)) + (if nm x = s then 1 else 0) := by
  have hk : k < xs.length := (List.getElem?_eq_some_iff.1 hx).1
  rw [List.take_succ_eq_append_getElem hk, (List.getElem?_eq_some_iff.1 hx).2, List.countP_append]
  by_cases e : nm x = s <;> simp [e]
theorem cnt_take (s : ByteArray) (xs : List α) (k : Nat) : (xs.take k).countP (fun v => decide (nm v = s)) ≤ k := Nat.le_trans List.countP_le_length (List.length_take_le _ _)
end
theorem right_fs {f : Fc} (h : RightP f) : ∀ k x, f.fs[k]? = some x → ltS (lastN Vr.name f.fs k) x.name = true := fun k x hx => (h.fs k x hx).1
theorem right_ms {f : Fc} (h : RightP f) : ∀ k x, f.ms[k]? = some x → ltS (lastN Sg.name f.ms k) x.name = true := fun k x hx => (h.ms k x hx).1
end Go.Proofs.YtdcbeemjdpgjmaaDoor.Fc
