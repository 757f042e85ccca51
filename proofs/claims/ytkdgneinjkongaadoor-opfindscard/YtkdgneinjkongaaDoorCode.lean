/-
  Codes: whether there are, their names, what their numbers are, which end.
-/
import Derived.Test.YtkdgneinjkongaaDoorProg
import Derived.Test.YtkdgneinjkongaaDoorSpec
import Derived.WalkKit
import Derived.Lib.Hide
import Derived.Outline
namespace Go.Proofs.YtkdgneinjkongaaDoor
open Go.RowKit

/-- bytes as a text -/
def str (l : Bs) : ByteArray := ⟨l.toArray⟩
def S8 (l : Bs) : Value := .string (str l)
def cellsL : List Value := rowsL.flatMap fun r => [S8 r.1, .int .i32 r.2]
/-- the table of codes stands in its block -/
def TabR (w : World) : Prop := ∀ j v, cellsL[j]? = some v → w.cell? ⟨0, j, none⟩ = some v
theorem cells_name : ∀ k, k < 33 → cellsL[k * 2]? = some (S8 (nameN k)) := by
  intro k hk
  have : ∀ j ∈ List.range 33, cellsL[j * 2]? = some (S8 (nameN j)) := by
    unfold cellsL S8; simp [List.range, List.range.loop, rowsL, nameN]
  exact this k (List.mem_range.2 hk)
theorem cells_pool : ∀ k, k < 33 → cellsL[k * 2 + 1]? = some (.int .i32 (poolN k)) := by
  intro k hk
  have : ∀ j ∈ List.range 33, cellsL[j * 2 + 1]? = some (.int .i32 (poolN j)) := by
    unfold cellsL S8; simp [List.range, List.range.loop, rowsL, poolN]
  exact this k (List.mem_range.2 hk)
theorem TabR.name {w : World} (h : TabR w) {k : Nat} (hk : k < 33) : w.cell? ⟨0, k * 2, none⟩ = some (S8 (nameN k)) := by
  exact h (k * 2) _ (cells_name k hk)
theorem TabR.pool {w : World} (h : TabR w) {k : Nat} (hk : k < 33) : w.cell? ⟨0, k * 2 + 1, none⟩ = some (.int .i32 (poolN k)) := by
  exact h (k * 2 + 1) _ (cells_pool k hk)

theorem known8 (c : Int) (w : World) : Calls Tryd.prog 8 #[.int .i64 c] w fun e w' => e = .returned (.bool (decide (1 ≤ c) && decide (c ≤ 32))) ∧ w = w' := by
  by_cases h : 1 ≤ c
  all_goals
    go_enter Tryd.func8, Tryd.ntmps8
    go_wp2
    go_ret
    exact ⟨by simp [h] <;> omega, rfl⟩
theorem ends11 (c : Int) (w : World) : Calls Tryd.prog 11 #[.int .i64 c] w fun e w' => e = .returned (.bool (decide (c = 27) || decide (c = 29))) ∧ w = w' := by
  by_cases h : c = 27
  · subst h
    go_enter Tryd.func11, Tryd.ntmps11
    go_wp2
    go_ret
    exact ⟨rfl, rfl⟩
  · have h' : (c == 27) = false := by simpa using h
    have H : Hid (decide (c = 27) = false) := Lib.hid (by simpa using h)
    go_enter Tryd.func11, Tryd.ntmps11
    go_wp2
    go_ret
    exact ⟨by rw [H.out]; simp; rw [Bool.eq_iff_iff]; simp, rfl⟩
theorem known_in (k : Nat) (h1 : 1 ≤ k) (h2 : k ≤ 32) (w : World) : Calls Tryd.prog 8 #[.int .i64 (k : Int)] w fun e w' => e = .returned (.bool true) ∧ w = w' :=
  (known8 k w).mono fun e w' ⟨a, b⟩ => ⟨by rw [a, decide_eq_true (by omega), decide_eq_true (by omega)]; rfl, b⟩
theorem known_out (c : Int) (h : ¬ (1 ≤ c ∧ c ≤ 32)) (w : World) : Calls Tryd.prog 8 #[.int .i64 c] w fun e w' => e = .returned (.bool false) ∧ w = w' :=
  (known8 c w).mono fun e w' ⟨a, b⟩ => ⟨by rw [a, show (decide (1 ≤ c) && decide (c ≤ 32)) = false by rw [← Bool.decide_and]; exact decide_eq_false h], b⟩
set_option maxHeartbeats 400000 in
theorem name9 (c : Int) (w : World) (hT : TabR w) : Calls Tryd.prog 9 #[.int .i64 c] w fun e w' => e = .returned (S8 (nameN (kd c))) ∧ w = w' := by
  by_cases h : 1 ≤ c ∧ c ≤ 32
  · obtain ⟨k, rfl⟩ : ∃ k : Nat, c = k := ⟨c.toNat, by omega⟩
    rw [kd_nat (by omega) (by omega)]
    have h1 : 1 ≤ k := by omega
    have h2 : k ≤ 32 := by omega
    have q := hT.name (k := k) (by omega)
    unfold S8 at q ⊢
    clear h hT
    go_enter Tryd.func9, Tryd.ntmps9
    go_wp2_with (go_at_call 8; refine (known_in k h1 h2 _).mono ?_; rintro e w' ⟨rfl, rfl⟩)
    go_ret
    exact ⟨rfl, rfl⟩
  · rw [kd_out h, name0]
    unfold S8
    go_enter Tryd.func9, Tryd.ntmps9
    go_wp2_with (go_at_call 8; refine (known_out c h _).mono ?_; rintro e w' ⟨rfl, rfl⟩)
    go_ret
    exact ⟨rfl, rfl⟩
set_option maxHeartbeats 400000 in
theorem pool10 (c : Int) (w : World) (hT : TabR w) : Calls Tryd.prog 10 #[.int .i64 c] w fun e w' => e = .returned (.int .i32 (poolN (kd c))) ∧ w = w' := by
  by_cases h : 1 ≤ c ∧ c ≤ 32
  · obtain ⟨k, rfl⟩ : ∃ k : Nat, c = k := ⟨c.toNat, by omega⟩
    rw [kd_nat (by omega) (by omega)]
    have h1 : 1 ≤ k := by omega
    have h2 : k ≤ 32 := by omega
    have q := hT.pool (k := k) (by omega)
    clear h hT
    go_enter Tryd.func10, Tryd.ntmps10
    go_wp2_with (go_at_call 8; refine (known_in k h1 h2 _).mono ?_; rintro e w' ⟨rfl, rfl⟩)
    go_ret
    exact ⟨rfl, rfl⟩
  · rw [kd_out h, pool0]
    go_enter Tryd.func10, Tryd.ntmps10
    go_wp2_with (go_at_call 8; refine (known_out c h _).mono ?_; rintro e w' ⟨rfl, rfl⟩)
    go_ret
    exact ⟨rfl, rfl⟩
end Go.Proofs.YtkdgneinjkongaaDoor
