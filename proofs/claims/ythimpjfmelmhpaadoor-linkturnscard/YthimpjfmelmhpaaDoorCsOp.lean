/-
  Codes: whether there are, and what their numbers are.
-/
import Derived.Test.YthimpjfmelmhpaaDoorFcX
namespace Go.Proofs.YthimpjfmelmhpaaDoor.Fc
open Go.RowKit
set_option linter.unusedVariables false

abbrev Bs := List UInt8
/-- each code's name, and what the number beside it is the number of; that of no code first -/
def rowsL : List (Bs × Int) := [([], 0), ([105, 110, 116], 110), ([110, 117, 108, 108], 0), ([108, 111, 99, 97, 108], 108), ([115, 116, 111, 114, 101], 108), ([97, 100, 100], 0), ([115, 117, 98], 0), ([109, 117, 108], 0), ([100, 105, 118], 0), ([109, 111, 100], 0), ([108, 101, 115, 115], 0), ([109, 111, 115, 116], 0), ([115, 97, 109, 101], 0), ([111, 116, 104, 101, 114], 0), ([110, 101, 103], 0), ([110, 111, 116], 0), ([103, 101, 116], 102), ([112, 117, 116], 102), ([110, 101, 119], 99), ([97, 114, 114, 97, 121], 116), ([108, 111, 97, 100], 116), ([115, 97, 118, 101], 116), ([108, 101, 110, 103, 116, 104], 0), ([99, 97, 115, 116], 99), ([105, 115], 99), ([99, 97, 108, 108], 109), ([115, 116, 97, 116, 105, 99], 109), ([106, 117, 109, 112], 106), ([117, 110, 108, 101, 115, 115], 106), ([114, 101, 116, 117, 114, 110], 0), ([112, 114, 105, 110, 116], 0), ([112, 111, 112], 0), ([98, 111, 111, 108], 98)]
def nameN (k : Nat) : Bs := (rowsL.getD k ([], 0)).1
def poolN (k : Nat) : Int := (rowsL.getD k ([], 0)).2
/-- which code a number is: its place, or 0 -/
def kd (c : Int) : Nat := if 1 ≤ c ∧ c ≤ 32 then c.toNat else 0
theorem kd_le (c : Int) : kd c ≤ 32 := by unfold kd; split <;> omega
theorem kd_in {c : Int} (h1 : 1 ≤ c) (h2 : c ≤ 32) : ((kd c : Nat) : Int) = c := by unfold kd; rw [if_pos ⟨h1, h2⟩]; omega
theorem kd_out {c : Int} (h : ¬ (1 ≤ c ∧ c ≤ 32)) : kd c = 0 := by unfold kd; rw [if_neg h]
theorem kd_nat {k : Nat} (h1 : 1 ≤ k) (h2 : k ≤ 32) : kd (k : Int) = k := by unfold kd; rw [if_pos (by omega)]; omega
theorem rows_len : rowsL.length = 33 := rfl
theorem rows_at {k : Nat} (h : k < 33) : rowsL[k]? = some (nameN k, poolN k) := by
  unfold nameN poolN
  rw [List.getD_eq_getElem?_getD, List.getElem?_eq_getElem (by rw [rows_len]; exact h)]; rfl
theorem names_apart : ∀ i ∈ List.range 33, ∀ j ∈ List.range 33, nameN i = nameN j → i = j := by decide +kernel
theorem name_inj {i j : Nat} (hi : i ≤ 32) (hj : j ≤ 32) (h : nameN i = nameN j) : i = j :=
  names_apart i (List.mem_range.2 (by omega)) j (List.mem_range.2 (by omega)) h
theorem name0 : nameN 0 = [] := rfl
theorem pool0 : poolN 0 = 0 := rfl
/-- the first code of that name, or 0 -/
def findN (n : Bs) : Nat := ((List.range 33).find? fun k => decide (1 ≤ k) && decide (nameN k = n)).getD 0
theorem find_of {k : Nat} (h1 : 1 ≤ k) (h2 : k ≤ 32) : findN (nameN k) = k := by
  unfold findN
  cases h : (List.range 33).find? fun j => decide (1 ≤ j) && decide (nameN j = nameN k) with
  | none => exact absurd (List.find?_eq_none.1 h k (List.mem_range.2 (by omega))) (by simp [h1])
  | some j =>
    have hp := List.find?_some h
    have hm := List.mem_of_find?_eq_some h
    simp at hp hm
    show j = k
    exact name_inj (by omega) h2 hp.2
theorem find_none {n : Bs} (h : ∀ k, 1 ≤ k → k ≤ 32 → nameN k ≠ n) : findN n = 0 := by
  unfold findN
  rw [List.find?_eq_none.2]; · rfl
  intro j hj
  have hj' : j < 33 := List.mem_range.1 hj
  intro hh
  simp at hh
  exact h j hh.1 (by omega) hh.2
/-- bytes as a text -/
def str (l : Bs) : ByteArray := ⟨l.toArray⟩
def S8 (l : Bs) : Value := .string (str l)
def cellsL : List Value := rowsL.flatMap fun r => [S8 r.1, .int .i32 r.2]
/-- the table of codes stands in its block -/
def TabR (w : World) : Prop := ∀ j v, cellsL[j]? = some v → w.cell? ⟨0, j, none⟩ = some v
theorem cells_name : ∀ k, k < 33 → cellsL[k * 2]? = some (S8 (nameN k)) := by
  intro k hk
  have : ∀ j ∈ List.range 33, cellsL[j * 2]? = some (S8 (nameN j)) := by
    unfold cellsL S8; simp [List.range, List.range.loop, rowsL, nameN]
  exact this k (List.mem_range.2 hk)
theorem cells_pool : ∀ k, k < 33 → cellsL[k * 2 + 1]? = some (.int .i32 (poolN k)) := by
  intro k hk
  have : ∀ j ∈ List.range 33, cellsL[j * 2 + 1]? = some (.int .i32 (poolN j)) := by
    unfold cellsL S8; simp [List.range, List.range.loop, rowsL, poolN]
  exact this k (List.mem_range.2 hk)
theorem TabR.name {w : World} (h : TabR w) {k : Nat} (hk : k < 33) : w.cell? ⟨0, k * 2, none⟩ = some (S8 (nameN k)) := by
  exact h (k * 2) _ (cells_name k hk)
theorem TabR.pool {w : World} (h : TabR w) {k : Nat} (hk : k < 33) : w.cell? ⟨0, k * 2 + 1, none⟩ = some (.int .i32 (poolN k)) := by
  exact h (k * 2 + 1) _ (cells_pool k hk)

theorem known8 (c : Int) (w : World) : Calls Tryd.prog 89 #[.int .i64 c] w fun e w' => e = .returned (.bool (decide (1 ≤ c) && decide (c ≤ 32))) ∧ w = w' := by
  by_cases h : 1 ≤ c
  all_goals
    go_enter Tryd.func89, Tryd.ntmps89
    go_wp2
    go_ret
    exact ⟨by simp [h] <;> omega, rfl⟩
theorem known_in (k : Nat) (h1 : 1 ≤ k) (h2 : k ≤ 32) (w : World) : Calls Tryd.prog 89 #[.int .i64 (k : Int)] w fun e w' => e = .returned (.bool true) ∧ w = w' :=
  (known8 k w).mono fun e w' ⟨a, b⟩ => ⟨by rw [a, decide_eq_true (by omega), decide_eq_true (by omega)]; rfl, b⟩
theorem known_out (c : Int) (h : ¬ (1 ≤ c ∧ c ≤ 32)) (w : World) : Calls Tryd.prog 89 #[.int .i64 c] w fun e w' => e = .returned (.bool false) ∧ w = w' :=
  (known8 c w).mono fun e w' ⟨a, b⟩ => ⟨by rw [a, show (decide (1 ≤ c) && decide (c ≤ 32)) = false by rw [← Bool.decide_and]; exact decide_eq_false h], b⟩
set_option maxHeartbeats 400000 in
theorem pool10 (c : Int) (w : World) (hT : TabR w) : Calls Tryd.prog 90 #[.int .i64 c] w fun e w' => e = .returned (.int .i32 (poolN (kd c))) ∧ w = w' := by
  by_cases h : 1 ≤ c ∧ c ≤ 32
  · obtain ⟨k, rfl⟩ : ∃ k : Nat, c = k := ⟨c.toNat, by omega⟩
    rw [kd_nat (by omega) (by omega)]
    have h1 : 1 ≤ k := by omega
    have h2 : k ≤ 32 := by omega
    have q := hT.pool (k := k) (by omega)
    clear h hT
    go_enter Tryd.func90, Tryd.ntmps90
    go_wp2_with (go_at_call 89; refine (known_in k h1 h2 _).mono ?_; rintro e w' ⟨rfl, rfl⟩)
    go_ret
    exact ⟨rfl, rfl⟩
  · rw [kd_out h, pool0]
    go_enter Tryd.func90, Tryd.ntmps90
    go_wp2_with (go_at_call 89; refine (known_out c h _).mono ?_; rintro e w' ⟨rfl, rfl⟩)
    go_ret
    exact ⟨rfl, rfl⟩
theorem TabR.below {w w' : World} (h : TabR w) (hb : Below w.heap.size w w') : TabR w' := fun j v hv =>
  (hb.cell (World.block_lt_of_cell? _ _ (h j v hv))).trans (h j v hv)
end Go.Proofs.YthimpjfmelmhpaaDoor.Fc
