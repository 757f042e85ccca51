/-
  The codes' names, and what their numbers are, in plain words.
-/
import Init
namespace Go.Proofs.YtkdgneinjkongaaDoor

abbrev Bs := List UInt8
/-- each code's name, and what the number beside it is the number of; that of no code first -/
def rowsL : List (Bs × Int) := [([], 0), ([105, 110, 116], 110), ([110, 117, 108, 108], 0), ([108, 111, 99, 97, 108], 108), ([115, 116, 111, 114, 101], 108), ([97, 100, 100], 0), ([115, 117, 98], 0), ([109, 117, 108], 0), ([100, 105, 118], 0), ([109, 111, 100], 0), ([108, 101, 115, 115], 0), ([109, 111, 115, 116], 0), ([115, 97, 109, 101], 0), ([111, 116, 104, 101, 114], 0), ([110, 101, 103], 0), ([110, 111, 116], 0), ([103, 101, 116], 102), ([112, 117, 116], 102), ([110, 101, 119], 99), ([97, 114, 114, 97, 121], 116), ([108, 111, 97, 100], 116), ([115, 97, 118, 101], 116), ([108, 101, 110, 103, 116, 104], 0), ([99, 97, 115, 116], 99), ([105, 115], 99), ([99, 97, 108, 108], 109), ([115, 116, 97, 116, 105, 99], 109), ([106, 117, 109, 112], 106), ([117, 110, 108, 101, 115, 115], 106), ([114, 101, 116, 117, 114, 110], 0), ([112, 114, 105, 110, 116], 0), ([112, 111, 112], 0), ([98, 111, 111, 108], 98)]
def nameN (k : Nat) : Bs := (rowsL.getD k ([], 0)).1
def poolN (k : Nat) : Int := (rowsL.getD k ([], 0)).2
/-- which code a number is: its place, or 0 -/
def kd (c : Int) : Nat := if 1 ≤ c ∧ c ≤ 32 then c.toNat else 0
theorem kd_le (c : Int) : kd c ≤ 32 := by unfold kd; split <;> omega
theorem kd_in {c : Int} (h1 : 1 ≤ c) (h2 : c ≤ 32) : ((kd c : Nat) : Int) = c := by unfold kd; rw [if_pos ⟨h1, h2⟩]; omega
theorem kd_out {c : Int} (h : ¬ (1 ≤ c ∧ c ≤ 32)) : kd c = 0 := by unfold kd; rw [if_neg h]
theorem kd_nat {k : Nat} (h1 : 1 ≤ k) (h2 : k ≤ 32) : kd (k : Int) = k := by unfold kd; rw [if_pos (by omega)]; omega
theorem rows_len : rowsL.length = 33 := rfl
theorem rows_at {k : Nat} (h : k < 33) : rowsL[k]? = some (nameN k, poolN k) := by
  unfold nameN poolN
  rw [List.getD_eq_getElem?_getD, List.getElem?_eq_getElem (by rw [rows_len]; exact h)]; rfl
theorem names_apart : ∀ i ∈ List.range 33, ∀ j ∈ List.range 33, nameN i = nameN j → i = j := by decide +kernel
theorem name_inj {i j : Nat} (hi : i ≤ 32) (hj : j ≤ 32) (h : nameN i = nameN j) : i = j :=
  names_apart i (List.mem_range.2 (by omega)) j (List.mem_range.2 (by omega)) h
theorem name0 : nameN 0 = [] := rfl
theorem pool0 : poolN 0 = 0 := rfl
/-- the first code of that name, or 0 -/
def findN (n : Bs) : Nat := ((List.range 33).find? fun k => decide (1 ≤ k) && decide (nameN k = n)).getD 0
theorem find_of {k : Nat} (h1 : 1 ≤ k) (h2 : k ≤ 32) : findN (nameN k) = k := by
  unfold findN
  cases h : (List.range 33).find? fun j => decide (1 ≤ j) && decide (nameN j = nameN k) with
  | none => exact absurd (List.find?_eq_none.1 h k (List.mem_range.2 (by omega))) (by simp [h1])
  | some j =>
    have hp := List.find?_some h
    have hm := List.mem_of_find?_eq_some h
    simp at hp hm
    show j = k
    exact name_inj (by omega) h2 hp.2
theorem find_none {n : Bs} (h : ∀ k, 1 ≤ k → k ≤ 32 → nameN k ≠ n) : findN n = 0 := by
  unfold findN
  rw [List.find?_eq_none.2]; · rfl
  intro j hj
  have hj' : j < 33 := List.mem_range.1 hj
  intro hh
  simp at hh
  exact h j hh.1 (by omega) hh.2
end Go.Proofs.YtkdgneinjkongaaDoor
