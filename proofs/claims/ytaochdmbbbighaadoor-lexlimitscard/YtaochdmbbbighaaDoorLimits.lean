/-
  Numbers and names as great and long as may be: in plain words.
-/
import Derived.Test.YtaochdmbbbighaaDoorUint
import Derived.Test.YtaochdmbbbighaaDoorWordsWalk
import Derived.Test.YtaochdmbbbighaaDoorMore
namespace Go.Proofs.YtaochdmbbbighaaDoor
open Go.RowKit

theorem numV_snoc (a : Nat) (x : Bs) (c : UInt8) : numV a (x ++ [c]) = (numV a x).bind fun v => if 288230376151711744 < 10 * v + (c.toNat - 48) then none else some (10 * v + (c.toNat - 48)) := by
  induction x generalizing a with
  | nil => simp [numV]
  | cons d r ih =>
    simp only [List.cons_append, numV]
    split
    · rfl
    · exact ih _
theorem dig_nat (k : Nat) (h : k < 10) : (UInt8.ofNat (48 + k)).toNat - 48 = k ∧ isDg (UInt8.ofNat (48 + k)) = true := by
  have : k = 0 ∨ k = 1 ∨ k = 2 ∨ k = 3 ∨ k = 4 ∨ k = 5 ∨ k = 6 ∨ k = 7 ∨ k = 8 ∨ k = 9 := by omega
  rcases this with rfl | rfl | rfl | rfl | rfl | rfl | rfl | rfl | rfl | rfl <;> decide
theorem dec_digits (n : Nat) : ∀ c ∈ Lib.decDigits n, isDg c = true := by
  induction n using Nat.strongRecOn with
  | _ n ih =>
    rw [Lib.decDigits]
    split
    · rename_i h
      intro c hc
      rw [List.mem_singleton] at hc
      subst hc
      exact (dig_nat n h).2
    · rename_i h
      intro c hc
      rcases List.mem_append.1 hc with hc | hc
      · exact ih (n / 10) (by omega) c hc
      · rw [List.mem_singleton] at hc
        subst hc
        exact (dig_nat (n % 10) (by omega)).2
theorem dec_val (n : Nat) : numV 0 (Lib.decDigits n) = if n ≤ 288230376151711744 then some n else none := by
  induction n using Nat.strongRecOn with
  | _ n ih =>
    rw [Lib.decDigits]
    split
    · rename_i h
      have := (dig_nat n h).1
      simp only [numV, Nat.mul_zero, Nat.zero_add, this]
      rw [if_neg (by omega), if_pos (by omega)]
    · rename_i h
      have e := (dig_nat (n % 10) (by omega)).1
      rw [numV_snoc, ih (n / 10) (by omega), e]
      by_cases h1 : n / 10 ≤ 288230376151711744
      · rw [if_pos h1]
        show (if 288230376151711744 < 10 * (n / 10) + n % 10 then none else some (10 * (n / 10) + n % 10)) = _
        have e2 : 10 * (n / 10) + n % 10 = n := by omega
        rw [e2]
        by_cases h2 : n ≤ 288230376151711744
        · rw [if_pos h2, if_neg (by omega)]
        · rw [if_neg h2, if_pos (by omega)]
      · rw [if_neg h1, if_neg (by omega)]
        rfl
theorem dec_ne (n : Nat) : ∃ c r, Lib.decDigits n = c :: r := by
  rcases h : Lib.decDigits n with _ | ⟨c, r⟩
  · have h1 := Lib.decDigits_length n
    rw [h] at h1
    have h2 : 1 ≤ Lib.nDigits n := by rw [Lib.nDigits]; split <;> omega
    simp at h1
    omega
  · exact ⟨c, r, rfl⟩
theorem dg_not {c : UInt8} (h : isDg c = true) : isUp c = false ∧ isLo c = false := by
  have := (by simpa [isDg] using h : (48 : Int) ≤ (c.toNat : Int) ∧ (c.toNat : Int) ≤ 57)
  exact ⟨by simp [isUp]; omega, by simp [isLo]; omega⟩
theorem dec_first (n : Nat) : first (Lib.decDigits n) = numT (Lib.decDigits n) ∧ skipN false (32 :: Lib.decDigits n) = 1 := by
  obtain ⟨c, r, h⟩ := dec_ne n
  have hd := dec_digits n
  have hw := tw_self isDg _ hd
  rw [h] at hd hw ⊢
  have hc := hd c (by simp)
  constructor
  · rw [first, (dg_not hc).1, (dg_not hc).2, hc, hw]; rfl
  · rw [skipN, if_pos (by decide), skip_no c r (dg_no hc).1 (dg_no hc).2]
def numsT (n : Nat) : List (Nat × Tok) := [(1, ⟨4, Lib.decDigits n, n⟩), (1 + (Lib.decDigits n).length, ⟨0, [], 0⟩)]
theorem nums_ok (n : Nat) (h : n ≤ 288230376151711744) : Lx (32 :: Lib.decDigits n) 0 (numsT n) none := by
  obtain ⟨h1, h2⟩ := dec_first n
  refine .more 0 1 (by rw [List.drop_zero, h2]) ⟨4, Lib.decDigits n, n⟩ ?_ (by simp) _ _ ?_
  · show first (Lib.decDigits n) = _
    rw [h1]
    unfold numT
    rw [dec_val, if_pos h]
  · have e : (32 :: Lib.decDigits n : Bs).drop (1 + (Lib.decDigits n).length) = [] := List.drop_of_length_le (by simp; omega)
    exact .fin _ _ (by rw [e]; rfl) _ (by rw [e]; rfl) rfl
theorem nums_bad (n : Nat) (h : ¬ n ≤ 288230376151711744) : Lx (32 :: Lib.decDigits n) 0 [] (some (22, 1)) := by
  obtain ⟨h1, h2⟩ := dec_first n
  refine .bad 0 1 (by rw [List.drop_zero, h2]) ⟨0, [], 0⟩ 22 ?_ (by decide)
  show first (Lib.decDigits n) = _
  rw [h1]
  unfold numT
  rw [dec_val, if_neg h]
/-- an x, and so many y behind it -/
def xy (j : Nat) : Bs := 120 :: List.replicate j 121
def xyB (j : Nat) : Bool := decide (lexF (xy j) 70 0 = if j < 40 then (oneT 3 (xy j), none) else ([], some (4, 0)))
theorem xy_all : (List.range 64).all xyB = true := by decide +kernel
theorem xy_len (j : Nat) : (xy j).length = j + 1 := by simp [xy]
theorem xy_one (j : Nat) (h : j < 64) : (j < 40 → Lx (xy j) 0 (oneT 3 (xy j)) none) ∧ (¬ j < 40 → Lx (xy j) 0 [] (some (4, 0))) := by
  have h0 := xy_all
  rw [List.all_eq_true] at h0
  have h1 := h0 j (List.mem_range.2 h)
  unfold xyB at h1
  rw [decide_eq_true_eq] at h1
  have h2 := Lx.fn (xy j) 70 0 (by rw [xy_len]; omega) (by omega)
  rw [h1] at h2
  constructor
  · intro h3; rw [if_pos h3] at h2; exact h2
  · intro h3; rw [if_neg h3] at h2; exact h2
theorem u64_and60 (n : Int) (h0 : 0 ≤ n) (h1 : n ≤ 18446744073709551615) : bits .and .u64 n 1152921504606846975 = n % 1152921504606846976 := by
  have e1 : (BitVec.ofInt 64 1152921504606846975).toNat = 2 ^ 60 - 1 := by decide
  have key : (BitVec.ofInt 64 n &&& BitVec.ofInt 64 1152921504606846975).toNat = (n % ((2 ^ 64 : Nat) : Int)).toNat % 2 ^ 60 := by
    rw [BitVec.toNat_and, BitVec.toNat_ofInt, e1, Nat.and_two_pow_sub_one_eq_mod]
  show IntKind.u64.wrap ((BitVec.ofInt 64 n &&& BitVec.ofInt 64 1152921504606846975).toNat : Nat) = n % 1152921504606846976
  rw [key, IntKind.wrap_u64]
  omega
theorem i64_and63 (n : Int) : bits .and .i64 n 63 = n % 64 := by
  have h1 : (BitVec.ofInt 64 63).toNat = 2 ^ 6 - 1 := by decide
  have key : (BitVec.ofInt 64 n &&& BitVec.ofInt 64 63).toNat = (n % ((2 ^ 64 : Nat) : Int)).toNat % 2 ^ 6 := by
    rw [BitVec.toNat_and, BitVec.toNat_ofInt, h1, Nat.and_two_pow_sub_one_eq_mod]
  show IntKind.i64.wrap ((BitVec.ofInt 64 n &&& BitVec.ofInt 64 63).toNat : Nat) = n % 64
  rw [key, IntKind.wrap_i64]
  omega
end Go.Proofs.YtaochdmbbbighaaDoor
