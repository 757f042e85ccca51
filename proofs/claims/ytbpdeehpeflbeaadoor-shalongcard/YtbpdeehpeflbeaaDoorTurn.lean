/-
  turn: to the right, what falls out comes in on the left.
-/
import Derived.Test.YtbpdeehpeflbeaaDoorProg
import Derived.Test.YtbpdeehpeflbeaaDoorSpec
import Derived.WalkKit
import Derived.Lib.Hide
namespace Go.Proofs.YtbpdeehpeflbeaaDoor
open Go.RowKit

theorem and31 (n s : Nat) (hn : 1 ≤ n) (hn' : n ≤ 31) (hs : s + n = 32) : bits .and .u64 (IntKind.u64.wrap (-(n : Int))) 31 = (s : Int) := by
  have e : IntKind.u64.wrap (-(n : Int)) = ((18446744073709551616 - n : Nat) : Int) := by rw [IntKind.wrap_u64]; omega
  rw [e]
  have h := u64_and_nat (18446744073709551616 - n) 31 (by omega) (by omega)
  rw [nat_mask5] at h
  rw [show ((31 : Nat) : Int) = 31 from rfl] at h
  rw [h]
  omega

theorem rotr_lt (n x : Nat) (hx : x < 4294967296) : rotr n x < 4294967296 := by
  unfold rotr
  exact Nat.or_lt_two_pow (n := 32) (Nat.mod_lt _ (by omega)) (Nat.lt_of_le_of_lt (Nat.div_le_self _ _) hx)

theorem rot_form (x n s : Nat) (hs : s + n = 32) (hx : x < 4294967296) :
    bits .or .u32 ((x : Int) * 2 ^ s % 4294967296) ((x : Int) / 2 ^ (32 - s)) = ((rotr n x : Nat) : Int) := by
  have h1 : (x : Int) * 2 ^ s % 4294967296 = ((x * 2 ^ s % 4294967296 : Nat) : Int) := by simp
  have h2 : (x : Int) / 2 ^ (32 - s) = ((x / 2 ^ (32 - s) : Nat) : Int) := by simp
  rw [h1, h2, u32_or_nat _ _ (Nat.mod_lt _ (by omega)) (Nat.lt_of_le_of_lt (Nat.div_le_self _ _) hx)]
  unfold rotr
  rw [show 32 - n = s from by omega, show 32 - s = n from by omega]

theorem ret_int {k : IntKind} {a b : Int} (h : a = b) : Ending.returned (.int k a) = .returned (.int k b) := by rw [h]

set_option maxHeartbeats 400000 in
theorem rotn (x n s : Nat) (hn : 1 ≤ n) (hn' : n ≤ 31) (hsn : Hid (s + n = 32)) (hs1 : 1 ≤ s) (hs2 : s ≤ 31) (hx : x < 4294967296) (w : World) :
    Calls Tryd.prog 23 #[.int .u32 x, .int .i64 (-(n : Int))] w fun e w' => e = .returned (.int .u32 (rotr n x : Nat)) ∧ w = w' := by
  have hs := and31 n s hn hn' hsn.out
  go_enter Tryd.func23, Tryd.ntmps23
  go_wp2
  go_ret
  exact ⟨ret_int (rot_form x n s hsn.out hx), rfl⟩

set_option maxHeartbeats 400000 in
theorem turn_any (x n : Nat) (hn : 1 ≤ n) (hn' : n ≤ 31) (hx : x < 4294967296) (w : World) :
    Calls Tryd.prog 22 #[.int .u32 x, .int .i64 n] w fun e w' => e = .returned (.int .u32 (rotr n x : Nat)) ∧ w = w' := by
  go_enter Tryd.func22, Tryd.ntmps22
  go_wp2_with fail
  refine (rotn x n (32 - n) hn hn' (Lib.hid (by omega)) (by omega) (by omega) hx w).mono ?_
  rintro e w' ⟨rfl, rfl⟩
  go_wp2
  go_ret
  exact ⟨rfl, rfl⟩

theorem turn_lit (n : Nat) (c : Int) (hc : c = (n : Int)) (hn : 1 ≤ n) (hn' : n ≤ 31) (x : Nat) (hx : x < 4294967296) (w : World) :
    Calls Tryd.prog 22 #[.int .u32 x, .int .i64 c] w fun e w' => e = .returned (.int .u32 (rotr n x : Nat)) ∧ w = w' := by
  subst hc
  exact turn_any x n hn hn' hx w
theorem turn_2 (x : Nat) (hx : x < 4294967296) (w : World) : Calls Tryd.prog 22 #[.int .u32 x, .int .i64 2] w fun e w' => e = .returned (.int .u32 (rotr 2 x : Nat)) ∧ w = w' := turn_lit 2 2 rfl (by omega) (by omega) x hx w
theorem turn_6 (x : Nat) (hx : x < 4294967296) (w : World) : Calls Tryd.prog 22 #[.int .u32 x, .int .i64 6] w fun e w' => e = .returned (.int .u32 (rotr 6 x : Nat)) ∧ w = w' := turn_lit 6 6 rfl (by omega) (by omega) x hx w
theorem turn_7 (x : Nat) (hx : x < 4294967296) (w : World) : Calls Tryd.prog 22 #[.int .u32 x, .int .i64 7] w fun e w' => e = .returned (.int .u32 (rotr 7 x : Nat)) ∧ w = w' := turn_lit 7 7 rfl (by omega) (by omega) x hx w
theorem turn_11 (x : Nat) (hx : x < 4294967296) (w : World) : Calls Tryd.prog 22 #[.int .u32 x, .int .i64 11] w fun e w' => e = .returned (.int .u32 (rotr 11 x : Nat)) ∧ w = w' := turn_lit 11 11 rfl (by omega) (by omega) x hx w
theorem turn_13 (x : Nat) (hx : x < 4294967296) (w : World) : Calls Tryd.prog 22 #[.int .u32 x, .int .i64 13] w fun e w' => e = .returned (.int .u32 (rotr 13 x : Nat)) ∧ w = w' := turn_lit 13 13 rfl (by omega) (by omega) x hx w
theorem turn_17 (x : Nat) (hx : x < 4294967296) (w : World) : Calls Tryd.prog 22 #[.int .u32 x, .int .i64 17] w fun e w' => e = .returned (.int .u32 (rotr 17 x : Nat)) ∧ w = w' := turn_lit 17 17 rfl (by omega) (by omega) x hx w
theorem turn_18 (x : Nat) (hx : x < 4294967296) (w : World) : Calls Tryd.prog 22 #[.int .u32 x, .int .i64 18] w fun e w' => e = .returned (.int .u32 (rotr 18 x : Nat)) ∧ w = w' := turn_lit 18 18 rfl (by omega) (by omega) x hx w
theorem turn_19 (x : Nat) (hx : x < 4294967296) (w : World) : Calls Tryd.prog 22 #[.int .u32 x, .int .i64 19] w fun e w' => e = .returned (.int .u32 (rotr 19 x : Nat)) ∧ w = w' := turn_lit 19 19 rfl (by omega) (by omega) x hx w
theorem turn_22 (x : Nat) (hx : x < 4294967296) (w : World) : Calls Tryd.prog 22 #[.int .u32 x, .int .i64 22] w fun e w' => e = .returned (.int .u32 (rotr 22 x : Nat)) ∧ w = w' := turn_lit 22 22 rfl (by omega) (by omega) x hx w
theorem turn_25 (x : Nat) (hx : x < 4294967296) (w : World) : Calls Tryd.prog 22 #[.int .u32 x, .int .i64 25] w fun e w' => e = .returned (.int .u32 (rotr 25 x : Nat)) ∧ w = w' := turn_lit 25 25 rfl (by omega) (by omega) x hx w

theorem turnq_6 (x : Nat) (hx : x < 4294967296) (w : World) : Calls Tryd.prog 22 #[.int .u32 x, .int .i64 6] w fun e w' => e = .returned (.int .u32 (rotr 6 x : Nat)) ∧ w' = w := (turn_6 x hx w).mono fun _ _ h => ⟨h.1, h.2.symm⟩
theorem turnq_11 (x : Nat) (hx : x < 4294967296) (w : World) : Calls Tryd.prog 22 #[.int .u32 x, .int .i64 11] w fun e w' => e = .returned (.int .u32 (rotr 11 x : Nat)) ∧ w' = w := (turn_11 x hx w).mono fun _ _ h => ⟨h.1, h.2.symm⟩
theorem turnq_25 (x : Nat) (hx : x < 4294967296) (w : World) : Calls Tryd.prog 22 #[.int .u32 x, .int .i64 25] w fun e w' => e = .returned (.int .u32 (rotr 25 x : Nat)) ∧ w' = w := (turn_25 x hx w).mono fun _ _ h => ⟨h.1, h.2.symm⟩
theorem add32_lt (a b : Nat) : add32 a b < 4294967296 := Nat.mod_lt _ (by omega)
theorem xor_lt {a b : Nat} (ha : a < 4294967296) (hb : b < 4294967296) : a ^^^ b < 4294967296 := Nat.xor_lt_two_pow (n := 32) ha hb
theorem and_lt {a b : Nat} (hb : b < 4294967296) : a &&& b < 4294967296 := Nat.and_lt_two_pow (n := 32) _ hb
theorem shr_lt {a : Nat} (ha : a < 4294967296) (k : Nat) : a / k < 4294967296 := Nat.lt_of_le_of_lt (Nat.div_le_self _ _) ha

end Go.Proofs.YtbpdeehpeflbeaaDoor
