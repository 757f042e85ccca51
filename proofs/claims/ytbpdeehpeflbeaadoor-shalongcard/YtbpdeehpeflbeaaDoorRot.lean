/-
  The statements' own digest: its closure and its constants.
-/
import Derived.Test.YtbpdeehpeflbeaaDoorHead
namespace Go.Proofs.YtbpdeehpeflbeaaDoor
open Go.RowKit

theorem rot_form2 (x n s : Nat) (hs : s + n = 32) (hx : x < 4294967296) :
    bits .or .u32 ((x : Int) / 2 ^ n) ((x : Int) * 2 ^ s % 4294967296) = ((rotr n x : Nat) : Int) := by
  have h1 : (x : Int) * 2 ^ s % 4294967296 = ((x * 2 ^ s % 4294967296 : Nat) : Int) := by simp
  have h2 : (x : Int) / 2 ^ n = ((x / 2 ^ n : Nat) : Int) := by simp
  rw [h1, h2, u32_or_nat _ _ (Nat.lt_of_le_of_lt (Nat.div_le_self _ _) hx) (Nat.mod_lt _ (by omega)), Nat.or_comm]
  unfold rotr
  rw [show 32 - n = s from by omega]

set_option maxHeartbeats 400000 in
theorem rot_any (x n : Nat) (hn : 1 ≤ n) (hn' : n ≤ 31) (hx : x < 4294967296) (w : World) :
    Calls Tryd.prog 17 #[.int .u32 x, .int .u64 n] w fun e w' => e = .returned (.int .u32 (rotr n x : Nat)) ∧ w = w' := by
  have h1 : (32 - (n : Int)) % 18446744073709551616 = ((32 - n : Nat) : Int) := by omega
  have h2 : (0 : Int) ≤ 32 - (n : Int) := by omega
  have h3 : IntKind.u64.wrap (32 - (n : Int)) = ((32 - n : Nat) : Int) := by rw [IntKind.wrap_u64]; omega
  go_enter Tryd.func17, Tryd.ntmps17
  go_wp2
  go_ret
  exact ⟨ret_int (rot_form2 x n (32 - n) (by omega) hx), rfl⟩

set_option maxHeartbeats 400000 in
set_option maxRecDepth 100000 in
theorem const_any (w : World) :
    Calls Tryd.prog 16 #[] w fun e w' => e = .returned (.slice (some ⟨w.heap.size, 0, none⟩) 64 64) ∧ w' = w.alloc (.cells (K.map U32).toArray 38) := by
  go_enter Tryd.func16, Tryd.ntmps16
  go_wp2
  go_ret
  exact ⟨rfl, rfl⟩

end Go.Proofs.YtbpdeehpeflbeaaDoor
