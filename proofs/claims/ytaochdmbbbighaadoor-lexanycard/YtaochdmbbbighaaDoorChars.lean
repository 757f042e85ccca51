/-
  Bytes that are letters, digits; the bytes at a text's beginning that are all of one kind.
-/
import Derived.Test.YtaochdmbbbighaaDoorProg
import Derived.Test.YtaochdmbbbighaaDoorSpec
import Derived.WalkKit
import Derived.Lib.Hide
import Derived.Outline
namespace Go.Proofs.YtaochdmbbbighaaDoor
open Go.RowKit

theorem up_any (c : UInt8) (w : World) : Calls Tryd.prog 26 #[.int .u8 (c.toNat : Int)] w fun e w' => e = .returned (.bool (isUp c)) ∧ w = w' := by
  by_cases h : 65 ≤ (c.toNat : Int)
  all_goals
    go_enter Tryd.func26, Tryd.ntmps26
    go_wp2
    go_ret
    exact ⟨by simp [isUp, h] <;> omega, rfl⟩
theorem lo_any (c : UInt8) (w : World) : Calls Tryd.prog 30 #[.int .u8 (c.toNat : Int)] w fun e w' => e = .returned (.bool (isLo c)) ∧ w = w' := by
  by_cases h : 97 ≤ (c.toNat : Int)
  all_goals
    go_enter Tryd.func30, Tryd.ntmps30
    go_wp2
    go_ret
    exact ⟨by simp [isLo, h] <;> omega, rfl⟩
theorem dg_any (c : UInt8) (w : World) : Calls Tryd.prog 31 #[.int .u8 (c.toNat : Int)] w fun e w' => e = .returned (.bool (isDg c)) ∧ w = w' := by
  by_cases h : 48 ≤ (c.toNat : Int)
  all_goals
    go_enter Tryd.func31, Tryd.ntmps31
    go_wp2
    go_ret
    exact ⟨by simp [isDg, h] <;> omega, rfl⟩
theorem nm_any (c : UInt8) (w : World) : Calls Tryd.prog 29 #[.int .u8 (c.toNat : Int)] w fun e w' => e = .returned (.bool (inNm c)) ∧ w = w' := by
  by_cases h1 : isUp c = true <;> by_cases h2 : isLo c = true <;> by_cases h3 : isDg c = true
  all_goals
    go_enter Tryd.func29, Tryd.ntmps29
    go_wp2_with (first
      | (go_at_call 26; refine (up_any _ _).mono ?_; rintro e w' ⟨rfl, rfl⟩)
      | (go_at_call 30; refine (lo_any _ _).mono ?_; rintro e w' ⟨rfl, rfl⟩)
      | (go_at_call 31; refine (dg_any _ _).mono ?_; rintro e w' ⟨rfl, rfl⟩))
    go_ret
    exact ⟨by simp [inNm, h1, h2, h3], rfl⟩
end Go.Proofs.YtaochdmbbbighaaDoor
