/-
  Numbers of 64 bits, cut to their last bits; the names of a disk.
-/
import Derived.Test.YtecegjdnodcamaaNames
import Derived.Laws.Bits128
namespace Go.Proofs.Ytecegjdnodcamaa
open Go.RowKit Go.Maps Go.Sort

/-- what names are there: none without power -/
def nmS (S : DS) : List (List UInt8) := if S.down then [] else sk S.now

set_option maxHeartbeats 400000 in
theorem names_own {w : World} {n bd : Nat} {ex : Nat → Prop} {S : DS} (h : Own n ex w bd S) :
    Calls Try.prog 28 #[.pointer (some ⟨bd, 0, none⟩)] w fun e w' => ∃ A cap, e = .returned (.slice A (nmS S).length cap) ∧ w'.ownsRow w.heap.size 9 1 (.slice A (nmS S).length cap) (nmS S).length ((nmS S).map encStr) ∧ Below w.heap.size w w' := by
  obtain ⟨fp, ⟨vn, vs, cv, h, _⟩, _⟩ := h
  have HC := Lib.hid (down_dv w bd vn vs cv S h)
  have c1 : w.cell? ⟨bd, 1, none⟩ = some vn := h.blk.cell 1
  cases hd : S.down
  · rw [hd] at HC
    have HE : Hid (nmS S = sk S.now) := Lib.hid (by simp [nmS, hd])
    rw [HE.out]
    have HN : Hid (Calls Try.prog 38 #[.pointer (some ⟨bd, 1, none⟩)] w fun e w' => ∃ (g cap : Nat), e = .returned (.slice (some ⟨g, 0, none⟩) (sk S.now).length cap) ∧
      w'.ownsRow w.heap.size 9 1 (.slice (some ⟨g, 0, none⟩) (sk S.now).length cap) (sk S.now).length ((sk S.now).map encStr) ∧ Below w.heap.size w w') := Lib.hid (by
        rcases h.now with ⟨e1, e2⟩ | ⟨bm, e1, hown⟩
        · rw [e1] at c1
          have e3 : sk S.now = [] := by rw [e2]; exact List.eq_nil_of_length_eq_zero (by rw [sk_len]; rfl)
          rw [e3]
          exact names_nil w bd 1 c1
        · exact names_some w bd 1 vn S.now c1 bm e1 _ hown (by have := h.ok.sizen; omega))
    clear h hd
    go_enter Try.func28, Try.ntmps28
    go_wp2_with fail
    refine HC.out.mono ?_
    rintro e w1 ⟨rfl, rfl⟩
    go_wp2_with fail
    refine HN.out.mono ?_
    rintro e w2 ⟨g, cap, rfl, hrow, hb⟩
    go_wp2
    go_ret
    exact ⟨_, _, rfl, hrow, hb⟩
  · rw [hd] at HC
    have HE : Hid (nmS S = []) := Lib.hid (by simp [nmS, hd])
    rw [HE.out]
    clear h hd
    go_enter Try.func28, Try.ntmps28
    go_wp2_with fail
    refine HC.out.mono ?_
    rintro e w1 ⟨rfl, rfl⟩
    go_wp2
    go_ret
    exact ⟨none, 0, rfl, World.ownsRow_nil _ _ _ _, Below.refl _ _⟩

theorem i64_and3 (n : Int) : bits .and .i64 n 3 = n % 4 := by
  have h1 : (BitVec.ofInt 64 3).toNat = 2 ^ 2 - 1 := by decide
  have key : (BitVec.ofInt 64 n &&& BitVec.ofInt 64 3).toNat = (n % ((2 ^ 64 : Nat) : Int)).toNat % 2 ^ 2 := by
    rw [BitVec.toNat_and, BitVec.toNat_ofInt, h1, Nat.and_two_pow_sub_one_eq_mod]
  show IntKind.i64.wrap ((BitVec.ofInt 64 n &&& BitVec.ofInt 64 3).toNat : Nat) = n % 4
  rw [key, IntKind.wrap_i64]
  omega
theorem i64_and31 (n : Int) : bits .and .i64 n 31 = n % 32 := by
  have h1 : (BitVec.ofInt 64 31).toNat = 2 ^ 5 - 1 := by decide
  have key : (BitVec.ofInt 64 n &&& BitVec.ofInt 64 31).toNat = (n % ((2 ^ 64 : Nat) : Int)).toNat % 2 ^ 5 := by
    rw [BitVec.toNat_and, BitVec.toNat_ofInt, h1, Nat.and_two_pow_sub_one_eq_mod]
  show IntKind.i64.wrap ((BitVec.ofInt 64 n &&& BitVec.ofInt 64 31).toNat : Nat) = n % 32
  rw [key, IntKind.wrap_i64]
  omega
theorem i64_and255 (n : Int) : bits .and .i64 n 255 = n % 256 := by
  have h1 : (BitVec.ofInt 64 255).toNat = 2 ^ 8 - 1 := by decide
  have key : (BitVec.ofInt 64 n &&& BitVec.ofInt 64 255).toNat = (n % ((2 ^ 64 : Nat) : Int)).toNat % 2 ^ 8 := by
    rw [BitVec.toNat_and, BitVec.toNat_ofInt, h1, Nat.and_two_pow_sub_one_eq_mod]
  show IntKind.i64.wrap ((BitVec.ofInt 64 n &&& BitVec.ofInt 64 255).toNat : Nat) = n % 256
  rw [key, IntKind.wrap_i64]
  omega
theorem i64_and1023 (n : Int) : bits .and .i64 n 1023 = n % 1024 := by
  have h1 : (BitVec.ofInt 64 1023).toNat = 2 ^ 10 - 1 := by decide
  have key : (BitVec.ofInt 64 n &&& BitVec.ofInt 64 1023).toNat = (n % ((2 ^ 64 : Nat) : Int)).toNat % 2 ^ 10 := by
    rw [BitVec.toNat_and, BitVec.toNat_ofInt, h1, Nat.and_two_pow_sub_one_eq_mod]
  show IntKind.i64.wrap ((BitVec.ofInt 64 n &&& BitVec.ofInt 64 1023).toNat : Nat) = n % 1024
  rw [key, IntKind.wrap_i64]
  omega

end Go.Proofs.Ytecegjdnodcamaa
