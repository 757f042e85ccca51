/-
  The statements' own marks.
-/
import Derived.Test.YtaochdmbbbighaaDoorWordLaw
import Derived.Laws.Bits128
namespace Go.Proofs.YtaochdmbbbighaaDoor
open Go.RowKit

theorem i64_and65535 (n : Int) : bits .and .i64 n 65535 = n % 65536 := by
  have h1 : (BitVec.ofInt 64 65535).toNat = 2 ^ 16 - 1 := by decide
  have key : (BitVec.ofInt 64 n &&& BitVec.ofInt 64 65535).toNat = (n % ((2 ^ 64 : Nat) : Int)).toNat % 2 ^ 16 := by
    rw [BitVec.toNat_and, BitVec.toNat_ofInt, h1, Nat.and_two_pow_sub_one_eq_mod]
  show IntKind.i64.wrap ((BitVec.ofInt 64 n &&& BitVec.ofInt 64 65535).toNat : Nat) = n % 65536
  rw [key, IntKind.wrap_i64]
  omega

def mkOf (n : Int) : Nat := ((n % 65536) % 22).toNat
theorem mkOf_lt (n : Int) : mkOf n < 22 := by unfold mkOf; omega

set_option maxHeartbeats 400000 in
set_option maxRecDepth 100000 in
theorem text_mark (n : Int) (w : World) :
    Calls Tryd.prog 13 #[.agg #[.int .i64 2, .int .i64 n, .int .i64 0]] w fun e w' => e = .returned (.tuple #[.string (str (marksL[mkOf n]'(mkOf_lt n))), .int .i64 5]) ∧ Below w.heap.size w w' := by
  have h1 := i64_and65535 n
  have h2 : bits .and .i64 2 3 = 2 := by decide
  obtain ⟨m, hm, hm0, hm1⟩ : ∃ m : Nat, n % 65536 = (m : Int) ∧ (m : Int) % 22 = (mkOf n : Int) ∧ m ≤ 65535 := ⟨(n % 65536).toNat, by omega, by unfold mkOf; omega, by omega⟩
  rw [hm] at h1
  have hk := mkOf_lt n
  clear hm
  go_enter Tryd.func13, Tryd.ntmps13
  go_wp2_with fail
  have hl : mkOf n < (marksL.map S8).length := hk
  have e : (marksL.map S8)[mkOf n]'hl = .string (str (marksL[mkOf n]'(mkOf_lt n))) := by rw [List.getElem_map]; rfl
  go_ret2
  exact ⟨by rw [← e]; rfl, ((Below.refl _ _).alloc (Nat.le_refl _) _).alloc (by simp) _⟩

/-- what is read of two marks with a blank between them -/
def twoT (i j : Nat) (hi : i < 22) (hj : j < 22) : List (Nat × Tok) := [(0, ⟨5, marksL[i]'hi, 0⟩), ((marksL[i]'hi).length + 1, ⟨5, marksL[j]'hj, 0⟩), ((marksL[i]'hi).length + 1 + (marksL[j]'hj).length, ⟨0, [], 0⟩)]
def twoB (i j : Nat) : Bool := if hi : i < 22 then if hj : j < 22 then decide (lexF ((marksL[i]'hi) ++ [32] ++ (marksL[j]'hj)) 6 0 = (twoT i j hi hj, none)) && decide (posC ((marksL[i]'hi) ++ [32] ++ (marksL[j]'hj)) ((marksL[i]'hi).length + 1) = (marksL[i]'hi).length + 2) && decide (((marksL[i]'hi) ++ [32] ++ (marksL[j]'hj)).length < 6) else true else true
theorem two_all : (List.range 22).all (fun i => (List.range 22).all (fun j => twoB i j)) = true := by decide +kernel
theorem two_one (i j : Nat) (hi : i < 22) (hj : j < 22) : Lx ((marksL[i]'hi) ++ [32] ++ (marksL[j]'hj)) 0 (twoT i j hi hj) none ∧ posC ((marksL[i]'hi) ++ [32] ++ (marksL[j]'hj)) ((marksL[i]'hi).length + 1) = (marksL[i]'hi).length + 2 ∧ ((marksL[i]'hi) ++ [32] ++ (marksL[j]'hj)).length < 6 := by
  have h := two_all
  rw [List.all_eq_true] at h
  have h1 := h i (List.mem_range.2 hi)
  rw [List.all_eq_true] at h1
  have h2 := h1 j (List.mem_range.2 hj)
  unfold twoB at h2
  rw [dif_pos hi, dif_pos hj, Bool.and_eq_true, Bool.and_eq_true, decide_eq_true_eq, decide_eq_true_eq, decide_eq_true_eq] at h2
  obtain ⟨⟨h3, h4⟩, h5⟩ := h2
  have h6 := Lx.fn ((marksL[i]'hi) ++ [32] ++ (marksL[j]'hj)) 6 0 (by omega) (by omega)
  rw [h3] at h6
  exact ⟨h6, h4, h5⟩
end Go.Proofs.YtaochdmbbbighaaDoor
