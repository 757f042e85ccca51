/-
  What was laid is read back: plain facts on the Reader's states.
-/
import Derived.Test.YtbpdeehpeflbeaaWlast
namespace Go.Proofs.Ytbpdeehpeflbeaa
open Go.RowKit

theorem rNum_enc (n : Nat) (h : n < 9223372036854775808) (most : Int) (hm : (n : Int) ≤ max most 0) (r : List UInt8) : rNum ⟨enc n ++ r, false⟩ most = (n, ⟨r, false⟩) := by
  unfold rNum
  simp only [Bool.false_eq_true, if_false, dec_enc n h r]
  rw [if_neg (by omega), List.drop_left]

theorem rInt_intB (n : Int) (h1 : -9223372036854775808 ≤ n) (h2 : n ≤ 9223372036854775807) (r : List UInt8) : rInt ⟨intB n ++ r, false⟩ = (n, ⟨r, false⟩) := by
  have hz := zig_lt n h1 h2
  unfold rInt intB
  rw [List.append_assoc, rNum_enc _ (by omega) _ (by omega)]
  simp only
  rw [rNum_enc _ (by omega) _ (by omega)]
  simp only [Bool.false_eq_true, if_false]
  rw [Nat.div_add_mod', zag_zig]

theorem encAll_one (n : Int) : encAll [n] = encI n := by simp [encAll]
theorem intAll_one (n : Int) : intAll [n] = intB n := by simp [intAll]

theorem WAt.keep_nil {base base' bw bw' : Nat} {w w' : World} (h : w.heap[bw]? = some (.cells #[.slice none 0 0] 28 (0, 0))) (hk : Kp base' bw' w w') (h1 : bw < base') (h2 : bw ≠ bw') : WAt base bw w' [] :=
  ⟨_, (hk.block bw h1 h2).trans h, World.ownsRow_nil _ _ _ _⟩

end Go.Proofs.Ytbpdeehpeflbeaa
