/-
  Plain facts on numbers as bytes: seven bits each byte, the lowest ones first. Nothing of the program is named here.
-/
namespace Go.Proofs.YtomlbfkkhhhfkaaDoor.Pk

/-- seven bits each byte, with fuel -/
def encF : Nat → Nat → List UInt8
  | 0, n => [UInt8.ofNat n]
  | f + 1, n => if 127 < n then UInt8.ofNat (n % 128 + 128) :: encF f (n / 128) else [UInt8.ofNat n]

theorem encF_more (f : Nat) : ∀ g n : Nat, n < f → n < g → encF f n = encF g n := by
  induction f with
  | zero => intro g n h; omega
  | succ f ih =>
    intro g n h1 h2
    cases g with
    | zero => omega
    | succ g =>
      unfold encF
      by_cases hn : 127 < n
      · rw [if_pos hn, if_pos hn, ih g (n / 128) (by omega) (by omega)]
      · rw [if_neg hn, if_neg hn]

/-- a number as bytes -/
def enc (n : Nat) : List UInt8 := encF (n + 1) n

theorem enc_big {n : Nat} (h : 127 < n) : enc n = UInt8.ofNat (n % 128 + 128) :: enc (n / 128) := by
  show encF (n + 1) n = _
  rw [encF, if_pos h]
  unfold enc
  rw [encF_more n (n / 128 + 1) (n / 128) (by omega) (by omega)]

theorem enc_small {n : Nat} (h : ¬ 127 < n) : enc n = [UInt8.ofNat n] := by
  show encF (n + 1) n = _
  rw [encF, if_neg h]

theorem enc_pos (n : Nat) : 1 ≤ (enc n).length := by
  by_cases h : 127 < n
  · rw [enc_big h]; simp
  · rw [enc_small h]; simp

theorem enc_len (k : Nat) : ∀ n, n < 128 ^ k → 1 ≤ k → (enc n).length ≤ k := by
  induction k with
  | zero => intro n _ h; omega
  | succ k ih =>
    intro n hn _
    by_cases h : 127 < n
    · rw [enc_big h]
      by_cases hk : k = 0
      · subst hk; simp at hn; omega
      · have := ih (n / 128) (by rw [Nat.pow_succ] at hn; omega) (by omega)
        simp; omega
    · rw [enc_small h]; simp

theorem enc_len9 (n : Nat) (h : n < 9223372036854775808) : (enc n).length ≤ 9 :=
  enc_len 9 n (by omega) (by omega)

end Go.Proofs.YtomlbfkkhhhfkaaDoor.Pk
