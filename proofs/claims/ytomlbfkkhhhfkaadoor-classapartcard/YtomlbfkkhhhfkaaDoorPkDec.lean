/-
  Plain facts on numbers read from bytes: the number at the beginning of a text, in its one form, and how many bytes it has.
-/
import Derived.Test.YtomlbfkkhhhfkaaDoorPkEnc
namespace Go.Proofs.YtomlbfkkhhhfkaaDoor.Pk

def decF : Nat → List UInt8 → Option (Nat × Nat)
  | 0, _ => none
  | _ + 1, [] => none
  | f + 1, c :: s => if c.toNat < 128 then some (c.toNat, 1) else
    match decF f s with
    | none => none
    | some (m, k) => if m = 0 then none else some (c.toNat - 128 + 128 * m, k + 1)

/-- the number at the beginning of a text, in nine bytes at most -/
def dec (s : List UInt8) : Option (Nat × Nat) := decF 9 s

/-- what has been read so far, joined to what is read behind it -/
def fin (i n : Nat) : Option (Nat × Nat) → Option (Nat × Nat)
  | none => none
  | some (m, k) => if m = 0 ∧ 0 < i then none else some (n + 128 ^ i * m, i + k)

theorem fin_zero (d : Option (Nat × Nat)) : fin 0 0 d = d := by
  rcases d with _ | ⟨m, k⟩ <;> simp [fin]

theorem fin_more (i n f : Nat) (c : UInt8) (s : List UInt8) (hc : 128 ≤ c.toNat) :
    fin i n (decF (f + 1) (c :: s)) = fin (i + 1) (n + 128 ^ i * (c.toNat - 128)) (decF f s) := by
  rw [decF, if_neg (by omega)]
  rcases decF f s with _ | ⟨m, k⟩
  · rfl
  · by_cases hm : m = 0
    · simp [fin, hm]
    · simp only [hm, if_false, fin, false_and]
      rw [if_neg (by omega), Nat.mul_add, Nat.pow_succ, Nat.mul_assoc, ← Nat.add_assoc, show i + (k + 1) = i + 1 + k from by omega]

theorem fin_last (i n f : Nat) (c : UInt8) (s : List UInt8) (hc : c.toNat < 128) :
    fin i n (decF (f + 1) (c :: s)) = if c.toNat = 0 ∧ 0 < i then none else some (n + 128 ^ i * c.toNat, i + 1) := by
  rw [decF, if_pos hc]; rfl

theorem fin_none (i n : Nat) (s : List UInt8) : fin i n (decF 0 s) = none := rfl
theorem fin_nil (i n f : Nat) : fin i n (decF f []) = none := by cases f <;> rfl

theorem toNat_ofNat (k : Nat) (h : k < 256) : (UInt8.ofNat k).toNat = k := by simp [Nat.mod_eq_of_lt h]

theorem decF_enc (f : Nat) : ∀ n, n < 128 ^ f → 1 ≤ f → ∀ r, decF f (enc n ++ r) = some (n, (enc n).length) := by
  induction f with
  | zero => intro n _ h; omega
  | succ f ih =>
    intro n hn _ r
    by_cases h : 127 < n
    · rw [enc_big h, List.cons_append, decF, toNat_ofNat _ (by omega), if_neg (by omega)]
      by_cases hf : f = 0
      · subst hf; simp at hn; omega
      · rw [ih (n / 128) (by rw [Nat.pow_succ] at hn; omega) (by omega) r]
        simp only
        rw [if_neg (by omega)]
        simp
        omega
    · rw [enc_small h, List.cons_append, decF, toNat_ofNat _ (by omega), if_pos (by omega)]
      simp

theorem dec_enc (n : Nat) (h : n < 9223372036854775808) (r : List UInt8) : dec (enc n ++ r) = some (n, (enc n).length) := decF_enc 9 n (by omega) (by omega) r

theorem decF_sound (f : Nat) : ∀ s n k, decF f s = some (n, k) → n < 128 ^ f ∧ k = (enc n).length ∧ s = enc n ++ s.drop k := by
  induction f with
  | zero => intro s n k h; simp [decF] at h
  | succ f ih =>
    intro s n k h
    cases s with
    | nil => simp [decF] at h
    | cons c s =>
      rw [decF] at h
      by_cases hc : c.toNat < 128
      · rw [if_pos hc] at h
        simp only [Option.some.injEq, Prod.mk.injEq] at h
        obtain ⟨rfl, rfl⟩ := h
        have hp : 0 < 128 ^ f := Nat.pow_pos (by omega)
        refine ⟨by rw [Nat.pow_succ]; omega, by rw [enc_small (by omega)]; rfl, ?_⟩
        rw [enc_small (by omega)]
        simp
      · rw [if_neg hc] at h
        rcases hd : decF f s with _ | ⟨m, j⟩
        · rw [hd] at h; simp at h
        · rw [hd] at h
          simp only at h
          by_cases hm : m = 0
          · rw [if_pos hm] at h; simp at h
          · rw [if_neg hm] at h
            simp only [Option.some.injEq, Prod.mk.injEq] at h
            obtain ⟨rfl, rfl⟩ := h
            obtain ⟨h1, h2, h3⟩ := ih s m j hd
            have hc2 : c.toNat < 256 := c.toNat_lt
            have hbig : 127 < c.toNat - 128 + 128 * m := by omega
            have hdiv : (c.toNat - 128 + 128 * m) / 128 = m := by omega
            have hmod : (c.toNat - 128 + 128 * m) % 128 + 128 = c.toNat := by omega
            refine ⟨by rw [Nat.pow_succ]; omega, by rw [enc_big hbig, hdiv, List.length_cons, ← h2], ?_⟩
            rw [enc_big hbig, hdiv, hmod, List.drop_succ_cons, List.cons_append, ← h3]
            simp

theorem dec_sound (s : List UInt8) (n k : Nat) (h : dec s = some (n, k)) : n < 9223372036854775808 ∧ k = (enc n).length ∧ s = enc n ++ s.drop k := by
  have := decF_sound 9 s n k h
  exact ⟨by omega, this.2⟩

end Go.Proofs.YtomlbfkkhhhfkaaDoor.Pk
