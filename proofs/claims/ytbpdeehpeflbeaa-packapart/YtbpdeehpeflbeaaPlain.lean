/-
  Plain facts: unlike rows of as many numbers have unlike bytes, and none is the beginning of the other.
-/
import Derived.Test.YtbpdeehpeflbeaaNum
namespace Go.Proofs.Ytbpdeehpeflbeaa

theorem enc_mono : ∀ (m n : Nat), m ≤ n → (enc m).length ≤ (enc n).length := by
  intro m
  induction m using Nat.strongRecOn with
  | ind m ih =>
    intro n h
    by_cases hm : 127 < m
    · rw [enc_big hm, enc_big (show 127 < n by omega), List.length_cons, List.length_cons]
      have := ih (m / 128) (by omega) (n / 128) (by omega)
      omega
    · rw [enc_small hm]
      exact enc_pos n

theorem encAll_cons (z : Int) (zs : List Int) : encAll (z :: zs) = enc z.toNat ++ encAll zs := by simp [encAll, encI]

theorem encAll_inj : ∀ (a b : List Int) (r s : List UInt8), a.length = b.length → (∀ z ∈ a, z ≤ 9223372036854775807) → (∀ z ∈ b, z ≤ 9223372036854775807) →
    encAll a ++ r = encAll b ++ s → a.map Int.toNat = b.map Int.toNat := by
  intro a
  induction a with
  | nil => intro b r s h _ _ _; cases b <;> simp_all
  | cons x a ih =>
    intro b r s h ha hb he
    cases b with
    | nil => simp at h
    | cons y b =>
      rw [encAll_cons, encAll_cons, List.append_assoc, List.append_assoc] at he
      have hx := ha x (by simp)
      have hy := hb y (by simp)
      have h1 := dec_enc x.toNat (by omega) (encAll a ++ r)
      have h2 := dec_enc y.toNat (by omega) (encAll b ++ s)
      rw [he, h2] at h1
      simp only [Option.some.injEq, Prod.mk.injEq] at h1
      have hxy : y.toNat = x.toNat := h1.1
      rw [hxy] at he
      have ht := List.append_cancel_left he
      have := ih b r s (by simpa using h) (fun z hz => ha z (by simp [hz])) (fun z hz => hb z (by simp [hz])) ht
      simp [this, hxy]

theorem encAll_of_same (a b : List Int) (h : a.map Int.toNat = b.map Int.toNat) : encAll a = encAll b := by
  have e : ∀ l : List Int, encAll l = (l.map Int.toNat).flatMap enc := by
    intro l
    rw [List.flatMap_map]
    rfl
  rw [e, e, h]

/-- are the first k alike? -/
def sameTo (a b : List Int) (k : Nat) : Bool := decide ((a.take k).map Int.toNat = (b.take k).map Int.toNat)

theorem sameTo_succ (a b : List Int) (k : Nat) (ha : k < a.length) (hb : k < b.length) : sameTo a b (k + 1) = (sameTo a b k && ((max a[k] 0) == (max b[k] 0))) := by
  have h1 : (max a[k] 0 == max b[k] 0) = decide (a[k].toNat = b[k].toNat) := by
    by_cases h : a[k].toNat = b[k].toNat
    · rw [decide_eq_true h, beq_iff_eq]; omega
    · rw [decide_eq_false h, beq_eq_false_iff_ne]; omega
  rw [h1]
  unfold sameTo
  rw [List.take_succ_eq_append_getElem ha, List.take_succ_eq_append_getElem hb, List.map_append, List.map_append, ← Bool.decide_and]
  congr 1
  simp only [List.map_cons, List.map_nil, eq_iff_iff]
  constructor
  · intro h
    have hl : ((a.take k).map Int.toNat).length = ((b.take k).map Int.toNat).length := by simp; omega
    have := List.append_inj h hl
    simpa using this
  · rintro ⟨h, h'⟩; rw [h, h']

theorem same_whole (a b : List Int) (hab : a.length = b.length) (ha : ∀ z ∈ a, z ≤ 9223372036854775807) (hb : ∀ z ∈ b, z ≤ 9223372036854775807) :
    sameTo a b a.length = decide (encAll a = encAll b) := by
  unfold sameTo
  rw [List.take_of_length_le (Nat.le_refl _), List.take_of_length_le (by omega)]
  congr 1
  rw [eq_iff_iff]
  exact ⟨encAll_of_same a b, fun h => encAll_inj a b [] [] hab ha hb (by rw [h])⟩

theorem same_begin (a b : List Int) (hab : a.length = b.length) (ha : ∀ z ∈ a, z ≤ 9223372036854775807) (hb : ∀ z ∈ b, z ≤ 9223372036854775807) (n : Nat) (hn : n = min (encAll a).length (encAll b).length) :
    decide (encAll a = encAll b) = decide ((encAll a).take n = (encAll b).take n) := by
  congr 1
  rw [eq_iff_iff]
  constructor
  · intro h; rw [h]
  · intro h
    apply encAll_of_same
    rcases Nat.le_total (encAll a).length (encAll b).length with hl | hl
    · refine encAll_inj a b ((encAll b).drop n) [] hab ha hb ?_
      rw [List.take_of_length_le (by omega)] at h
      rw [h, List.take_append_drop, List.append_nil]
    · refine encAll_inj a b [] ((encAll a).drop n) hab ha hb ?_
      rw [List.take_of_length_le (l := encAll b) (by omega)] at h
      rw [← h, List.take_append_drop, List.append_nil]

end Go.Proofs.Ytbpdeehpeflbeaa
