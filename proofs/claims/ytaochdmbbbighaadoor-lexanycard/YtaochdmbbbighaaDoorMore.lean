/-
  Texts behind tokens; tokens written again; two texts with a newline between.
-/
import Derived.Test.YtaochdmbbbighaaDoorFacts
namespace Go.Proofs.YtaochdmbbbighaaDoor

/-- a mark is no longer found behind a byte that is in none -/
theorem prefix_stop (m s r : Bs) (z : UInt8) (hz : z ∉ m) : m.isPrefixOf (s ++ z :: r) = m.isPrefixOf s := by
  induction m generalizing s with
  | nil => simp
  | cons x m ih =>
    simp only [List.mem_cons, not_or] at hz
    cases s with
    | nil =>
      have hx : (x == z) = false := by rw [beq_eq_false_iff_ne]; exact fun e => hz.1 e.symm
      simp only [List.nil_append, List.isPrefixOf_cons_cons, hx, Bool.false_and]
      rfl
    | cons y s => simp only [List.cons_append, List.isPrefixOf_cons_cons]; rw [ih s hz.2]
theorem tw_stop (p : UInt8 → Bool) (s r : Bs) (z : UInt8) (hz : p z = false) : (s ++ z :: r).takeWhile p = s.takeWhile p := by
  induction s with
  | nil => simp [hz]
  | cons y s ih => by_cases h : p y = true <;> simp [h, ih]
theorem tw_self (p : UInt8 → Bool) (s : Bs) (hs : ∀ c ∈ s, p c = true) : s.takeWhile p = s := by
  induction s with
  | nil => rfl
  | cons y s ih => rw [List.takeWhile_cons, if_pos (hs y (by simp)), ih (fun c hc => hs c (by simp [hc]))]
theorem tw_whole (p : UInt8 → Bool) (s r : Bs) (z : UInt8) (hs : ∀ c ∈ s, p c = true) (hz : p z = false) : (s ++ z :: r).takeWhile p = s := by
  rw [tw_stop p s r z hz]
  exact tw_self p s hs
theorem find_same {α : Type} {p q : α → Bool} (l : List α) (h : ∀ x ∈ l, p x = q x) : l.find? p = l.find? q := by
  induction l with
  | nil => rfl
  | cons x l ih =>
    rw [List.find?_cons, List.find?_cons, h x (by simp), ih (fun y hy => h y (by simp [hy]))]
theorem mark_stop (s r : Bs) (z : UInt8) (hz : ∀ m ∈ marksL, z ∉ m) : markT (s ++ z :: r) = markT s := by
  unfold markT
  rw [find_same marksL (fun m hm => prefix_stop m s r z (hz m hm))]
/-- the first token hangs on nothing behind a byte that is in none -/
theorem first_stop (c : UInt8) (s r : Bs) (z : UInt8) (h1 : inNm z = false) (h2 : isDg z = false) (hz : ∀ m ∈ marksL, z ∉ m) : first (c :: s ++ z :: r) = first (c :: s) := by
  have e1 := tw_stop inNm (c :: s) r z h1
  have e2 := tw_stop isDg (c :: s) r z h2
  have e3 := mark_stop (c :: s) r z hz
  simp only [List.cons_append] at e1 e2 e3 ⊢
  rw [first, first, e1, e2, e3]
theorem marks32 : ∀ m ∈ marksL, (32 : UInt8) ∉ m := by decide
theorem nm32 : inNm 32 = false := by decide
theorem dg32 : isDg 32 = false := by decide
theorem nm_of_up {c : UInt8} (h : isUp c = true) : inNm c = true := by unfold inNm; rw [h]; rfl
theorem nm_of_lo {c : UInt8} (h : isLo c = true) : inNm c = true := by unfold inNm; rw [h]; simp
theorem marks_self : ∀ m ∈ marksL, markT m = (⟨5, m, 0⟩, 0) := by decide +kernel
theorem marks_head : ∀ m ∈ marksL, ∀ c, m.head? = some c → isUp c = false ∧ isLo c = false ∧ isDg c = false := by decide +kernel
theorem name_same {k : Nat} {s : Bs} {t : Tok} (h : nameT k s = (t, 0)) (hk : k ≠ 0) : nameT k t.text = (t, 0) := by rw [(name_pos k hk s t h).2]; exact h
theorem num_same {s : Bs} {t : Tok} (h : numT s = (t, 0)) : numT t.text = (t, 0) := by rw [(num_pos s t h).2]; exact h
theorem mark_same {s : Bs} {t : Tok} (h : markT s = (t, 0)) : t.text ∈ marksL ∧ markT t.text = (t, 0) := by
  unfold markT at h
  split at h
  · rename_i m hm
    simp only [Prod.mk.injEq, and_true] at h
    subst h
    have := List.mem_of_find?_eq_some hm
    exact ⟨this, marks_self m this⟩
  · simp at h
theorem up_no {c : UInt8} (h : isUp c = true) : blank c = false ∧ (c == 47) = false := by
  have := (by simpa [isUp] using h : (65 : Int) ≤ (c.toNat : Int) ∧ (c.toNat : Int) ≤ 90)
  refine ⟨?_, ?_⟩
  · unfold blank
    simp only [Bool.or_eq_false_iff, beq_eq_false_iff_ne]
    refine ⟨⟨⟨?_, ?_⟩, ?_⟩, ?_⟩ <;> (rintro rfl; simp at this)
  · rw [beq_eq_false_iff_ne]; rintro rfl; simp at this
theorem lo_no {c : UInt8} (h : isLo c = true) : blank c = false ∧ (c == 47) = false := by
  have := (by simpa [isLo] using h : (97 : Int) ≤ (c.toNat : Int) ∧ (c.toNat : Int) ≤ 122)
  refine ⟨?_, ?_⟩
  · unfold blank
    simp only [Bool.or_eq_false_iff, beq_eq_false_iff_ne]
    refine ⟨⟨⟨?_, ?_⟩, ?_⟩, ?_⟩ <;> (rintro rfl; simp at this)
  · rw [beq_eq_false_iff_ne]; rintro rfl; simp at this
theorem dg_no {c : UInt8} (h : isDg c = true) : blank c = false ∧ (c == 47) = false := by
  have := (by simpa [isDg] using h : (48 : Int) ≤ (c.toNat : Int) ∧ (c.toNat : Int) ≤ 57)
  refine ⟨?_, ?_⟩
  · unfold blank
    simp only [Bool.or_eq_false_iff, beq_eq_false_iff_ne]
    refine ⟨⟨⟨?_, ?_⟩, ?_⟩, ?_⟩ <;> (rintro rfl; simp at this)
  · rw [beq_eq_false_iff_ne]; rintro rfl; simp at this
theorem skip_no (c : UInt8) (r : Bs) (h1 : blank c = false) (h2 : (c == 47) = false) : skipN false (c :: r) = 0 := by
  rw [skipN, h1, h2]; rfl
theorem marks_skip (m : Bs) (hm : m ∈ marksL) (r : Bs) : skipN false (m ++ 32 :: r) = 0 := by
  simp only [marksL, List.mem_cons, List.not_mem_nil, or_false] at hm
  rcases hm with rfl | rfl | rfl | rfl | rfl | rfl | rfl | rfl | rfl | rfl | rfl | rfl | rfl | rfl | rfl | rfl | rfl | rfl | rfl | rfl | rfl | rfl <;> rfl
/-- a token's text with a blank behind it is read as that token -/
theorem first_again {l : Bs} {t : Tok} (h : first l = (t, 0)) (hk : t.kind ≠ 0) (r : Bs) : skipN false (t.text ++ 32 :: r) = 0 ∧ first (t.text ++ 32 :: r) = (t, 0) := by
  cases l with
  | nil => exact absurd (by rw [← (Prod.mk.inj h).1]) hk
  | cons c l =>
    have hne := (first_cons c l t h).2
    have hfit := (fits_first (c :: l)).1
    rw [h] at hfit
    obtain ⟨s, hs⟩ : ∃ s, t.text = c :: s := by
      rcases ht : t.text with _ | ⟨d, s⟩
      · exact absurd ht hne
      · rw [ht] at hfit
        simp at hfit
        exact ⟨s, by rw [hfit.1]⟩
    have hst := first_stop c s r 32 nm32 dg32 marks32
    rw [hs, hst]
    rw [first] at h
    split at h
    · rename_i hc
      have e := (name_pos 2 (by decide) _ t h).2
      refine ⟨skip_no c _ (up_no hc).1 (up_no hc).2, ?_⟩
      rw [first, if_pos hc, ← hs, e, tw_self _ _ (takeWhile_all _ _)]
      exact h
    · rename_i hu
      split at h
      · rename_i hc
        have e := (name_pos 3 (by decide) _ t h).2
        refine ⟨skip_no c _ (lo_no hc).1 (lo_no hc).2, ?_⟩
        rw [first, if_neg hu, if_pos hc, ← hs, e, tw_self _ _ (takeWhile_all _ _)]
        exact h
      · rename_i hl
        split at h
        · rename_i hc
          have e := (num_pos _ t h).2
          refine ⟨skip_no c _ (dg_no hc).1 (dg_no hc).2, ?_⟩
          rw [first, if_neg hu, if_neg hl, if_pos hc, ← hs, e, tw_self _ _ (takeWhile_all _ _)]
          exact h
        · rename_i hd
          obtain ⟨h1, h2⟩ := mark_same h
          rw [hs] at h1 h2
          exact ⟨marks_skip _ h1 r, by rw [first, if_neg hu, if_neg hl, if_neg hd]; exact h2⟩
end Go.Proofs.YtaochdmbbbighaaDoor
