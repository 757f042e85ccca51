/-
  Ways up: why they stop, and what they are from the next one on.
-/
import Derived.Test.YtgnkkoeklipmiaaCheck
namespace Go.Proofs.Ytgnkkoeklipmiaa
open Go.RowKit
set_option linter.unusedVariables false

theorem lastD_snoc {α : Type} (l : List α) (x d : α) : (l ++ [x]).getLastD d = x := by simp
theorem up_stop {L : List Fc} : ∀ {n : Nat} {acc : List ByteArray} {s : ByteArray} {r : List ByteArray}, acc.Nodup → (∀ t ∈ acc, fnd L t ≠ none) → L.length + 1 ≤ n + acc.length → (acc = [] ∨ s = ((fnd L (acc.getLastD eE)).getD zF).sup) → upF L n acc s = (r, false) → r ≠ [] →
    (fnd L ((fnd L (r.getLastD eE)).getD zF).sup = none ∨ ((fnd L (r.getLastD eE)).getD zF).sup ∈ r) ∧ ∀ t ∈ r, fnd L t ≠ none
  | 0, acc, s, r, hn, ht, hl, _, _, _ => by have := acc_le hn ht; omega
  | n + 1, acc, s, r, hn, ht, hl, ha, h, hr => by
    by_cases hs : s = eE
    · subst hs
      rw [upF_end] at h
      cases h
    · cases hf : fnd L s with
      | none =>
        rw [upF_none hs hf] at h
        cases h
        rcases ha with ha | ha
        · exact absurd ha hr
        · rw [← ha]
          exact ⟨.inl hf, ht⟩
      | some x =>
        by_cases hm : s ∈ acc
        · rw [upF_twice hs hm] at h
          cases h
          rcases ha with ha | ha
          · exact absurd ha hr
          · rw [← ha]
            exact ⟨.inr hm, ht⟩
        · rw [upF_step hs hf hm] at h
          have hu : UInv L s [] s := UInv.start L s
          refine up_stop ?_ ?_ ?_ ?_ h hr
          · rw [List.nodup_append]
            exact ⟨hn, by simp, fun a hq b hb e => by simp at hb; subst hb; exact hm (e ▸ hq)⟩
          · intro t ht'
            rw [List.mem_append] at ht'
            rcases ht' with h1 | h1
            · exact ht t h1
            · simp at h1; subst h1; rw [hf]; simp
          · simp; omega
          · right
            rw [lastD_snoc, hf]
            rfl
theorem brk_eq {L : List Fc} {s : ByteArray} (hw : (ab L s).2 = false) (hr : (ab L s).1 ≠ []) : brk L ((ab L s).1.getLastD eE) = if ((fnd L ((ab L s).1.getLastD eE)).getD zF).sup ∈ (ab L s).1 then 26 else 23 := by
  obtain ⟨h1, h2⟩ := up_stop (L := L) (n := L.length + 1) (acc := []) (s := s) (r := (ab L s).1) (by simp) (by simp) (by simp) (.inl rfl) (by rw [← hw]; rfl) hr
  unfold brk
  generalize ((fnd L ((ab L s).1.getLastD eE)).getD zF).sup = nm at *
  by_cases hm : nm ∈ (ab L s).1
  · have := h2 nm hm
    cases hf : fnd L nm with
    | none => exact absurd hf this
    | some y => simp [hm]
  · have : fnd L nm = none := by rcases h1 with h1 | h1; exact h1; exact absurd h1 hm
    simp [hm, this]
theorem upF_nodup {L : List Fc} : ∀ {n : Nat} {acc : List ByteArray} {s : ByteArray}, acc.Nodup → (∀ t ∈ acc, fnd L t ≠ none) → (upF L n acc s).1.Nodup ∧ ∀ t ∈ (upF L n acc s).1, fnd L t ≠ none
  | 0, acc, s, hn, ht => ⟨hn, ht⟩
  | n + 1, acc, s, hn, ht => by
    by_cases hs : s = eE
    · subst hs
      rw [upF_end]
      exact ⟨hn, ht⟩
    · cases hf : fnd L s with
      | none => rw [upF_none hs hf]; exact ⟨hn, ht⟩
      | some x =>
        by_cases hm : s ∈ acc
        · rw [upF_twice hs hm]; exact ⟨hn, ht⟩
        · rw [upF_step hs hf hm]
          refine upF_nodup ?_ ?_
          · rw [List.nodup_append]
            exact ⟨hn, by simp, fun a hq b hb e => by simp at hb; subst hb; exact hm (e ▸ hq)⟩
          · intro t ht'
            rw [List.mem_append] at ht'
            rcases ht' with h1 | h1
            · exact ht t h1
            · simp at h1; subst h1; rw [hf]; simp
theorem ch_up {L : List Fc} : ∀ {l acc : List ByteArray} {s : ByteArray} {n : Nat}, Ch L s l → (acc ++ l).Nodup → l.length + 1 ≤ n → upF L n acc s = (acc ++ l, true)
  | [], acc, s, n, h, hn, hl => by
    cases h
    obtain ⟨m, rfl⟩ : ∃ m, n = m + 1 := ⟨n - 1, by omega⟩
    rw [upF_end]
    simp
  | x :: l, acc, s, n, h, hn, hl => by
    cases h with
    | cons h1 h2 h3 =>
      obtain ⟨m, rfl⟩ : ∃ m, n = m + 1 := ⟨n - 1, by omega⟩
      have hm : x ∉ acc := fun hm => by
        rw [List.nodup_append] at hn
        exact hn.2.2 x hm x (by simp) rfl
      rw [upF_step h1 h2 hm, ch_up h3 (by simpa using hn) (by simp at hl; omega)]
      simp
theorem ab_tail {L : List Fc} {s x : ByteArray} {l : List ByteArray} (hw : (ab L s).2 = true) (hl : (ab L s).1 = x :: l) : x = s ∧ s ≠ eE ∧ ∃ f, fnd L s = some f ∧ (ab L f.sup).1 = l := by
  have hc := ab_ch hw
  obtain ⟨hn, ht⟩ := upF_nodup (L := L) (n := L.length + 1) (acc := []) (s := s) (by simp) (by simp)
  have hn' : (ab L s).1.Nodup := hn
  have ht' : ∀ t ∈ (ab L s).1, fnd L t ≠ none := ht
  rw [hl] at hc hn' ht'
  cases hc with
  | cons h1 h2 h3 =>
    refine ⟨rfl, h1, _, h2, ?_⟩
    rw [List.nodup_cons] at hn'
    have hle := acc_le hn'.2 (fun t h => ht' t (by simp [h]))
    unfold ab
    rw [ch_up h3 (by simpa using hn'.2) (by omega)]
    simp
theorem ab_nil {L : List Fc} {s : ByteArray} (h : fnd L s = none ∨ s = eE) : (ab L s).1 = [] := by
  unfold ab
  by_cases hs : s = eE
  · rw [hs, upF_end]
  · rcases h with h | h
    · rw [upF_none hs h]
    · exact absurd h hs
theorem up_len {L : List Fc} : ∀ {n : Nat} {acc : List ByteArray} {s : ByteArray}, acc.length ≤ (upF L n acc s).1.length
  | 0, acc, s => Nat.le_refl _
  | n + 1, acc, s => by
    by_cases hs : s = eE
    · subst hs; rw [upF_end]; exact Nat.le_refl _
    · cases hf : fnd L s with
      | none => rw [upF_none hs hf]; exact Nat.le_refl _
      | some x =>
        by_cases hm : s ∈ acc
        · rw [upF_twice hs hm]; exact Nat.le_refl _
        · rw [upF_step hs hf hm]
          have := up_len (L := L) (n := n) (acc := acc ++ [s]) (s := x.sup)
          simp at this
          omega
theorem ab_cons {L : List Fc} {s : ByteArray} {f : Fc} (h : fnd L s = some f) (hs : s ≠ eE) : (ab L s).1 ≠ [] := by
  unfold ab
  rw [upF_step hs h (by simp)]
  have := up_len (L := L) (n := L.length) (acc := [] ++ [s]) (s := f.sup)
  intro e
  rw [e] at this
  simp at this
end Go.Proofs.Ytgnkkoeklipmiaa
