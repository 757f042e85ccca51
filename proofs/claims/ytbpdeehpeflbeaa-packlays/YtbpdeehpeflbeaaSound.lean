/-
  Plain facts: what is read stands there, in its one form.
-/
import Derived.Test.YtbpdeehpeflbeaaLayp
namespace Go.Proofs.Ytbpdeehpeflbeaa
open Go.RowKit

theorem rNum_sound (s : List UInt8) (most : Int) (h : (rNum ⟨s, false⟩ most).2.bad = false) :
    (rNum ⟨s, false⟩ most).1 < 9223372036854775808 ∧ ((rNum ⟨s, false⟩ most).1 : Int) ≤ max most 0 ∧ s = enc (rNum ⟨s, false⟩ most).1 ++ (rNum ⟨s, false⟩ most).2.s := by
  unfold rNum at h ⊢
  simp only [Bool.false_eq_true, if_false] at h ⊢
  rcases hd : dec s with _ | ⟨n, k⟩
  · rw [hd] at h; simp at h
  · rw [hd] at h
    simp only at h ⊢
    by_cases hm : max most 0 < (n : Int)
    · rw [if_pos hm] at h; simp at h
    · rw [if_neg hm]
      obtain ⟨h1, h2, h3⟩ := dec_sound _ _ _ hd
      exact ⟨h1, by simp only; omega, h3⟩

theorem St.eq_of {st : St} (h : st.bad = false) : st = ⟨st.s, false⟩ := by cases st; simp only at h; rw [h]
theorem bad_num (st : St) (h : st.bad = true) (most : Int) : rNum st most = (0, st) := by unfold rNum; rw [h]; rfl
theorem bad_many (st : St) (h : st.bad = true) (most : Int) : rMany st most = (0, st) := by unfold rMany; rw [bad_num st h]; simp [h]
theorem bad_text (st : St) (h : st.bad = true) (most : Int) : rText st most = ([], st) := by unfold rText; rw [bad_many st h]; simp [h]
theorem bad_flag (st : St) (h : st.bad = true) : rFlag st = (false, st) := by unfold rFlag; rw [bad_num st h]; rfl
theorem bad_int (st : St) (h : st.bad = true) : rInt st = (0, st) := by unfold rInt; rw [bad_num st h]; simp only; rw [bad_num st h]; simp [h]

theorem kindOf_small (κ : Nat) (h : κ < 4) : kindOf (κ : Int) = κ := by unfold kindOf; omega

theorem rdP_sound (κ : Nat) (hκ : κ < 4) (s : List UInt8) (h : (rdP κ ⟨s, false⟩).2.2.bad = false) :
    s = layP κ (rdP κ ⟨s, false⟩).1 (rdP κ ⟨s, false⟩).2.1 ++ (rdP κ ⟨s, false⟩).2.2.s ∧ -9223372036854775808 ≤ (rdP κ ⟨s, false⟩).1 ∧ (rdP κ ⟨s, false⟩).1 ≤ 9223372036854775807 ∧ (rdP κ ⟨s, false⟩).2.1.length ≤ 1000 := by
  rcases (show κ = 0 ∨ κ = 1 ∨ κ = 2 ∨ κ = 3 by omega) with rfl | rfl | rfl | rfl
  · simp only [rdP, layP] at h ⊢
    obtain ⟨h1, h2, h3⟩ := rNum_sound s _ h
    exact ⟨by unfold encI; simpa using h3, by omega, by omega, by simp⟩
  · simp only [rdP, layP] at h ⊢
    have hm : (rMany ⟨s, false⟩ 1000).2.bad = false := by
      unfold rText at h
      split at h
      · rename_i hb; simp only at h; rw [hb] at h; cases h
      · rename_i hb; simpa using hb
    have hmn : rMany ⟨s, false⟩ 1000 = rNum ⟨s, false⟩ 1000 ∧ (rNum ⟨s, false⟩ 1000).1 ≤ (rNum ⟨s, false⟩ 1000).2.s.length := by
      unfold rMany at hm ⊢
      split at hm
      · simp at hm
      · rename_i hn
        rw [if_neg hn]
        refine ⟨rfl, ?_⟩
        rcases Nat.lt_or_ge (rNum ⟨s, false⟩ 1000).2.s.length (rNum ⟨s, false⟩ 1000).1 with h' | h'
        · exact absurd ⟨hm, h'⟩ hn
        · exact h'
    rw [hmn.1] at hm
    obtain ⟨h1, h2, h3⟩ := rNum_sound s _ hm
    unfold rText
    rw [hmn.1, hm]
    simp only [Bool.false_eq_true, if_false]
    have hl : ((rNum ⟨s, false⟩ 1000).2.s.take (rNum ⟨s, false⟩ 1000).1).length = (rNum ⟨s, false⟩ 1000).1 := by rw [List.length_take]; omega
    refine ⟨?_, by omega, by omega, by rw [hl]; omega⟩
    unfold textB
    rw [hl, List.append_assoc, List.take_append_drop]
    exact h3
  · simp only [rdP, layP] at h ⊢
    have hn : (rNum ⟨s, false⟩ 1).2.bad = false := h
    obtain ⟨h1, h2, h3⟩ := rNum_sound s _ hn
    unfold rFlag
    simp only
    have h2' : (rNum ⟨s, false⟩ 1).1 ≤ 1 := by omega
    rcases (show (rNum ⟨s, false⟩ 1).1 = 0 ∨ (rNum ⟨s, false⟩ 1).1 = 1 by omega) with h0 | h0
    · rw [h0] at h3 ⊢
      exact ⟨h3, by simp, by simp, by simp⟩
    · rw [h0] at h3 ⊢
      exact ⟨h3, by simp, by simp, by simp⟩
  · simp only [rdP, layP] at h ⊢
    have hb2 : (rNum (rNum ⟨s, false⟩ 4294967295).2 4294967295).2.bad = false := by
      unfold rInt at h
      split at h
      · rename_i hb; simp only at h; rw [hb] at h; cases h
      · rename_i hb; simpa using hb
    have hb1 : (rNum ⟨s, false⟩ 4294967295).2.bad = false := by
      rcases hb : (rNum ⟨s, false⟩ 4294967295).2.bad with _ | _
      · rfl
      · rw [bad_num _ hb] at hb2; simp only at hb2; rw [hb] at hb2; cases hb2
    obtain ⟨a1, a2, a3⟩ := rNum_sound s _ hb1
    have he : (rNum ⟨s, false⟩ 4294967295).2 = ⟨(rNum ⟨s, false⟩ 4294967295).2.s, false⟩ := St.eq_of hb1
    rw [he] at hb2
    obtain ⟨c1, c2, c3⟩ := rNum_sound _ _ hb2
    unfold rInt
    rw [he, hb2]
    simp only [Bool.false_eq_true, if_false]
    generalize (rNum ⟨s, false⟩ 4294967295).1 = u at *
    generalize (rNum ⟨s, false⟩ 4294967295).2.s = s1 at *
    generalize (rNum ⟨s1, false⟩ 4294967295).1 = l at *
    generalize (rNum ⟨s1, false⟩ 4294967295).2.s = s2 at *
    refine ⟨?_, ?_, ?_, by simp⟩
    · unfold intB
      rw [zig_zag, show (u * 4294967296 + l) / 4294967296 = u from by omega, show (u * 4294967296 + l) % 4294967296 = l from by omega, List.append_assoc, ← c3]
      exact a3
    · unfold zag; split <;> omega
    · unfold zag; split <;> omega

theorem rdP_len (κ : Nat) (st : St) : (rdP κ st).2.2.s.length ≤ st.s.length := by
  have hn := rNum_len st
  unfold rdP
  split
  · exact hn _
  · simp only
    unfold rText
    split
    · exact rMany_len _ _
    · simp only [List.length_drop]
      have := rMany_len st 1000
      omega
  · exact hn _
  · simp only
    unfold rInt
    split <;> exact Nat.le_trans (rNum_len _ _) (hn _)

end Go.Proofs.Ytbpdeehpeflbeaa
