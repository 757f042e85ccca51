/-
  What is known of the token with which a text begins.
-/
import Derived.Test.YtaochdmbbbighaaDoorSpec
namespace Go.Proofs.YtaochdmbbbighaaDoor

/-- the text of a token stands at the text's beginning, has no newline in it -/
def Fits (l : Bs) (t : Bs) : Prop := l.take t.length = t ∧ (10 : UInt8) ∉ t
theorem Fits.nil (l : Bs) : Fits l [] := ⟨by simp, by simp⟩
theorem Fits.while_ (p : UInt8 → Bool) (h : p 10 = false) (l : Bs) : Fits l (l.takeWhile p) :=
  ⟨takeWhile_take p l, fun e => by have := takeWhile_all p l _ e; rw [h] at this; cases this⟩
theorem nm10 : inNm 10 = false := by decide
theorem dg10 : isDg 10 = false := by decide
theorem marks10 : ∀ m ∈ marksL, (10 : UInt8) ∉ m := by decide
theorem fits_name (k : Nat) (l s : Bs) (h : Fits l s) : Fits l (nameT k s).1.text := by
  unfold nameT
  split
  · exact Fits.nil l
  · exact h
theorem fits_num (l s : Bs) (h : Fits l s) : Fits l (numT s).1.text := by
  unfold numT
  split
  · exact h
  · exact Fits.nil l
theorem fits_mark (l : Bs) : Fits l (markT l).1.text := by
  unfold markT
  split
  · rename_i m hm
    have h1 := List.find?_some hm
    have h2 := List.mem_of_find?_eq_some hm
    obtain ⟨t, ht⟩ := List.isPrefixOf_iff_prefix.1 h1
    exact ⟨by rw [← ht]; simp, marks10 m h2⟩
  · exact Fits.nil l
theorem fits_first (l : Bs) : Fits l (first l).1.text := by
  unfold first
  split
  · exact Fits.nil _
  · rename_i c r
    split
    · exact fits_name _ _ _ (Fits.while_ _ nm10 _)
    · split
      · exact fits_name _ _ _ (Fits.while_ _ nm10 _)
      · split
        · exact fits_num _ _ (Fits.while_ _ dg10 _)
        · exact fits_mark _
theorem Fits.le {l t : Bs} (h : Fits l t) : t.length ≤ l.length := by
  have := congrArg List.length h.1
  rw [List.length_take] at this
  omega
theorem name_pos (k : Nat) (hk : k ≠ 0) (s : Bs) (t : Tok) (h : nameT k s = (t, 0)) : t.kind ≠ 0 ∧ t.text = s := by
  unfold nameT at h
  split at h
  · simp at h
  · simp only [Prod.mk.injEq, and_true] at h
    subst h
    refine ⟨?_, rfl⟩
    show (if isWd s = true then 1 else k) ≠ 0
    split <;> omega
theorem num_pos (s : Bs) (t : Tok) (h : numT s = (t, 0)) : t.kind ≠ 0 ∧ t.text = s := by
  unfold numT at h
  split at h
  · simp only [Prod.mk.injEq, and_true] at h
    subst h
    exact ⟨Nat.succ_ne_zero 3, rfl⟩
  · simp at h
theorem marks_ne : ∀ m ∈ marksL, m ≠ [] := by decide
theorem mark_pos (s : Bs) (t : Tok) (h : markT s = (t, 0)) : t.kind ≠ 0 ∧ t.text ≠ [] := by
  unfold markT at h
  split at h
  · rename_i m hm
    simp only [Prod.mk.injEq, and_true] at h
    subst h
    exact ⟨Nat.succ_ne_zero 4, marks_ne m (List.mem_of_find?_eq_some hm)⟩
  · simp at h
/-- a token that is no end has a text -/
theorem first_cons (c : UInt8) (r : Bs) (t : Tok) (h : first (c :: r) = (t, 0)) : t.kind ≠ 0 ∧ t.text ≠ [] := by
  rw [first] at h
  split at h
  · rename_i hc
    obtain ⟨h1, h2⟩ := name_pos 2 (by decide) _ t h
    refine ⟨h1, ?_⟩
    rw [h2, List.takeWhile_cons, if_pos (by unfold inNm; rw [hc]; rfl)]
    simp
  · split at h
    · rename_i hc
      obtain ⟨h1, h2⟩ := name_pos 3 (by decide) _ t h
      refine ⟨h1, ?_⟩
      rw [h2, List.takeWhile_cons, if_pos (by unfold inNm; rw [hc]; simp)]
      simp
    · split at h
      · rename_i hc
        obtain ⟨h1, h2⟩ := num_pos _ t h
        refine ⟨h1, ?_⟩
        rw [h2, List.takeWhile_cons, if_pos hc]
        simp
      · exact mark_pos _ t h
theorem first_end {l : Bs} {t : Tok} (h : first l = (t, 0)) (hk : t.kind = 0) : l = [] ∧ t = ⟨0, [], 0⟩ := by
  cases l with
  | nil => exact ⟨rfl, (Prod.mk.inj h).1.symm⟩
  | cons c r => exact absurd hk (first_cons c r t h).1
theorem first_more {l : Bs} {t : Tok} (h : first l = (t, 0)) (hk : t.kind ≠ 0) : 0 < t.text.length ∧ t.text.length ≤ l.length := by
  cases l with
  | nil => exact absurd (by rw [← (Prod.mk.inj h).1]) hk
  | cons c r =>
    have h1 := (first_cons c r t h).2
    have h2 := (fits_first (c :: r)).le
    rw [h] at h2
    exact ⟨List.length_pos_iff.2 h1, h2⟩
theorem skip_place {l : Bs} {o p : Nat} (ho : o ≤ l.length) (hp : p = o + skipN false (l.drop o)) : o ≤ p ∧ p ≤ l.length := by
  have := skipN_le false (l.drop o)
  rw [List.length_drop] at this
  omega
theorem Lx.len {l : Bs} {o : Nat} {ts : List (Nat × Tok)} {r : Option (Nat × Nat)} (h : Lx l o ts r) (ho : o ≤ l.length) : ts.length ≤ l.length - o + 1 := by
  induction h with
  | bad => simp
  | fin => simp
  | more o p hp t h hk ts r hr ih =>
    obtain ⟨h1, h2⟩ := skip_place ho hp
    obtain ⟨h3, h4⟩ := first_more h hk
    rw [List.length_drop] at h4
    have := ih (by omega)
    simp only [List.length_cons]
    omega
theorem Lx.total (l : Bs) (o : Nat) (ho : o ≤ l.length) : ∃ ts r, Lx l o ts r := by
  generalize hn : l.length - o = n
  induction n using Nat.strongRecOn generalizing o with
  | ind n ih =>
    obtain ⟨h1, h2⟩ := skip_place ho (p := o + skipN false (l.drop o)) rfl
    rcases hf : first (l.drop (o + skipN false (l.drop o))) with ⟨t, e⟩
    by_cases he : e = 0
    · subst he
      by_cases hk : t.kind = 0
      · exact ⟨_, _, .fin o _ rfl t hf hk⟩
      · obtain ⟨h3, h4⟩ := first_more hf hk
        rw [List.length_drop] at h4
        obtain ⟨ts, r, hr⟩ := ih (l.length - (o + skipN false (l.drop o) + t.text.length)) (by omega) _ (by omega) rfl
        exact ⟨_, _, .more o _ rfl t hf hk ts r hr⟩
    · exact ⟨_, _, .bad o _ rfl t e hf he⟩
theorem Lx.unique {l : Bs} {o : Nat} {ts ts' : List (Nat × Tok)} {r r' : Option (Nat × Nat)} (h : Lx l o ts r) (h' : Lx l o ts' r') : ts = ts' ∧ r = r' := by
  induction h generalizing ts' r' with
  | bad o p hp t e h he =>
    cases h' with
    | bad _ p' hp' t' e' h2 he' => subst hp hp'; rw [h] at h2; cases h2; exact ⟨rfl, rfl⟩
    | fin _ p' hp' t' h2 hk' => subst hp hp'; rw [h] at h2; cases h2; exact absurd rfl he
    | more _ p' hp' t' h2 hk' => subst hp hp'; rw [h] at h2; cases h2; exact absurd rfl he
  | fin o p hp t h hk =>
    cases h' with
    | bad _ p' hp' t' e' h2 he' => subst hp hp'; rw [h] at h2; cases h2; exact absurd rfl he'
    | fin _ p' hp' t' h2 hk' => subst hp hp'; rw [h] at h2; cases h2; exact ⟨rfl, rfl⟩
    | more _ p' hp' t' h2 hk' => subst hp hp'; rw [h] at h2; cases h2; exact absurd hk hk'
  | more o p hp t h hk ts r hr ih =>
    cases h' with
    | bad _ p' hp' t' e' h2 he' => subst hp hp'; rw [h] at h2; cases h2; exact absurd rfl he'
    | fin _ p' hp' t' h2 hk' => subst hp hp'; rw [h] at h2; cases h2; exact absurd hk' hk
    | more _ p' hp' t' h2 hk' ts' r' hr' =>
      subst hp hp'
      rw [h] at h2
      cases h2
      obtain ⟨rfl, rfl⟩ := ih hr'
      exact ⟨rfl, rfl⟩
/-- as a function -/
theorem Lx.fn (l : Bs) (n o : Nat) (hn : l.length - o < n) (ho : o ≤ l.length) : Lx l o (lexF l n o).1 (lexF l n o).2 := by
  induction n generalizing o with
  | zero => omega
  | succ n ih =>
    obtain ⟨h1, h2⟩ := skip_place ho (p := o + skipN false (l.drop o)) rfl
    rcases hf : first (l.drop (o + skipN false (l.drop o))) with ⟨t, e⟩
    by_cases he : e = 0
    · subst he
      by_cases hk : t.kind = 0
      · have e1 : lexF l (n + 1) o = ([(o + skipN false (l.drop o), t)], none) := by simp [lexF, hf, hk]
        rw [e1]
        exact .fin o _ rfl t hf hk
      · obtain ⟨h3, h4⟩ := first_more hf hk
        rw [List.length_drop] at h4
        have e1 : lexF l (n + 1) o = ((o + skipN false (l.drop o), t) :: (lexF l n (o + skipN false (l.drop o) + t.text.length)).1, (lexF l n (o + skipN false (l.drop o) + t.text.length)).2) := by simp [lexF, hf, hk]
        rw [e1]
        exact .more o _ rfl t hf hk _ _ (ih _ (by omega) (by omega))
    · have e1 : lexF l (n + 1) o = ([], some (e, o + skipN false (l.drop o))) := by simp [lexF, hf, he]
      rw [e1]
      exact .bad o _ rfl t e hf he
end Go.Proofs.YtaochdmbbbighaaDoor
