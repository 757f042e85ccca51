/-
  Where lines begin; what stands between tokens: in plain words.
-/
import Derived.Test.YtaochdmbbbighaaDoorPlain
namespace Go.Proofs.YtaochdmbbbighaaDoor

def nlF : Bs → Nat → List Nat
  | [], _ => []
  | c :: r, i => if c == 10 then (i + 1) :: nlF r (i + 1) else nlF r (i + 1)
/-- where lines begin -/
def starts (l : Bs) : List Nat := 0 :: nlF l 0
theorem nlF_append (a b : Bs) (i : Nat) : nlF (a ++ b) i = nlF a i ++ nlF b (i + a.length) := by
  induction a generalizing i with
  | nil => simp [nlF]
  | cons c r ih =>
    simp only [List.cons_append, nlF, List.length_cons]
    rw [ih, show i + 1 + r.length = i + (r.length + 1) from by omega]
    split <;> rfl
theorem starts_append (a b : Bs) : starts (a ++ b) = starts a ++ nlF b a.length := by unfold starts; rw [nlF_append, Nat.zero_add]; rfl
theorem starts_snoc (a : Bs) (c : UInt8) : starts (a ++ [c]) = starts a ++ if c == 10 then [a.length + 1] else [] := by
  rw [starts_append]; simp only [nlF]
theorem starts_len (a : Bs) : (starts a).length = lineOf a := by
  have h : ∀ (l : Bs) i, (nlF l i).length = l.count 10 := by
    intro l
    induction l with
    | nil => intro i; rfl
    | cons c r ih =>
      intro i
      simp only [nlF, List.count_cons]
      split
      · rw [List.length_cons, ih]
      · rw [ih]; rfl
  unfold starts lineOf
  rw [List.length_cons, h]
  omega
theorem snoc_ind {P : Bs → Prop} (h0 : P []) (h1 : ∀ a c, P a → P (a ++ [c])) (l : Bs) : P l := by
  have h : ∀ r : Bs, P r.reverse := by
    intro r
    induction r with
    | nil => exact h0
    | cons c r ih => rw [List.reverse_cons]; exact h1 _ _ ih
  have := h l.reverse
  rwa [List.reverse_reverse] at this
theorem starts_last (a : Bs) : (starts a)[lineOf a - 1]? = some (fromOf a) := by
  refine snoc_ind (P := fun a => (starts a)[lineOf a - 1]? = some (fromOf a)) rfl (fun a c ih => ?_) a
  · skip
    rw [starts_snoc, lineOf_snoc, fromOf_snoc]
    have hl := starts_len a
    have h1 : 1 ≤ lineOf a := by unfold lineOf; omega
    by_cases hc : (c == 10) = true
    · rw [if_pos hc, if_pos hc, if_pos hc, List.getElem?_append_right (by omega), hl]
      simp
    · rw [if_neg hc, if_neg hc, if_neg hc, List.append_nil, Nat.add_zero]
      exact ih
theorem starts_at (l : Bs) (p : Nat) : (starts l)[posL l p - 1]? = some (fromOf (l.take p)) ∧ posL l p ≤ (starts l).length ∧ 1 ≤ posL l p := by
  have h1 : 1 ≤ posL l p := by unfold posL lineOf; omega
  have e : starts l = starts (l.take p) ++ nlF (l.drop p) (l.take p).length := by rw [← starts_append, List.take_append_drop]
  have hl := starts_len (l.take p)
  have hl2 : posL l p = (starts (l.take p)).length := hl.symm
  refine ⟨?_, ?_, h1⟩
  · rw [e, List.getElem?_append_left (by omega)]
    exact starts_last (l.take p)
  · rw [e, List.length_append]
    omega
theorem place_back (l : Bs) (p : Nat) (h : p ≤ l.length) : fromOf (l.take p) + posC l p - 1 = p ∧ fromOf (l.take p) ≤ p ∧ 1 ≤ posC l p := by
  have h1 := fromOf_le (l.take p)
  rw [List.length_take] at h1
  unfold posC
  omega

theorem words_name : ∀ x ∈ wordsL, ∀ c, x.head? = some c → isDg c = false := by decide +kernel
theorem marks_noword : ∀ m ∈ marksL, isWd m = false := by decide +kernel
theorem digits_noword (c : UInt8) (s : Bs) (h : isDg c = true) : isWd (c :: s) = false := by
  rw [Bool.eq_false_iff]
  intro h1
  unfold isWd at h1
  rw [List.any_eq_true] at h1
  obtain ⟨x, hx, he⟩ := h1
  rw [beq_iff_eq] at he
  have := words_name x hx c (by rw [he]; rfl)
  rw [h] at this
  cases this
theorem kind_word {l : Bs} {t : Tok} (h : first l = (t, 0)) : ((t.kind : Int) == 1) = isWd t.text := by
  cases l with
  | nil => rw [← (Prod.mk.inj h).1]; rfl
  | cons c r =>
    have nm : ∀ k s, k ≠ 1 → nameT k s = (t, 0) → ((t.kind : Int) == 1) = isWd t.text := by
      intro k s hk hn
      unfold nameT at hn
      split at hn
      · simp at hn
      · simp only [Prod.mk.injEq, and_true] at hn
        subst hn
        show (((if isWd s = true then 1 else k : Nat) : Int) == 1) = isWd s
        by_cases hw : isWd s = true
        · rw [if_pos hw, hw]; rfl
        · rw [if_neg hw, Bool.eq_false_iff.2 hw, beq_eq_false_iff_ne]
          omega
    rw [first] at h
    split at h
    · exact nm 2 _ (by decide) h
    · split at h
      · exact nm 3 _ (by decide) h
      · split at h
        · rename_i hd
          have hk : t.kind = 4 ∧ t.text = (c :: r).takeWhile isDg := by
            unfold numT at h
            split at h
            · simp only [Prod.mk.injEq, and_true] at h; subst h; exact ⟨rfl, rfl⟩
            · simp at h
          rw [hk.1, hk.2, List.takeWhile_cons, if_pos hd, digits_noword c _ hd]
          rfl
        · unfold markT at h
          split at h
          · rename_i m hm
            simp only [Prod.mk.injEq, and_true] at h
            subst h
            rw [marks_noword m (List.mem_of_find?_eq_some hm)]
            rfl
          · simp at h

/-- a byte ahead of the next token is a blank, or begins a remark -/
theorem gap_step {l : Bs} {k p : Nat} (h : k + skipN false (l.drop k) = p) (hk : k < p) :
    ∃ c r, l.drop k = c :: r ∧ ((blank c = true ∧ (k + 1) + skipN false (l.drop (k + 1)) = p) ∨
      (c = 47 ∧ ∃ r', r = 47 :: r' ∧ k + remN (l.drop k) ≤ p ∧ k + remN (l.drop k) + skipN false (l.drop (k + remN (l.drop k))) = p ∧ k + 2 ≤ k + remN (l.drop k))) := by
  rcases hd : l.drop k with _ | ⟨c, r⟩
  · rw [hd] at h; simp [skipN] at h; omega
  · refine ⟨c, r, rfl, ?_⟩
    have hr : l.drop (k + 1) = r := by rw [← List.drop_drop, hd]; rfl
    by_cases hb : blank c = true
    · left
      refine ⟨hb, ?_⟩
      rw [hr]
      rw [hd, skipN, if_pos hb] at h
      omega
    · right
      have hs : (c == 47 && r.head? == some 47) = true := by
        by_cases hs : (c == 47 && r.head? == some 47) = true
        · exact hs
        · rw [hd, skipN, if_neg hb, if_neg hs] at h; omega
      rw [Bool.and_eq_true, beq_iff_eq, beq_iff_eq] at hs
      obtain ⟨rfl, h2⟩ := hs
      rcases r with _ | ⟨y, r'⟩
      · cases h2
      · cases h2
        refine ⟨rfl, r', rfl, ?_⟩
        have e := skipN_slash r'
        have e2 : (47 :: 47 :: r' : Bs).drop (remN (47 :: 47 :: r')) = l.drop (k + remN (47 :: 47 :: r')) := by rw [← hd, List.drop_drop]
        rw [e2] at e
        rw [hd] at h
        refine ⟨by omega, by omega, ?_⟩
        have : remN ((47 : UInt8) :: 47 :: r') = remN r' + 2 := by simp [remN]
        omega
theorem rem_char {l : Bs} {k j : Nat} (hj : j < remN (l.drop k)) : ∃ c, l[k + j]? = some c ∧ c ≠ 10 := by
  have h1 := rem_no (l.drop k)
  have h2 := remN_le (l.drop k)
  have h3 : j < (l.drop k).length := by omega
  have h4 : (l.drop k)[j] ∈ (l.drop k).take (remN (l.drop k)) := List.mem_take_iff_getElem.2 ⟨j, by omega, rfl⟩
  refine ⟨(l.drop k)[j], ?_, fun e => h1 (e ▸ h4)⟩
  rw [List.getElem_drop, List.getElem?_eq_getElem]
theorem rem_end {l : Bs} {k : Nat} (h : k + remN (l.drop k) < l.length) : l[k + remN (l.drop k)]? = some 10 := by
  have h0 : ∀ (s : Bs), remN s < s.length → s[remN s]? = some 10 := by
    intro s
    induction s with
    | nil => simp
    | cons c r ih =>
      intro hs
      by_cases hc : c = 10
      · subst hc; simp [remN]
      · have e : remN (c :: r) = remN r + 1 := by simp [remN, hc]
        rw [e] at hs ⊢
        exact ih (by simpa using hs)
  have := h0 (l.drop k) (by rw [List.length_drop]; omega)
  rwa [List.getElem?_drop] at this
/-- what is known of a token that is told, and what is behind it -/
theorem tok_facts {l : Bs} {last p : Nat} {t : Tok} {rest : List (Nat × Tok)} (h : Lx l last ((p, t) :: rest) none) (hl : last ≤ l.length) :
    p = last + skipN false (l.drop last) ∧ first (l.drop p) = (t, 0) ∧ last ≤ p ∧ p + t.text.length ≤ l.length ∧ (l.drop p).take t.text.length = t.text ∧
    (t.kind = 0 → p = l.length ∧ t.text = [] ∧ rest = []) ∧ (t.kind ≠ 0 → t.text ≠ [] ∧ Lx l (p + t.text.length) rest none ∧ rest ≠ []) := by
  cases h with
  | fin _ _ hp _ hf hk =>
    obtain ⟨h1, h2⟩ := skip_place hl hp
    obtain ⟨h3, rfl⟩ := first_end hf hk
    have h4 : l.length - p = 0 := by rw [← List.length_drop, h3]; rfl
    exact ⟨hp, hf, h1, by simpa using h2, by simp, fun _ => ⟨by omega, rfl, rfl⟩, fun e => absurd hk e⟩
  | more _ _ hp _ hf hk _ _ hr =>
    obtain ⟨h1, h2⟩ := skip_place hl hp
    obtain ⟨h3, h4⟩ := first_more hf hk
    have h5 := (fits_first (l.drop p)).1
    rw [hf] at h5
    rw [List.length_drop] at h4
    refine ⟨hp, hf, h1, by omega, h5, fun e => absurd e hk, fun _ => ⟨fun e => by rw [e] at h3; simp at h3, hr, fun e => ?_⟩⟩
    rw [e] at hr
    cases hr
end Go.Proofs.YtaochdmbbbighaaDoor
