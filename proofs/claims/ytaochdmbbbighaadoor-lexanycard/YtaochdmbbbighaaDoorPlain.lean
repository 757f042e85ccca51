/-
  Tokens written again; two texts with a newline between: in plain words.
-/
import Derived.Test.YtaochdmbbbighaaDoorMore
namespace Go.Proofs.YtaochdmbbbighaaDoor

theorem Lx.back {l : Bs} {o o' : Nat} {ts : List (Nat × Tok)} {r : Option (Nat × Nat)} (h : Lx l o' ts r) (e : o + skipN false (l.drop o) = o' + skipN false (l.drop o')) : Lx l o ts r := by
  cases h with
  | bad _ p hp t er hf he => exact .bad o p (hp.trans e.symm) t er hf he
  | fin _ p hp t hf hk => exact .fin o p (hp.trans e.symm) t hf hk
  | more _ p hp t hf hk ts r hr => exact .more o p (hp.trans e.symm) t hf hk ts r hr

/-- tokens written again, a blank behind each -/
def againL (ts : List (Nat × Tok)) : Bs := ts.flatMap fun x => x.2.text ++ [32]
theorem again_lx {l : Bs} {o : Nat} {ts : List (Nat × Tok)} {r : Option (Nat × Nat)} (h : Lx l o ts r) (hr : r = none) (P : Bs) : ∃ ts', Lx (P ++ againL ts) P.length ts' none ∧ ts'.map (·.2) = ts.map (·.2) := by
  induction h generalizing P with
  | bad => cases hr
  | fin o p hp t hf hk =>
    obtain ⟨_, rfl⟩ := first_end hf hk
    have e : againL [(p, (⟨0, [], 0⟩ : Tok))] = [32] := rfl
    rw [e]
    refine ⟨[(P.length + 1, ⟨0, [], 0⟩)], .fin _ _ ?_ _ ?_ rfl, rfl⟩
    · simp [skipN, blank]
    · rw [List.drop_of_length_le (by simp)]; rfl
  | more o p hp t hf hk ts r hrest ih =>
    obtain ⟨ts', h1, h2⟩ := ih hr (P ++ (t.text ++ [32]))
    have e0 : againL ((p, t) :: ts) = (t.text ++ [32]) ++ againL ts := by simp [againL]
    have e1 : P ++ againL ((p, t) :: ts) = P ++ (t.text ++ [32]) ++ againL ts := by rw [e0]; simp
    have e2 : P ++ againL ((p, t) :: ts) = P ++ (t.text ++ 32 :: againL ts) := by rw [e0]; simp
    have e3 : P ++ againL ((p, t) :: ts) = (P ++ t.text) ++ 32 :: againL ts := by rw [e2]; simp
    obtain ⟨g1, g2⟩ := first_again hf hk (againL ts)
    refine ⟨(P.length, t) :: ts', .more _ _ ?_ t ?_ hk ts' none ?_, by simp [h2]⟩
    · rw [e2, List.drop_left, g1]; rfl
    · rw [e2, List.drop_left]; exact g2
    · rw [← e1] at h1
      refine h1.back ?_
      have d1 : (P ++ againL ((p, t) :: ts)).drop (P.length + t.text.length) = 32 :: againL ts := by
        rw [e3, ← List.length_append, List.drop_left]
      have d2 : (P ++ againL ((p, t) :: ts)).drop (P ++ (t.text ++ [32])).length = againL ts := by
        rw [e1, List.drop_left]
      rw [d1, d2]
      simp [skipN, blank]
      omega
theorem again_len {l : Bs} {o : Nat} {ts : List (Nat × Tok)} {r : Option (Nat × Nat)} (h : Lx l o ts r) (ho : o ≤ l.length) : (againL ts).length ≤ (l.length - o) + ts.length := by
  induction h with
  | bad => simp [againL]
  | fin o p hp t hf hk =>
    obtain ⟨_, rfl⟩ := first_end hf hk
    simp [againL]
  | more o p hp t hf hk ts r hrest ih =>
    obtain ⟨h1, h2⟩ := skip_place ho hp
    obtain ⟨h3, h4⟩ := first_more hf hk
    rw [List.length_drop] at h4
    have := ih (by omega)
    have e0 : againL ((p, t) :: ts) = (t.text ++ [32]) ++ againL ts := by simp [againL]
    rw [e0]
    simp only [List.length_append, List.length_cons, List.length_nil]
    omega

theorem marks10' : ∀ m ∈ marksL, (10 : UInt8) ∉ m := marks10
theorem skip_join (m : Bool) (l b : Bs) : (skipN m l = l.length → skipN m (l ++ 10 :: b) = l.length + 1 + skipN false b) ∧ (skipN m l ≠ l.length → skipN m (l ++ 10 :: b) = skipN m l) := by
  induction l generalizing m with
  | nil => cases m <;> simp [skipN, blank]
  | cons c r ih =>
    have t := ih true
    have f := ih false
    have el : (c :: r).length = r.length + 1 := rfl
    cases m
    · by_cases h1 : blank c = true
      · have e1 : skipN false (c :: r) = 1 + skipN false r := by rw [skipN, if_pos h1]
        have e2 : skipN false (c :: r ++ 10 :: b) = 1 + skipN false (r ++ 10 :: b) := by rw [List.cons_append, skipN, if_pos h1]
        rw [e1, e2, el]
        exact ⟨fun h => by rw [f.1 (by omega)]; omega, fun h => by rw [f.2 (by omega)]⟩
      · have e : ((r ++ 10 :: b).head? == some 47) = (r.head? == some 47) := by cases r <;> simp
        by_cases h2 : (c == 47 && r.head? == some 47) = true
        · have e1 : skipN false (c :: r) = 1 + skipN true r := by rw [skipN, if_neg h1, if_pos h2]
          have e2 : skipN false (c :: r ++ 10 :: b) = 1 + skipN true (r ++ 10 :: b) := by rw [List.cons_append, skipN, if_neg h1, e, if_pos h2]
          rw [e1, e2, el]
          exact ⟨fun h => by rw [t.1 (by omega)]; omega, fun h => by rw [t.2 (by omega)]⟩
        · have e1 : skipN false (c :: r) = 0 := by rw [skipN, if_neg h1, if_neg h2]
          have e2 : skipN false (c :: r ++ 10 :: b) = 0 := by rw [List.cons_append, skipN, if_neg h1, e, if_neg h2]
          rw [e1, e2, el]
          exact ⟨fun h => by omega, fun _ => rfl⟩
    · by_cases h1 : (c == 10) = true
      · have e1 : skipN true (c :: r) = 1 + skipN false r := by rw [skipN, if_pos h1]
        have e2 : skipN true (c :: r ++ 10 :: b) = 1 + skipN false (r ++ 10 :: b) := by rw [List.cons_append, skipN, if_pos h1]
        rw [e1, e2, el]
        exact ⟨fun h => by rw [f.1 (by omega)]; omega, fun h => by rw [f.2 (by omega)]⟩
      · have e1 : skipN true (c :: r) = 1 + skipN true r := by rw [skipN, if_neg h1]
        have e2 : skipN true (c :: r ++ 10 :: b) = 1 + skipN true (r ++ 10 :: b) := by rw [List.cons_append, skipN, if_neg h1]
        rw [e1, e2, el]
        exact ⟨fun h => by rw [t.1 (by omega)]; omega, fun h => by rw [t.2 (by omega)]⟩
def shT (k : Nat) (x : Nat × Tok) : Nat × Tok := (k + x.1, x.2)
def shR (k : Nat) (r : Option (Nat × Nat)) : Option (Nat × Nat) := r.map fun x => (x.1, k + x.2)
theorem Lx.shift {b : Bs} {o : Nat} {ys : List (Nat × Tok)} {r : Option (Nat × Nat)} (h : Lx b o ys r) (Q : Bs) : Lx (Q ++ b) (Q.length + o) (ys.map (shT Q.length)) (shR Q.length r) := by
  have d : ∀ n, (Q ++ b).drop (Q.length + n) = b.drop n := fun n => by rw [List.drop_append, List.drop_of_length_le (by omega)]; simp
  induction h with
  | bad o p hp t er hf he => exact .bad _ _ (by rw [d, hp]; omega) t er (by rw [d]; exact hf) he
  | fin o p hp t hf hk => exact .fin _ _ (by rw [d, hp]; omega) t (by rw [d]; exact hf) hk
  | more o p hp t hf hk ts r hr ih =>
    refine .more _ (Q.length + p) (by rw [d, hp]; omega) t (by rw [d]; exact hf) hk _ _ ?_
    rw [show Q.length + p + t.text.length = Q.length + (p + t.text.length) from by omega]
    exact ih
/-- the tokens but the end -/
theorem join_lx {a b : Bs} {o : Nat} {ts : List (Nat × Tok)} {r : Option (Nat × Nat)} (h : Lx a o ts r) (ho : o ≤ a.length) {ys : List (Nat × Tok)} {rb : Option (Nat × Nat)} (hb : Lx b 0 ys rb) :
    match r with
    | some (e, p) => Lx (a ++ 10 :: b) o ts (some (e, p)) ∧ p ≤ a.length
    | none => ∃ ts0, ts = ts0 ++ [(a.length, ⟨0, [], 0⟩)] ∧ (∀ x ∈ ts0, x.1 ≤ a.length) ∧ Lx (a ++ 10 :: b) o (ts0 ++ ys.map (shT (a.length + 1))) (shR (a.length + 1) rb) := by
  have d : ∀ n, n ≤ a.length → (a ++ 10 :: b).drop n = a.drop n ++ 10 :: b := fun n hn => by rw [List.drop_append, show n - a.length = 0 from by omega]; simp
  induction h with
  | bad o p hp t er hf he =>
    obtain ⟨h1, h2⟩ := skip_place ho hp
    have hne : a.drop p ≠ [] := by
      intro e
      rw [e] at hf
      exact he (Prod.mk.inj hf).2.symm
    have hlt : p < a.length := by
      by_cases e : p < a.length
      · exact e
      · exact absurd (List.drop_of_length_le (by omega)) hne
    obtain ⟨c, s, hs⟩ := List.exists_cons_of_ne_nil hne
    refine ⟨.bad o p ?_ t er ?_ he, by omega⟩
    · rw [d o ho, (skip_join _ _ _).2 (by rw [List.length_drop]; omega)]; exact hp
    · rw [d p (by omega), hs, first_stop c s b 10 nm10 dg10 marks10, ← hs]; exact hf
  | fin o p hp t hf hk =>
    obtain ⟨h1, h2⟩ := skip_place ho hp
    obtain ⟨h3, rfl⟩ := first_end hf hk
    have hpl : p = a.length := by
      have := congrArg List.length h3
      rw [List.length_drop] at this
      simp at this
      omega
    refine ⟨[], by rw [hpl]; rfl, by simp, ?_⟩
    have hs := hb.shift (a ++ [10])
    have e1 : a ++ [10] ++ b = a ++ 10 :: b := by simp
    have e2 : (a ++ [10]).length = a.length + 1 := by simp
    rw [e1, e2] at hs
    refine hs.back ?_
    rw [d o ho, (skip_join _ _ _).1 (by rw [List.length_drop]; omega), List.length_drop]
    have e3 : (a ++ 10 :: b).drop (a.length + 1 + 0) = b := by rw [Nat.add_zero, ← e2, ← e1, List.drop_left]
    rw [e3]
    omega
  | more o p hp t hf hk ts r hr ih =>
    obtain ⟨h1, h2⟩ := skip_place ho hp
    obtain ⟨h3, h4⟩ := first_more hf hk
    rw [List.length_drop] at h4
    have hne : a.drop p ≠ [] := by
      intro e
      have := congrArg List.length e
      rw [List.length_drop] at this
      simp at this
      omega
    obtain ⟨c, s, hs⟩ := List.exists_cons_of_ne_nil hne
    have g1 : p = o + skipN false ((a ++ 10 :: b).drop o) := by rw [d o ho, (skip_join _ _ _).2 (by rw [List.length_drop]; omega)]; exact hp
    have g2 : first ((a ++ 10 :: b).drop p) = (t, 0) := by rw [d p (by omega), hs, first_stop c s b 10 nm10 dg10 marks10, ← hs]; exact hf
    have ih2 := ih (by omega)
    cases r with
    | none =>
      obtain ⟨ts0, e1, e3, e2⟩ := ih2
      exact ⟨(p, t) :: ts0, by rw [e1]; rfl, fun x hx => by
        rcases List.mem_cons.1 hx with rfl | hx
        · exact h2
        · exact e3 x hx, .more o p g1 t g2 hk _ _ e2⟩
    | some x =>
      obtain ⟨e, q⟩ := x
      exact ⟨.more o p g1 t g2 hk _ _ ih2.1, ih2.2⟩

theorem brk_shift (x : Bs) (i f k : Nat) : brk x (i + k) (f + k) = brk x i f + k := by
  induction x generalizing i f with
  | nil => rfl
  | cons c r ih =>
    simp only [brk]
    rw [← ih (i + 1) (if c == 10 then i + 1 else f)]
    congr 1
    · omega
    · split <;> omega
theorem pos_left (a b : Bs) (p : Nat) (h : p ≤ a.length) : posL (a ++ 10 :: b) p = posL a p ∧ posC (a ++ 10 :: b) p = posC a p := by
  have e : (a ++ 10 :: b).take p = a.take p := by rw [List.take_append, show p - a.length = 0 from by omega]; simp
  exact ⟨by unfold posL; rw [e], by unfold posC; rw [e]⟩
theorem pos_right (a b : Bs) (q : Nat) : posL (a ++ 10 :: b) (a.length + 1 + q) = lineOf a + posL b q ∧ posC (a ++ 10 :: b) (a.length + 1 + q) = posC b q := by
  have e : (a ++ 10 :: b).take (a.length + 1 + q) = a ++ 10 :: b.take q := by
    rw [List.take_append, List.take_of_length_le (by omega), show a.length + 1 + q - a.length = q + 1 from by omega, List.take_succ_cons]
  constructor
  · unfold posL lineOf
    rw [e, List.count_append, List.count_cons]
    simp
    omega
  · unfold posC fromOf
    rw [e, brk_append]
    have e2 : brk (10 :: b.take q) (0 + a.length) (brk a 0 0) = brk (b.take q) 0 0 + (a.length + 1) := by
      rw [← brk_shift]
      simp [brk]
    rw [e2]
    omega
end Go.Proofs.YtaochdmbbbighaaDoor
