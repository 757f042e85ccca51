/-
  Parts that are read as they were laid: plain facts on the Reader's states.
-/
import Derived.Test.YtomlbfkkhhhfkaaDoorPkAll
import Derived.Test.YtomlbfkkhhhfkaaDoorFcSame
namespace Go.Proofs.YtomlbfkkhhhfkaaDoor.Fc
open Pk
set_option linter.unusedVariables false

/-- what p reads is what e laid, for what is ok -/
structure Cod {α : Type} (p : St → α × St) (e : α → List UInt8) (ok : α → Prop) : Prop where
  back : ∀ x r, ok x → p ⟨e x ++ r, false⟩ = (x, ⟨r, false⟩)
  sound : ∀ s, (p ⟨s, false⟩).2.bad = false → s = e (p ⟨s, false⟩).1 ++ (p ⟨s, false⟩).2.s ∧ ok (p ⟨s, false⟩).1
  bad : ∀ st, st.bad = true → (p st).2.bad = true
  len : ∀ st, (p st).2.s.length ≤ st.s.length

theorem St.eq_of {st : St} (h : st.bad = false) : st = ⟨st.s, false⟩ := by cases st; simp only at h; rw [h]
theorem bad_num (st : St) (h : st.bad = true) (most : Int) : rNum st most = (0, st) := by unfold rNum; rw [h]; rfl
theorem bad_many (st : St) (h : st.bad = true) (most : Int) : rMany st most = (0, st) := by unfold rMany; rw [bad_num st h]; simp [h]
theorem bad_text (st : St) (h : st.bad = true) (most : Int) : rText st most = ([], st) := by unfold rText; rw [bad_many st h]; simp [h]
theorem bad_flag (st : St) (h : st.bad = true) : rFlag st = (false, st) := by unfold rFlag; rw [bad_num st h]; rfl
theorem rNum_enc (n : Nat) (h : n < 9223372036854775808) (most : Int) (hm : (n : Int) ≤ max most 0) (r : List UInt8) : rNum ⟨enc n ++ r, false⟩ most = (n, ⟨r, false⟩) := by
  unfold rNum
  simp only [Bool.false_eq_true, if_false, dec_enc n h r]
  rw [if_neg (by omega), List.drop_left]
theorem rNum_sound (s : List UInt8) (most : Int) (h : (rNum ⟨s, false⟩ most).2.bad = false) :
    (rNum ⟨s, false⟩ most).1 < 9223372036854775808 ∧ ((rNum ⟨s, false⟩ most).1 : Int) ≤ max most 0 ∧ s = enc (rNum ⟨s, false⟩ most).1 ++ (rNum ⟨s, false⟩ most).2.s := by
  unfold rNum at h ⊢
  simp only [Bool.false_eq_true, if_false] at h ⊢
  rcases hd : dec s with _ | ⟨n, k⟩
  · rw [hd] at h; simp at h
  · rw [hd] at h
    simp only at h ⊢
    by_cases hm : max most 0 < (n : Int)
    · rw [if_pos hm] at h; simp at h
    · rw [if_neg hm]
      obtain ⟨h1, h2, h3⟩ := dec_sound _ _ _ hd
      exact ⟨h1, by simp only; omega, h3⟩
theorem rMany_enc (n : Nat) (h : n < 9223372036854775808) (most : Int) (hm : (n : Int) ≤ max most 0) (r : List UInt8) (hr : n ≤ r.length) : rMany ⟨enc n ++ r, false⟩ most = (n, ⟨r, false⟩) := by
  unfold rMany
  rw [rNum_enc n h most hm r, if_neg (by simp only; omega)]
theorem rMany_sound (s : List UInt8) (most : Int) (h : (rMany ⟨s, false⟩ most).2.bad = false) :
    (rMany ⟨s, false⟩ most).1 < 9223372036854775808 ∧ ((rMany ⟨s, false⟩ most).1 : Int) ≤ max most 0 ∧ s = enc (rMany ⟨s, false⟩ most).1 ++ (rMany ⟨s, false⟩ most).2.s ∧ (rMany ⟨s, false⟩ most).1 ≤ (rMany ⟨s, false⟩ most).2.s.length := by
  unfold rMany at h ⊢
  split at h
  · simp at h
  · rename_i hn
    rw [if_neg hn]
    obtain ⟨h1, h2, h3⟩ := rNum_sound s most h
    exact ⟨h1, h2, h3, by
      rcases Nat.lt_or_ge (rNum ⟨s, false⟩ most).2.s.length (rNum ⟨s, false⟩ most).1 with h' | h'
      · exact absurd ⟨h, h'⟩ hn
      · exact h'⟩

theorem cod_text (most : Int) : Cod (fun st => rText st most) textB (fun t => t.length < 9223372036854775808 ∧ (t.length : Int) ≤ max most 0) where
  back := fun t r h => by
    unfold rText textB
    rw [List.append_assoc, rMany_enc _ h.1 _ h.2 _ (by simp)]
    simp
  sound := fun s h => by
    have hm : (rMany ⟨s, false⟩ most).2.bad = false := by
      unfold rText at h
      split at h
      · rename_i hb; simp only at h; rw [hb] at h; cases h
      · rename_i hb; simpa using hb
    obtain ⟨h1, h2, h3, h4⟩ := rMany_sound s most hm
    unfold rText
    rw [hm]
    simp only [Bool.false_eq_true, if_false]
    have hl : ((rMany ⟨s, false⟩ most).2.s.take (rMany ⟨s, false⟩ most).1).length = (rMany ⟨s, false⟩ most).1 := by rw [List.length_take]; omega
    refine ⟨?_, by rw [hl]; exact ⟨h1, h2⟩⟩
    unfold textB
    rw [hl, List.append_assoc, List.take_append_drop]
    exact h3
  bad := fun st h => by simp only [bad_text st h]; exact h
  len := fun st => by
    have := rMany_len st most
    unfold rText
    split
    · exact this
    · simp only [List.length_drop]; omega
theorem cod_flag : Cod rFlag (fun b => [flagB b]) (fun _ => True) where
  back := fun b r _ => by
    have h : [flagB b] ++ r = enc (if b then 1 else 0) ++ r := by cases b <;> simp [flagB, enc_small]
    unfold rFlag
    rw [h, rNum_enc _ (by cases b <;> simp) _ (by cases b <;> decide)]
    cases b <;> rfl
  sound := fun s h => by
    unfold rFlag at h ⊢
    obtain ⟨h1, h2, h3⟩ := rNum_sound s 1 h
    refine ⟨?_, trivial⟩
    generalize rNum ⟨s, false⟩ 1 = r at *
    obtain ⟨n, st⟩ := r
    simp only at *
    rcases (show n = 0 ∨ n = 1 by omega) with rfl | rfl
    · rw [enc_small (by omega)] at h3; simpa [flagB] using h3
    · rw [enc_small (by omega)] at h3; simpa [flagB] using h3
  bad := fun st h => by simp only [bad_flag st h]; exact h
  len := fun st => rNum_len st 1

section
variable {α β γ : Type} {p : St → α × St} {e : α → List UInt8} {ok : α → Prop} {q : St → β × St} {e' : β → List UInt8} {ok' : β → Prop}
theorem Cod.map (hp : Cod p e ok) (f : α → γ) (g : γ → α) (fg : ∀ x, f (g x) = x) (gf : ∀ a, g (f a) = a) :
    Cod (fun st => (f (p st).1, (p st).2)) (fun x => e (g x)) (fun x => ok (g x)) where
  back := fun x r h => by simp only [hp.back _ _ h, fg]
  sound := fun s h => by simp only [gf]; exact hp.sound s h
  bad := fun st h => hp.bad st h
  len := fun st => hp.len st
def seq2 (p : St → α × St) (q : St → β × St) (f : α → β → γ) (st : St) : γ × St := (f (p st).1 (q (p st).2).1, (q (p st).2).2)
theorem Cod.seq2 (hp : Cod p e ok) (hq : Cod q e' ok') (f : α → β → γ) (g1 : γ → α) (g2 : γ → β) (fg : ∀ x, f (g1 x) (g2 x) = x) (gf1 : ∀ a b, g1 (f a b) = a) (gf2 : ∀ a b, g2 (f a b) = b) :
    Cod (seq2 p q f) (fun x => e (g1 x) ++ e' (g2 x)) (fun x => ok (g1 x) ∧ ok' (g2 x)) where
  back := fun x r h => by
    unfold Fc.seq2
    rw [List.append_assoc, hp.back _ _ h.1]
    simp only
    rw [hq.back _ _ h.2]
    simp only [fg]
  sound := fun s h => by
    unfold Fc.seq2 at h ⊢
    simp only [gf1, gf2] at h ⊢
    have hb : (p ⟨s, false⟩).2.bad = false := by
      cases hc : (p ⟨s, false⟩).2.bad with
      | false => rfl
      | true => rw [hq.bad _ hc] at h; cases h
    obtain ⟨h1, h2⟩ := hp.sound s hb
    rw [St.eq_of hb] at h ⊢
    obtain ⟨h3, h4⟩ := hq.sound _ h
    refine ⟨?_, h2, h4⟩
    rw [List.append_assoc, ← h3]
    exact h1
  bad := fun st h => hq.bad _ (hp.bad st h)
  len := fun st => Nat.le_trans (hq.len _) (hp.len st)

/-- so many, one behind the other -/
def rdN (p : St → α × St) : Nat → St → List α × St
  | 0, st => ([], st)
  | k + 1, st => ((rdN p k st).1 ++ [(p (rdN p k st).2).1], (p (rdN p k st).2).2)
def rdMany (p : St → α × St) (most : Int) (st : St) : List α × St := rdN p (rMany st most).1 (rMany st most).2
def manyB (e : α → List UInt8) (xs : List α) : List UInt8 := enc xs.length ++ xs.flatMap e

theorem rdN_len (hp : Cod p e ok) (k : Nat) (st : St) : (rdN p k st).2.s.length ≤ st.s.length := by
  induction k with
  | zero => exact Nat.le_refl _
  | succ k ih => exact Nat.le_trans (hp.len _) ih
theorem rdN_bad (hp : Cod p e ok) (k : Nat) (st : St) (h : st.bad = true) : (rdN p k st).2.bad = true := by
  induction k with
  | zero => exact h
  | succ k ih => exact hp.bad _ ih
theorem rdN_count (p : St → α × St) (k : Nat) (st : St) : (rdN p k st).1.length = k := by
  induction k with
  | zero => rfl
  | succ k ih => simp [rdN, ih]
theorem rdN_back (hp : Cod p e ok) (xs : List α) (hx : ∀ x ∈ xs, ok x) : ∀ k, k ≤ xs.length → ∀ r, rdN p k ⟨(xs.take k).flatMap e ++ r, false⟩ = (xs.take k, ⟨r, false⟩) := by
  intro k
  induction k with
  | zero => intro _ r; simp [rdN]
  | succ k ih =>
    intro hk r
    have ht : xs.take (k + 1) = xs.take k ++ [xs[k]] := List.take_succ_eq_append_getElem hk
    rw [ht, List.flatMap_append, List.flatMap_singleton, List.append_assoc]
    unfold rdN
    rw [ih (by omega)]
    simp only
    rw [hp.back _ _ (hx _ (List.getElem_mem hk))]
theorem rdN_sound (hp : Cod p e ok) (k : Nat) (s : List UInt8) (h : (rdN p k ⟨s, false⟩).2.bad = false) : s = (rdN p k ⟨s, false⟩).1.flatMap e ++ (rdN p k ⟨s, false⟩).2.s ∧ ∀ x ∈ (rdN p k ⟨s, false⟩).1, ok x := by
  induction k with
  | zero => exact ⟨by simp [rdN], by simp [rdN]⟩
  | succ k ih =>
    unfold rdN at h ⊢
    simp only at h ⊢
    have hb : (rdN p k ⟨s, false⟩).2.bad = false := by
      cases hc : (rdN p k ⟨s, false⟩).2.bad with
      | false => rfl
      | true => rw [hp.bad _ hc] at h; cases h
    obtain ⟨h1, h2⟩ := ih hb
    rw [St.eq_of hb] at h ⊢
    obtain ⟨h3, h4⟩ := hp.sound _ h
    refine ⟨?_, ?_⟩
    · rw [List.flatMap_append, List.flatMap_singleton, List.append_assoc, ← h3]; exact h1
    · intro x hx
      simp only [List.mem_append, List.mem_singleton] at hx
      rcases hx with hx | rfl
      · exact h2 x hx
      · exact h4
theorem flat_len (he : ∀ x, 1 ≤ (e x).length) (xs : List α) : xs.length ≤ (xs.flatMap e).length := by
  induction xs with
  | nil => simp
  | cons x xs ih => have := he x; simp only [List.flatMap_cons, List.length_append, List.length_cons]; omega
theorem Cod.many (hp : Cod p e ok) (he : ∀ x, 1 ≤ (e x).length) (most : Int) :
    Cod (rdMany p most) (manyB e) (fun xs => (xs.length < 9223372036854775808 ∧ (xs.length : Int) ≤ max most 0) ∧ ∀ x ∈ xs, ok x) where
  back := fun xs r h => by
    unfold rdMany manyB
    have hf := flat_len he xs
    rw [List.append_assoc, rMany_enc _ h.1.1 _ h.1.2 _ (by rw [List.length_append]; omega)]
    simp only
    have := rdN_back hp xs h.2 xs.length (Nat.le_refl _) r
    rw [List.take_length] at this
    exact this
  sound := fun s h => by
    unfold rdMany at h ⊢
    have hb : (rMany ⟨s, false⟩ most).2.bad = false := by
      cases hc : (rMany ⟨s, false⟩ most).2.bad with
      | false => rfl
      | true => rw [rdN_bad hp _ _ hc] at h; cases h
    obtain ⟨h1, h2, h3, h4⟩ := rMany_sound s most hb
    rw [St.eq_of hb] at h ⊢
    obtain ⟨h5, h6⟩ := rdN_sound hp _ _ h
    refine ⟨?_, ?_, h6⟩
    · unfold manyB
      rw [rdN_count, List.append_assoc, ← h5]
      exact h3
    · rw [rdN_count]; exact ⟨h1, h2⟩
  bad := fun st h => rdN_bad hp _ _ (by rw [bad_many st h]; exact h)
  len := fun st => Nat.le_trans (rdN_len hp _ _) (rMany_len st most)
/-- two that are laid alike are one -/
theorem Cod.inj (hp : Cod p e ok) {x y : α} {r r' : List UInt8} (hx : ok x) (hy : ok y) (h : e x ++ r = e y ++ r') : x = y ∧ r = r' := by
  have h1 := hp.back x r hx
  rw [h, hp.back y r' hy] at h1
  exact ⟨(congrArg Prod.fst h1).symm, (congrArg (fun z => z.2.s) h1).symm⟩
/-- cut off it is none -/
theorem Cod.cut (hp : Cod p e ok) {x : α} (hx : ok x) (n : Nat) (hn : n < (e x).length) : ¬ ((p ⟨(e x).take n, false⟩).2.bad = false ∧ (p ⟨(e x).take n, false⟩).2.s = []) := by
  rintro ⟨h1, h2⟩
  obtain ⟨h3, h4⟩ := hp.sound _ h1
  rw [h2, List.append_nil] at h3
  have h5 : e x ++ [] = e (p ⟨(e x).take n, false⟩).1 ++ (e x).drop n := by rw [List.append_nil, ← h3, List.take_append_drop]
  obtain ⟨_, h6⟩ := hp.inj hx h4 h5
  have := congrArg List.length h6
  simp at this
  omega
end

/-! ### types, fields, methods, faces -/
abbrev bl (s : ByteArray) : List UInt8 := s.data.toList
theorem bl_mk (s : ByteArray) : (⟨(bl s).toArray⟩ : ByteArray) = s := by cases s; simp
def rdS (mn : Int) (st : St) : ByteArray × St := (⟨(rText st mn).1.toArray⟩, (rText st mn).2)
def sB (s : ByteArray) : List UInt8 := textB (bl s)
def OkS (mn : Int) (s : ByteArray) : Prop := (bl s).length < 9223372036854775808 ∧ ((bl s).length : Int) ≤ max mn 0
theorem cod_s (mn : Int) : Cod (rdS mn) sB (OkS mn) := (cod_text mn).map (fun t => (⟨t.toArray⟩ : ByteArray)) bl bl_mk (fun a => by simp)
def tyB (t : Ty) : List UInt8 := sB t.n ++ [flagB t.a]
def rdTy (mn : Int) : St → Ty × St := seq2 (rdS mn) rFlag Ty.mk
def OkT (mn : Int) (t : Ty) : Prop := OkS mn t.n ∧ True
theorem cod_ty (mn : Int) : Cod (rdTy mn) tyB (OkT mn) := (cod_s mn).seq2 cod_flag Ty.mk Ty.n Ty.a (fun _ => rfl) (fun _ _ => rfl) (fun _ _ => rfl)
def Vr.ty (v : Vr) : Ty := ⟨v.tn, v.ta⟩
def Sg.ret (v : Sg) : Ty := ⟨v.rn, v.ra⟩
def vrB (v : Vr) : List UInt8 := sB v.name ++ tyB v.ty
def rdVr (mn : Int) : St → Vr × St := seq2 (rdS mn) (rdTy mn) (fun n t => ⟨n, t.n, t.a⟩)
def OkV (mn : Int) (v : Vr) : Prop := OkS mn v.name ∧ OkT mn v.ty
theorem cod_vr (mn : Int) : Cod (rdVr mn) vrB (OkV mn) := (cod_s mn).seq2 (cod_ty mn) (fun n t => (⟨n, t.n, t.a⟩ : Vr)) Vr.name Vr.ty (fun _ => rfl) (fun _ _ => rfl) (fun _ _ => rfl)
def tysB (ts : List Ty) : List UInt8 := manyB tyB ts
theorem textB_pos (t : List UInt8) : 1 ≤ (textB t).length := by have := enc_pos t.length; simp only [textB, List.length_append]; omega
theorem tyB_pos (t : Ty) : 1 ≤ (tyB t).length := by simp only [tyB, List.length_append, List.length_singleton]; omega
theorem vrB_pos (t : Vr) : 1 ≤ (vrB t).length := by have := tyB_pos t.ty; simp only [vrB, List.length_append]; omega
/-- a method as it is laid -/
def sgB (m : Sg) : List UInt8 := sB m.name ++ ([flagB m.st] ++ (tyB m.ret ++ tysB m.ps))
theorem sgB_pos (t : Sg) : 1 ≤ (sgB t).length := by simp only [sgB, List.length_append, List.length_singleton]; omega
def rdSg (mn mm : Int) : St → Sg × St := seq2 (rdS mn) (seq2 rFlag (seq2 (rdTy mn) (rdMany (rdTy mn) mm) Prod.mk) Prod.mk) (fun n r => ⟨n, r.1, r.2.2, r.2.1.n, r.2.1.a⟩)
def OkTs (mn mm : Int) (ts : List Ty) : Prop := (ts.length < 9223372036854775808 ∧ (ts.length : Int) ≤ max mm 0) ∧ ∀ t ∈ ts, OkT mn t
def OkG (mn mm : Int) (m : Sg) : Prop := OkS mn m.name ∧ True ∧ OkT mn m.ret ∧ OkTs mn mm m.ps
theorem cod_sg (mn mm : Int) : Cod (rdSg mn mm) sgB (OkG mn mm) :=
  (cod_s mn).seq2 (cod_flag.seq2 ((cod_ty mn).seq2 ((cod_ty mn).many tyB_pos mm) Prod.mk Prod.fst Prod.snd (fun _ => rfl) (fun _ _ => rfl) (fun _ _ => rfl)) Prod.mk Prod.fst Prod.snd (fun _ => rfl) (fun _ _ => rfl) (fun _ _ => rfl))
    (fun n r => (⟨n, r.1, r.2.2, r.2.1.n, r.2.1.a⟩ : Sg)) Sg.name (fun m => (m.st, m.ret, m.ps)) (fun _ => rfl) (fun _ _ => rfl) (fun _ _ => rfl)
/-- a face as it is laid -/
def fcB (f : Fc) : List UInt8 := sB f.name ++ (sB f.sup ++ (manyB vrB f.fs ++ manyB sgB f.ms))
def rdFc (mn mm : Int) : St → Fc × St := seq2 (rdS mn) (seq2 (rdS mn) (seq2 (rdMany (rdVr mn) mm) (rdMany (rdSg mn mm) mm) Prod.mk) Prod.mk) (fun n r => ⟨n, r.1, r.2.1, r.2.2⟩)
def OkF (mn mm : Int) (f : Fc) : Prop := OkS mn f.name ∧ OkS mn f.sup ∧ ((f.fs.length < 9223372036854775808 ∧ (f.fs.length : Int) ≤ max mm 0) ∧ ∀ x ∈ f.fs, OkV mn x) ∧ ((f.ms.length < 9223372036854775808 ∧ (f.ms.length : Int) ≤ max mm 0) ∧ ∀ x ∈ f.ms, OkG mn mm x)
theorem cod_fc (mn mm : Int) : Cod (rdFc mn mm) fcB (OkF mn mm) :=
  (cod_s mn).seq2 ((cod_s mn).seq2 (((cod_vr mn).many vrB_pos mm).seq2 ((cod_sg mn mm).many sgB_pos mm) Prod.mk Prod.fst Prod.snd (fun _ => rfl) (fun _ _ => rfl) (fun _ _ => rfl)) Prod.mk Prod.fst Prod.snd (fun _ => rfl) (fun _ _ => rfl) (fun _ _ => rfl))
    (fun n r => (⟨n, r.1, r.2.1, r.2.2⟩ : Fc)) Fc.name (fun m => (m.sup, m.fs, m.ms)) (fun _ => rfl) (fun _ _ => rfl) (fun _ _ => rfl)
end Go.Proofs.YtomlbfkkhhhfkaaDoor.Fc
