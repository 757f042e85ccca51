/-
  Files by their names, as data: what a disk and the statements' own model both hold.
-/
import Derived.Maps.OwnSet
namespace Go.Proofs.Ytecegjdnodcamaa
open Go.Maps Go.RowKit

abbrev Dt := DataW Unit
/-- a text as bytes -/
def T (l : List UInt8) : ByteArray := ⟨l.toArray⟩
theorem T_data (s : ByteArray) : T s.data.toList = s := by cases s; simp [T]
theorem T_size (l : List UInt8) : (T l).size = l.length := by simp [T, ByteArray.size]
/-- a name as a key -/
def ky (s : ByteArray) : Lit := .string s.data.toList
def tx (s : ByteArray) : Dt := .lit (.string s.data.toList)
theorem ky_key (s : ByteArray) : WideAt.IsKeyLit (ky s) := by simp [ky, WideAt.IsKeyLit]
theorem ky_inj {a b : ByteArray} (h : ky a = ky b) : a = b := by
  unfold ky at h
  injection h with h
  rw [← T_data a, ← T_data b, h]

def unT : Dt → ByteArray
  | .lit (.string l) => T l
  | _ => ByteArray.empty
theorem unT_tx (s : ByteArray) : unT (tx s) = s := T_data s
def lenD (d : Dt) : Nat := (unT d).size
/-- the text of a file; nothing where there is none -/
def get (D : Dt) (k : ByteArray) : ByteArray := unT (D.atKey (ky k) (tx ByteArray.empty))
def hasF (D : Dt) (k : ByteArray) : Bool := Maps.has D (ky k)
/-- the bytes of all files -/
def tot : Dt → Nat
  | .map es => (es.map fun p => lenD p.2).sum
  | _ => 0

/-- a map of texts by texts, each name once -/
def Good (D : Dt) : Prop := ∃ es, D = .map es ∧ es.Pairwise (fun p q => p.1 ≠ q.1) ∧ ∀ p ∈ es, (∃ k, p.1 = ky k) ∧ ∃ s, p.2 = tx s
theorem good_empty : Good (.map []) := ⟨[], rfl, List.Pairwise.nil, by simp⟩
theorem Good.tidy {D : Dt} (h : Good D) : Tidy D := let ⟨es, e, p, _⟩ := h; ⟨es, e, p⟩

theorem insert_mem {x p : Lit × Dt} : ∀ {l : List (Lit × Dt)}, p ∈ DataW.insert x l ↔ p = x ∨ p ∈ l := by
  intro l
  rw [(WideShapes.insert_perm x l).mem_iff, List.mem_cons]

def putF (D : Dt) (k s : ByteArray) : Dt := D.put (ky k) (tx s)
def delF (D : Dt) (k : ByteArray) : Dt := D.del (ky k)

theorem Good.put {D : Dt} (h : Good D) (k s : ByteArray) : Good (putF D k s) := by
  have ht := h.tidy.put (ky_key k) (tx s)
  obtain ⟨es, rfl, hp, hq⟩ := h
  obtain ⟨es', e', hp'⟩ := ht
  refine ⟨es', e', hp', fun p hm => ?_⟩
  have e2 : es' = DataW.insert (ky k, tx s) (es.filter fun p => !p.1.sameKey (ky k)) := by
    have := e'
    unfold DataW.put at this
    injection this with this
    exact this.symm
  rw [e2] at hm
  rcases insert_mem.1 hm with rfl | hm
  · exact ⟨⟨k, rfl⟩, ⟨s, rfl⟩⟩
  · exact hq p (List.mem_filter.1 hm).1
theorem Good.del {D : Dt} (h : Good D) (k : ByteArray) : Good (delF D k) := by
  obtain ⟨es, rfl, hp, hq⟩ := h
  exact ⟨_, rfl, hp.filter _, fun p hm => hq p (List.mem_filter.1 hm).1⟩

theorem atKey_tx {D : Dt} (h : Good D) (k : ByteArray) (z : ByteArray) : ∃ s, D.atKey (ky k) (tx z) = tx s := by
  obtain ⟨es, rfl, hp, hq⟩ := h
  simp only [DataW.atKey]
  cases hf : es.find? (fun p => p.1.sameKey (ky k)) with
  | none => exact ⟨z, rfl⟩
  | some p => exact (hq p (List.mem_of_find?_eq_some hf)).2
theorem atKey_get {D : Dt} (h : Good D) (k : ByteArray) : D.atKey (ky k) (tx ByteArray.empty) = tx (get D k) := by
  obtain ⟨s, hs⟩ := atKey_tx h k ByteArray.empty
  unfold get
  rw [hs, unT_tx]

theorem get_put_same {D : Dt} (h : Good D) (k s : ByteArray) : get (putF D k s) k = s := by
  unfold get putF
  rw [atKey_put_same h.tidy.isMap (ky_key k), unT_tx]
theorem get_put_other {D : Dt} {k k' : ByteArray} (hne : k' ≠ k) (s : ByteArray) : get (putF D k s) k' = get D k' := by
  unfold get putF
  rw [atKey_put_other (fun e => hne (ky_inj e))]
theorem get_del_same (D : Dt) (k : ByteArray) : get (delF D k) k = ByteArray.empty := by
  unfold get delF
  rw [atKey_del_same, unT_tx]
theorem get_del_other {D : Dt} {k k' : ByteArray} (hne : k' ≠ k) : get (delF D k) k' = get D k' := by
  unfold get delF
  rw [atKey_del_other (fun e => hne (ky_inj e))]
theorem has_put_same' {D : Dt} (h : Good D) (k s : ByteArray) : hasF (putF D k s) k = true := has_put_same h.tidy.isMap (ky_key k) _
theorem has_put_other' {D : Dt} {k k' : ByteArray} (hne : k' ≠ k) (s : ByteArray) : hasF (putF D k s) k' = hasF D k' := has_put_other (fun e => hne (ky_inj e)) _
theorem has_del_same' (D : Dt) (k : ByteArray) : hasF (delF D k) k = false := has_del_same
theorem has_del_other' {D : Dt} {k k' : ByteArray} (hne : k' ≠ k) : hasF (delF D k) k' = hasF D k' := has_del_other (fun e => hne (ky_inj e))
theorem get_of_not {D : Dt} {k : ByteArray} (h : hasF D k = false) : get D k = ByteArray.empty := by
  unfold get
  rw [atKey_of_not_has h, unT_tx]
theorem del_of_not {D : Dt} {k : ByteArray} (h : hasF D k = false) : delF D k = D := del_of_not_has h

theorem put_del (D : Dt) (k s : ByteArray) : putF (delF D k) k s = putF D k s := by
  unfold putF delF
  cases D <;> try rfl
  rename_i es
  show DataW.map (DataW.insert (ky k, tx s) ((es.filter fun p => !p.1.sameKey (ky k)).filter fun p => !p.1.sameKey (ky k))) = DataW.map (DataW.insert (ky k, tx s) (es.filter fun p => !p.1.sameKey (ky k)))
  rw [List.filter_filter]
  simp

theorem sum_strike (k : Lit) : ∀ (es : List (Lit × Dt)), es.Pairwise (fun p q => p.1 ≠ q.1) →
    ((es.filter fun p => !p.1.sameKey k).map fun p => lenD p.2).sum + (match es.find? (fun p => p.1.sameKey k) with | some p => lenD p.2 | none => 0) = (es.map fun p => lenD p.2).sum
  | [], _ => rfl
  | y :: r, h => by
    obtain ⟨h1, h2⟩ := List.pairwise_cons.1 h
    cases hy : y.1.sameKey k
    · have ih := sum_strike k r h2
      simp only [List.filter_cons, hy, Bool.not_false, if_true, List.map_cons, List.sum_cons, List.find?_cons]
      omega
    · have hr : r.filter (fun p => !p.1.sameKey k) = r := by
        apply List.filter_eq_self.2
        intro p hp
        cases hpk : p.1.sameKey k
        · rfl
        · exact absurd ((WideAt.sameKey_eq hy).trans (WideAt.sameKey_eq hpk).symm) (h1 p hp)
      simp only [List.filter_cons, hy, Bool.not_true, Bool.false_eq_true, if_false, List.map_cons, List.sum_cons, List.find?_cons, hr]
      omega

theorem tot_del {D : Dt} (h : Good D) (k : ByteArray) : tot (delF D k) + (get D k).size = tot D := by
  obtain ⟨es, rfl, hp, hq⟩ := h
  have := sum_strike (ky k) es hp
  show ((es.filter fun p => !p.1.sameKey (ky k)).map fun p => lenD p.2).sum + (get (.map es) k).size = (es.map fun p => lenD p.2).sum
  rw [← this]
  unfold get
  simp only [DataW.atKey]
  cases es.find? (fun p => p.1.sameKey (ky k)) with
  | none => rfl
  | some p => rfl
theorem sum_insert (x : Lit × Dt) (l : List (Lit × Dt)) : ((DataW.insert x l).map fun p => lenD p.2).sum = lenD x.2 + (l.map fun p => lenD p.2).sum := by
  rw [((WideShapes.insert_perm x l).map _).sum_nat]
  rfl
theorem tot_put {D : Dt} (h : Good D) (k s : ByteArray) : tot (putF D k s) = tot (delF D k) + s.size := by
  obtain ⟨es, rfl, hp, hq⟩ := h
  show ((DataW.insert (ky k, tx s) (es.filter fun p => !p.1.sameKey (ky k))).map fun p => lenD p.2).sum = ((es.filter fun p => !p.1.sameKey (ky k)).map fun p => lenD p.2).sum + s.size
  rw [sum_insert, Nat.add_comm]
  show _ + (unT (tx s)).size = _
  rw [unT_tx]

/-- what was done: 0 write, 1 rename, 2 remove -/
structure Chg where
  k : Nat
  name : ByteArray
  with_ : ByteArray
/-- a change, done -/
def app (D : Dt) (c : Chg) : Dt :=
  if c.k = 0 then putF D c.name c.with_ else if c.k = 1 then (if hasF D c.name then putF (delF D c.name) c.with_ (get D c.name) else D) else delF D c.name
def apps (D : Dt) (l : List Chg) : Dt := l.foldl app D
theorem Good.app {D : Dt} (h : Good D) (c : Chg) : Good (app D c) := by
  unfold Ytecegjdnodcamaa.app
  split
  · exact h.put _ _
  · split
    · split
      · exact (h.del _).put _ _
      · exact h
    · exact h.del _
theorem Good.apps {D : Dt} (h : Good D) (l : List Chg) : Good (apps D l) := by
  induction l generalizing D with
  | nil => exact h
  | cons c l ih => exact ih (h.app c)
theorem size_put_le {D : Dt} (h : Good D) (k s : ByteArray) : Maps.size (putF D k s) ≤ Maps.size D + 1 := by
  unfold putF
  rw [size_put h.tidy]
  split <;> omega
theorem size_del_le {D : Dt} (h : Good D) (k : ByteArray) : Maps.size (delF D k) ≤ Maps.size D := by
  have := size_del (k := ky k) h.tidy
  unfold delF
  omega
theorem tot_del_le {D : Dt} (h : Good D) (k : ByteArray) : tot (delF D k) ≤ tot D := by have := tot_del h k; omega
theorem tot_app {D : Dt} (h : Good D) (c : Chg) : tot (app D c) ≤ tot D + c.with_.size := by
  unfold app
  split
  · have := tot_put h c.name c.with_; have := tot_del_le h c.name; omega
  · split
    · split
      · have h1 := tot_put (h.del c.name) c.with_ (get D c.name)
        have h2 := tot_del_le (h.del c.name) c.with_
        have h3 := tot_del h c.name
        omega
      · omega
    · have := tot_del_le h c.name; omega
theorem size_app {D : Dt} (h : Good D) (c : Chg) : Maps.size (app D c) ≤ Maps.size D + 1 := by
  unfold app
  split
  · exact size_put_le h _ _
  · split
    · split
      · have h1 := size_put_le (h.del c.name) c.with_ (get D c.name)
        have h2 := size_del_le h c.name
        omega
      · omega
    · have := size_del_le h c.name; omega
def wt (l : List Chg) : Nat := (l.map fun c => c.with_.size).sum
theorem tot_apps {D : Dt} (h : Good D) (l : List Chg) : tot (apps D l) ≤ tot D + wt l := by
  induction l generalizing D with
  | nil => simp [apps, wt]
  | cons c l ih =>
    have h1 := ih (h.app c)
    have h2 := tot_app h c
    simp only [apps, wt, List.foldl_cons, List.map_cons, List.sum_cons] at *
    omega
theorem size_apps {D : Dt} (h : Good D) (l : List Chg) : Maps.size (apps D l) ≤ Maps.size D + l.length := by
  induction l generalizing D with
  | nil => simp [apps]
  | cons c l ih =>
    have h1 := ih (h.app c)
    have h2 := size_app h c
    simp only [apps, List.foldl_cons, List.length_cons] at *
    omega
theorem apps_snoc (D : Dt) (l : List Chg) (c : Chg) : apps D (l ++ [c]) = app (apps D l) c := by simp [apps, List.foldl_append]
theorem wt_snoc (l : List Chg) (c : Chg) : wt (l ++ [c]) = wt l + c.with_.size := by simp [wt]

end Go.Proofs.Ytecegjdnodcamaa
