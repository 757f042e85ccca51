/-
  What was seen so far, as plain data.
-/
import Derived.Test.YtgnkkoeklipmiaaAllInv
namespace Go.Proofs.Ytgnkkoeklipmiaa
open Go.RowKit
set_option linter.unusedVariables false

/-- of the first j names all are below the last one -/
def RiseTo (xs : List ByteArray) (j : Nat) : Prop := ∀ p x y, p + 1 < j → xs[p]? = some x → xs[j - 1]? = some y → bl x y = true
theorem rise0 (xs : List ByteArray) : RiseTo xs 0 := fun p x y h => by omega
theorem RiseTo.step {xs : List ByteArray} {j : Nat} {z : ByteArray} (h : RiseTo xs j) (hz : xs[j]? = some z) (hy : j = 0 ∨ ∃ y, xs[j - 1]? = some y ∧ bl y z = true) : RiseTo xs (j + 1) := by
  intro p x y' hp hx hy'
  obtain rfl : z = y' := Option.some.inj (hz.symm.trans hy')
  rcases hy with hy | ⟨y, hy, hl⟩
  · omega
  · by_cases e : p = j - 1
    · subst e
      obtain rfl : x = y := Option.some.inj (hx.symm.trans hy)
      exact hl
    · exact less_trans (h p x y (by omega) hx hy) hl
theorem RiseTo.ne {xs : List ByteArray} {j : Nat} {z : ByteArray} (h : RiseTo xs (j + 1)) (hz : xs[j]? = some z) {x : ByteArray} (hx : x ∈ xs.take j) : x ≠ z := by
  obtain ⟨p, hp⟩ := List.mem_iff_getElem?.1 hx
  rw [List.getElem?_take] at hp
  split at hp
  · exact bl_ne (h p x z (by omega) hp hz)
  · cases hp

abbrev fc (L : List Fc) (a : ByteArray) : Fc := (fnd L a).getD zF
def SeenP (L : List Fc) (la : List ByteArray) (i : Nat) (fs : List Vr) (j : Nat) (ns : List ByteArray) : Prop :=
  ∀ t ∈ ns, (∃ i' a v, i' < i ∧ la[i']? = some a ∧ v ∈ (fc L a).fs ∧ v.name = t) ∨ ∃ v ∈ fs.take j, v.name = t
theorem SeenP.step {L : List Fc} {la : List ByteArray} {i : Nat} {fs : List Vr} {j : Nat} {ns : List ByteArray} {v : Vr} (h : SeenP L la i fs j ns) (hv : fs[j]? = some v) : SeenP L la i fs (j + 1) (v.name :: ns) := by
  have hk : j < fs.length := (List.getElem?_eq_some_iff.1 hv).1
  have e : fs.take (j + 1) = fs.take j ++ [v] := by rw [List.take_succ_eq_append_getElem hk, (List.getElem?_eq_some_iff.1 hv).2]
  intro t ht
  rw [e]
  rcases List.mem_cons.1 ht with rfl | ht
  · exact .inr ⟨v, by simp, rfl⟩
  · rcases h t ht with h | ⟨u, hu, hn⟩
    · exact .inl h
    · exact .inr ⟨u, by simp [hu], hn⟩
theorem SeenP.next {L : List Fc} {la : List ByteArray} {i : Nat} {b : ByteArray} {ns : List ByteArray} {fs' : List Vr} {j : Nat} (hj : (fc L b).fs.length ≤ j) (h : SeenP L la i (fc L b).fs j ns) (hb : la[i]? = some b) : SeenP L la (i + 1) fs' 0 ns := by
  intro t ht
  rcases h t ht with ⟨i', a, v, h1, h2⟩ | ⟨v, hv, hn⟩
  · exact .inl ⟨i', a, v, by omega, h2⟩
  · rw [List.take_of_length_le hj] at hv
    exact .inl ⟨i, b, v, by omega, hb, hv, hn⟩
theorem SeenP.no {L : List Fc} (H : ∀ x ∈ L, chk L x.name = 0) {s : ByteArray} (hw : (ab L s).2 = true) {i j : Nat} {b : ByteArray} {ns : List ByteArray} {v : Vr} (h : SeenP L (ab L s).1 i (fc L b).fs j ns) (hb : (ab L s).1[i]? = some b) (hv : (fc L b).fs[j]? = some v) (hr : RiseTo ((fc L b).fs.map (·.name)) (j + 1)) : v.name ∉ ns := by
  intro hm
  rcases h v.name hm with ⟨i', a, u, h1, h2, h3, h4⟩ | ⟨u, hu, hn⟩
  · exact two_fields H hw h1 h2 hb h3 (List.mem_of_getElem? hv) h4.symm
  · refine hr.ne (z := v.name) (by simp [hv]) (x := u.name) ?_ hn
    rw [← List.map_take]
    exact List.mem_map.2 ⟨u, hu, rfl⟩

def SigP (L : List Fc) (la : List ByteArray) (i : Nat) (ms : List Sg) (q : Nat) (sg : ByteArray → Option Sg) : Prop := ∀ s, match sg s with
  | none => (∀ k c, k < i → la[k]? = some c → mOne L s false c = none) ∧ ∀ m ∈ ms.take q, m.name = s → m.st = true
  | some o => o.name = s ∧ o.st = false ∧ ((∃ j a, j < i ∧ la[j]? = some a ∧ o ∈ (fc L a).ms ∧ (∀ k c, j < k → k < i → la[k]? = some c → mOne L s false c = none) ∧ ∀ m ∈ ms.take q, m.name = s → m.st = true) ∨ o ∈ ms.take q)
theorem sigP0 (L : List Fc) (la : List ByteArray) (ms : List Sg) : SigP L la 0 ms 0 (fun _ => none) := fun s => ⟨fun k c h => by omega, fun m hm => by simp at hm⟩
theorem take_snoc {α : Type} {l : List α} {q : Nat} {x : α} (h : l[q]? = some x) : l.take (q + 1) = l.take q ++ [x] := by
  have hk : q < l.length := (List.getElem?_eq_some_iff.1 h).1
  rw [List.take_succ_eq_append_getElem hk, (List.getElem?_eq_some_iff.1 h).2]
theorem SigP.static {L : List Fc} {la : List ByteArray} {i : Nat} {ms : List Sg} {q : Nat} {sg : ByteArray → Option Sg} {m : Sg} (h : SigP L la i ms q sg) (hm : ms[q]? = some m) (hs : m.st = true) : SigP L la i ms (q + 1) sg := by
  have ext : ∀ s, (∀ m ∈ ms.take q, m.name = s → m.st = true) → ∀ m ∈ ms.take (q + 1), m.name = s → m.st = true := fun s h m' hm' hn => by
    rw [take_snoc hm, List.mem_append] at hm'
    rcases hm' with h1 | h1
    · exact h m' h1 hn
    · simp at h1; subst h1; exact hs
  intro s
  have h1 := h s
  cases hsg : sg s with
  | none => rw [hsg] at h1; exact ⟨h1.1, ext s h1.2⟩
  | some o =>
    rw [hsg] at h1
    obtain ⟨e1, e2, ⟨j, a, a1, a2, a3, a4, a5⟩ | e3⟩ := h1
    · exact ⟨e1, e2, .inl ⟨j, a, a1, a2, a3, a4, ext s a5⟩⟩
    · exact ⟨e1, e2, .inr (by rw [take_snoc hm]; simp [e3])⟩
theorem SigP.own {L : List Fc} {la : List ByteArray} {i : Nat} {ms : List Sg} {q : Nat} {sg : ByteArray → Option Sg} {m : Sg} (h : SigP L la i ms q sg) (hm : ms[q]? = some m) (hs : m.st = false) : SigP L la i ms (q + 1) (fun t => if t = m.name then some m else sg t) := by
  intro s
  by_cases e : s = m.name
  · simp only [if_pos e]
    exact ⟨e.symm, hs, .inr (by rw [take_snoc hm]; simp)⟩
  · simp only [if_neg e]
    have ext : (∀ m ∈ ms.take q, m.name = s → m.st = true) → ∀ m ∈ ms.take (q + 1), m.name = s → m.st = true := fun h m' hm' hn => by
      rw [take_snoc hm, List.mem_append] at hm'
      rcases hm' with h1 | h1
      · exact h m' h1 hn
      · simp at h1; subst h1; exact absurd hn.symm e
    have h1 := h s
    cases hsg : sg s with
    | none => rw [hsg] at h1; exact ⟨h1.1, ext h1.2⟩
    | some o =>
      rw [hsg] at h1
      obtain ⟨e1, e2, ⟨j, a, a1, a2, a3, a4, a5⟩ | e3⟩ := h1
      · exact ⟨e1, e2, .inl ⟨j, a, a1, a2, a3, a4, ext a5⟩⟩
      · exact ⟨e1, e2, .inr (by rw [take_snoc hm]; simp [e3])⟩
theorem SigP.same {L : List Fc} (H : ∀ x ∈ L, chk L x.name = 0) {s : ByteArray} (hw : (ab L s).2 = true) {i q : Nat} {b : ByteArray} {sg : ByteArray → Option Sg} {m o : Sg} (h : SigP L (ab L s).1 i (fc L b).ms q sg) (hb : (ab L s).1[i]? = some b) (hm : (fc L b).ms[q]? = some m) (hr : RiseTo ((fc L b).ms.map (·.name)) (q + 1)) (hs : m.st = false) (ho : sg m.name = some o) : o = m := by
  have hne : ∀ x ∈ (fc L b).ms.take q, x.name ≠ m.name := fun x hx => hr.ne (z := m.name) (by simp [hm]) (by rw [← List.map_take]; exact List.mem_map.2 ⟨x, hx, rfl⟩)
  have h1 := h m.name
  rw [ho] at h1
  obtain ⟨e1, e2, ⟨j, a, a1, a2, a3, a4, a5⟩ | e3⟩ := h1
  · refine two_methods H hw a1 a2 hb a3 e2 ?_ hs (by rw [e1]; exact a4)
    rw [e1]
    unfold mthF
    exact find_at hm (fun y hy => by simpa using hne y hy) (by simp)
  · exact absurd e1 (hne o e3)
theorem SigP.next {L : List Fc} {la : List ByteArray} {i : Nat} {b : ByteArray} {sg : ByteArray → Option Sg} {ms' : List Sg} {q : Nat} (hq : (fc L b).ms.length ≤ q) (h : SigP L la i (fc L b).ms q sg) (hb : la[i]? = some b) : SigP L la (i + 1) ms' 0 sg := by
  have cur : ∀ s, (∀ m ∈ (fc L b).ms.take q, m.name = s → m.st = true) → mOne L s false b = none := fun s hh => by
    rw [List.take_of_length_le hq] at hh
    unfold mOne
    cases hf : mthF ((fnd L b).getD zF).ms s with
    | none => rfl
    | some m =>
      unfold mthF at hf
      have := hh m (List.mem_of_find?_eq_some hf) (by simpa using List.find?_some hf)
      simp [this]
  intro s
  have h1 := h s
  cases hsg : sg s with
  | none =>
    rw [hsg] at h1
    refine ⟨fun k c hk hc => ?_, fun m hm => by simp at hm⟩
    by_cases e : k = i
    · subst e
      obtain rfl : c = b := Option.some.inj (hc.symm.trans hb)
      exact cur s h1.2
    · exact h1.1 k c (by omega) hc
  | some o =>
    rw [hsg] at h1
    obtain ⟨e1, e2, ⟨j, a, a1, a2, a3, a4, a5⟩ | e3⟩ := h1
    · refine ⟨e1, e2, .inl ⟨j, a, by omega, a2, a3, fun k c hk1 hk2 hc => ?_, fun m hm => by simp at hm⟩⟩
      by_cases e : k = i
      · subst e
        obtain rfl : c = b := Option.some.inj (hc.symm.trans hb)
        exact cur s a5
      · exact a4 k c hk1 (by omega) hc
    · rw [List.take_of_length_le hq] at e3
      exact ⟨e1, e2, .inl ⟨i, b, by omega, hb, e3, fun k c hk1 hk2 => by omega, fun m hm => by simp at hm⟩⟩
end Go.Proofs.Ytgnkkoeklipmiaa
