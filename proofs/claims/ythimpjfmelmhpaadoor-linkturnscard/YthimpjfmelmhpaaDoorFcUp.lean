/-
  Those above a class, as plain data.
-/
import Derived.Test.YthimpjfmelmhpaaDoorFcTab
namespace Go.Proofs.YthimpjfmelmhpaaDoor.Fc
open Go.RowKit
set_option linter.unusedVariables false

instance decMem (s : ByteArray) (acc : List ByteArray) : Decidable (s ∈ acc) := @List.instDecidableMemOfLawfulBEq ByteArray instBEqOfDecidableEq inferInstance s acc
def eE : ByteArray := ⟨#[]⟩
def upF (L : List Fc) : Nat → List ByteArray → ByteArray → List ByteArray × Bool
  | 0, acc, _ => (acc, false)
  | n + 1, acc, s => if s = eE then (acc, true) else match fnd L s with
    | none => (acc, false)
    | some x => if s ∈ acc then (acc, false) else upF L n (acc ++ [s]) x.sup
def ab (L : List Fc) (s : ByteArray) : List ByteArray × Bool := upF L (L.length + 1) [] s

theorem nodup_le {α : Type} [DecidableEq α] : ∀ {l m : List α}, l.Nodup → (∀ x ∈ l, x ∈ m) → l.length ≤ m.length
  | [], _, _, _ => Nat.zero_le _
  | a :: l, m, hn, hs => by
    have ha : a ∈ m := hs a (by simp)
    rw [List.nodup_cons] at hn
    have h1 : l.length ≤ (m.erase a).length := nodup_le hn.2 (fun x hx => by
      have hne : x ≠ a := fun e => hn.1 (by rw [← e]; exact hx)
      exact (List.mem_erase_of_ne hne).2 (hs x (by simp [hx])))
    rw [List.length_erase_of_mem ha] at h1
    have : 0 < m.length := List.length_pos_of_mem ha
    simp only [List.length_cons]
    omega
/-- names that are there, each once, are no more than faces -/
theorem acc_le {L : List Fc} {acc : List ByteArray} (hn : acc.Nodup) (h : ∀ s ∈ acc, fnd L s ≠ none) : acc.length ≤ L.length := by
  have := nodup_le (m := L.map (·.name)) hn (fun s hs => by
    cases hf : fnd L s with
    | none => exact absurd hf (h s hs)
    | some x =>
      obtain ⟨h1, h2⟩ := fnd_some hf
      exact List.mem_map.2 ⟨x, h1, h2⟩)
  simpa using this
theorem upF_end {L : List Fc} {n : Nat} {acc : List ByteArray} : upF L (n + 1) acc eE = (acc, true) := by simp [upF]
theorem upF_none {L : List Fc} {n : Nat} {acc : List ByteArray} {s : ByteArray} (hs : s ≠ eE) (h : fnd L s = none) : upF L (n + 1) acc s = (acc, false) := by simp [upF, hs, h]
theorem upF_twice {L : List Fc} {n : Nat} {acc : List ByteArray} {s : ByteArray} (hs : s ≠ eE) (h : s ∈ acc) : upF L (n + 1) acc s = (acc, false) := by
  simp only [upF, if_neg hs]
  split
  · rfl
  · rw [if_pos h]
theorem upF_step {L : List Fc} {n : Nat} {acc : List ByteArray} {s : ByteArray} {x : Fc} (hs : s ≠ eE) (hf : fnd L s = some x) (h : s ∉ acc) : upF L (n + 1) acc s = upF L n (acc ++ [s]) x.sup := by
  simp only [upF, if_neg hs, hf, if_neg h]
/-- what there is at a round -/
structure UInv (L : List Fc) (s0 : ByteArray) (acc : List ByteArray) (s : ByteArray) : Prop where
  nodup : acc.Nodup
  there : ∀ t ∈ acc, fnd L t ≠ none
  eq : ab L s0 = upF L (L.length + 1 - acc.length) acc s
theorem UInv.start (L : List Fc) (s : ByteArray) : UInv L s [] s := ⟨List.nodup_nil, by simp, rfl⟩
theorem UInv.le {L : List Fc} {s0 s : ByteArray} {acc : List ByteArray} (h : UInv L s0 acc s) : acc.length ≤ L.length := acc_le h.nodup h.there
theorem UInv.fuel {L : List Fc} {s0 s : ByteArray} {acc : List ByteArray} (h : UInv L s0 acc s) : L.length + 1 - acc.length = (L.length - acc.length) + 1 := by have := h.le; omega
theorem UInv.fin {L : List Fc} {s0 s : ByteArray} {acc : List ByteArray} (h : UInv L s0 acc s) (hs : s = eE) : ab L s0 = (acc, true) := by rw [h.eq, h.fuel, hs, upF_end]
theorem UInv.no {L : List Fc} {s0 s : ByteArray} {acc : List ByteArray} (h : UInv L s0 acc s) (hs : s ≠ eE) (hb : fnd L s = none ∨ s ∈ acc) : ab L s0 = (acc, false) := by
  rw [h.eq, h.fuel]
  rcases hb with hb | hb
  · exact upF_none hs hb
  · exact upF_twice hs hb
theorem UInv.step {L : List Fc} {s0 s : ByteArray} {acc : List ByteArray} (h : UInv L s0 acc s) {x : Fc} (hs : s ≠ eE) (hf : fnd L s = some x) (hn : s ∉ acc) : UInv L s0 (acc ++ [s]) x.sup := by
  refine ⟨?_, ?_, ?_⟩
  · rw [List.nodup_append]
    exact ⟨h.nodup, by simp, fun a ha b hb e => by simp at hb; subst hb; exact hn (e ▸ ha)⟩
  · intro t ht
    rw [List.mem_append] at ht
    rcases ht with ht | ht
    · exact h.there t ht
    · simp at ht; subst ht; rw [hf]; simp
  · rw [h.eq, h.fuel, upF_step hs hf hn]
    congr 1
    simp
/-- the way up, told by what is there -/
inductive Ch (L : List Fc) : ByteArray → List ByteArray → Prop
  | nil : Ch L eE []
  | cons {s : ByteArray} {x : Fc} {l : List ByteArray} : s ≠ eE → fnd L s = some x → Ch L x.sup l → Ch L s (s :: l)
theorem Ch.unique {L : List Fc} {s : ByteArray} {l l' : List ByteArray} (h : Ch L s l) (h' : Ch L s l') : l = l' := by
  induction h generalizing l' with
  | nil =>
    cases h' with
    | nil => rfl
    | cons hs _ _ => exact absurd rfl hs
  | cons hs hf _ ih =>
    cases h' with
    | nil => exact absurd rfl hs
    | cons _ hf' h' =>
      rw [hf] at hf'
      cases hf'
      rw [ih h']
theorem upF_ch {L : List Fc} : ∀ {n : Nat} {acc : List ByteArray} {s : ByteArray} {r : List ByteArray}, upF L n acc s = (r, true) → ∃ l, r = acc ++ l ∧ Ch L s l
  | 0, acc, s, r, h => by simp [upF] at h
  | n + 1, acc, s, r, h => by
    by_cases hs : s = eE
    · subst hs
      rw [upF_end] at h
      cases h
      exact ⟨[], by simp, .nil⟩
    · cases hf : fnd L s with
      | none => rw [upF_none hs hf] at h; cases h
      | some x =>
        by_cases hm : s ∈ acc
        · rw [upF_twice hs hm] at h; cases h
        · rw [upF_step hs hf hm] at h
          obtain ⟨l, e, hl⟩ := upF_ch h
          exact ⟨s :: l, by rw [e]; simp, .cons hs hf hl⟩
theorem ab_ch {L : List Fc} {s : ByteArray} (h : (ab L s).2 = true) : Ch L s (ab L s).1 := by
  obtain ⟨l, e, hl⟩ := upF_ch (L := L) (n := L.length + 1) (acc := []) (s := s) (r := (ab L s).1) (by rw [← h]; rfl)
  simp at e
  rw [e]
  exact hl
end Go.Proofs.YthimpjfmelmhpaaDoor.Fc
