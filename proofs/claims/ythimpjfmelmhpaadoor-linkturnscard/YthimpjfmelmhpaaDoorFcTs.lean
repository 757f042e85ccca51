/-
  HierOrders walked.
-/
import Derived.Test.YthimpjfmelmhpaaDoorFcAbove
namespace Go.Proofs.YthimpjfmelmhpaaDoor.Fc
open Go.RowKit
set_option linter.unusedVariables false

/-- the state between two calls of a table -/
def TS (W : World) (tb fm : Nat) (L : List Fc) (k : Nat) (w : World) : Prop := ∃ B sv c, Tb B w tb fm sv c L ∧ W.heap.size ≤ B ∧ B ≤ w.heap.size ∧ c ≤ k ∧ Below W.heap.size W w
theorem TS.start {W w w' : World} {tb fm : Nat} {L : List Fc} (hb : Below W.heap.size W w) (h : Tb w.heap.size w' tb fm (.map none) 0 L) (h2 : Below w.heap.size w w') : TS W tb fm L 0 w' := ⟨_, _, _, h, hb.size, h2.size, Nat.le_refl _, hb.trans (h2.mono hb.size)⟩
theorem TS.below {W w w' : World} {tb fm k : Nat} {L : List Fc} (h : TS W tb fm L k w) (hb : Below w.heap.size w w') : TS W tb fm L k w' := by
  obtain ⟨B, sv, c, h1, h2, h3, h4, h5⟩ := h
  exact ⟨B, sv, c, h1.below hb, h2, Nat.le_trans h3 hb.size, h4, h5.trans (hb.mono (Nat.le_trans h2 h3))⟩
theorem TS.bel {W w : World} {tb fm k : Nat} {L : List Fc} (h : TS W tb fm L k w) : Below W.heap.size W w := let ⟨_, _, _, _, _, _, _, h⟩ := h; h
/-- behind an answer of a table -/
theorem TS.next {W w w' : World} {tb fm k j B : Nat} {L : List Fc} {sv sv' : Value} {c c' : Nat} (h1 : Tb B w tb fm sv c L) (h2 : W.heap.size ≤ B) (h3 : B ≤ w.heap.size) (h4 : c ≤ k) (h5 : Below W.heap.size W w) (hT : Tb B w' tb fm sv' c' L) (hs : Stp tb w sv w' sv') (hc : c' ≤ c + j) : TS W tb fm L (k + j) w' ∧ Keeps w w' :=
  ⟨⟨B, sv', c', hT, h2, Nat.le_trans h3 hs.mods.size, by omega, h5.trans ((hs.below h1 h3).mono h2)⟩, hs.keeps⟩
theorem above_ts {W w : World} {tb fm k : Nat} {L : List Fc} (h : TS W tb fm L k w) (hL : L.length ≤ 300) (hk : k < 500000000000) (s : ByteArray) (hs : s.size ≤ maxLen) :
    Calls Tryd.prog 18 #[.pointer (some ⟨tb, 0, none⟩), .string s] w fun e w' => ∃ a c, e = .returned (.tuple #[.slice a (ab L s).1.length c, .bool (ab L s).2]) ∧ Sl w' 1 StrR (ab L s).1 (.slice a (ab L s).1.length c) ∧ TS W tb fm L (k + 301) w' ∧ Keeps w w' := by
  obtain ⟨B, sv, c, h1, h2, h3, h4, h5⟩ := h
  refine (above13 B tb fm L hL s hs w sv c h3 h1 (by omega)).mono ?_
  rintro e w' ⟨v, sv', c', rfl, hS, hT, hst, hc⟩
  obtain ⟨a, cp, rfl⟩ := hS.form
  exact ⟨a, cp, rfl, hS, TS.next h1 h2 h3 h4 h5 hT hst (by omega)⟩

/-- names on the way up are not too long -/
theorem upF_small {L : List Fc} (hsm : ∀ x ∈ L, Small x) : ∀ {n : Nat} {acc : List ByteArray} {s : ByteArray}, (∀ t ∈ acc, t.size ≤ 60) → s.size ≤ maxLen → ∀ t ∈ (upF L n acc s).1, t.size ≤ 60
  | 0, acc, s, ha, hs, t, ht => ha t ht
  | n + 1, acc, s, ha, hs, t, ht => by
    by_cases h : s = eE
    · subst h
      rw [upF_end] at ht
      exact ha t ht
    · cases hf : fnd L s with
      | none => rw [upF_none h hf] at ht; exact ha t ht
      | some x =>
        by_cases hm : s ∈ acc
        · rw [upF_twice h hm] at ht; exact ha t ht
        · rw [upF_step h hf hm] at ht
          obtain ⟨h1, h2⟩ := fnd_some hf
          have h3 := hsm x h1
          refine upF_small hsm (fun t ht => ?_) (by have := h3.sup; unfold maxLen; omega) t ht
          rw [List.mem_append] at ht
          rcases ht with ht | ht
          · exact ha t ht
          · simp at ht; subst ht; rw [← h2]; exact h3.name
theorem ab_small {L : List Fc} (hsm : ∀ x ∈ L, Small x) {s : ByteArray} (hs : s.size ≤ maxLen) : ∀ t ∈ (ab L s).1, t.size ≤ 60 := upF_small hsm (by simp) hs
theorem upF_len {L : List Fc} : ∀ {n : Nat} {acc : List ByteArray} {s : ByteArray}, (upF L n acc s).1.length ≤ acc.length + n
  | 0, acc, s => by simp [upF]
  | n + 1, acc, s => by
    by_cases h : s = eE
    · subst h
      rw [upF_end]; simp
    · cases hf : fnd L s with
      | none => rw [upF_none h hf]; simp
      | some x =>
        by_cases hm : s ∈ acc
        · rw [upF_twice h hm]; simp
        · rw [upF_step h hf hm]
          have := upF_len (L := L) (n := n) (acc := acc ++ [s]) (s := x.sup)
          simp at this
          omega
theorem ab_len (L : List Fc) (s : ByteArray) : (ab L s).1.length ≤ L.length + 1 := by have := upF_len (L := L) (n := L.length + 1) (acc := []) (s := s); simp only [List.length_nil, Nat.zero_add] at this; exact this

/-- an answer of a table: some value, and what has turned -/
def TPost (B tb fm : Nat) (L : List Fc) (w : World) (sv : Value) (c k : Nat) (r : Value) (e : Ending) (w' : World) : Prop :=
  ∃ sv' c', e = .returned r ∧ Tb B w' tb fm sv' c' L ∧ Stp tb w sv w' sv' ∧ c' ≤ c + k

end Go.Proofs.YthimpjfmelmhpaaDoor.Fc
