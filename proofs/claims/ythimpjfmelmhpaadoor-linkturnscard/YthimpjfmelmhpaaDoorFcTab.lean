/-
  A table of faces in memory.
-/
import Derived.Test.YthimpjfmelmhpaaDoorFcCopy
namespace Go.Proofs.YthimpjfmelmhpaaDoor.Fc
open Go.RowKit
set_option linter.unusedVariables false

/-- the last face of a name -/
def fnd (L : List Fc) (s : ByteArray) : Option Fc := L.reverse.find? (fun x => decide (x.name = s))
theorem fnd_nil (s : ByteArray) : fnd [] s = none := rfl
theorem fnd_snoc (L : List Fc) (x : Fc) (s : ByteArray) : fnd (L ++ [x]) s = if x.name = s then some x else fnd L s := by
  unfold fnd
  rw [List.reverse_append]
  simp only [List.reverse_cons, List.reverse_nil, List.nil_append, List.cons_append, List.find?_cons]
  by_cases h : x.name = s <;> simp [h]
theorem fnd_some {L : List Fc} {s : ByteArray} {x : Fc} (h : fnd L s = some x) : x ∈ L ∧ x.name = s := by
  unfold fnd at h
  have h1 := List.mem_of_find?_eq_some h
  have h2 := List.find?_some h
  exact ⟨by simpa using h1, by simpa using h2⟩

/-- names and lists of a face are not too long -/
structure Small (x : Fc) : Prop where
  name : x.name.size ≤ 60
  sup : x.sup.size ≤ 60
  fs : x.fs.length ≤ 12
  ms : x.ms.length ≤ 12
  f1 : ∀ v ∈ x.fs, v.name.size ≤ 60 ∧ v.tn.size ≤ 60
  m1 : ∀ m ∈ x.ms, m.name.size ≤ 60 ∧ m.rn.size ≤ 60 ∧ m.ps.length ≤ 10 ∧ ∀ p ∈ m.ps, p.n.size ≤ 60

/-- what a map of faces has -/
def FEnt (w : World) : Option Fc → Option Value → Prop
  | none, v => v = none
  | some x, v => ∃ cs, v = some (.agg cs.toArray) ∧ FcR w x cs
theorem FEnt.keep {w w' : World} (hk : Keeps w w') {o : Option Fc} {v : Option Value} (h : FEnt w o v) : FEnt w' o v := by
  cases o with
  | none => exact h
  | some x => obtain ⟨cs, e, h⟩ := h; exact ⟨cs, e, h.keep hk⟩
def Faces (w : World) (fm n : Nat) (L : List Fc) : Prop := ∃ g, MAt w fm n g ∧ ∀ s, FEnt w (fnd L s) (g s)
/-- A table: its faces, and which were looked at; nothing of it lies below B. -/
structure Tb (B : Nat) (w : World) (tb fm : Nat) (sv : Value) (c : Nat) (L : List Fc) : Prop where
  blk : Blk w tb [.map (some fm), sv] 109
  faces : Faces w fm 1000 L
  seen : (sv = .map none) ∨ ∃ sm S, sv = .map (some sm) ∧ MAt w sm c S ∧ sm ≠ fm
  lo : B ≤ tb
  los : ∀ k, sv = .map (some k) → B ≤ k
  sm : ∀ x ∈ L, Small x

theorem Faces.keep {w w' : World} {fm n : Nat} {L : List Fc} (h : Faces w fm n L) {fp : Nat → Prop} (hm : Mods fp w w') (hn : ¬ fp fm) (hk : Keeps w w') : Faces w' fm n L := by
  obtain ⟨g, h1, h2⟩ := h
  exact ⟨g, h1.keep hm hn, fun s => (h2 s).keep hk⟩
theorem Faces.lt {w : World} {fm n : Nat} {L : List Fc} (h : Faces w fm n L) : fm < w.heap.size := by
  obtain ⟨g, h1, h2⟩ := h
  exact h1.lt
/-- a map that turns: cells are as they were -/
theorem keeps_map {w w' : World} {b n : Nat} {f : ByteArray → Option Value} (hb : MAt w b n f) (hm : Mods (· = b) w w') : Keeps w w' := by
  intro p v hv _
  have hlt : p.block < w.heap.size := World.block_lt_of_cell? _ _ hv
  have hne : p.block ≠ b := fun e => by
    obtain ⟨pb, po, ps⟩ := p
    simp at e
    subst e
    exact hb.no_cell hv
  have h2 := hm.block _ hlt hne
  obtain ⟨pb, po, ps⟩ := p
  have := World.cell?_spot hv
  simp at this
  subst this
  simp only [World.cell?] at hv ⊢
  rw [h2]
  exact hv
/-- the map is the old one, or a new one -/
def NewV (w : World) (v v' : Value) : Prop := v' = v ∨ ∃ k, v' = .map (some k) ∧ w.heap.size ≤ k
/-- what a call of a table turns -/
structure Stp (tb : Nat) (w : World) (sv : Value) (w' : World) (sv' : Value) : Prop where
  new : NewV w sv sv'
  mods : Mods (fun k => k = tb ∨ sv = .map (some k)) w w'
  keeps : Keeps w w'
theorem Stp.refl (tb : Nat) (w : World) (sv : Value) : Stp tb w sv w sv := ⟨.inl rfl, Mods.refl _ _, Keeps.refl _⟩
theorem Stp.trans {tb : Nat} {x y z : World} {sv sv' sv'' : Value} (h : Stp tb x sv y sv') (k : Stp tb y sv' z sv'') : Stp tb x sv z sv'' := by
  refine ⟨?_, h.mods.trans k.mods (fun _ _ e => e) (fun i hi e => ?_), h.keeps.trans k.keeps⟩
  · rcases k.new with e | ⟨j, e, hj⟩
    · rw [e]; exact h.new
    · exact .inr ⟨j, e, Nat.le_trans h.mods.size hj⟩
  · rcases e with e | e
    · exact .inl e
    · rcases h.new with e' | ⟨j, e', hj⟩
      · rw [e'] at e; exact .inr e
      · rw [e'] at e; cases e; omega
/-- memory of one's own is made, first -/
theorem Stp.pre {tb : Nat} {x y z : World} {sv sv' : Value} (hb : Below x.heap.size x y) (h : Stp tb y sv z sv') : Stp tb x sv z sv' :=
  ⟨by rcases h.new with e | ⟨j, e, hj⟩; exact .inl e; exact .inr ⟨j, e, Nat.le_trans hb.size hj⟩, (Mods.of_below hb).trans h.mods (fun _ _ e => e) (fun _ _ e => e), (Keeps.of_below hb).trans h.keeps⟩
theorem Stp.post {tb : Nat} {x y z : World} {sv sv' : Value} (h : Stp tb x sv y sv') (hb : Below y.heap.size y z) : Stp tb x sv z sv' :=
  ⟨h.new, h.mods.trans (Mods.of_below (fp := fun _ => False) hb) (fun _ _ e => e) (fun _ _ e => e.elim), h.keeps.trans (Keeps.of_below hb)⟩
theorem Tb.below {B : Nat} {w w' : World} {tb fm : Nat} {sv : Value} {c : Nat} {L : List Fc} (h : Tb B w tb fm sv c L) (hb : Below w.heap.size w w') : Tb B w' tb fm sv c L := by
  refine ⟨h.blk.below hb, h.faces.keep (fp := fun _ => False) (Mods.of_below hb) id (Keeps.of_below hb), ?_, h.lo, h.los, h.sm⟩
  rcases h.seen with e | ⟨m, S, e, hS, hne⟩
  · exact .inl e
  · exact .inr ⟨m, S, e, hS.keep (fp := fun _ => False) (Mods.of_below hb) id, hne⟩
theorem Stp.below {B : Nat} {tb fm : Nat} {w w' : World} {sv sv' : Value} {c : Nat} {L : List Fc} (h : Stp tb w sv w' sv') (hT : Tb B w tb fm sv c L) (hB : B ≤ w.heap.size) : Below B w w' :=
  h.mods.below (fun k e => by rcases e with e | e; rw [e]; exact hT.lo; exact hT.los k e) hB
def zF : Fc := ⟨⟨#[]⟩, ⟨#[]⟩, [], []⟩
theorem zF_R (w : World) : FcR w zF [.string ⟨#[]⟩, .string ⟨#[]⟩, .slice none 0 0, .slice none 0 0] := ⟨none, 0, 0, none, 0, 0, rfl, Sl.nil _ _ _, Sl.nil _ _ _⟩
theorem zero35 (w : World) : (zeroValue 35).run Tryd.prog w = .ok (.agg #[.string ⟨#[]⟩, .string ⟨#[]⟩, .slice none 0 0, .slice none 0 0]) w := by kernel_rfl
theorem zero76 (w : World) : (zeroValue 102).run Tryd.prog w = .ok (.agg #[]) w := by kernel_rfl
theorem Faces.look {w w2 : World} {fm n : Nat} {L : List Fc} (h : Faces w fm n L) {fp : Nat → Prop} (hm : Mods fp w w2) (hn : ¬ fp fm) {s : ByteArray} (hs : s.size ≤ maxLen) :
    ∃ cs, (Instr.lookup 107 (.map (some fm)) (.string s) true).run Tryd.prog w2 = .ok (.tuple #[.agg cs.toArray, .bool (fnd L s).isSome]) w2 ∧ FcR w ((fnd L s).getD zF) cs := by
  obtain ⟨g, h1, h2⟩ := h
  have hr := (h1.keep hm hn).look Tryd.underlying107 (zero35 w2) hs
  have h3 := h2 s
  cases hf : fnd L s with
  | none =>
    rw [hf] at h3
    rw [show g s = none from h3] at hr
    exact ⟨_, hr, zF_R w⟩
  | some x =>
    rw [hf] at h3
    obtain ⟨cs, e, hF⟩ := h3
    rw [e] at hr
    exact ⟨cs, hr, hF⟩
theorem Tb.fm_ne {B : Nat} {w : World} {tb fm : Nat} {sv : Value} {c : Nat} {L : List Fc} (h : Tb B w tb fm sv c L) : ¬ (fm = tb ∨ sv = .map (some fm)) := by
  obtain ⟨g, h1, _⟩ := h.faces
  intro e
  rcases e with e | e
  · subst e
    exact h1.no_cell (h.blk.cell 0)
  · rcases h.seen with e' | ⟨m, S, e', hS, hne⟩
    · rw [e] at e'; cases e'
    · rw [e] at e'; cases e'; exact hne rfl
/-- of an answer's own memory something is written -/
theorem Stp.own {tb : Nat} {fp : Nat → Prop} {w w2 z : World} {sv sv' : Value} (h : Stp tb w sv w2 sv') (hm : Mods fp w2 z) (hq : ∀ k, fp k → w.heap.size ≤ k) : Stp tb w sv z sv' := by
  refine ⟨h.new, h.mods.trans hm (fun _ _ e => e) (fun i hi e => by have := hq i e; omega), fun p v hv hp => ?_⟩
  have h1 := h.keeps p v hv hp
  have hlt : p.block < w.heap.size := World.block_lt_of_cell? _ _ hv
  have h2 := hm.block p.block (Nat.lt_of_lt_of_le hlt h.mods.size) (fun e => by have := hq _ e; omega)
  obtain ⟨pb, po, ps⟩ := p
  have := World.cell?_spot hv
  simp at this
  subst this
  simp only [World.cell?] at h1 ⊢
  rw [h2]
  exact h1
theorem Tb.own {B : Nat} {fp : Nat → Prop} {w w2 z : World} {tb fm : Nat} {sv sv' : Value} {c c' : Nat} {L : List Fc} (h0 : Tb B w tb fm sv c L) (h : Tb B w2 tb fm sv' c' L) (hst : Stp tb w sv w2 sv') (hm : Mods fp w2 z) (hq : ∀ k, fp k → w.heap.size ≤ k) (hq2 : ∀ k, sv' = .map (some k) → ¬ fp k) : Tb B z tb fm sv' c' L := by
  have h1 := h0.blk.lt
  have h2 := h0.faces.lt
  have hz := hst.own hm hq
  obtain ⟨g, hg, hF⟩ := h0.faces
  refine ⟨h.blk.keep hm (fun e => by have := hq _ e; omega), ⟨g, hg.keep hz.mods h0.fm_ne, fun s => (hF s).keep hz.keeps⟩, ?_, h.lo, h.los, h.sm⟩
  rcases h.seen with e | ⟨m, S, e, hS, hne⟩
  · exact .inl e
  · exact .inr ⟨m, S, e, hS.keep hm (hq2 m e), hne⟩
end Go.Proofs.YthimpjfmelmhpaaDoor.Fc
