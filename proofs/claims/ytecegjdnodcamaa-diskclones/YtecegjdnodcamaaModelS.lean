/-
  The model, cell by cell; what is free.
-/
import Derived.Test.YtecegjdnodcamaaModel
namespace Go.Proofs.Ytecegjdnodcamaa
open Go.RowKit Go.Maps

/-- the bytes of those files that are still to come -/
def totL (D : Dt) (left : Lit → Bool) : Nat :=
  match D with
  | .map es => (es.map fun p => if left p.1 then lenD p.2 else 0).sum
  | _ => 0
theorem totL_le (D : Dt) (left : Lit → Bool) : totL D left ≤ tot D := by
  unfold totL tot
  cases D <;> simp only [Nat.le_refl]
  rename_i es
  induction es with
  | nil => simp
  | cons p r ih =>
    simp only [List.map_cons, List.sum_cons]
    split <;> omega
theorem totL_start {D : Dt} (h : Good D) : totL D (Maps.has D) = tot D := by
  obtain ⟨es, rfl, hp, hq⟩ := h
  show (es.map fun p => if Maps.has (.map es) p.1 then lenD p.2 else 0).sum = (es.map fun p => lenD p.2).sum
  congr 1
  apply List.map_congr_left
  intro p hm
  obtain ⟨⟨k, hk⟩, _⟩ := hq p hm
  have : Maps.has (.map es) p.1 = true := by
    rw [has_eq]
    exact List.any_eq_true.2 ⟨p, hm, by rw [hk]; exact WideAt.sameKey_self (ky_key k)⟩
  rw [this, if_pos rfl]
theorem totL_end {D : Dt} {left : Lit → Bool} (h : ∀ k, left k = false) : totL D left = 0 := by
  unfold totL
  cases D <;> try rfl
  rename_i es
  simp only [h, Bool.false_eq_true, if_false]
  induction es with
  | nil => rfl
  | cons p r ih => simpa using ih
theorem sumL_step {kl : Lit} (hkl : WideAt.IsKeyLit kl) {y : Dt} {left : Lit → Bool} (hl : left kl = true) : ∀ (es : List (Lit × Dt)), es.Pairwise (fun p q => p.1 ≠ q.1) → (∀ p ∈ es, WideAt.IsKeyLit p.1) → (kl, y) ∈ es →
    (es.map fun p => if left p.1 then lenD p.2 else 0).sum = lenD y + (es.map fun p => if left p.1 && !p.1.sameKey kl then lenD p.2 else 0).sum
  | [], _, _, h => by simp at h
  | p :: r, hp, hk, hm => by
    obtain ⟨h1, h2⟩ := List.pairwise_cons.1 hp
    simp only [List.map_cons, List.sum_cons]
    rcases List.mem_cons.1 hm with e | hm'
    · subst e
      have hr : (r.map fun p => if left p.1 && !p.1.sameKey kl then lenD p.2 else 0) = r.map fun p => if left p.1 then lenD p.2 else 0 := by
        apply List.map_congr_left
        intro q hq
        have : q.1.sameKey kl = false := sameKey_ne (fun e => h1 q hq e.symm)
        simp [this]
      rw [hr]
      simp [hl, WideAt.sameKey_self hkl]
    · have ih := sumL_step hkl hl r h2 (fun q hq => hk q (List.mem_cons_of_mem _ hq)) hm'
      have : p.1.sameKey kl = false := sameKey_ne (fun e => h1 (kl, y) hm' e)
      rw [ih]
      simp only [this, Bool.not_false, Bool.and_true]
      omega
theorem totL_step {D : Dt} (h : Good D) {kl : Lit} (hkl : WideAt.IsKeyLit kl) {y : Dt} {left : Lit → Bool} (hl : left kl = true) (hat : ∀ zd, D.atKey kl zd = y) : totL D left = lenD y + totL D (fun z => left z && !z.sameKey kl) := by
  obtain ⟨es, rfl, hp, hq⟩ := h
  have hm : (kl, y) ∈ es := by
    have hh := has_true_of_atKey hat
    rw [has_eq] at hh
    obtain ⟨p, hp1, hp2⟩ := List.any_eq_true.1 hh
    have e1 : p.1 = kl := WideAt.sameKey_eq hp2
    have e2 := WideAt.atKey_mem (z := (.nil : Dt)) (by rw [e1]; exact hkl) hp hp1
    rw [e1, hat] at e2
    have : p = (kl, y) := Prod.ext e1 e2.symm
    rwa [this] at hp1
  exact sumL_step hkl hl es hp (fun p hm => by obtain ⟨⟨k, hk⟩, _⟩ := hq p hm; rw [hk]; exact ky_key k) hm

section
variable {w w' : World} {bm bs : Nat} {sv : Value} {S S' : DS} {l : List ActD} {fp : Nat → Prop}
theorem MV.ne_safe (h : MV w bm bs sv S l) : bs ≠ bm := by
  intro e
  obtain ⟨es, clock, hb, _⟩ := h.safe
  have := h.blk
  unfold Blk at this
  rw [← e, hb] at this
  cases this
theorem row_no_blk {w : World} {v : Value} {n : Nat} {xs : List Value} (h : w.ownsRow 0 30 5 v n xs) {b : Nat} {cs : List Value} (hb : Blk w b cs 41) : v.ownBlock ≠ some b := by
  intro hk
  rcases h.2 with ⟨rfl, _⟩ | ⟨g, cap, cur, rfl, _, hg, r⟩
  · cases hk
  · simp [Value.ownBlock] at hk
    subst hk
    rw [show w.heap[g]? = _ from hb] at hg
    cases hg
theorem row_no_mf {w : World} {v : Value} {n : Nat} {xs : List Value} (h : w.ownsRow 0 30 5 v n xs) {b : Nat} {D : Dt} (hM : MF w b D) : v.ownBlock ≠ some b := by
  intro hk
  rcases h.2 with ⟨rfl, _⟩ | ⟨g, cap, cur, rfl, _, hg, r⟩
  · cases hk
  · simp [Value.ownBlock] at hk
    subst hk
    obtain ⟨es, clock, hb, _⟩ := hM
    rw [hb] at hg
    cases hg
theorem MV.turned (h : MV w bm bs sv S l) (hm : Mods (· = bm) w w') (hb : Blk w' bm (mcs S' bs sv) 41) (e1 : S'.ch = S.ch) (e2 : S'.safe = S.safe) (ok : S'.ok) : MV w' bm bs sv S' l :=
  ⟨hb, by rw [e2]; exact h.safe.keep hm h.ne_safe, row_keep5 h.row hm (fun k hk e => row_no_blk h.row h.blk (by rw [hk, e])), by rw [e1]; exact h.ch, h.acts, ok⟩

/-- Sync's end -/
theorem MV.synced {b' : Nat} (h : MV w bm bs sv S l) (hM : MF w b' S.now) : MV ((w.setCell ⟨bm, 0, none⟩ (.map (some b'))).setCell ⟨bm, 1, none⟩ (.slice none 0 0)) bm b' (.slice none 0 0) (syncedS S) [] := by
  have hm : Mods (· = bm) w ((w.setCell ⟨bm, 0, none⟩ (.map (some b'))).setCell ⟨bm, 1, none⟩ (.slice none 0 0)) := ((Mods.refl (· = bm) w).setCell (p := ⟨bm, 0, none⟩) (.inl rfl) _).setCell (p := ⟨bm, 1, none⟩) (.inl rfl) _
  refine ⟨(h.blk.set 0 _).set 1 _, hM.keep hm ?_, World.ownsRow_nil _ _ _ _, rfl, by simp, h.ok.synced⟩
  intro e
  obtain ⟨es, clock, hb, _⟩ := hM
  have := h.blk
  unfold Blk at this
  rw [← e, hb] at this
  cases this
/-- a change's end -/
theorem MV.added {w2 : World} {Y : Obj} {a : ActD} (h : MV w bm bs sv S l) (ha : a.done) (hok : (addS S (toChg a)).ok)
    {g cap : Nat} (hown2 : w2.ownsRow 0 30 5 (.slice (some ⟨g, 0, none⟩) (l.length + 1) cap) (l.length + 1) (l.flatMap actL ++ actL a)) (hm2 : Mods (fun k => sv.ownBlock = some k) (w.alloc Y).drew w2)
    (hat : sv.ownBlock = some g ∨ g = (w.alloc Y).drew.heap.size) :
    MV (w2.setCell ⟨bm, 1, none⟩ (.slice (some ⟨g, 0, none⟩) (l.length + 1) cap)) bm bs (.slice (some ⟨g, 0, none⟩) (l.length + 1) cap) (addS S (toChg a)) (l ++ [a]) ∧
      (∀ k, mfoot bm bs (.slice (some ⟨g, 0, none⟩) (l.length + 1) cap) k → mfoot bm bs sv k ∨ w.heap.size ≤ k) ∧ Mods (mfoot bm bs sv) w (w2.setCell ⟨bm, 1, none⟩ (.slice (some ⟨g, 0, none⟩) (l.length + 1) cap)) := by
  have hlt := h.foot_lt
  have m12 : Mods (fun k => sv.ownBlock = some k) w w2 := ((Mods.refl (fun _ => False) w).alloc Y).drew.trans hm2 (fun _ _ e => e.elim) (fun _ _ e => e)
  have hnd : sv.ownBlock ≠ some bm := row_no_blk h.row h.blk
  have hbm := hlt bm (.inl rfl)
  have hb2 := h.blk.keep m12 hnd
  have hgne : g ≠ bm := by
    rcases hat with e | e
    · intro e2; exact hnd (by rw [e, e2])
    · simp at e; omega
  have hmD : ∀ u, Mods (· = bm) w2 (w2.setCell ⟨bm, 1, none⟩ u) := fun u => (Mods.refl (· = bm) w2).setCell (p := ⟨bm, 1, none⟩) (.inl rfl) _
  refine ⟨⟨hb2.set 1 _, ?_, ?_, ?_, ?_, hok⟩, ?_, ?_⟩
  · exact (h.safe.keep m12 (row_no_mf h.row h.safe)).keep (hmD _) h.ne_safe
  · have e1 : (l ++ [a]).length = l.length + 1 := by simp
    have e2 : (l ++ [a]).flatMap actL = l.flatMap actL ++ actL a := by simp
    rw [e1, e2]
    exact row_keep5 hown2 (hmD _) (fun k hk e => by simp [Value.ownBlock] at hk; omega)
  · show (l ++ [a]).map toChg = S.ch ++ [toChg a]
    rw [List.map_append, h.ch]
    rfl
  · intro x hx
    rcases List.mem_append.1 hx with hx | hx
    · exact h.acts x hx
    · rw [List.mem_singleton] at hx; rw [hx]; exact ha
  · rintro k (e | e | e)
    · exact .inl (.inl e)
    · exact .inl (.inr (.inl e))
    · simp [Value.ownBlock] at e
      subst e
      rcases hat with e | e
      · exact .inl (.inr (.inr e))
      · simp at e; exact .inr (by omega)
  · exact (m12.weak (fun i _ e => .inr (.inr e))).setCell (p := ⟨bm, 1, none⟩) (.inl (.inl rfl)) _
end

end Go.Proofs.Ytecegjdnodcamaa
