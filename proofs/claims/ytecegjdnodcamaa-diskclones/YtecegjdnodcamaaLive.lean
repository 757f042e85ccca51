/-
  The model's Do, with power: what all acts share.
-/
import Derived.Test.YtecegjdnodcamaaDo
namespace Go.Proofs.Ytecegjdnodcamaa
open Go.RowKit Go.Maps Go.Sort

theorem files_box (w W : World) (bm bs bx : Nat) (sv : Value) (S : DS) (l : List ActD) (a : ActD) (h : MV W bm bs sv S l ∧ Blk W bx (actL a) 30 ∧ Mods (· = bm) w W) :
    Calls Try.prog 19 #[.pointer (some ⟨bm, 0, none⟩)] W fun e w' => ∃ b', e = .returned (.map (some b')) ∧ MF w' b' S.now ∧ (b' = bs ∨ w.heap.size ≤ b') ∧ MV w' bm bs sv S l ∧ Blk w' bx (actL a) 30 ∧ Mods (· = bm) w w' := by
  obtain ⟨h1, h2, h3⟩ := h
  refine (files_mv W bm bs sv S l h1).mono ?_
  rintro e w' ⟨b', he, hM, hb, hbel⟩
  exact ⟨b', he, hM, hb.imp id (fun e => Nat.le_trans h3.size e), h1.keep (fq := fun _ => False) (Mods.of_below hbel) (fun _ _ => id), h2.keep (fp := fun _ => False) (Mods.of_below hbel) id, h3.trans (Mods.of_below (fp := fun _ => False) hbel) (fun _ _ e => e) (fun _ _ e => e.elim)⟩

/-- what is still counted as free while the files are gone through -/
def FreeRel (S : DS) (left : Lit → Bool) (F : Int) : Prop := F = (S.room : Int) - tot S.now + totL S.now left
theorem FreeRel.start {S : DS} (h : S.ok) : FreeRel S (Maps.has S.now) (S.room : Int) := by
  unfold FreeRel
  rw [totL_start h.goodn]
  omega
theorem FreeRel.step {S : DS} (h : S.ok) {left : Lit → Bool} {F : Int} (hF : FreeRel S left F) {x : List UInt8} {c : ByteArray} (hl : left (.string x) = true) (hat : ∀ zd, S.now.atKey (.string x) zd = .lit (.string c.data.toList)) :
    FreeRel S (fun z => left z && !z.sameKey (.string x)) (F - c.size) ∧ -1099511627776 ≤ F - c.size ∧ F ≤ 4194304 ∧ -1099511627776 ≤ F := by
  unfold FreeRel at *
  have h1 := totL_step (y := tx c) h.goodn (kl := .string x) (by simp [WideAt.IsKeyLit]) hl hat
  have h2 : lenD (tx c) = c.size := by unfold lenD; rw [unT_tx]
  have h3 := totL_le S.now left
  have h4 := h.totn
  have h5 := h.room
  omega
theorem FreeRel.done {S : DS} {left : Lit → Bool} {F : Int} (hF : FreeRel S left F) (hl : ∀ k, left k = false) : F = (S.room : Int) - tot S.now := by
  unfold FreeRel at hF
  rw [totL_end hl] at hF
  omega

theorem live_pre {w : World} {bm bs : Nat} {sv : Value} {S : DS} {l : List ActD} (h : MV w bm bs sv S l) (ht : (turnS S).1 = true) (a : ActD) :
    S.down = false ∧ -1 ≤ flI S ∧ flI S ≤ 9223372036854775807 ∧ (flI S == 0) = false ∧
    (0 < flI S → MV ((w.setCell ⟨bm, 3, none⟩ (.int .i64 (flI S - 1))).alloc (.cells #[.int .i64 a.K, .int .i64 a.N, .string a.name, .string a.to_, .string a.text] 30)) bm bs sv (turnS S).2 l ∧ Blk ((w.setCell ⟨bm, 3, none⟩ (.int .i64 (flI S - 1))).alloc (.cells #[.int .i64 a.K, .int .i64 a.N, .string a.name, .string a.to_, .string a.text] 30)) w.heap.size (actL a) 30 ∧ Mods (· = bm) w ((w.setCell ⟨bm, 3, none⟩ (.int .i64 (flI S - 1))).alloc (.cells #[.int .i64 a.K, .int .i64 a.N, .string a.name, .string a.to_, .string a.text] 30))) ∧
    (¬ 0 < flI S → MV (w.alloc (.cells #[.int .i64 a.K, .int .i64 a.N, .string a.name, .string a.to_, .string a.text] 30)) bm bs sv (turnS S).2 l ∧ Blk (w.alloc (.cells #[.int .i64 a.K, .int .i64 a.N, .string a.name, .string a.to_, .string a.text] 30)) w.heap.size (actL a) 30 ∧ Mods (· = bm) w (w.alloc (.cells #[.int .i64 a.K, .int .i64 a.N, .string a.name, .string a.to_, .string a.text] 30))) := by
  have hok := h.ok.turn
  have hleft := h.ok.left
  have hdn : S.down = false := by
    cases hd : S.down
    · rfl
    · unfold turnS at ht; rw [hd] at ht; simp at ht
  have hbox : ∀ u : World, u.heap.size = w.heap.size → Blk (u.alloc (.cells #[.int .i64 a.K, .int .i64 a.N, .string a.name, .string a.to_, .string a.text] 30)) w.heap.size (actL a) 30 := by
    intro u hu
    rw [← hu]
    exact (MapKept.heap_alloc u _).1
  cases hf : S.falls
  · have e1 : flI S = -1 := by unfold flI; rw [hf]; rfl
    have e2 : turnS S = (true, S) := by unfold turnS; rw [hdn, hf]; rfl
    rw [e1]
    refine ⟨hdn, by omega, by omega, by decide, fun h0 => by omega, fun _ => ⟨?_, hbox w rfl, (Mods.refl _ w).alloc _⟩⟩
    rw [e2]
    exact h.keep (fq := fun _ => False) ((Mods.refl _ w).alloc _) (fun _ _ => id)
  · have e1 : flI S = (S.left : Int) := by unfold flI; rw [hf]; rfl
    have h0 : S.left ≠ 0 := by
      intro h0
      unfold turnS at ht
      rw [hdn, hf, h0] at ht
      simp at ht
    have e2 : turnS S = (true, { S with left := S.left - 1 }) := by unfold turnS; rw [hdn, hf]; simp [h0]
    rw [e1]
    have hm1 : Mods (· = bm) w ((w.setCell ⟨bm, 3, none⟩ (.int .i64 ((S.left : Int) - 1))).alloc (.cells #[.int .i64 a.K, .int .i64 a.N, .string a.name, .string a.to_, .string a.text] 30)) := ((Mods.refl (· = bm) w).setCell (p := ⟨bm, 3, none⟩) (.inl rfl) _).alloc _
    refine ⟨hdn, by omega, by omega, by rw [beq_eq_false_iff_ne]; omega, fun _ => ⟨?_, hbox _ (by simp [World.setCell]), hm1⟩, fun hn => by omega⟩
    rw [e2] at hok ⊢
    refine h.turned (S' := { S with left := S.left - 1 }) hm1 ?_ rfl rfl hok
    have e3 : flI { S with left := S.left - 1 } = (S.left : Int) - 1 := by unfold flI; rw [hf]; simp only [if_true]; omega
    unfold mcs
    rw [e3]
    exact (h.blk.set 3 _).keep (fp := fun _ => False) ((Mods.refl _ _).alloc _) id

/-- what comes of an act -/
def MPost (w : World) (bm bs : Nat) (sv : Value) (S' : DS) (w' : World) : Prop := (∃ bs' sv' l', MV w' bm bs' sv' S' l' ∧ ∀ k, mfoot bm bs' sv' k → mfoot bm bs sv k ∨ w.heap.size ≤ k) ∧ Mods (mfoot bm bs sv) w w'
theorem mpost_same {w wr : World} {bm bs : Nat} {sv : Value} {S1 : DS} {l : List ActD} (h : MV wr bm bs sv S1 l) (hm : Mods (· = bm) w wr) : MPost w bm bs sv S1 wr :=
  ⟨⟨bs, sv, l, h, fun _ hk => .inl hk⟩, hm.weak (fun _ _ e => .inl e)⟩
theorem mpost_add {w wr w2 : World} {bm bs : Nat} {sv : Value} {S1 : DS} {l : List ActD} {Y : Obj} {a : ActD} (h : MV wr bm bs sv S1 l) (hm : Mods (· = bm) w wr) (ha : a.done) (hok : (addS S1 (toChg a)).ok)
    {g cap : Nat} (hown2 : w2.ownsRow 0 30 5 (.slice (some ⟨g, 0, none⟩) (l.length + 1) cap) (l.length + 1) (l.flatMap actL ++ actL a)) (hm2 : Mods (fun k => sv.ownBlock = some k) (wr.alloc Y).drew w2)
    (hat : sv.ownBlock = some g ∨ g = (wr.alloc Y).drew.heap.size) : MPost w bm bs sv (addS S1 (toChg a)) (w2.setCell ⟨bm, 1, none⟩ (.slice (some ⟨g, 0, none⟩) (l.length + 1) cap)) := by
  obtain ⟨g1, g2, g3⟩ := h.added ha hok hown2 hm2 hat
  exact ⟨⟨_, _, _, g1, fun k hk => (g2 k hk).imp id (fun e => Nat.le_trans hm.size e)⟩, hm.trans g3 (fun _ _ e => .inl e) (fun _ _ e => e)⟩
theorem mpost_sync {w wr : World} {bm bs b' : Nat} {sv : Value} {S1 : DS} {l : List ActD} (h : MV wr bm bs sv S1 l) (hm : Mods (· = bm) w wr) (hM : MF wr b' S1.now) (hb : b' = bs ∨ w.heap.size ≤ b') :
    MPost w bm bs sv (syncedS S1) ((wr.setCell ⟨bm, 0, none⟩ (.map (some b'))).setCell ⟨bm, 1, none⟩ (.slice none 0 0)) := by
  refine ⟨⟨_, _, _, h.synced hM, ?_⟩, ((hm.setCell (p := ⟨bm, 0, none⟩) (.inl rfl) _).setCell (p := ⟨bm, 1, none⟩) (.inl rfl) _).weak (fun _ _ e => .inl e)⟩
  rintro k (e | e | e)
  · exact .inl (.inl e)
  · rcases hb with h2 | h2
    · exact .inl (.inr (.inl (by rw [e, h2])))
    · exact .inr (by rw [e]; exact h2)
  · cases e

end Go.Proofs.Ytecegjdnodcamaa
