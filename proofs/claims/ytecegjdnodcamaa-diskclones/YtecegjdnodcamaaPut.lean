/-
  The store's put, move, apply.
-/
import Derived.Test.YtecegjdnodcamaaDrop
import Derived.WalkSpells
namespace Go.Proofs.Ytecegjdnodcamaa
open Go.RowKit Go.Maps

theorem SAt.keep {w w' : World} {b o : Nat} {cs : List Value} {t : TypeId} {v : Value} {D : Dt} {fp : Nat → Prop} (h : SAt w b o cs t v D) (hm : Mods fp w w') (h1 : ¬ fp b) (h2 : ∀ k, v = .map (some k) → ¬ fp k) : SAt w' b o cs t v D :=
  ⟨h.blk.keep hm h1, h.c0, h.c1, h.files.keep hm h2, h.good, h.room, h.few⟩

theorem eqnil (p : Option Nat) (w : World) : (binOp .eql 66 (.map p) (.map none)).run Try.prog w = .ok (.bool p.isNone) w := run_eql_map_nil w 66 9 74 p Try.underlying66

set_option maxHeartbeats 800000 in
theorem put_some (w : World) (b o : Nat) (cs : List Value) (t : TypeId) (bm : Nat) (D : Dt) (h : SAt w b o cs t (.map (some bm)) D) (name s : ByteArray) (hn : name.size ≤ maxLen) (hs : s.size ≤ maxLen) (hr : tot D + s.size ≤ 4611686018427387904) (hf : Maps.size D + 1 < 1000000) :
    Calls Try.prog 40 #[.pointer (some ⟨b, o, none⟩), .string name, .agg #[.string s]] w fun e w' => e = .returned (.tuple #[]) ∧
      SAt w' b o (st cs o (.map (some bm)) (.int .i64 (tot (putF D name s)))) t (.map (some bm)) (putF D name s) ∧ Mods (fun k => k = b ∨ k = bm) w w' := by
  have hlt := h.blk.lt
  have hbl := h.files.lt bm rfl
  have H0 := Lib.hid (h.keep (fp := fun _ => False) ((Mods.refl _ w).alloc (.cells #[.string s] 74)) id (fun _ _ => id))
  have hq := eqnil (some bm)
  have H := Lib.hid h
  clear h
  go_enter Try.func40, Try.ntmps40
  go_wp2_with fail
  refine (drop_any _ b o cs t _ D H0.out name hn).mono ?_
  rintro e w1 ⟨rfl, h1, hm1⟩
  have a0 : w1.cell? ⟨b, o, none⟩ = some (.map (some bm)) := (h1.blk.cell o).trans h1.c0
  have a1 : w1.cell? ⟨b, o + 1, none⟩ = some (.int .i64 (tot (delF D name))) := (h1.blk.cell _).trans h1.c1
  have a2 : w1.cell? ⟨w.heap.size, 0, none⟩ = some (.string s) := by
    have : Blk (w.alloc (.cells #[.string s] 74)) w.heap.size [.string s] 74 := (MapKept.heap_alloc w _).1
    exact (this.keep hm1 (fun e => by rcases e with e | e; omega; cases e; omega)).cell 0
  have H1 := Lib.hid h1
  obtain ⟨w2, hrun, hF2, hm2⟩ := (show FAt w1.drew (.map (some bm)) (delF D name) from h1.files).store (by have := h1.few; unfold maxLen; omega) name s hn hs
  have b2 := H1.out.blk.drew.keep hm2 (fun e => H1.out.blk.ne H1.out.files (by rw [e]))
  have c1 : w2.cell? ⟨b, o + 1, none⟩ = some (.int .i64 (tot (delF D name))) := (b2.cell _).trans H1.out.c1
  have f1 := b2.frozen (o + 1)
  have c2 : w2.cell? ⟨w.heap.size, 0, none⟩ = some (.string s) := by
    have : Blk (w.alloc (.cells #[.string s] 74)) w.heap.size [.string s] 74 := (MapKept.heap_alloc w _).1
    exact ((this.keep hm1 (fun e => by rcases e with e | e; omega; cases e; omega)).drew.keep hm2 (fun e => by omega)).cell 0
  have htd := tot_del_le H.out.good name
  have HB2 := Lib.hid b2
  have hm12 : Mods (fun k => k = b ∨ k = bm) w w2 := ((Mods.refl (fun _ => False) w).alloc (.cells #[.string s] 74)).trans (hm1.drew.trans hm2 (fr := fun k => k = b ∨ k = bm) (fun i _ e => e.imp id (fun e => by cases e; rfl)) (fun i _ e => .inr e)) (fun _ _ e => e.elim) (fun _ _ e => e)
  clear h1 b2
  go_wp2
  go_region
  go_wp2
  go_region
  go_end0
  have e1 : ((tot (putF D name s) : Nat) : Int) = (tot (delF D name) : Int) + s.size := by rw [tot_put H.out.good]; omega
  have hb3 := (HB2.out.set (o + 1) (.int .i64 ((tot (delF D name) : Int) + s.size))).drew
  rw [← st_same _ H1.out.c0, st_st] at hb3
  refine ⟨rfl, ⟨by rw [e1]; exact hb3, st_0 _ _ _ _ H.out.len, st_1 _ _ _ _ H.out.len, ?_, H.out.good.put _ _, by rw [tot_put H.out.good]; omega, Nat.lt_of_le_of_lt (size_put_le H.out.good _ _) hf⟩, (hm12.setCell (p := ⟨b, o + 1, none⟩) (.inl (.inl rfl)) _).drew⟩
  rw [← put_del]
  exact hF2.keep (fp := (· = b)) (((Mods.refl (· = b) w2).setCell (p := ⟨b, o + 1, none⟩) (.inl rfl) _).drew) (fun k hk e => HB2.out.ne hF2 (by rw [hk, e]))

set_option maxHeartbeats 800000 in
theorem put_none (w : World) (b o : Nat) (cs : List Value) (t : TypeId) (D : Dt) (h : SAt w b o cs t (.map none) D) (name s : ByteArray) (hn : name.size ≤ maxLen) (hs : s.size ≤ maxLen) (hr : tot D + s.size ≤ 4611686018427387904) (hf : Maps.size D + 1 < 1000000) :
    Calls Try.prog 40 #[.pointer (some ⟨b, o, none⟩), .string name, .agg #[.string s]] w fun e w' => e = .returned (.tuple #[]) ∧
      ∃ bm, SAt w' b o (st cs o (.map (some bm)) (.int .i64 (tot (putF D name s)))) t (.map (some bm)) (putF D name s) ∧ w.heap.size ≤ bm ∧ Mods (· = b) w w' := by
  have hlt := h.blk.lt
  have HD : Hid (D = .map []) := by
    rcases h.files with ⟨_, e⟩ | ⟨k, e, _⟩
    · exact e
    · cases e
  have H0 := Lib.hid (h.keep (fp := fun _ => False) ((Mods.refl _ w).alloc (.cells #[.string s] 74)) id (fun _ _ => id))
  have hq := eqnil none
  have hmm := @run_makeMap Try.prog
  have H := Lib.hid h
  clear h
  go_enter Try.func40, Try.ntmps40
  go_wp2_with fail
  refine (drop_any _ b o cs t _ D H0.out name hn).mono ?_
  rintro e w1 ⟨rfl, h1, hm1⟩
  have hz1 : w.heap.size < w1.heap.size := by have := hm1.size; simp at this; omega
  have hlt1 := h1.blk.lt
  have a0 : w1.cell? ⟨b, o, none⟩ = some (.map none) := (h1.blk.cell o).trans h1.c0
  have f0 := h1.blk.frozen o
  have a1 : w1.cell? ⟨b, o + 1, none⟩ = some (.int .i64 (tot (delF D name))) := (h1.blk.cell _).trans h1.c1
  have a2 : w1.cell? ⟨w.heap.size, 0, none⟩ = some (.string s) := by
    have : Blk (w.alloc (.cells #[.string s] 74)) w.heap.size [.string s] 74 := (MapKept.heap_alloc w _).1
    exact (this.keep hm1 (fun e => by rcases e with e | e; omega; cases e)).cell 0
  obtain ⟨wA, HA⟩ : ∃ wA, Hid (wA = (w1.setCell ⟨b, o, none⟩ (.map (some w1.heap.size))).alloc (.map #[] 0)) := ⟨_, Lib.hid rfl⟩
  have hmA : Mods (· = b) w1 wA := by rw [HA.out]; exact ((Mods.refl (· = b) w1).setCell (p := ⟨b, o, none⟩) (.inl rfl) _).alloc _
  have bA : Blk wA b (st cs o (.map (some w1.heap.size)) (.int .i64 (tot (delF D name)))) t := by
    have := (h1.blk.set o (.map (some w1.heap.size))).keep ((Mods.refl (fun _ => False) _).alloc (.map #[] 0)) id
    rw [HA.out]
    unfold st at this ⊢
    rwa [List.set_comm _ _ (by omega), List.set_set] at this
  have hFA : FAt wA (.map (some w1.heap.size)) (delF D name) := by
    refine .inr ⟨_, rfl, own_exact (n := 0) ?_⟩
    rw [HA.out, HD.out]
    have := World.ownsMap_made (w1.setCell ⟨b, o, none⟩ (.map (some w1.heap.size))) Try.prog 9 fileElem
    rwa [show (w1.setCell ⟨b, o, none⟩ (.map (some w1.heap.size))).heap.size = w1.heap.size by simp [World.setCell]] at this
  obtain ⟨w2, hrun, hF2, hm2⟩ := (show FAt wA.drew (.map (some w1.heap.size)) (delF D name) from hFA).store (by have := h1.few; unfold maxLen; omega) name s hn hs
  have hbne : b ≠ w1.heap.size := by omega
  have b2 := bA.drew.keep hm2 hbne
  have cA0 : wA.cell? ⟨b, o, none⟩ = some (.map (some w1.heap.size)) := (bA.cell _).trans (st_0 _ _ _ _ H.out.len)
  have cA2 : wA.cell? ⟨w.heap.size, 0, none⟩ = some (.string s) := by
    have : Blk (w.alloc (.cells #[.string s] 74)) w.heap.size [.string s] 74 := (MapKept.heap_alloc w _).1
    exact ((this.keep hm1 (fun e => by rcases e with e | e; omega; cases e)).keep hmA (fun e => by omega)).cell 0
  have c1 : w2.cell? ⟨b, o + 1, none⟩ = some (.int .i64 (tot (delF D name))) := (b2.cell _).trans (st_1 _ _ _ _ H.out.len)
  have f1 := b2.frozen (o + 1)
  have c2 : w2.cell? ⟨w.heap.size, 0, none⟩ = some (.string s) := by
    have : Blk (w.alloc (.cells #[.string s] 74)) w.heap.size [.string s] 74 := (MapKept.heap_alloc w _).1
    exact (((this.keep hm1 (fun e => by rcases e with e | e; omega; cases e)).keep hmA (fun e => by omega)).drew.keep hm2 (fun e => by omega)).cell 0
  have htd := tot_del_le H.out.good name
  have HB2 := Lib.hid b2
  have hm12 : Mods (· = b) w w2 := ((Mods.refl (fun _ => False) w).alloc (.cells #[.string s] 74)).trans (hm1.trans (hmA.drew.trans hm2 (fr := fun k => k = b ∨ k = w1.heap.size) (fun i _ e => .inl e) (fun i _ e => .inr e)) (fr := fun k => k = b ∨ k = w1.heap.size) (fun i _ e => e.elim .inl (fun e => by cases e)) (fun i _ e => e)) (fun _ _ e => e.elim) (fun i hi e => by rcases e with e | e; exact e; omega)
  clear h1 b2 bA hFA hmA
  go_wp2
  rw [← HA.out]
  go_wp2
  go_region
  go_wp2
  go_region
  go_end0
  have e1 : ((tot (putF D name s) : Nat) : Int) = (tot (delF D name) : Int) + s.size := by rw [tot_put H.out.good]; omega
  have hb3 := (HB2.out.set (o + 1) (.int .i64 ((tot (delF D name) : Int) + s.size))).drew
  rw [← st_same _ (st_0 _ _ _ _ H.out.len), st_st] at hb3
  refine ⟨rfl, w1.heap.size, ⟨by rw [e1]; exact hb3, st_0 _ _ _ _ H.out.len, st_1 _ _ _ _ H.out.len, ?_, H.out.good.put _ _, by rw [tot_put H.out.good]; omega, Nat.lt_of_le_of_lt (size_put_le H.out.good _ _) hf⟩, by omega, (hm12.setCell (p := ⟨b, o + 1, none⟩) (.inl rfl) _).drew⟩
  rw [← put_del]
  exact hF2.keep (fp := (· = b)) (((Mods.refl (· = b) w2).setCell (p := ⟨b, o + 1, none⟩) (.inl rfl) _).drew) (fun k hk e => HB2.out.ne hF2 (by rw [hk, e]))

/-- the map's value is the old one, or one that is new -/
def NewV (w : World) (v v' : Value) : Prop := v' = v ∨ ∃ k, v' = .map (some k) ∧ w.heap.size ≤ k

theorem put_any (w : World) (b o : Nat) (cs : List Value) (t : TypeId) (v : Value) (D : Dt) (h : SAt w b o cs t v D) (name s : ByteArray) (hn : name.size ≤ maxLen) (hs : s.size ≤ maxLen) (hr : tot D + s.size ≤ 4611686018427387904) (hf : Maps.size D + 1 < 1000000) :
    Calls Try.prog 40 #[.pointer (some ⟨b, o, none⟩), .string name, .agg #[.string s]] w fun e w' => e = .returned (.tuple #[]) ∧
      ∃ v', SAt w' b o (st cs o v' (.int .i64 (tot (putF D name s)))) t v' (putF D name s) ∧ NewV w v v' ∧ Mods (fun k => k = b ∨ v = .map (some k)) w w' := by
  have hv : v = .map none ∨ ∃ bm, v = .map (some bm) := by
    rcases h.files with ⟨e, _⟩ | ⟨k, e, _⟩
    · exact .inl e
    · exact .inr ⟨k, e⟩
  rcases hv with rfl | ⟨bm, rfl⟩
  · refine (put_none w b o cs t D h name s hn hs hr hf).mono ?_
    rintro e w' ⟨he, bm, h1, h2, h3⟩
    exact ⟨he, _, h1, .inr ⟨bm, rfl, h2⟩, h3.weak (fun i _ e => .inl e)⟩
  · refine (put_some w b o cs t bm D h name s hn hs hr hf).mono ?_
    rintro e w' ⟨he, h1, h3⟩
    exact ⟨he, _, h1, .inl rfl, h3.weak (fun i _ e => e.imp id (fun e => by rw [e]))⟩

end Go.Proofs.Ytecegjdnodcamaa
