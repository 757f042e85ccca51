/-
  A store's clone, a disk's Crash.
-/
import Derived.Test.YtecegjdnodcamaaSync
import Derived.Test.YtecegjdnodcamaaShelf
import Derived.Deep.RegionHeld3
namespace Go.Proofs.Ytecegjdnodcamaa
open Go.RowKit Go.Maps

theorem FAt.below {w w' : World} {v : Value} {D : Dt} (h : FAt w v D) (hb : Below w.heap.size w w') : FAt w' v D := h.keep (fp := fun _ => False) (Mods.of_below hb) (fun _ _ => id)

/-- a map's value that lies in new memory alone -/
def Fresh (n : Nat) (v : Value) : Prop := ∀ k, v = .map (some k) → n ≤ k

theorem mclone_any (w : World) (v : Value) (D : Dt) (h : FAt w v D) :
    Calls Try.prog 39 #[v] w fun e w' => ∃ p, e = .returned (.map p) ∧ FAt w' (.map p) D ∧ Fresh w.heap.size (.map p) ∧ Below w.heap.size w w' := by
  rcases h with ⟨rfl, rfl⟩ | ⟨b, rfl, hown⟩
  · have hc := AnyW.maps_Clone_nil Try.lclone w
    change Calls Try.prog 39 _ _ _ at hc
    refine hc.mono ?_
    rintro e w' ⟨rfl, rfl⟩
    exact ⟨_, rfl, .inl ⟨rfl, rfl⟩, (fun k hk => by cases hk), Below.refl _ _⟩
  · have hc := AnyW.maps_Clone_owns Try.lclone 9 fileElem b _ D w hown
    change Calls Try.prog 39 _ _ _ at hc
    refine hc.mono ?_
    rintro e w' ⟨rfl, h1, h2, h3⟩
    exact ⟨_, rfl, .inr ⟨_, rfl, h1⟩, (fun k hk => by cases hk; exact Nat.le_refl _), h3⟩

theorem far2 (w : World) (g i j : Nat) (x y : Value) {q : Addr} (h : q.block ≠ g) : ((w.setCell ⟨g, i, none⟩ x).setCell ⟨g, j, none⟩ y).cell? q = w.cell? q :=
  World.cell?_of_block ((Below.heap_setCell _ _ _ _ h).trans (Below.heap_setCell _ _ _ _ h))

set_option maxHeartbeats 800000 in
set_option maxRecDepth 100000 in
theorem sclone_any (w : World) (b o : Nat) (cs : List Value) (t : TypeId) (v : Value) (D : Dt) (h : SAt w b o cs t v D) :
    Calls Try.prog 32 #[.pointer (some ⟨b, o, none⟩)] w fun e w' => ∃ p, e = .returned (.agg #[.map p, .int .i64 (tot D)]) ∧ FAt w' (.map p) D ∧ Fresh w.heap.size (.map p) ∧ Below w.heap.size w w' := by
  have a0 : w.cell? ⟨b, o, none⟩ = some v := (h.blk.cell o).trans h.c0
  have a1 : w.cell? ⟨b, o + 1, none⟩ = some (.int .i64 (tot D)) := (h.blk.cell _).trans h.c1
  have hlt := h.blk.lt
  have HC := Lib.hid (mclone_any ((w.alloc (.cells #[.map none, .int .i64 0] 68)).drew) v D (h.files.keep (fp := fun _ => False) ((Mods.refl _ w).alloc _).drew (fun _ _ => id)))
  have hbA : Blk ((w.alloc (.cells #[.map none, .int .i64 0] 68)).drew) b cs t := h.blk.keep (fp := fun _ => False) ((Mods.refl _ w).alloc _).drew id
  have A0 := Lib.hid ((hbA.cell o).trans h.c0)
  have A1 := Lib.hid ((hbA.cell (o + 1)).trans h.c1)
  have hltA := hbA.lt
  have hneB : b ≠ w.heap.size := by omega
  have HB : Hid (Blk ((w.alloc (.cells #[.map none, .int .i64 0] 68)).drew) w.heap.size [.map none, .int .i64 0] 68) := Lib.hid (MapKept.heap_alloc w _).1
  clear h hbA
  go_enter Try.func32, Try.ntmps32
  go_wp2
  go_region_held3 (fun w' => w'.cell? ⟨b, o, none⟩ = some v ∧ w'.cell? ⟨b, o + 1, none⟩ = some (.int .i64 (tot D)))
    (first | go_keep | exact ⟨(hb2.cell (p := ⟨b, o, none⟩) hltA).trans A0.out, (hb2.cell (p := ⟨b, o + 1, none⟩) hltA).trans A1.out⟩ | exact ⟨(far2 _ _ _ _ _ _ (q := ⟨b, o, none⟩) hneB).trans ((hb2.cell (p := ⟨b, o, none⟩) hltA).trans A0.out), (far2 _ _ _ _ _ _ (q := ⟨b, o + 1, none⟩) hneB).trans ((hb2.cell (p := ⟨b, o + 1, none⟩) hltA).trans A1.out)⟩)
    (first | (refine HC.out.mono ?_; rintro e w2 ⟨p, rfl, hF2, hfr2, hb2⟩; have hB2 : Blk w2 w.heap.size [.map none, .int .i64 0] 68 := HB.out.keep (fp := fun _ => False) (Mods.of_below hb2) id; have q0 : w2.cell? ⟨w.heap.size, 0, none⟩ = some (.map none) := hB2.cell 0; have q1 : w2.cell? ⟨w.heap.size, 1, none⟩ = some (.int .i64 0) := hB2.cell 1; have f0 := hB2.frozen 0; have f1 := hB2.frozen 1; have HB2 := Lib.hid hB2; clear hB2))
  go_wp2
  have hB3 := (HB2.out.set 0 (.map p)).set 1 (.int .i64 (tot D))
  have hl0 : (((w2.setCell ⟨w.heap.size, 0, none⟩ (.map p)).setCell ⟨w.heap.size, 1, none⟩ (.int .i64 (tot D)))).cell? ⟨w.heap.size, 0, none⟩ = some (.map p) := hB3.cell 0
  have hl1 : (((w2.setCell ⟨w.heap.size, 0, none⟩ (.map p)).setCell ⟨w.heap.size, 1, none⟩ (.int .i64 (tot D)))).cell? ⟨w.heap.size, 1, none⟩ = some (.int .i64 (tot D)) := hB3.cell 1
  refine bodyPost_ret (v := .agg #[.map p, .int .i64 (tot D)]) (by simp [results, Try.results32, go_sem, hl0, hl1]) rfl ⟨p, rfl, ?_, ?_, ?_⟩
  · exact hF2.keep (fp := (· = w.heap.size)) (((Mods.refl (· = w.heap.size) w2).setCell (p := ⟨w.heap.size, 0, none⟩) (.inl rfl) _).setCell (p := ⟨w.heap.size, 1, none⟩) (.inl rfl) _) (fun k hk e => by have := hfr2 k hk; simp at this; omega)
  · exact fun k hk => by have := hfr2 k hk; simp at this; omega
  · have hm : Mods (fun _ => False) w w2 := ((Mods.refl (fun _ => False) w).alloc _).drew.trans (Mods.of_below (fp := fun _ => False) hb2) (fun _ _ e => e) (fun _ _ e => e)
    exact ((hm.setCell (p := ⟨w.heap.size, 0, none⟩) (.inr (Nat.le_refl _)) _).setCell (p := ⟨w.heap.size, 1, none⟩) (.inr (Nat.le_refl _)) _).below (fun _ e => e.elim) (Nat.le_refl _)

/-- the changes that are kept -/
def kept (l : List Chg) (ks : List Bool) : List Chg := l.zipIdx.filterMap fun p => if ks.getD p.2 false then some p.1 else none
theorem kept_nil (ks : List Bool) : kept [] ks = [] := rfl
theorem kept_snoc (l : List Chg) (ks : List Bool) (c : Chg) : kept (l ++ [c]) ks = if ks.getD l.length false then kept l ks ++ [c] else kept l ks := by
  unfold kept
  rw [List.zipIdx_append, List.filterMap_append]
  cases h : ks.getD l.length false <;> simp [List.getD] at h ⊢ <;> simp [h]
theorem kept_take (l : List Chg) (ks : List Bool) (k : Nat) (h : k < l.length) : kept (l.take (k + 1)) ks = if ks.getD k false then kept (l.take k) ks ++ [l[k]] else kept (l.take k) ks := by
  rw [List.take_succ_eq_append_getElem h, kept_snoc, List.length_take, Nat.min_eq_left (by omega)]
theorem kept_wt (l : List Chg) (ks : List Bool) (k : Nat) (h : k ≤ l.length) : wt (kept (l.take k) ks) ≤ wt (l.take k) ∧ (kept (l.take k) ks).length ≤ k := by
  induction k with
  | zero => simp [kept, wt]
  | succ k ih =>
    obtain ⟨h1, h2⟩ := ih (by omega)
    rw [kept_take l ks k (by omega), wt_take l k (by omega)]
    split
    · rw [wt_snoc]; simp only [List.length_append, List.length_singleton]; omega
    · omega

/-- a slice of bools that came in -/
def BArg (w : World) (A : Option Addr) (ks : List Bool) : Prop := ks = [] ∨ ∃ ad : Addr, A = some ad ∧ ad.block < w.heap.size ∧ ∀ i (h : i < ks.length), w.cell? (ad.add i) = some (.bool ks[i])
theorem add_block (a : Addr) (n : Nat) : (a.add n).block = a.block := by unfold Addr.add; split <;> rfl
theorem BArg.at_ {w w' : World} {A : Option Addr} {ks : List Bool} (h : BArg w A ks) (hb : Below w.heap.size w w') (i : Nat) (hi : i < ks.length) : ∃ ad, A = some ad ∧ w'.cell? (ad.add i) = some (.bool ks[i]) := by
  rcases h with h | ⟨ad, e, hlt, hc⟩
  · subst h; simp at hi
  · exact ⟨ad, e, (hb.cell (by rw [add_block]; exact hlt)).trans (hc i hi)⟩

def crS (S : DS) (ks : List Bool) : DS := ⟨S.room, apps S.safe (kept S.ch ks), [], false, 0, false⟩

/-- in the midst of a Crash -/
structure CMid (w wr : World) (bl : Nat) (p : Option Nat) (S : DS) (ks : List Bool) (k : Nat) : Prop where
  left : SAt wr bl 0 [.map p, .int .i64 (tot (apps S.safe (kept (S.ch.take k) ks)))] 68 (.map p) (apps S.safe (kept (S.ch.take k) ks))
  fresh : Fresh w.heap.size (.map p)
  bel : Below w.heap.size w wr
  bl : w.heap.size ≤ bl

theorem CMid.bound {S : DS} (h : S.ok) (ks : List Bool) (k : Nat) (hk : k ≤ S.ch.length) : Good (apps S.safe (kept (S.ch.take k) ks)) ∧ tot (apps S.safe (kept (S.ch.take k) ks)) ≤ tot S.safe + wt (S.ch.take k) ∧ Maps.size (apps S.safe (kept (S.ch.take k) ks)) ≤ Maps.size S.safe + k := by
  obtain ⟨h1, h2⟩ := kept_wt S.ch ks k hk
  have h3 := tot_apps h.good (kept (S.ch.take k) ks)
  have h4 := size_apps h.good (kept (S.ch.take k) ks)
  exact ⟨h.good.apps _, by omega, by omega⟩

theorem CMid.start {w w1 : World} {p : Option Nat} {S : DS} {ks : List Bool} (hok : S.ok) (hF : FAt w1 (.map p) S.safe) (hfr : Fresh w.heap.size (.map p)) (hb : Below w.heap.size w w1) :
    CMid w (w1.alloc (.cells #[.map p, .int .i64 (tot S.safe)] 68)) w1.heap.size p S ks 0 := by
  obtain ⟨h1, h2, h3⟩ := CMid.bound hok ks 0 (by omega)
  have hw := hok.wt
  have hc := hok.cnt
  unfold DS.wt at hw
  unfold DS.cnt at hc
  refine ⟨⟨(MapKept.heap_alloc w1 _).1, rfl, rfl, ?_, h1, ?_, ?_⟩, hfr, hb.alloc hb.size _, hb.size⟩
  · exact hF.keep (fp := fun _ => False) ((Mods.refl _ w1).alloc _) (fun _ _ => id)
  · have := wt_take_le S.ch 0; omega
  · omega

theorem CMid.skip {w wr : World} {bl : Nat} {p : Option Nat} {S : DS} {ks : List Bool} {k : Nat} (h : CMid w wr bl p S ks k) (hk : k < S.ch.length) (hn : ks.getD k false = false) (X : Obj) : CMid w (wr.alloc X) bl p S ks (k + 1) := by
  have e : kept (S.ch.take (k + 1)) ks = kept (S.ch.take k) ks := by rw [kept_take _ _ _ hk, hn]; rfl
  refine ⟨?_, h.fresh, h.bel.alloc h.bel.size _, h.bl⟩
  rw [e]
  exact h.left.keep (fp := fun _ => False) ((Mods.refl _ wr).alloc _) id (fun _ _ => id)

theorem CMid.step {w wr w2 : World} {bl : Nat} {p : Option Nat} {v' : Value} {S : DS} {ks : List Bool} {k : Nat} (h : CMid w wr bl p S ks k) (hk : k < S.ch.length) (hy : ks.getD k false = true) {X : Obj}
    (h2 : SAt w2 bl 0 (st [.map p, .int .i64 (tot (apps S.safe (kept (S.ch.take k) ks)))] 0 v' (.int .i64 (tot (app (apps S.safe (kept (S.ch.take k) ks)) S.ch[k])))) 68 v' (app (apps S.safe (kept (S.ch.take k) ks)) S.ch[k]))
    (hv : NewV (wr.alloc X) (.map p) v') (hm : Mods (fun j => j = bl ∨ Value.map p = .map (some j)) (wr.alloc X) w2) : ∃ p', CMid w w2 bl p' S ks (k + 1) := by
  have e : apps S.safe (kept (S.ch.take (k + 1)) ks) = app (apps S.safe (kept (S.ch.take k) ks)) S.ch[k] := by rw [kept_take _ _ _ hk, hy, if_pos rfl, apps_snoc]
  obtain ⟨p', rfl, hp'⟩ : ∃ p', v' = .map p' ∧ Fresh w.heap.size (.map p') := by
    rcases hv with e | ⟨i, e, hi⟩
    · exact ⟨p, e, h.fresh⟩
    · refine ⟨some i, e, fun j hj => ?_⟩
      cases hj
      have := h.bel.size
      simp at hi
      omega
  refine ⟨p', ?_, hp', ?_, h.bl⟩
  · rw [e]; exact h2
  · have hm' : Mods (fun j => j = bl ∨ Value.map p = .map (some j)) wr w2 := ((Mods.refl (fun _ => False) wr).alloc X).trans hm (fun _ _ e => e.elim) (fun _ _ e => e)
    exact h.bel.trans (hm'.below (fun j e => by rcases e with e | e; rw [e]; exact h.bl; exact h.fresh j e) h.bel.size)

theorem crash_end {w w2 : World} {S : DS} {ks : List Bool} {tt : Nat} {q p2 : Option Nat} {nr : Nat} (hok : S.ok) (ht : tot (apps S.safe (kept S.ch ks)) = tt) (h1 : FAt w2 (.map q) (apps S.safe (kept S.ch ks))) (hf1 : Fresh w.heap.size (.map q))
    (h2 : FAt w2 (.map p2) (apps S.safe (kept S.ch ks))) (hf2 : Fresh nr (.map p2)) (hb : Below w.heap.size w w2) (hn : w.heap.size ≤ nr) (hq : ∀ k, Value.map q = .map (some k) → k < nr) :
    DAt (w2.alloc (.cells #[.int .i64 (S.room : Int), .map q, .int .i64 (tt : Int), .map p2, .int .i64 (tt : Int), .slice none 0 0, .bool false, .int .i64 0, .bool false] 71)) w2.heap.size (fun k => w.heap.size ≤ k ∧ k < (w2.alloc (.cells #[.int .i64 (S.room : Int), .map q, .int .i64 (tt : Int), .map p2, .int .i64 (tt : Int), .slice none 0 0, .bool false, .int .i64 0, .bool false] 71)).heap.size) (crS S ks) ∧
      Below w.heap.size w (w2.alloc (.cells #[.int .i64 (S.room : Int), .map q, .int .i64 (tt : Int), .map p2, .int .i64 (tt : Int), .slice none 0 0, .bool false, .int .i64 0, .bool false] 71)) := by
  subst ht
  have hs := hb.size
  obtain ⟨g1, g2, g3⟩ := CMid.bound hok ks S.ch.length (Nat.le_refl _)
  rw [List.take_length] at g1 g2 g3
  have hw := hok.wt
  have hc := hok.cnt
  unfold DS.wt at hw
  unfold DS.cnt at hc
  refine ⟨⟨.map q, .map p2, .slice none 0 0, ⟨(MapKept.heap_alloc w2 _).1, h1.keep (fp := fun _ => False) ((Mods.refl _ w2).alloc _) (fun _ _ => id), h2.keep (fp := fun _ => False) ((Mods.refl _ w2).alloc _) (fun _ _ => id), ?_, World.ownsRow_nil _ _ _ _,
    ⟨g1, by simp [crS], ?_, ?_, hok.room, by simp [crS]⟩⟩, ?_⟩, hb.alloc hs _⟩
  · intro k hk e
    have := hf2 k e
    have := hq k hk
    omega
  · unfold DS.wt crS
    simp only [wt, List.map_nil, List.sum_nil] at *
    omega
  · unfold DS.cnt crS
    simp only [List.length_nil]
    omega
  · rintro k (e | e | e | e)
    · subst e; exact ⟨hs, by simp⟩
    · have := h1.lt k e; exact ⟨hf1 k e, by simp; omega⟩
    · have := h2.lt k e; exact ⟨Nat.le_trans hn (hf2 k e), by simp; omega⟩
    · cases e

theorem below_drew {n : Nat} {w w' : World} (h : Below n w.drew w') : Below n w w' := ⟨h.os, h.tape, h.output, h.size, h.block⟩

set_option maxHeartbeats 1600000 in
set_option maxRecDepth 100000 in
theorem crash_any (w : World) (bd : Nat) (fp : Nat → Prop) (S : DS) (h : DAt w bd fp S) (A : Option Addr) (c : Nat) (ks : List Bool) (hA : BArg w A ks) (hkl : ks.length ≤ maxLen) :
    Calls Try.prog 20 #[.pointer (some ⟨bd, 0, none⟩), .slice A ks.length c] w fun e w' => ∃ b', e = .returned (.pointer (some ⟨b', 0, none⟩)) ∧ w.heap.size ≤ b' ∧ DAt w' b' (fun k => w.heap.size ≤ k ∧ k < w'.heap.size) (crS S ks) ∧ Below w.heap.size w w' := by
  obtain ⟨vn, vs, cv, h, hf⟩ := h
  have HC := Lib.hid (sclone_any w bd 3 _ 71 vs S.safe h.safeS)
  have HD := Lib.hid h
  have c5 : w.cell? ⟨bd, 5, none⟩ = some cv := h.blk.cell 5
  have hlt := h.blk.lt
  obtain ⟨B, cap, HV, HV2⟩ : ∃ B cap, Hid (cv = .slice B S.ch.length cap) ∧ Hid (0 < S.ch.length → ∃ g, B = some ⟨g, 0, none⟩) := by
    rcases h.row.2 with ⟨e, h0⟩ | ⟨g, cap, cur, e, _⟩
    · exact ⟨none, 0, Lib.hid (by rw [e, h0]), Lib.hid (by omega)⟩
    · exact ⟨some ⟨g, 0, none⟩, cap, Lib.hid e, Lib.hid (fun _ => ⟨g, rfl⟩)⟩
  have hlen : S.ch.length ≤ 500000 := by have := h.ok.cnt; unfold DS.cnt at this; omega
  unfold maxLen at hkl
  rw [HV.out] at c5
  clear h
  go_enter Try.func20, Try.ntmps20
  go_wp2_with fail
  refine HC.out.mono ?_
  rintro e w1 ⟨p, rfl, hF1, hfr1, hb1⟩
  have c51 : w1.cell? ⟨bd, 5, none⟩ = some (.slice B S.ch.length cap) := (hb1.cell (p := ⟨bd, 5, none⟩) hlt).trans c5
  have hlt1 : bd < w1.heap.size := Nat.lt_of_lt_of_le hlt hb1.size
  have HM := Lib.hid (CMid.start (ks := ks) HD.out.ok hF1 hfr1 hb1)
  have hbl1 := hb1.size
  clear hF1 hfr1 HC
  go_wp2
  go_loopw [20] (fun i wr => ∃ (k : Nat) (p : Option Nat), i = .int .i64 k ∧ k ≤ S.ch.length ∧ CMid w wr w1.heap.size p S ks k) (fun i _ => S.ch.length - (intOf i).toNat)
  case atStart => exact ⟨0, p, rfl, by omega, HM.out⟩
  case round =>
    obtain ⟨k, q, rfl, hk, hMk⟩ := hrel
    by_cases hkl2 : k < S.ch.length
    · obtain ⟨g, rfl⟩ := HV2.out (by omega)
      have hrow := row_keep (fp := fun _ => False) HD.out.row (Mods.of_below hMk.bel) (fun _ _ => id)
      rw [HV.out] at hrow
      obtain ⟨e0, e1, e2⟩ := row_cells hrow k hkl2
      obtain ⟨ck, HCK⟩ : ∃ ck, Hid (ck = S.ch[k]) := ⟨_, Lib.hid rfl⟩
      rw [← HCK.out] at e0 e1 e2
      have hck := HD.out.ok.chs S.ch[k] (List.getElem_mem hkl2)
      rw [← HCK.out] at hck
      have HMk := Lib.hid hMk
      clear hMk hrow
      have HX : Hid (∀ (a : Addr) (v : Value), wr.cell? a = some v → (wr.alloc (.cells #[.int .i64 (ck.k : Int), .string ck.name, .string ck.with_] 78)).cell? a = some v) := Lib.hid (fun a v ha => (((Below.refl _ wr).alloc (Nat.le_refl _) _).cell (block_lt_of_cell ha)).trans ha)
      by_cases hkk : k < ks.length
      · obtain ⟨ad, rfl, hkc⟩ := hA.at_ HMk.out.bel k hkk
        cases hkv : ks[k]
        · rw [hkv] at hkc
          have hkc' := HX.out _ _ hkc
          have HG : Hid (ks.getD k false = false) := Lib.hid (by simp [List.getD, List.getElem?_eq_getElem hkk, hkv])
          clear hkv
          clear hA
          go_wp2
          go_roundw
          case rel => exact ⟨k + 1, q, by go_num, by omega, HMk.out.skip hkl2 HG.out _⟩
          case measure => simp [intOf]; omega
        · rw [hkv] at hkc
          have hkc' := HX.out _ _ hkc
          have HG : Hid (ks.getD k false = true) := Lib.hid (by simp [List.getD, List.getElem?_eq_getElem hkk, hkv])
          obtain ⟨g1, g2, g3⟩ := CMid.bound HD.out.ok ks k hk
          have hw := HD.out.ok.wt
          have hcn := HD.out.ok.cnt
          have hwt := wt_take_le S.ch (k + 1)
          have hwt2 := wt_take S.ch k hkl2
          rw [← HCK.out] at hwt2
          have hA1 : tot (apps S.safe (kept (S.ch.take k) ks)) + ck.with_.size ≤ 4611686018427387904 := by unfold DS.wt at hw; omega
          have hA2 : Maps.size (apps S.safe (kept (S.ch.take k) ks)) + 1 < 1000000 := by unfold DS.cnt at hcn; omega
          have HPre := Lib.hid (HMk.out.left.keep (fp := fun _ => False) ((Mods.refl _ wr).alloc (.cells #[.int .i64 (ck.k : Int), .string ck.name, .string ck.with_] 78)) id (fun _ _ => id))
          clear hkv g1 g2 g3 hw hcn hwt hwt2 hA
          go_wp2_with fail
          refine (apply_any _ w1.heap.size 0 _ 68 (.map q) _ HPre.out ck hck.1 hck.2.1 hck.2.2 hA1 hA2).mono ?_
          rintro e w2 ⟨rfl, v', h2, hv2, hm2⟩
          rw [HCK.out] at h2
          obtain ⟨p', hM2⟩ := CMid.step HMk.out hkl2 HG.out h2 hv2 hm2
          have HM2 := Lib.hid hM2
          clear h2 hv2 hm2 hM2
          go_wp2
          go_roundw
          case rel => exact ⟨k + 1, p', by go_num, by omega, HM2.out⟩
          case measure => simp [intOf]; omega
      · have HG : Hid (ks.getD k false = false) := Lib.hid (by simp [List.getD, List.getElem?_eq_none (Nat.le_of_not_lt hkk)])
        clear hA
        go_wp2
        go_roundw
        case rel => exact ⟨k + 1, q, by go_num, by omega, HMk.out.skip hkl2 HG.out _⟩
        case measure => simp [intOf]; omega
    · have hkE : k = S.ch.length := by omega
      subst hkE
      have hL := hMk.left
      rw [List.take_length] at hL
      have hbel := hMk.bel
      have hblk0 : Blk wr bd (dcs S vn vs cv) 71 := HD.out.blk.keep (fp := fun _ => False) (Mods.of_below hbel) id
      have c0 : wr.cell? ⟨bd, 0, none⟩ = some (.int .i64 (S.room : Int)) := hblk0.cell 0
      have l0 : wr.cell? ⟨w1.heap.size, 0, none⟩ = some (.map q) := hL.blk.cell 0
      have l1 : wr.cell? ⟨w1.heap.size, 1, none⟩ = some (.int .i64 (tot (apps S.safe (kept S.ch ks)))) := hL.blk.cell 1
      have HC2 := Lib.hid (sclone_any wr.drew w1.heap.size 0 _ 68 _ _ (hL.keep (fp := fun _ => False) (Mods.refl _ wr).drew id (fun _ _ => id)))
      have HL := Lib.hid hL
      have hfr := hMk.fresh
      have HK : Hid (∀ W, Below wr.heap.size wr W → W.cell? ⟨bd, 0, none⟩ = some (.int .i64 (S.room : Int)) ∧ W.cell? ⟨w1.heap.size, 0, none⟩ = some (.map q) ∧ W.cell? ⟨w1.heap.size, 1, none⟩ = some (.int .i64 (tot (apps S.safe (kept S.ch ks))))) := Lib.hid (fun W hW =>
        ⟨(hW.cell (p := ⟨bd, 0, none⟩) hblk0.lt).trans c0, (hW.cell (p := ⟨w1.heap.size, 0, none⟩) HL.out.blk.lt).trans l0, (hW.cell (p := ⟨w1.heap.size, 1, none⟩) HL.out.blk.lt).trans l1⟩)
      generalize hTT : tot (apps S.safe (kept S.ch ks)) = tt at *
      have HTT := Lib.hid hTT
      clear hTT
      clear hL hMk hblk0 hA
      go_wp2
      go_region_held3 (fun w' => w'.cell? ⟨bd, 0, none⟩ = some (.int .i64 (S.room : Int)) ∧ w'.cell? ⟨w1.heap.size, 0, none⟩ = some (.map q) ∧ w'.cell? ⟨w1.heap.size, 1, none⟩ = some (.int .i64 tt))
        (first | go_keep | exact HK.out _ (below_drew hb2) | exact HK.out _ ((below_drew hb2).alloc hb2.size _))
        (first | (refine HC2.out.mono ?_; rintro e w2 ⟨p2, rfl, hF2, hfr2, hb2⟩))
      go_wp2
      go_ret
      have hs2 := hb2.size
      exact ⟨w2.heap.size, rfl, Nat.le_trans hbel.size hs2, crash_end HD.out.ok HTT.out (HL.out.files.below (below_drew hb2)) hfr hF2 hfr2 (hbel.trans ((below_drew hb2).mono hbel.size)) hbel.size (fun k hk => HL.out.files.lt k hk)⟩

end Go.Proofs.Ytecegjdnodcamaa
