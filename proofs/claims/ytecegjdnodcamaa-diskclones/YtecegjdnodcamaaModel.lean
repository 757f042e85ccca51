/-
  The model in memory: New, Files.
-/
import Derived.Test.YtecegjdnodcamaaTurn
namespace Go.Proofs.Ytecegjdnodcamaa
open Go.RowKit Go.Maps

theorem actL_len (l : List ActD) : (l.flatMap actL).length = l.length * 5 := by
  induction l with
  | nil => rfl
  | cons c l ih => simp only [List.flatMap_cons, List.length_append, ih, List.length_cons, actL, List.length_nil]; omega
def flI (S : DS) : Int := if S.falls then (S.left : Int) else -1
def mcs (S : DS) (bs : Nat) (sv : Value) : List Value := [.map (some bs), sv, .int .i64 (S.room : Int), .int .i64 (flI S), .bool S.down]
def ActD.done (a : ActD) : Prop := a.small ∧ a.kind ≠ 4 ∧ a.kind ≠ 5
structure MV (w : World) (bm bs : Nat) (sv : Value) (S : DS) (l : List ActD) : Prop where
  blk : Blk w bm (mcs S bs sv) 41
  safe : MF w bs S.safe
  row : w.ownsRow 0 30 5 sv l.length (l.flatMap actL)
  ch : l.map toChg = S.ch
  acts : ∀ a ∈ l, a.done
  ok : S.ok
def mfoot (bm bs : Nat) (sv : Value) (k : Nat) : Prop := k = bm ∨ k = bs ∨ sv.ownBlock = some k
/-- a model in block bm; what it holds lies in blocks of fp -/
def MAt (w : World) (bm : Nat) (fp : Nat → Prop) (S : DS) : Prop := ∃ bs sv l, MV w bm bs sv S l ∧ ∀ k, mfoot bm bs sv k → fp k

theorem row_keep5 {w w' : World} {v : Value} {n : Nat} {xs : List Value} {fp : Nat → Prop} (h : w.ownsRow 0 30 5 v n xs) (hm : Mods fp w w') (hn : ∀ k, v.ownBlock = some k → ¬ fp k) : w'.ownsRow 0 30 5 v n xs := by
  have hlt := h.lt
  obtain ⟨hl, h⟩ := h
  refine ⟨hl, ?_⟩
  rcases h with h | ⟨g, cap, cur, rfl, hb, hg, r⟩
  · exact .inl h
  · exact .inr ⟨g, cap, cur, rfl, hb, (hm.block g (hlt g rfl).2 (hn g rfl)).trans hg, r⟩
section
variable {w w' : World} {bm bs : Nat} {sv : Value} {S : DS} {l : List ActD} {fp fq : Nat → Prop}
theorem MV.keep (h : MV w bm bs sv S l) (hm : Mods fq w w') (hn : ∀ k, mfoot bm bs sv k → ¬ fq k) : MV w' bm bs sv S l :=
  ⟨h.blk.keep hm (hn _ (.inl rfl)), h.safe.keep hm (hn _ (.inr (.inl rfl))), row_keep5 h.row hm (fun k hk => hn k (.inr (.inr hk))), h.ch, h.acts, h.ok⟩
theorem MV.foot_lt (h : MV w bm bs sv S l) : ∀ k, mfoot bm bs sv k → k < w.heap.size := by
  rintro k (rfl | rfl | e)
  · exact h.blk.lt
  · exact h.safe.lt
  · exact (h.row.lt k e).2
theorem MAt.keep (h : MAt w bm fp S) (hm : Mods fq w w') (hn : ∀ k, fp k → ¬ fq k) : MAt w' bm fp S := by
  obtain ⟨bs, sv, l, h, hf⟩ := h
  exact ⟨bs, sv, l, h.keep hm (fun k hk => hn k (hf k hk)), hf⟩
theorem MAt.below (h : MAt w bm fp S) (hb : Below w.heap.size w w') : MAt w' bm fp S := h.keep (fq := fun _ => False) (Mods.of_below hb) (fun _ _ => id)
theorem MAt.ok (h : MAt w bm fp S) : S.ok := by obtain ⟨_, _, _, h, _⟩ := h; exact h.ok
end

/-- the cells of one act in the row -/
theorem row_cells5 {w : World} {g cap : Nat} {l : List ActD} (h : w.ownsRow 0 30 5 (.slice (some ⟨g, 0, none⟩) l.length cap) l.length (l.flatMap actL)) (k : Nat) (hk : k < l.length) (j : Nat) (hj : j < 5) :
    w.cell? ⟨g, k * 5 + j, none⟩ = (actL l[k])[j]? := by
  have hc := h.cells (g := g) rfl
  have e0 : l = l.take k ++ (l[k] :: l.drop (k + 1)) := by rw [← List.drop_eq_getElem_cons hk, List.take_append_drop]
  have e1 := congrArg (List.flatMap actL) e0
  rw [List.flatMap_append, List.flatMap_cons] at e1
  have hl : ((l.take k).flatMap actL).length = k * 5 := by rw [actL_len, List.length_take]; congr 1; omega
  have hx : (l.flatMap actL)[k * 5 + j]? = (actL l[k])[j]? := by
    rw [e1, List.getElem?_append_right (by omega), hl, Nat.add_sub_cancel_left, List.getElem?_append_left (by simpa [actL] using hj)]
  have hadd : (⟨g, 0, none⟩ : Addr).add (k * 5 + j) = ⟨g, k * 5 + j, none⟩ := by simp [Addr.add]; intro h; omega
  obtain ⟨v, hv⟩ : ∃ v, (actL l[k])[j]? = some v := ⟨(actL l[k])[j]'(by simpa [actL] using hj), List.getElem?_eq_getElem _⟩
  have := hc (k * 5 + j) v (hx.trans hv)
  rw [hadd] at this
  rw [this, hv]

theorem actD_done (D : Dt) (a : ActD) (h : a.done) : actD D a = app D (toChg a) := by
  unfold actD
  rw [if_neg (by rintro (e | e); exact h.2.1 e; exact h.2.2 e)]

set_option maxHeartbeats 1600000 in
set_option maxRecDepth 100000 in
theorem files_mv (w : World) (bm bs : Nat) (sv : Value) (S : DS) (l : List ActD) (h : MV w bm bs sv S l) :
    Calls Try.prog 19 #[.pointer (some ⟨bm, 0, none⟩)] w fun e w' => ∃ b', e = .returned (.map (some b')) ∧ MF w' b' S.now ∧ (b' = bs ∨ w.heap.size ≤ b') ∧ Below w.heap.size w w' := by
  have c0 : w.cell? ⟨bm, 0, none⟩ = some (.map (some bs)) := h.blk.cell 0
  have c1 : w.cell? ⟨bm, 1, none⟩ = some sv := h.blk.cell 1
  obtain ⟨B, cap, HV, HV2⟩ : ∃ B cap, Hid (sv = .slice B l.length cap) ∧ Hid (0 < l.length → ∃ g, B = some ⟨g, 0, none⟩) := by
    rcases h.row.2 with ⟨e, h0⟩ | ⟨g, cap, cur, e, _⟩
    · exact ⟨none, 0, Lib.hid (by rw [e, h0]), Lib.hid (by omega)⟩
    · exact ⟨some ⟨g, 0, none⟩, cap, Lib.hid e, Lib.hid (fun _ => ⟨g, rfl⟩)⟩
  have hcl : S.ch.length = l.length := by rw [← h.ch, List.length_map]
  have hlen : l.length ≤ 500000 := by have := h.ok.cnt; unfold DS.cnt at this; omega
  have HCL := Lib.hid hcl
  have H := Lib.hid h
  rw [HV.out] at c1
  clear h hcl
  go_enter Try.func19, Try.ntmps19
  go_wp2
  go_loopw [3, 15] (fun o i wr => ∃ (k b' : Nat), i = .int .i64 k ∧ k ≤ l.length ∧ o = .map (some b') ∧ MF wr b' (apps S.safe (S.ch.take k)) ∧ (b' = bs ∨ w.heap.size ≤ b') ∧ Below w.heap.size w wr) (fun _ i _ => l.length - (intOf i).toNat)
  case atStart => exact ⟨0, bs, rfl, by omega, rfl, H.out.safe, .inl rfl, Below.refl _ _⟩
  case round =>
    obtain ⟨k, b', rfl, hk, rfl, hMF, hb', hbel⟩ := hrel
    have HMF := Lib.hid hMF
    have HBB := Lib.hid hb'
    clear hMF hb'
    by_cases hkl : k < l.length
    · obtain ⟨g, rfl⟩ := HV2.out (by omega)
      have hrow := row_keep5 (fp := fun _ => False) H.out.row (Mods.of_below hbel) (fun _ _ => id)
      rw [HV.out] at hrow
      have e0 := row_cells5 hrow k hkl 0 (by omega)
      have e1 := row_cells5 hrow k hkl 1 (by omega)
      have e2 := row_cells5 hrow k hkl 2 (by omega)
      have e3 := row_cells5 hrow k hkl 3 (by omega)
      have e4 := row_cells5 hrow k hkl 4 (by omega)
      obtain ⟨ck, HCK⟩ : ∃ ck, Hid (ck = l[k]) := ⟨_, Lib.hid rfl⟩
      rw [← HCK.out] at e0 e1 e2 e3 e4
      simp only [actL, List.getElem?_cons_zero, List.getElem?_cons_succ, Nat.add_zero] at e0 e1 e2 e3 e4
      have hdone := H.out.acts l[k] (List.getElem_mem hkl)
      rw [← HCK.out] at hdone
      have HGd := Lib.hid (H.out.ok.good.apps (S.ch.take k))
      have HSz : Hid (Maps.size (apps S.safe (S.ch.take k)) < 900000) := Lib.hid (by
        have h1 := size_apps H.out.ok.good (S.ch.take k)
        have h2 := H.out.ok.cnt
        unfold DS.cnt at h2
        rw [List.length_take] at h1
        omega)
      have HN : Hid (actD (apps S.safe (S.ch.take k)) ck = apps S.safe (S.ch.take (k + 1))) := Lib.hid (by
        rw [actD_done _ _ hdone, apps_take _ _ _ (by rw [HCL.out]; exact hkl)]
        congr 1
        rw [HCK.out]
        have : S.ch[k]'(by rw [HCL.out]; exact hkl) = (l.map toChg)[k]'(by simpa using hkl) := by congr 1; exact H.out.ch.symm
        rw [this, List.getElem_map])
      clear hrow
      go_wp2_with fail
      refine (turn_any _ b' _ (HMF.out.keep (fp := fun _ => False) ((Mods.refl _ wr).alloc _) id) HGd.out HSz.out ck hdone.1).mono ?_
      rintro e w2 ⟨b2, rfl, hM2, hb2, hbel2⟩
      rw [HN.out] at hM2
      have hbz := hbel.size
      go_wp2
      go_roundw
      case rel =>
        refine ⟨k + 1, b2, by go_num, by omega, rfl, hM2, .inr (by simp at hb2; omega), (hbel.alloc hbz _).trans (hbel2.mono (by simp; omega))⟩
      case measure => simp [intOf]; omega
    · go_wp2
      go_ret
      refine ⟨b', rfl, ?_, HBB.out, hbel⟩
      have := HMF.out
      rw [List.take_of_length_le (by rw [HCL.out]; omega)] at this
      exact this

theorem mat_new {w0 w : World} {bs : Nat} {S : DS} (hM : MF w bs S.safe) (hbs : w0.heap.size ≤ bs) (hch : S.ch = []) (hok : S.ok) (hb : Below w0.heap.size w0 w) {c : Array Value} (hc : c = #[.map (some bs), .slice none 0 0, .int .i64 (S.room : Int), .int .i64 (flI S), .bool S.down]) :
    MAt (w.alloc (.cells c 41)) w.heap.size (fun k => w0.heap.size ≤ k ∧ k < (w.alloc (.cells c 41)).heap.size) S := by
  subst hc
  have hlt := hM.lt
  refine ⟨bs, .slice none 0 0, [], ⟨(MapKept.heap_alloc w _).1, hM.keep (fp := fun _ => False) ((Mods.refl _ w).alloc _) id, World.ownsRow_nil _ _ _ _, by rw [hch]; rfl, by simp, hok⟩, ?_⟩
  rintro k (rfl | rfl | e)
  · exact ⟨hb.size, by simp⟩
  · exact ⟨hbs, by simp; omega⟩
  · cases e

theorem mnew_end {room m : Int} (w : World) (h : m = min (max room 0) 4194304) :
    MAt ((w.alloc (.map #[] 0)).alloc (.cells #[.map (some w.heap.size), .slice none 0 0, .int .i64 m, .int .i64 (-1), .bool false] 41)) (w.heap.size + 1) (fun k => w.heap.size ≤ k ∧ k < ((w.alloc (.map #[] 0)).alloc (.cells #[.map (some w.heap.size), .slice none 0 0, .int .i64 m, .int .i64 (-1), .bool false] 41)).heap.size) (newS room) ∧
      Below w.heap.size w ((w.alloc (.map #[] 0)).alloc (.cells #[.map (some w.heap.size), .slice none 0 0, .int .i64 m, .int .i64 (-1), .bool false] 41)) := by
  have hB : Below w.heap.size w (w.alloc (.map #[] 0)) := (Below.refl _ w).alloc (Nat.le_refl _) _
  refine ⟨?_, hB.alloc (by simp) _⟩
  have := mat_new (w0 := w) (w := w.alloc (.map #[] 0)) (bs := w.heap.size) (S := newS room) (World.ownsMap_made w Try.prog 9 (plainElem Try.prog 9)) (Nat.le_refl _) rfl (newS_ok room) hB (c := #[.map (some w.heap.size), .slice none 0 0, .int .i64 m, .int .i64 (-1), .bool false])
    (by
      have e : ((newS room).room : Int) = m := by simp only [newS]; omega
      rw [e]
      rfl)
  simpa using this

set_option maxHeartbeats 800000 in
theorem mnew_any (room : Int) (w : World) :
    Calls Try.prog 14 #[.int .i64 room] w fun e w' => ∃ bm, e = .returned (.pointer (some ⟨bm, 0, none⟩)) ∧ MAt w' bm (fun k => w.heap.size ≤ k ∧ k < w'.heap.size) (newS room) ∧ Below w.heap.size w w' := by
  have hmm := @run_makeMap Try.prog
  go_enter Try.func14, Try.ntmps14
  go_wp2
  all_goals
    go_ret
    exact ⟨_, rfl, mnew_end w (by omega)⟩

end Go.Proofs.Ytecegjdnodcamaa
