/-
  A disk's change.
-/
import Derived.Test.YtecegjdnodcamaaDisk
import Derived.Deep.RegionLaw
namespace Go.Proofs.Ytecegjdnodcamaa
open Go.RowKit Go.Maps

theorem info78 : (Try.prog.info? 78).map (fun i => (i.zero, i.size, i.bytes)) = some (some (.agg #[.int .i64 0, .string ByteArray.empty, .string ByteArray.empty]), 3, 40) := by kernel_rfl

def addS (S : DS) (c : Chg) : DS := { S with ch := S.ch ++ [c] }
theorem addS_now (S : DS) (c : Chg) : (addS S c).now = app S.now c := apps_snoc _ _ _
theorem DS.ok.add {S : DS} (h : S.ok) (c : Chg) (hc : c.ok) (h1 : S.wt + c.with_.size ≤ 1099511627776) (h2 : S.cnt + 1 ≤ 500000) : (addS S c).ok := by
  refine ⟨h.good, ?_, ?_, ?_, h.room, h.left⟩
  · intro x hx
    rcases List.mem_append.1 hx with hx | hx
    · exact h.chs x hx
    · rw [List.mem_singleton] at hx; subst hx; exact hc
  · unfold DS.wt at *
    show tot S.safe + Ytecegjdnodcamaa.wt (S.ch ++ [c]) ≤ _
    rw [wt_snoc]
    omega
  · unfold DS.cnt at *
    show Maps.size S.safe + (S.ch ++ [c]).length ≤ _
    simp
    omega

theorem change_end {w w1 w2 : World} {bd : Nat} {vn vs cv vn' : Value} {S : DS} {c : Chg} {X Y : Obj} (h : DV w bd vn vs cv S) (hok : (addS S c).ok)
    (h1S : SAt w1 bd 1 (st (dcs S vn vs cv) 1 vn' (.int .i64 (tot (app S.now c)))) 71 vn' (app S.now c)) (hv1 : NewV (w.alloc X).drew vn vn') (hm1 : Mods (fun k => k = bd ∨ vn = .map (some k)) (w.alloc X).drew w1)
    {g cap : Nat} (hown2 : w2.ownsRow 0 78 3 (.slice (some ⟨g, 0, none⟩) (S.ch.length + 1) cap) (S.ch.length + 1) (S.ch.flatMap ccells ++ ccells c)) (hm2 : Mods (fun k => cv.ownBlock = some k) (w1.alloc Y).drew w2)
    (hat : cv.ownBlock = some g ∨ g = (w1.alloc Y).drew.heap.size) :
    ∃ vn' cv', DV (w2.setCell ⟨bd, 5, none⟩ (.slice (some ⟨g, 0, none⟩) (S.ch.length + 1) cap)) bd vn' vs cv' (addS S c) ∧ (∀ k, foot bd vn' vs cv' k → foot bd vn vs cv k ∨ w.heap.size ≤ k) ∧
      Mods (foot bd vn vs cv) w (w2.setCell ⟨bd, 5, none⟩ (.slice (some ⟨g, 0, none⟩) (S.ch.length + 1) cap)) := by
  have hlt := h.foot_lt
  have hsA : w.heap.size + 1 ≤ w1.heap.size := by have := hm1.size; simpa using this
  have hsB : w1.heap.size + 1 ≤ w2.heap.size := by have := hm2.size; simpa using this
  have hbd := hlt bd (.inl rfl)
  have m01 : Mods (fun k => k = bd ∨ vn = .map (some k)) w w1 := ((Mods.refl (fun _ => False) w).alloc X).drew.trans hm1 (fun _ _ e => e.elim) (fun _ _ e => e)
  have m12 : Mods (fun k => cv.ownBlock = some k) w1 w2 := ((Mods.refl (fun _ => False) w1).alloc Y).drew.trans hm2 (fun _ _ e => e.elim) (fun _ _ e => e)
  have hnd : cv.ownBlock ≠ some bd := row_no_disk h.row h.blk
  have hmD : ∀ u, Mods (· = bd) w2 (w2.setCell ⟨bd, 5, none⟩ u) := fun u => (Mods.refl (· = bd) w2).setCell (p := ⟨bd, 5, none⟩) (.inl rfl) _
  have hvn' : ∀ k, vn' = .map (some k) → vn = .map (some k) ∨ w.heap.size ≤ k := by
    intro k hk
    rcases hv1 with e | ⟨j, e, hj⟩
    · exact .inl (by rw [← e, hk])
    · rw [hk] at e; cases e; exact .inr (by simp at hj; omega)
  have hF1 : FAt w2 vn' (app S.now c) := h1S.files.keep m12 (fun k hk e => by
    rcases hvn' k hk with e2 | e2
    · exact row_no_map h.row h.now k e e2
    · have := hlt k (.inr (.inr (.inr e))); omega)
  have hvs : ∀ k, vs = .map (some k) → ¬ (k = bd ∨ vn = .map (some k)) := by
    rintro k hk (e | e)
    · exact h.blk.ne h.safe (by rw [hk, e])
    · exact h.ne k e hk
  have hs2 : FAt w2 vs S.safe := (h.safe.keep m01 hvs).keep m12 (fun k hk e => row_no_map h.row h.safe k e hk)
  have hb2 := h1S.blk.keep m12 hnd
  have hgne : g ≠ bd := by
    rcases hat with e | e
    · intro e2; exact hnd (by rw [e, e2])
    · simp at e; omega
  refine ⟨vn', .slice (some ⟨g, 0, none⟩) (S.ch.length + 1) cap, ⟨?_, ?_, ?_, ?_, ?_, hok⟩, ?_, ?_⟩
  · have := hb2.set 5 (.slice (some ⟨g, 0, none⟩) (S.ch.length + 1) cap)
    unfold dcs
    rw [addS_now]
    exact this
  · rw [addS_now]
    exact hF1.keep (hmD _) (fun k hk e => hb2.ne hF1 (by rw [hk, e]))
  · exact hs2.keep (hmD _) (fun k hk e => hb2.ne hs2 (by rw [hk, e]))
  · intro k hk e
    rcases hvn' k hk with e2 | e2
    · exact h.ne k e2 e
    · have := hlt k (.inr (.inr (.inl e))); omega
  · have e1 : (addS S c).ch.length = S.ch.length + 1 := by simp [addS]
    have e2 : (addS S c).ch.flatMap ccells = S.ch.flatMap ccells ++ ccells c := by simp [addS]
    rw [e1, e2]
    exact row_keep hown2 (hmD _) (fun k hk e => by simp [Value.ownBlock] at hk; omega)
  · rintro k (e | e | e | e)
    · exact .inl (.inl e)
    · exact (hvn' k e).imp (fun e => .inr (.inl e)) id
    · exact .inl (.inr (.inr (.inl e)))
    · simp [Value.ownBlock] at e
      subst e
      rcases hat with e | e
      · exact .inl (.inr (.inr (.inr e)))
      · simp at e; exact .inr (by omega)
  · exact (m01.trans m12 (fr := foot bd vn vs cv) (fun i _ e => e.elim .inl (fun e => .inr (.inl e))) (fun i _ e => .inr (.inr (.inr e)))).setCell (p := ⟨bd, 5, none⟩) (.inl (.inl rfl)) _

set_option maxHeartbeats 1600000 in
set_option maxRecDepth 100000 in
theorem change_dv (w : World) (bd : Nat) (vn vs cv : Value) (S : DS) (h : DV w bd vn vs cv S) (c : Chg) (hc : c.ok) (h1 : S.wt + c.with_.size ≤ 1099511627776) (h2 : S.cnt + 1 ≤ 500000) :
    Calls Try.prog 37 #[.pointer (some ⟨bd, 0, none⟩), chg c] w fun e w' => e = .returned (.int .i64 0) ∧
      ∃ vn' cv', DV w' bd vn' vs cv' (addS S c) ∧ (∀ k, foot bd vn' vs cv' k → foot bd vn vs cv k ∨ w.heap.size ≤ k) ∧ Mods (foot bd vn vs cv) w w' := by
  obtain ⟨i0, hi, hz0, hz1, hz2⟩ := info_parts info78
  have hlt := h.foot_lt
  have HA := Lib.hid (h.keep (fq := fun _ => False) ((Mods.refl _ w).alloc (.cells #[.int .i64 (c.k : Int), .string c.name, .string c.with_] 78)) (fun _ _ => id))
  have hBk : Blk (w.alloc (.cells #[.int .i64 (c.k : Int), .string c.name, .string c.with_] 78)) w.heap.size (ccells c) 78 := (MapKept.heap_alloc w _).1
  have HB := Lib.hid hBk
  have d0 := hBk.cell 0
  have d1 := hBk.cell 1
  have d2 := hBk.cell 2
  simp only [ccells, List.getElem?_cons_zero, List.getElem?_cons_succ] at d0 d1 d2
  have hokn := h.ok.totn
  have hoks := h.ok.sizen
  have H := Lib.hid h
  have HN := Lib.hid HA.out.nowS
  have HOK := Lib.hid (h.ok.add c hc h1 h2)
  clear h hBk
  unfold chg
  go_enter Try.func37, Try.ntmps37
  go_wp2
  refine wp_region_still_tail 4 (by kernel_rfl) (by kernel_rfl) ?_
  simp only [List.take_succ_cons, List.take_zero, List.drop_succ_cons, List.drop_zero]
  change wpStill _ _ ((w.alloc (.cells #[.int .i64 (c.k : Int), .string c.name, .string c.with_] 78)).drew) _ _ _
  repeat still_step
  refine wpStill_nil ?_
  go_wp2_with fail
  change Calls _ _ _ ((w.alloc (.cells #[.int .i64 (c.k : Int), .string c.name, .string c.with_] 78)).drew) _
  refine (apply_any ((w.alloc (.cells #[.int .i64 (c.k : Int), .string c.name, .string c.with_] 78)).drew) bd 1 (dcs S vn vs cv) 71 vn S.now
    (HN.out.keep (fp := fun _ => False) (Mods.refl _ _).drew id (fun _ _ => id)) c hc.1 hc.2.1 hc.2.2 (by have := tot_apps H.out.ok.good S.ch; unfold DS.wt at h1; unfold DS.now; omega) (by omega)).mono ?_
  rintro e w1 ⟨rfl, vn', h1S, hv1, hm1⟩
  have hz1w : w.heap.size < w1.heap.size := by have := hm1.size; simp at this; omega
  have hbd := hlt bd (.inl rfl)
  have hbd1 : bd < w1.heap.size := by omega
  have c5 : w1.cell? ⟨bd, 5, none⟩ = some cv := h1S.blk.cell 5
  have B1 : Blk w1 w.heap.size (ccells c) 78 := HB.out.drew.keep hm1 (fun e => by rcases e with e | e; omega; have := hlt _ (.inr (.inl e)); omega)
  have g0 := B1.cell 0
  have g1 := B1.cell 1
  have g2 := B1.cell 2
  simp only [ccells, List.getElem?_cons_zero, List.getElem?_cons_succ] at g0 g1 g2
  have hrow1 : w1.ownsRow 0 78 3 cv S.ch.length (S.ch.flatMap ccells) := row_keep (w := (w.alloc (.cells #[.int .i64 (c.k : Int), .string c.name, .string c.with_] 78)).drew) (fp := fun k => k = bd ∨ vn = .map (some k)) HA.out.row hm1 (fun k hk e => by
    rcases e with e | e
    · exact row_no_disk H.out.row H.out.blk (by rw [hk, e])
    · exact row_no_map H.out.row H.out.now k hk e)
  have hmW2 : Mods (fun _ => False) w1 ((w1.alloc (.cells #[.int .i64 (c.k : Int), .string c.name, .string c.with_] 78)).drew) := ((Mods.refl _ w1).alloc _).drew
  have HNEW : Hid (∀ j u, (ccells c)[j]? = some u → ((w1.alloc (.cells #[.int .i64 (c.k : Int), .string c.name, .string c.with_] 78)).drew).cell? ((⟨w1.heap.size, 0, none⟩ : Addr).add j) = some u) := Lib.hid (fun j u hu => by
    have BW2 : Blk ((w1.alloc (.cells #[.int .i64 (c.k : Int), .string c.name, .string c.with_] 78)).drew) w1.heap.size (ccells c) 78 := (MapKept.heap_alloc w1 _).1
    rw [← hu]
    have : (⟨w1.heap.size, 0, none⟩ : Addr).add j = ⟨w1.heap.size, j, none⟩ := by simp [Addr.add]; intro h; omega
    rw [this]
    exact BW2.cell j)
  have HONE : Hid (∀ u ∈ ccells c, u.oneCell' = true) := Lib.hid (by intro u hu; simp [ccells] at hu; rcases hu with rfl | rfl | rfl <;> rfl)
  have HROW := Lib.hid (row_keep hrow1 hmW2 (fun _ _ => id))
  have HL1 : Hid (S.ch.length + 1 ≤ maxLen) := Lib.hid (by have := H.out.ok.cnt; unfold DS.cnt at this; unfold maxLen; omega)
  have HL2 : Hid ((S.ch.length + 1) * 40 ≤ 140737488355328) := Lib.hid (by have := H.out.ok.cnt; unfold DS.cnt at this; omega)
  have HBL := Lib.hid (h1S.blk.keep hmW2 id)
  have HNO := Lib.hid (row_no_disk H.out.row H.out.blk)
  have HS1 := Lib.hid h1S
  clear h1S hlt hrow1 hmW2
  go_wp2
  go_region_law (refine step_append_lies _ rfl (.tmp 14) (.tmp 16) 69 rfl 0 78 i0 _ 3 40 Try.underlying69 hi hz0 hz1 hz2 rfl (by decide) cv S.ch.length (S.ch.flatMap ccells) rfl HROW.out ⟨w1.heap.size, 0, none⟩ 1 1 (ccells c) rfl rfl HNEW.out HONE.out (by omega) HL1.out HL2.out (Nat.zero_le _) _ rfl ?_; intro g cap w2 hown2 hgrow2 hat hglt; have hm2 : Mods (fun k => cv.ownBlock = some k) ((w1.alloc (.cells #[.int .i64 (c.k : Int), .string c.name, .string c.with_] 78)).drew) w2 := ⟨hgrow2.os, hgrow2.tape, hgrow2.output, hgrow2.size, fun k hk hn => hgrow2.block k hk (fun e => hn e.symm)⟩; have hb2 := HBL.out.keep hm2 HNO.out; have f5 := hb2.frozen 5; have c52 : w2.cell? ⟨bd, 5, none⟩ = some cv := hb2.cell 5; have HB2 := Lib.hid hb2; clear hb2)
  all_goals
    go_wp2
    go_ret
    exact ⟨rfl, change_end H.out HOK.out HS1.out hv1 hm1 hown2 hm2 hat⟩

end Go.Proofs.Ytecegjdnodcamaa
