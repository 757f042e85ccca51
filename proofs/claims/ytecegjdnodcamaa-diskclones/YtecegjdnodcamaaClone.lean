/-
  Clone: a disk like this one, in memory of its own.
-/
import Derived.Test.YtecegjdnodcamaaNil
namespace Go.Proofs.Ytecegjdnodcamaa
open Go.RowKit Go.Maps Go.Sort

theorem clone_end {w w5 : World} {S : DS} {p1 p2 : Option Nat} {v' : Value} (hok : S.ok)
    (hb : Blk w5 w.heap.size (dcs S (.map p1) (.map p2) v') 71) (h1 : FAt w5 (.map p1) S.now) (h2 : FAt w5 (.map p2) S.safe) (hf1 : Fresh w.heap.size (.map p1)) (hf2 : Fresh w.heap.size (.map p2)) (hne : ∀ k, p1 = some k → p2 ≠ some k)
    (hr : w5.ownsRow w.heap.size 78 3 v' S.ch.length (S.ch.flatMap ccells)) : DAt w5 w.heap.size (fun k => w.heap.size ≤ k ∧ k < w5.heap.size) S := by
  refine ⟨.map p1, .map p2, v', ⟨hb, h1, h2, fun k e1 e2 => ?_, hr.mono (Nat.zero_le _), hok⟩, ?_⟩
  · cases e1; cases e2; exact hne k rfl rfl
  · rintro k (e | e | e | e)
    · subst e; exact ⟨Nat.le_refl _, hb.lt⟩
    · exact ⟨hf1 k e, h1.lt k e⟩
    · exact ⟨hf2 k e, h2.lt k e⟩
    · exact hr.lt k e

set_option maxHeartbeats 1600000 in
set_option maxRecDepth 100000 in
theorem clone_any (w : World) (bd : Nat) (fp : Nat → Prop) (S : DS) (h : DAt w bd fp S) :
    Calls Try.prog 22 #[.pointer (some ⟨bd, 0, none⟩)] w fun e w' => e = .returned (.pointer (some ⟨w.heap.size, 0, none⟩)) ∧ DAt w' w.heap.size (fun k => w.heap.size ≤ k ∧ k < w'.heap.size) S ∧ Below w.heap.size w w' := by
  obtain ⟨vn, vs, cv, h, hf⟩ := h
  obtain ⟨pn, rfl⟩ : ∃ pn, vn = .map pn := by rcases h.now with ⟨e, _⟩ | ⟨b, e, _⟩ <;> exact ⟨_, e⟩
  obtain ⟨ps, rfl⟩ : ∃ ps, vs = .map ps := by rcases h.safe with ⟨e, _⟩ | ⟨b, e, _⟩ <;> exact ⟨_, e⟩
  obtain ⟨B, cap, rfl⟩ : ∃ B cap, cv = .slice B S.ch.length cap := by
    rcases h.row.2 with ⟨e, h0⟩ | ⟨g, cap, cur, e, _⟩
    · exact ⟨none, 0, by rw [e, h0]⟩
    · exact ⟨_, cap, e⟩
  have HD := Lib.hid h
  have c0 : w.cell? ⟨bd, 0, none⟩ = some (.int .i64 (S.room : Int)) := h.blk.cell 0
  have c1 : w.cell? ⟨bd, 1, none⟩ = some (.map pn) := h.blk.cell 1
  have c2 : w.cell? ⟨bd, 2, none⟩ = some (.int .i64 (tot S.now : Int)) := h.blk.cell 2
  have c3 : w.cell? ⟨bd, 3, none⟩ = some (.map ps) := h.blk.cell 3
  have c4 : w.cell? ⟨bd, 4, none⟩ = some (.int .i64 (tot S.safe : Int)) := h.blk.cell 4
  have c5 : w.cell? ⟨bd, 5, none⟩ = some (.slice B S.ch.length cap) := h.blk.cell 5
  have c6 : w.cell? ⟨bd, 6, none⟩ = some (.bool S.falls) := h.blk.cell 6
  have c7 : w.cell? ⟨bd, 7, none⟩ = some (.int .i64 (S.left : Int)) := h.blk.cell 7
  have c8 : w.cell? ⟨bd, 8, none⟩ = some (.bool S.down) := h.blk.cell 8
  have hlt := h.blk.lt
  have hlen : S.ch.length ≤ 500000 := by have := h.ok.cnt; unfold DS.cnt at this; omega
  have HAd : Hid (DV ((w.alloc (.cells #[.int .i64 (S.room : Int), .map pn, .int .i64 (tot S.now : Int), .map ps, .int .i64 (tot S.safe : Int), .slice B S.ch.length cap, .bool S.falls, .int .i64 (S.left : Int), .bool S.down] 71)).drew) bd (.map pn) (.map ps) (.slice B S.ch.length cap) S) := Lib.hid (h.keep (fq := fun _ => False) ((Mods.refl _ w).alloc _).drew (fun _ _ => id))
  have HBA : Hid (Blk ((w.alloc (.cells #[.int .i64 (S.room : Int), .map pn, .int .i64 (tot S.now : Int), .map ps, .int .i64 (tot S.safe : Int), .slice B S.ch.length cap, .bool S.falls, .int .i64 (S.left : Int), .bool S.down] 71)).drew) w.heap.size (dcs S (.map pn) (.map ps) (.slice B S.ch.length cap)) 71) := Lib.hid (MapKept.heap_alloc w _).1
  have HWA : Hid (Below w.heap.size w ((w.alloc (.cells #[.int .i64 (S.room : Int), .map pn, .int .i64 (tot S.now : Int), .map ps, .int .i64 (tot S.safe : Int), .slice B S.ch.length cap, .bool S.falls, .int .i64 (S.left : Int), .bool S.down] 71)).drew)) := Lib.hid (((Mods.refl (fun _ => False) w).alloc _).drew.below (fun _ e => e.elim) (Nat.le_refl _))
  have HC1 := Lib.hid (sclone_any ((w.alloc (.cells #[.int .i64 (S.room : Int), .map pn, .int .i64 (tot S.now : Int), .map ps, .int .i64 (tot S.safe : Int), .slice B S.ch.length cap, .bool S.falls, .int .i64 (S.left : Int), .bool S.down] 71)).drew) bd 1 _ 71 _ S.now HAd.out.nowS)
  have HSZ : Hid (((w.alloc (.cells #[.int .i64 (S.room : Int), .map pn, .int .i64 (tot S.now : Int), .map ps, .int .i64 (tot S.safe : Int), .slice B S.ch.length cap, .bool S.falls, .int .i64 (S.left : Int), .bool S.down] 71)).drew).heap.size = w.heap.size + 1) := Lib.hid (by simp)
  have hbne : bd ≠ w.heap.size := by omega
  clear h hf
  go_enter Try.func22, Try.ntmps22
  go_wp2
  go_region_held3 (fun _ => True)
    (first | go_keep | trivial)
    (first
      | ((with_reducible refine HC1.out.mono ?_); rintro e w2 ⟨p1, rfl, hF1, hfr1, hb1⟩; have HF1 := Lib.hid hF1; have HFR1 := Lib.hid hfr1; have HB1 := Lib.hid hb1; have HD2 := Lib.hid (HAd.out.keep (fq := fun _ => False) (Mods.of_below hb1) (fun _ _ => id)); have HBL2 := Lib.hid (HBA.out.keep (fp := fun _ => False) (Mods.of_below hb1) id); clear hF1 hfr1 hb1)
      | ((with_reducible refine (sclone_any w2 bd 3 _ 71 _ S.safe HD2.out.safeS).mono ?_); rintro e w3 ⟨p2, rfl, hF2, hfr2, hb2⟩; have HF2 := Lib.hid hF2; have HFR2 := Lib.hid hfr2; have HB2 := Lib.hid hb2; have HD3 := Lib.hid (HD2.out.keep (fq := fun _ => False) (Mods.of_below hb2) (fun _ _ => id)); have hB3 := (HBL2.out.keep (fp := fun _ => False) (Mods.of_below hb2) id); have q1 : w3.cell? ⟨w.heap.size, 1, none⟩ = some (.map pn) := hB3.cell 1; have q2 : w3.cell? ⟨w.heap.size, 2, none⟩ = some (.int .i64 (tot S.now : Int)) := hB3.cell 2; have q3 : w3.cell? ⟨w.heap.size, 3, none⟩ = some (.map ps) := hB3.cell 3; have q4 : w3.cell? ⟨w.heap.size, 4, none⟩ = some (.int .i64 (tot S.safe : Int)) := hB3.cell 4; have f1 := hB3.frozen 1; have f2 := hB3.frozen 2; have f3 := hB3.frozen 3; have f4 := hB3.frozen 4; have HBL3 := Lib.hid hB3; clear hF2 hfr2 hb2 hB3))
  have HB4 : Hid (Blk ((((w3.setCell ⟨w.heap.size, 1, none⟩ (.map p1)).setCell ⟨w.heap.size, 2, none⟩ (.int .i64 (tot S.now : Int))).setCell ⟨w.heap.size, 3, none⟩ (.map p2)).setCell ⟨w.heap.size, 4, none⟩ (.int .i64 (tot S.safe : Int))) w.heap.size (dcs S (.map p1) (.map p2) (.slice B S.ch.length cap)) 71) := Lib.hid ((((HBL3.out.set 1 _).set 2 _).set 3 _).set 4 _)
  have HM4 : Hid (Mods (fun k => k = w.heap.size) w3 ((((w3.setCell ⟨w.heap.size, 1, none⟩ (.map p1)).setCell ⟨w.heap.size, 2, none⟩ (.int .i64 (tot S.now : Int))).setCell ⟨w.heap.size, 3, none⟩ (.map p2)).setCell ⟨w.heap.size, 4, none⟩ (.int .i64 (tot S.safe : Int)))) := Lib.hid (((((Mods.refl (fun k => k = w.heap.size) w3).setCell (p := ⟨w.heap.size, 1, none⟩) (.inl rfl) _).setCell (p := ⟨w.heap.size, 2, none⟩) (.inl rfl) _).setCell (p := ⟨w.heap.size, 3, none⟩) (.inl rfl) _).setCell (p := ⟨w.heap.size, 4, none⟩) (.inl rfl) _)
  obtain ⟨w4, HW4⟩ : ∃ w4, Hid (w4 = ((((w3.setCell ⟨w.heap.size, 1, none⟩ (.map p1)).setCell ⟨w.heap.size, 2, none⟩ (.int .i64 (tot S.now : Int))).setCell ⟨w.heap.size, 3, none⟩ (.map p2)).setCell ⟨w.heap.size, 4, none⟩ (.int .i64 (tot S.safe : Int)))) := ⟨_, Lib.hid rfl⟩
  rw [← HW4.out] at HB4 HM4
  rw [← HW4.out]
  have HW3 : Hid (Below w.heap.size w w3) := Lib.hid ((HWA.out.trans (HB1.out.mono HWA.out.size)).trans (HB2.out.mono (Nat.le_trans HWA.out.size HB1.out.size)))
  have HX4 : Hid (Below w.heap.size w w4) := Lib.hid (HW3.out.trans (HM4.out.below (fun k e => by omega) HW3.out.size))
  have c54 : w4.cell? ⟨bd, 5, none⟩ = some (.slice B S.ch.length cap) := (HX4.out.cell (p := ⟨bd, 5, none⟩) hlt).trans c5
  have HF1' : Hid (FAt w4 (.map p1) S.now) := Lib.hid ((HF1.out.below HB2.out).keep HM4.out (fun k hk e => by have := HFR1.out k hk; have := HSZ.out; omega))
  have HF2' : Hid (FAt w4 (.map p2) S.safe) := Lib.hid (HF2.out.keep HM4.out (fun k hk e => by have := HFR2.out k hk; have := HB1.out.size; have := HSZ.out; omega))
  have HNE : Hid (∀ k, p1 = some k → p2 ≠ some k) := Lib.hid (fun k e1 e2 => by
    have h1 := HF1.out.lt k (by rw [e1])
    have h2 := HFR2.out k (by rw [e2])
    omega)
  have HFa : Hid (Fresh w.heap.size (.map p1)) := Lib.hid (fun k hk => by have := HFR1.out k hk; have := HSZ.out; omega)
  have HFb : Hid (Fresh w.heap.size (.map p2)) := Lib.hid (fun k hk => by have := HFR2.out k hk; have := HB1.out.size; have := HSZ.out; omega)
  have HR4 : Hid (w4.ownsRow 0 78 3 (.slice B S.ch.length cap) S.ch.length (S.ch.flatMap ccells)) := Lib.hid (row_keep HD.out.row (Mods.of_below (fp := fun _ => False) HX4.out) (fun _ _ => id))
  have hw4 : w.heap.size ≤ w4.heap.size := HX4.out.size
  clear q1 q2 q3 q4 f1 f2 f3 f4
  go_wp2_with fail
  refine (chclone_any w4 _ S.ch HR4.out hlen).mono ?_
  rintro e w5 ⟨v', rfl, hr5, hb5⟩
  obtain ⟨B', cap', HV'⟩ : ∃ B' cap', Hid (v' = .slice B' S.ch.length cap') := by
    rcases hr5.2 with ⟨e, h0⟩ | ⟨g, cap, cur, e, _⟩
    · exact ⟨none, 0, Lib.hid (by rw [e, h0])⟩
    · exact ⟨_, cap, Lib.hid e⟩
  rw [HV'.out] at hr5 ⊢
  have HR5 := Lib.hid hr5
  have HB5 := Lib.hid (HB4.out.keep (fp := fun _ => False) (Mods.of_below hb5) id)
  have q5 : w5.cell? ⟨w.heap.size, 5, none⟩ = some (.slice B S.ch.length cap) := HB5.out.cell 5
  have f5 := HB5.out.frozen 5
  have HX5 := Lib.hid (HX4.out.trans (hb5.mono HX4.out.size))
  have HG1 := Lib.hid (HF1'.out.below hb5)
  have HG2 := Lib.hid (HF2'.out.below hb5)
  clear hr5 hb5
  go_wp2
  go_ret
  have hm6 : Mods (fun k => k = w.heap.size) w5 (w5.setCell ⟨w.heap.size, 5, none⟩ (.slice B' S.ch.length cap')) := (Mods.refl (fun k => k = w.heap.size) w5).setCell (p := ⟨w.heap.size, 5, none⟩) (.inl rfl) _
  refine ⟨rfl, clone_end HD.out.ok (HB5.out.set 5 _) (HG1.out.keep hm6 (fun k hk e => HB5.out.ne HG1.out (by rw [hk, e]))) (HG2.out.keep hm6 (fun k hk e => HB5.out.ne HG2.out (by rw [hk, e]))) HFa.out HFb.out HNE.out ?_, HX5.out.trans (hm6.below (fun k e => by omega) HX5.out.size)⟩
  exact row_keep (HR5.out.mono (Nat.zero_le _)) hm6 (fun k hk e => by have := (HR5.out.lt k hk).1; have := HB4.out.lt; omega) |> fun h => ⟨h.1, h.2.imp id (fun ⟨g, cap, cur, e, hb, r⟩ => ⟨g, cap, cur, e, by have := (HR5.out.lt g (by rw [e]; rfl)).1; omega, r⟩)⟩

end Go.Proofs.Ytecegjdnodcamaa
