/-
  The face of a class.
-/
import Derived.Test.YtdcbeemjdpgjmaaDoorFcSrt
import Derived.Test.YtdcbeemjdpgjmaaDoorFcLay
import Derived.Deep.RegionHeld3
import Derived.Deep.Cut
import Derived.Deep.CutRange
namespace Go.Proofs.YtdcbeemjdpgjmaaDoor.Fc
open Go.RowKit
set_option linter.unusedVariables false

theorem bl_al {w0 w : World} {o : Obj} (h : Below w0.heap.size w0 w) : Below w0.heap.size w0 (w.alloc o) := h.alloc h.size _
theorem bl_dr {w0 w : World} (h : Below w0.heap.size w0 w) : Below w0.heap.size w0 w.drew := ⟨h.os, h.tape, h.output, h.size, h.block⟩
theorem Blk.st {w : World} {b : Nat} {cs : List Value} {t : TypeId} (h : Blk w b cs t) {p : Addr} (hne : b ≠ p.block) {v : Value} : Blk (w.setCell p v) b cs t := (Below.heap_setCell w p v b hne).trans h
theorem blk_mid {X w2 : World} {zs : List Value} {t : TypeId} {q : Nat} (hq : X.heap.size = q) (hb : Below (X.alloc (.cells zs.toArray t)).drew.heap.size (X.alloc (.cells zs.toArray t)).drew w2) : Blk w2 q zs t := Blk.below (Blk.dr (Blk.newAt hq zs t)) hb
theorem own_al {B : Nat} {w : World} {e : TypeId} {a : Option Addr} (h : Own B w e a) (o : Obj) : Own B (w.alloc o) e a := fun ad ha => by
  obtain ⟨b, e1, h1, cur, h2⟩ := h ad ha
  exact ⟨b, e1, h1, cur, (Below.heap_alloc _ _ _ (lt_of_block h2)).trans h2⟩
theorem own_mono {B B' : Nat} {w : World} {e : TypeId} {a : Option Addr} (h : Own B w e a) (hb : B' ≤ B) : Own B' w e a := fun ad ha => by
  obtain ⟨b, e1, h1, h2⟩ := h ad ha
  exact ⟨b, e1, Nat.le_trans hb h1, h2⟩
theorem own_st {B : Nat} {w : World} {e : TypeId} {a : Option Addr} (h : Own B w e a) {p : Addr} (hp : p.block < B) (v : Value) : Own B (w.setCell p v) e a := fun ad ha => by
  obtain ⟨b, e1, h1, cur, h2⟩ := h ad ha
  exact ⟨b, e1, h1, cur, (Below.heap_setCell w p v b (by omega)).trans h2⟩
theorem own_apart {B fb : Nat} {w : World} {e : TypeId} {a : Option Addr} (h : Own B w e a) (hb : fb < B) : ∀ ad, a = some ad → ad.block ≠ fb := fun ad ha => by
  obtain ⟨b, e1, h1, h2⟩ := h ad ha
  rw [e1]
  show b ≠ fb
  omega
theorem own_lt {B : Nat} {w : World} {e : TypeId} {a : Option Addr} (h : Own B w e a) : ∀ ad, a = some ad → ad.block < w.heap.size := fun ad ha => by
  obtain ⟨b, e1, h1, cur, h2⟩ := h ad ha
  rw [e1]
  exact lt_of_block h2
theorem st4_mods {w : World} {fb : Nat} (v0 v1 v2 v3 : Value) : Mods (· = fb) w ((((w.setCell ⟨fb, 0, none⟩ v0).setCell ⟨fb, 1, none⟩ v1).setCell ⟨fb, 2, none⟩ v2).setCell ⟨fb, 3, none⟩ v3) :=
  ((((Mods.refl (· = fb) w).setCell (p := ⟨fb, 0, none⟩) (.inl rfl) _).setCell (p := ⟨fb, 1, none⟩) (.inl rfl) _).setCell (p := ⟨fb, 2, none⟩) (.inl rfl) _).setCell (p := ⟨fb, 3, none⟩) (.inl rfl) _
theorem own_mods {B fb : Nat} {w w' : World} {e : TypeId} {a : Option Addr} (h : Own B w e a) (hm : Mods (· = fb) w w') (ha : ∀ ad, a = some ad → ad.block ≠ fb) : Own B w' e a := fun ad hd => by
  obtain ⟨b, e1, h1, cur, h2⟩ := h ad hd
  have h3 := ha ad hd
  rw [e1] at h3
  exact ⟨b, e1, h1, cur, (hm.block b (lt_of_block h2) h3).trans h2⟩
/-- a slice, where nothing but another block has turned -/
theorem Sl.mods {α : Type} {W w : World} {q m : Nat} {R : α → List Value → Prop} {xs : List α} {a : Option Addr} {n c : Nat} (h : Sl W m R xs (.slice a n c)) (hM : Mods (· = q) W w) (hq : ∀ ad, a = some ad → ad.block ≠ q) : Sl w m R xs (.slice a n c) := by
  obtain ⟨hn, hl, hc, hk⟩ := h.at
  refine ⟨a, c, by rw [hn], by omega, hc, fun i x hi => ?_⟩
  obtain ⟨b, o, cs, ea, hcell, hr⟩ := hk i x hi
  refine ⟨b, o, cs, ea, fun j v hv => ?_, hr⟩
  have h1 := hcell j v hv
  have hlt : b < W.heap.size := World.block_lt_of_cell? _ _ h1
  have h2 := hM.block b hlt (hq _ ea)
  simp only [World.cell?, h2]
  exact h1
abbrev zFc : List Value := [.string ⟨#[]⟩, .string ⟨#[]⟩, .slice none 0 0, .slice none 0 0]
abbrev clV (p q : Int) (name sup : ByteArray) (a : Option Addr) (n c : Nat) (a2 : Option Addr) (n2 c2 : Nat) : Array Value := #[.int .i64 p, .int .i64 q, .string name, .string sup, .slice a n c, .slice a2 n2 c2]
theorem cl_of {w : World} {b : Nat} {p q : Int} {name sup : ByteArray} {a : Option Addr} {n c : Nat} {a2 : Option Addr} {n2 c2 : Nat} (h : Blk w b [.int .i64 p, .int .i64 q, .string name, .string sup, .slice a n c, .slice a2 n2 c2] 54) :
    w.cell? ⟨b, 2, none⟩ = some (.string name) ∧ w.cell? ⟨b, 3, none⟩ = some (.string sup) ∧ w.cell? ⟨b, 4, none⟩ = some (.slice a n c) ∧ Blk w b [.int .i64 p, .int .i64 q, .string name, .string sup, .slice a n c, .slice a2 n2 c2] 54 := ⟨h.cell 2, h.cell 3, h.cell 4, h⟩

set_option maxHeartbeats 2000000 in
set_option maxRecDepth 100000 in
theorem of23_0 (p q : Int) (name sup : ByteArray) (fs : List Vr) (a : Option Addr) (n c : Nat) (w : World) (h : Sl w 3 VrR fs (.slice a n c)) (hn : n ≤ 19) :
    Calls Tryd.prog 23 #[.agg (clV p q name sup a n c none 0 0)] w fun e w' => ∃ a' c', e = .returned (.agg #[.string name, .string sup, .slice a' n c', .slice none 0 0]) ∧ Sl w' 3 VrR (srt cfV fs) (.slice a' n c') ∧ Below w.heap.size w w' := by
  have HS := Lib.hid h
  obtain ⟨W0, HW0⟩ : ∃ W0, Hid (W0 = (w.alloc (.cells (clV p q name sup a n c none 0 0) 54)).alloc (.cells #[.string ⟨#[]⟩, .string ⟨#[]⟩, .slice none 0 0, .slice none 0 0] 25)) := ⟨_, Lib.hid rfl⟩
  have B0 : Hid (Blk W0 w.heap.size [.int .i64 p, .int .i64 q, .string name, .string sup, .slice a n c, .slice none 0 0] 54) := Lib.hid (by rw [HW0.out]; exact (Blk.new w [.int .i64 p, .int .i64 q, .string name, .string sup, .slice a n c, .slice none 0 0] 54).al _)
  have R0 : Hid (Blk W0 (w.heap.size + 1) zFc 25) := Lib.hid (by rw [HW0.out]; exact Blk.newAt (by simp) zFc 25)
  have HB0 : Hid (Below w.heap.size w W0) := Lib.hid (by rw [HW0.out]; exact below2 w _ _)
  have HQ : Hid (W0.heap.size = w.heap.size + 2) := Lib.hid (by rw [HW0.out]; simp)
  have HSW : Hid (Sl W0 3 VrR fs (.slice a n c)) := Lib.hid (vrs_keep (Keeps.of_below HB0.out) HS.out)
  have hq1 : w.heap.size < W0.heap.size := by rw [HQ.out]; omega
  clear h HS
  go_enter Tryd.func23, Tryd.ntmps23
  go_upto_region 1 with fail
  rw [← HW0.out]
  go_cut [3] from 6 to 13 (fun s3 wc => ∃ fb a' c', s3 = .pointer (some ⟨fb, 0, none⟩) ∧ w.heap.size + 1 < fb ∧ Hid (Blk wc fb [.string name, .string sup, .slice a' n c', .slice none 0 0] 25) ∧ Hid (Sl wc 3 VrR fs (.slice a' n c')) ∧ Hid (Own (w.heap.size + 2) wc 58 a') ∧ Hid (∀ ad, a' = some ad → ad.block ≠ fb) ∧ Hid (Blk wc w.heap.size [.int .i64 p, .int .i64 q, .string name, .string sup, .slice a n c, .slice none 0 0] 54) ∧ Hid (Blk wc (w.heap.size + 1) zFc 25) ∧ Below w.heap.size w wc)
  case first =>
    go_region_held3 (fun w' => w'.cell? ⟨w.heap.size, 2, none⟩ = some (.string name) ∧ w'.cell? ⟨w.heap.size, 3, none⟩ = some (.string sup) ∧ w'.cell? ⟨w.heap.size, 4, none⟩ = some (.slice a n c) ∧ Blk w' w.heap.size [.int .i64 p, .int .i64 q, .string name, .string sup, .slice a n c, .slice none 0 0] 54)
      (first | exact cl_of B0.out | exact cl_of B2 | exact cl_of (by repeat (first | exact B2 | exact B0.out | refine Blk.st ?_ (by (try dsimp only); omega) | refine Blk.al ?_ _)))
      (first | (go_at_call 52; refine (cloneV_any fs _ a n c (by first | exact HSW.out | exact vrs_keep (Keeps.drew (Keeps.of_below (below1 W0 _))) HSW.out) (by omega)).mono ?_; rintro e w2 ⟨a', c', rfl, hS, hO, hb⟩; have B2 := Blk.below (b := w.heap.size) (t := 54) (cs := [.int .i64 p, .int .i64 q, .string name, .string sup, .slice a n c, .slice none 0 0]) (by repeat (first | exact B0.out | refine Blk.al ?_ _)) hb; have hs2 := hb.size; (try simp at hs2); (try (have A2 := blk_mid (X := W0) (zs := zFc) (t := 25) rfl hb; have f0 := A2.frozen 0; have f1 := A2.frozen 1; have f2 := A2.frozen 2; have f3 := A2.frozen 3; have g0 := A2.cell 0; have g1 := A2.cell 1; have g2 := A2.cell 2; have g3 := A2.cell 3; simp only [List.getElem?_cons_succ, List.getElem?_cons_zero] at g0 g1 g2 g3))))
    · have HB2 : Hid (Below w.heap.size w w2) := Lib.hid (HB0.out.trans ((bl_dr (Below.refl W0.heap.size W0)).trans (hb) |>.mono (by omega)))
      have R2 := R0.out.dr.below hb
      go_wp2_with fail
      go_meet
      exact ⟨w2.heap.size, a', c', rfl, by have := HQ.out; omega, Lib.hid (Blk.new w2 _ _), Lib.hid (vrs_keep (Keeps.of_below (below1 _ _)) hS), Lib.hid (own_al (own_mono hO (by show _ ≤ W0.heap.size; rw [HQ.out]; exact Nat.le_refl _)) _), Lib.hid (fun ad ha => Nat.ne_of_lt (own_lt hO ad ha)), Lib.hid (B2.al _), Lib.hid (R2.al _), bl_al HB2.out⟩
    · have HB2 : Hid (Below w.heap.size w w2) := Lib.hid (HB0.out.trans ((bl_dr (below1 W0 _)).trans (hb.mono (by show _ ≤ (W0.alloc _).heap.size; simp)) |>.mono (by omega)))
      have R2 := (R0.out.al _).dr.below hb
      go_wp2_with fail
      go_meet
      have M := st4_mods (w := w2) (fb := W0.heap.size) (.string name) (.string sup) (.slice a' n c') (.slice none 0 0)
      have hap := own_apart hO (show W0.heap.size < (W0.alloc _).heap.size by simp)
      exact ⟨W0.heap.size, a', c', rfl, by have := HQ.out; omega, Lib.hid ((((A2.set 0 _).set 1 _).set 2 _).set 3 _), Lib.hid (hS.mods M hap), Lib.hid (own_mods (own_mono hO (by show _ ≤ (W0.alloc _).heap.size; simp [HQ.out])) M hap), Lib.hid hap, Lib.hid (B2.keep M (by omega)), Lib.hid (R2.keep M (by have := HQ.out; omega)), HB2.out.trans (M.below (fun k e => by omega) HB2.out.size)⟩
  case rest =>
    obtain ⟨fb, a', c', rfl, hfb, HF, HSc, HO, HA, HB, HR, hbc⟩ := hcut
    have hs := hbc.size
    have b5 := HB.out.cell 5
    simp only [List.getElem?_cons_succ, List.getElem?_cons_zero] at b5
    clear B0 R0 HB0 HSW
    go_wp2_with fail
    go_loopw [17] (fun i wr => i = .int .i64 0 ∧ wr = wc) (fun _ _ => 0)
    case atStart => exact ⟨rfl, rfl⟩
    case round =>
      obtain ⟨rfl, rfl⟩ := hrel
      have f2 := HF.out.cell 2
      simp only [List.getElem?_cons_succ, List.getElem?_cons_zero] at f2
      go_wp2_with fail
      refine (sortV fs a' n c' (w.heap.size + 2) wr HSc.out hn HO.out).mono ?_
      rintro e w2 ⟨rfl, hS2, hO2, hM2⟩
      have F2 := HF.out.keep hM2 (by rintro ⟨ad, e1, e2⟩; exact HA.out ad e1 e2)
      have R2 := HR.out.keep hM2 (by rintro ⟨ad, e1, e2⟩; exact own_apart HO.out (by omega) ad e1 e2)
      have hb2 : Below w.heap.size w w2 := hbc.trans (hM2.below (fun k e => by obtain ⟨ad, e1, e2⟩ := e; obtain ⟨b, e3, h3, _⟩ := HO.out ad e1; rw [e3] at e2; dsimp only at e2; omega) hs)
      have k0 := F2.cell 0
      have k1 := F2.cell 1
      have k2 := F2.cell 2
      have k3 := F2.cell 3
      simp only [List.getElem?_cons_succ, List.getElem?_cons_zero] at k0 k1 k2 k3
      have r0 := R2.cell 0
      have r1 := R2.cell 1
      have r2 := R2.cell 2
      have r3 := R2.cell 3
      simp only [List.getElem?_cons_succ, List.getElem?_cons_zero] at r0 r1 r2 r3
      have s0 := R2.frozen 0
      have s1 := R2.frozen 1
      have s2 := R2.frozen 2
      have s3 := R2.frozen 3
      have M := st4_mods (w := w2) (fb := w.heap.size + 1) (.string name) (.string sup) (.slice a' n c') (.slice none 0 0)
      have Z := (((R2.set 0 (.string name)).set 1 (.string sup)).set 2 (.slice a' n c')).set 3 (.slice none 0 0)
      have z0 := Z.cell 0
      have z1 := Z.cell 1
      have z2 := Z.cell 2
      have z3 := Z.cell 3
      simp only [List.set_cons_zero, List.set_cons_succ, List.getElem?_cons_succ, List.getElem?_cons_zero] at z0 z1 z2 z3
      have HSF := Lib.hid (hS2.mods M (own_apart hO2 (show w.heap.size + 1 < w.heap.size + 2 by omega)))
      have HBF := Lib.hid (hb2.trans (M.below (fun k e => by omega) hb2.size))
      clear Z M
      clear hS2 hO2 hM2 F2 R2 hb2 HF HSc HO HA HB HR hbc
      go_wp2_with (go_at_call 57; refine (sort57 none 0 0 w2 (by omega) (fun w' => w2 = w') (ins82_nil none 0 w2)).mono ?_; rintro e w3 ⟨rfl, rfl⟩)
      refine bodyPost_ret (v := .agg #[.string name, .string sup, .slice a' n c', .slice none 0 0]) (by simp [results, Tryd.results23, go_sem, z0, z1, z2, z3]) rfl ?_
      exact ⟨a', c', rfl, HSF.out, HBF.out⟩
end Go.Proofs.YtdcbeemjdpgjmaaDoor.Fc
