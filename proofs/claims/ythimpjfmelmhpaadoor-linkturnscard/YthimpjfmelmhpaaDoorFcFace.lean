/-
  A table's face of a name.
-/
import Derived.Test.YthimpjfmelmhpaaDoorFcAbove
import Derived.Test.YthimpjfmelmhpaaDoorFcTs
namespace Go.Proofs.YthimpjfmelmhpaaDoor.Fc
open Go.RowKit
set_option linter.unusedVariables false

theorem small_zF : Small zF := ⟨by decide, by decide, by decide, by decide, by simp [zF], by simp [zF]⟩
theorem Tb.small {B : Nat} {w : World} {tb fm : Nat} {sv : Value} {c : Nat} {L : List Fc} (h : Tb B w tb fm sv c L) (s : ByteArray) : Small ((fnd L s).getD zF) := by
  cases hf : fnd L s with
  | none => exact small_zF
  | some x => exact h.sm x (fnd_some hf).1
theorem Tb.sv_lt {B : Nat} {w : World} {tb fm : Nat} {sv : Value} {c : Nat} {L : List Fc} (h : Tb B w tb fm sv c L) (k : Nat) (e : sv = .map (some k)) : k < w.heap.size := by
  rcases h.seen with e' | ⟨m, S, e', hS, _⟩
  · rw [e] at e'; cases e'
  · rw [e] at e'
    injection e' with e'
    injection e' with e'
    subst e'
    exact hS.lt

/-- what Face answers -/
def FacePost (B tb fm : Nat) (L : List Fc) (s : ByteArray) (w : World) (sv : Value) (c : Nat) (e : Ending) (w' : World) : Prop :=
  ∃ cs sv' c', e = .returned (.tuple #[.agg cs.toArray, .bool (fnd L s).isSome]) ∧ FcR w' ((fnd L s).getD zF) cs ∧ Tb B w' tb fm sv' c' L ∧ Stp tb w sv w' sv' ∧ c' ≤ c + 1
set_option maxHeartbeats 2000000 in
set_option maxRecDepth 100000 in
theorem face15 (B tb fm : Nat) (L : List Fc) (s : ByteArray) (hs : s.size ≤ maxLen) (w : World) (sv : Value) (c : Nat) (hB : B ≤ w.heap.size) (hT : Tb B w tb fm sv c L) (hc : c < 900000000000) :
    Calls Tryd.prog 28 #[.pointer (some ⟨tb, 0, none⟩), .string s] w (FacePost B tb fm L s w sv c) := by
  have hlt := hT.blk.lt
  have HL := Lib.hid (look_any B tb fm L s hs w sv c hT (w.alloc (.cells #[.string ⟨#[]⟩, .string ⟨#[]⟩, .slice none 0 0, .slice none 0 0] 35)) sv c ((Stp.refl tb w sv).post (below1 _ _)) (by simp; omega) (hT.below (below1 _ _)) (by omega))
  have HT := Lib.hid hT
  clear hT
  go_enter Tryd.func28, Tryd.ntmps28
  go_wp2_with fail
  refine HL.out.mono ?_
  rintro e w1 ⟨cs, sv1, c1, rfl, hF, hT1, hs1, hc1⟩
  obtain ⟨x1, x2, x3, y1, y2, y3, rfl, hfs, hms⟩ := hF
  have hsm := HT.out.small s
  have hst : Stp tb w sv w1 sv1 := hs1.pre (below1 _ _)
  have hz1 : w.heap.size + 1 ≤ w1.heap.size := by have := hs1.mods.size; simpa using this
  have HR1 : Hid (Blk w1 w.heap.size [.string ⟨#[]⟩, .string ⟨#[]⟩, .slice none 0 0, .slice none 0 0] 35) := Lib.hid ((Blk.new w _ _).keep hs1.mods (fun e => by
    rcases e with e | e
    · omega
    · have := HT.out.sv_lt _ e
      omega))
  have HSV : Hid (∀ k, sv1 = .map (some k) → k ≠ w.heap.size) := Lib.hid (fun k e => by
    rcases hs1.new with e' | ⟨j, e', hj⟩
    · have := HT.out.sv_lt k (by rw [← e', e])
      omega
    · rw [e] at e'
      injection e' with e'
      injection e' with e'
      simp at hj
      omega)
  generalize hx : (fnd L s).getD zF = x at *
  have HX := Lib.hid hx
  generalize hr : (fnd L s).isSome = r at *
  have HR := Lib.hid hr
  clear hr hx
  have hkw : Keeps w (w1.alloc (.cells #[.string x.name, .string x.sup, .slice x1 x2 x3, .slice y1 y2 y3] 35)) := hst.keeps.trans (Keeps.of_below (below1 _ _))
  have hb1 := below1 w1 (.cells #[.string x.name, .string x.sup, .slice x1 x2 x3, .slice y1 y2 y3] 35)
  have HC := Lib.hid (clone32 (fun b => b ≠ w.heap.size) (w1.alloc (.cells #[.string x.name, .string x.sup, .slice x1 x2 x3, .slice y1 y2 y3] 35)) x.name x.sup x.fs x.ms x1 x2 x3 y1 y2 y3 (fun b hb => by simp at hb; omega) (vrs_keep hkw hfs) (sgsA_keep hkw (sgsA_of (fun b hb => by omega) hms)) (by obtain ⟨e, _⟩ := hfs.at; have := hsm.fs; omega) (by obtain ⟨e, _⟩ := hms.at; have := hsm.ms; omega) (fun m hm => by have := (hsm.m1 m hm).2.2.1; omega))
  have HT1 := Lib.hid hT1
  have HST := Lib.hid hst
  clear HL hT1 hs1 hst hfs hms hsm hb1 hkw
  go_wp2_with fail
  refine HC.out.mono ?_
  rintro e w2 ⟨cs2, rfl, hF2, hb2⟩
  have hb3 : Below w1.heap.size w1 w2 := (below1 w1 _).trans (hb2.mono (by simp))
  have R2 := HR1.out.below hb3
  have HF2 := Lib.hid hF2
  obtain ⟨b1, b2, b3, d1, d2, d3, rfl, hf2, hm2, _, _⟩ := hF2
  dsimp only
  have r0 : w2.cell? ⟨w.heap.size, 0, none⟩ = some (.string ⟨#[]⟩) := R2.cell 0
  have r1 : w2.cell? ⟨w.heap.size, 1, none⟩ = some (.string ⟨#[]⟩) := R2.cell 1
  have r2 : w2.cell? ⟨w.heap.size, 2, none⟩ = some (.slice none 0 0) := R2.cell 2
  have r3 : w2.cell? ⟨w.heap.size, 3, none⟩ = some (.slice none 0 0) := R2.cell 3
  have f0 := R2.frozen 0
  have f1 := R2.frozen 1
  have f2 := R2.frozen 2
  have f3 := R2.frozen 3
  have hl2 := R2.lt
  have HR2 := Lib.hid R2
  have HB3 := Lib.hid hb3
  clear HC R2 hf2 hm2 hb2 hb3
  go_wp2
  have hst2 := HST.out.post HB3.out
  have hT2 := HT1.out.below HB3.out
  have M : Mods (· = w.heap.size) w2 ((((w2.setCell ⟨w.heap.size, 0, none⟩ (.string x.name)).setCell ⟨w.heap.size, 1, none⟩ (.string x.sup)).setCell ⟨w.heap.size, 2, none⟩ (.slice b1 b2 b3)).setCell ⟨w.heap.size, 3, none⟩ (.slice d1 d2 d3)) := ((((Mods.refl (· = w.heap.size) w2).setCell (p := ⟨w.heap.size, 0, none⟩) (.inl rfl) _).setCell (p := ⟨w.heap.size, 1, none⟩) (.inl rfl) _).setCell (p := ⟨w.heap.size, 2, none⟩) (.inl rfl) _).setCell (p := ⟨w.heap.size, 3, none⟩) (.inl rfl) _
  have hZ := (((HR2.out.set 0 (.string x.name)).set 1 (.string x.sup)).set 2 (.slice b1 b2 b3)).set 3 (.slice d1 d2 d3)
  have z0 := hZ.cell 0
  have z1 := hZ.cell 1
  have z2 := hZ.cell 2
  have z3 := hZ.cell 3
  simp only [List.set_cons_zero, List.set_cons_succ, List.getElem?_cons_zero, List.getElem?_cons_succ] at z0 z1 z2 z3
  refine bodyPost_ret (v := .tuple #[.agg #[.string x.name, .string x.sup, .slice b1 b2 b3, .slice d1 d2 d3], .bool r]) (by simp [results, Tryd.results28, go_sem, z0, z1, z2, z3]) rfl ?_
  refine ⟨[.string x.name, .string x.sup, .slice b1 b2 b3, .slice d1 d2 d3], sv1, c1, by rw [HR.out], ?_, HT.out.own hT2 hst2 M (fun k e => by omega) (fun k e => HSV.out k e), hst2.own M (fun k e => by omega), hc1⟩
  rw [HX.out]
  obtain ⟨g1, g2, g3, g4, g5, g6, e, h1, h2, h3, h4⟩ := HF2.out
  simp at e
  obtain ⟨⟨rfl, rfl, rfl⟩, rfl, rfl, rfl⟩ := e
  exact ⟨_, _, _, _, _, _, rfl, h1.off M h3 (fun _ _ h => h), h2.off M h4 (fun _ _ h => by
    obtain ⟨a, n, c, e, k1, k2⟩ := h
    exact ⟨a, n, c, e, k1.off M k2 (fun _ _ h => h)⟩)⟩
theorem face_ts {W w : World} {tb fm k : Nat} {L : List Fc} (h : TS W tb fm L k w) (hk : k < 500000000000) (s : ByteArray) (hs : s.size ≤ maxLen) :
    Calls Tryd.prog 28 #[.pointer (some ⟨tb, 0, none⟩), .string s] w fun e w' => ∃ cs, e = .returned (.tuple #[.agg cs.toArray, .bool (fnd L s).isSome]) ∧ FcR w' ((fnd L s).getD zF) cs ∧ TS W tb fm L (k + 1) w' ∧ Keeps w w' := by
  obtain ⟨B, sv, c, h1, h2, h3, h4, h5⟩ := h
  refine (face15 B tb fm L s hs w sv c h3 h1 (by omega)).mono ?_
  rintro e w' ⟨cs, sv', c', rfl, hF, hT, hst, hc⟩
  exact ⟨cs, rfl, hF, TS.next h1 h2 h3 h4 h5 hT hst hc⟩
end Go.Proofs.YthimpjfmelmhpaaDoor.Fc
