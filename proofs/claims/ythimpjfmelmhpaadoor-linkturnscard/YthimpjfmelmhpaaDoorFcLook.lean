/-
  A table is looked at.
-/
import Derived.Test.YthimpjfmelmhpaaDoorFcTab
import Derived.WalkSpells
namespace Go.Proofs.YthimpjfmelmhpaaDoor.Fc
open Go.RowKit
set_option linter.unusedVariables false

theorem eqnil72 (p : Option Nat) (w : World) : (binOp .eql 101 (.map p) (.map none)).run Tryd.prog w = .ok (.bool p.isNone) w := run_eql_map_nil w 101 9 102 p Tryd.underlying101
/-- what a look answers -/
def LookPost (B tb fm : Nat) (L : List Fc) (s : ByteArray) (w00 w : World) (sv : Value) (c : Nat) (e : Ending) (w' : World) : Prop :=
  ∃ cs sv' c', e = .returned (.tuple #[.agg cs.toArray, .bool (fnd L s).isSome]) ∧ FcR w00 ((fnd L s).getD zF) cs ∧ Tb B w' tb fm sv' c' L ∧ Stp tb w sv w' sv' ∧ c' ≤ c + 1

/-- one more was looked at -/
theorem Tb.see {B : Nat} {w : World} {tb fm sm c : Nat} {L : List Fc} (h : Tb B w tb fm (.map (some sm)) c L) (hc : c < 1000000000000) {s : ByteArray} (hs : s.size ≤ maxLen) :
    ∃ w', (Instr.mapUpdate 101 (.map (some sm)) (.string s) (.agg #[])).run Tryd.prog w = .ok () w' ∧ Tb B w' tb fm (.map (some sm)) (c + 1) L ∧ Stp tb w (.map (some sm)) w' (.map (some sm)) := by
  rcases h.seen with e | ⟨m, S, e, hS, hne⟩
  · cases e
  · cases e
    obtain ⟨w', hrun, h3, hm⟩ := hS.store Tryd.underlying101 (by unfold maxLen; omega) hs (.agg #[])
    have hk := keeps_map hS hm
    have hne2 : tb ≠ sm := fun e => by
      subst e
      exact hS.no_cell (h.blk.cell 0)
    exact ⟨w', hrun, ⟨h.blk.keep hm hne2, h.faces.keep hm (fun e => hne e.symm) hk, .inr ⟨sm, _, rfl, h3, hne⟩, h.lo, h.los, h.sm⟩, ⟨.inl rfl, hm.weak (fun i _ e => .inr (by rw [e])), hk⟩⟩

set_option maxHeartbeats 2000000 in
theorem look_some (B tb fm : Nat) (L : List Fc) (s : ByteArray) (hs : s.size ≤ maxLen) (w00 : World) (sv0 : Value) (c0 : Nat) (h0 : Tb B w00 tb fm sv0 c0 L) (w : World) (sm c : Nat) (hst0 : Stp tb w00 sv0 w (.map (some sm))) (hT : Tb B w tb fm (.map (some sm)) c L) (hc : c < 1000000000000) :
    Calls Tryd.prog 36 #[.pointer (some ⟨tb, 0, none⟩), .string s] w (LookPost B tb fm L s w00 w (.map (some sm)) c) := by
  have hq := eqnil72 (some sm)
  have a0 : w.cell? ⟨tb, 0, none⟩ = some (.map (some fm)) := hT.blk.cell 0
  have a1 : w.cell? ⟨tb, 1, none⟩ = some (.map (some sm)) := hT.blk.cell 1
  have hlt := hT.blk.lt
  obtain ⟨w2, hrun, hT2, hst⟩ := (hT.below (below1 w (.cells #[.string ⟨#[]⟩, .string ⟨#[]⟩, .slice none 0 0, .slice none 0 0] 35))).see hc hs
  have b0 : w2.cell? ⟨tb, 0, none⟩ = some (.map (some fm)) := hT2.blk.cell 0
  have hsw := hst.pre (below1 w (.cells #[.string ⟨#[]⟩, .string ⟨#[]⟩, .slice none 0 0, .slice none 0 0] 35))
  obtain ⟨cs, hlk, hF⟩ := h0.faces.look (hst0.trans hsw).mods h0.fm_ne hs
  have HR := Lib.hid hF
  have HSM : Hid (sm < w.heap.size) := Lib.hid (by
    rcases hT.seen with e' | ⟨m, S, e', hS, _⟩
    · cases e'
    · cases e'; exact hS.lt)
  obtain ⟨x1, x2, x3, y1, y2, y3, rfl, _, _⟩ := hF
  generalize ((fnd L s).getD zF).name = fn at *
  generalize ((fnd L s).getD zF).sup = fsu at *
  have R0 : Blk w2 w.heap.size [.string ⟨#[]⟩, .string ⟨#[]⟩, .slice none 0 0, .slice none 0 0] 35 := (Blk.new w _ _).keep hst.mods (fun e => by
    rcases e with e | e
    · omega
    · cases e
      have := HSM.out
      omega)
  have r0 : w2.cell? ⟨w.heap.size, 0, none⟩ = some (.string ⟨#[]⟩) := R0.cell 0
  have r1 : w2.cell? ⟨w.heap.size, 1, none⟩ = some (.string ⟨#[]⟩) := R0.cell 1
  have r2 : w2.cell? ⟨w.heap.size, 2, none⟩ = some (.slice none 0 0) := R0.cell 2
  have r3 : w2.cell? ⟨w.heap.size, 3, none⟩ = some (.slice none 0 0) := R0.cell 3
  have f0 := R0.frozen 0
  have f1 := R0.frozen 1
  have f2 := R0.frozen 2
  have f3 := R0.frozen 3
  have hl0 := R0.lt
  have HT2 := Lib.hid hT2
  have HST := Lib.hid hsw
  have HR0 := Lib.hid R0
  have HT := Lib.hid hT
  clear h0 hst0 hT hT2 hst R0 hsw
  go_enter Tryd.func36, Tryd.ntmps36
  go_wp2
  have hB4 := (((((HR0.out.set 0 (.string fn)).set 1 (.string fsu)).set 2 (.slice x1 x2 x3)).set 3 (.slice y1 y2 y3)).below (below1 _ (.cells #[.string fn, .string fsu, .slice x1 x2 x3, .slice y1 y2 y3] 35)))
  have z0 := hB4.cell 0
  have z1 := hB4.cell 1
  have z2 := hB4.cell 2
  have z3 := hB4.cell 3
  simp at z0 z1 z2 z3
  have M4 : Mods (· = w.heap.size) w2 (((((w2.setCell ⟨w.heap.size, 0, none⟩ (.string fn)).setCell ⟨w.heap.size, 1, none⟩ (.string fsu)).setCell ⟨w.heap.size, 2, none⟩ (.slice x1 x2 x3)).setCell ⟨w.heap.size, 3, none⟩ (.slice y1 y2 y3)).alloc (.cells #[.string fn, .string fsu, .slice x1 x2 x3, .slice y1 y2 y3] 35)) := (((((Mods.refl (· = w.heap.size) w2).setCell (p := ⟨w.heap.size, 0, none⟩) (.inl rfl) _).setCell (p := ⟨w.heap.size, 1, none⟩) (.inl rfl) _).setCell (p := ⟨w.heap.size, 2, none⟩) (.inl rfl) _).setCell (p := ⟨w.heap.size, 3, none⟩) (.inl rfl) _).alloc _
  refine bodyPost_ret (v := .tuple #[.agg #[.string fn, .string fsu, .slice x1 x2 x3, .slice y1 y2 y3], .bool (fnd L s).isSome]) (by simp [results, Tryd.results36, go_sem, z0, z1, z2, z3]) rfl ?_
  have hst4 := HST.out.own M4 (fun k e => by omega)
  exact ⟨[.string fn, .string fsu, .slice x1 x2 x3, .slice y1 y2 y3], _, _, rfl, HR.out, HT.out.own HT2.out HST.out M4 (fun k e => by omega) (fun k e => by cases e; have := HSM.out; omega), hst4, Nat.le_refl _⟩

theorem Tb.first {B : Nat} {w : World} {tb fm c : Nat} {L : List Fc} (hB : B ≤ w.heap.size) (h : Tb B w tb fm (.map none) c L) : Tb B (((w.setCell ⟨tb, 1, none⟩ (.map (some (w.heap.size + 1)))).alloc (.cells #[.string ⟨#[]⟩, .string ⟨#[]⟩, .slice none 0 0, .slice none 0 0] 35)).alloc (.map #[] 0)) tb fm (.map (some (w.heap.size + 1))) 0 L ∧ Stp tb w (.map none) (((w.setCell ⟨tb, 1, none⟩ (.map (some (w.heap.size + 1)))).alloc (.cells #[.string ⟨#[]⟩, .string ⟨#[]⟩, .slice none 0 0, .slice none 0 0] 35)).alloc (.map #[] 0)) (.map (some (w.heap.size + 1))) := by
  have hM : Mods (· = tb) w (w.setCell ⟨tb, 1, none⟩ (.map (some (w.heap.size + 1)))) := (Mods.refl (· = tb) _).setCell (p := ⟨tb, 1, none⟩) (.inl rfl) _
  have hK : Keeps w (w.setCell ⟨tb, 1, none⟩ (.map (some (w.heap.size + 1)))) := fun p v hv hp => by
    rw [World.cell?_setCell_other w _ _ _ (fun e => by
      subst e
      have h1 : w.cell? ⟨tb, 1, none⟩ = some (.map none) := h.blk.cell 1
      rw [h1] at hv
      cases hv
      exact hp _ rfl)]
    exact hv
  have hb := below2 (w.setCell ⟨tb, 1, none⟩ (.map (some (w.heap.size + 1)))) (.cells #[.string ⟨#[]⟩, .string ⟨#[]⟩, .slice none 0 0, .slice none 0 0] 35) (.map #[] 0)
  have hz : (w.setCell ⟨tb, 1, none⟩ (.map (some (w.heap.size + 1)))).heap.size = w.heap.size := by simp [World.setCell]
  have hM2 : Mods (· = tb) w (((w.setCell ⟨tb, 1, none⟩ (.map (some (w.heap.size + 1)))).alloc (.cells #[.string ⟨#[]⟩, .string ⟨#[]⟩, .slice none 0 0, .slice none 0 0] 35)).alloc (.map #[] 0)) := (hM.alloc _).alloc _
  have hfn := h.fm_ne
  have hl := h.faces.lt
  refine ⟨⟨(h.blk.set 1 _).below hb, h.faces.keep hM2 (fun e => hfn (.inl e)) (hK.trans (Keeps.of_below hb)), .inr ⟨w.heap.size + 1, fun _ => none, rfl, ?_, by omega⟩, h.lo, fun k e => by cases e; omega, h.sm⟩, .inr ⟨_, rfl, by omega⟩, hM2.weak (fun _ _ e => .inl e), hK.trans (Keeps.of_below hb)⟩
  have h2 := MAt.made ((w.setCell ⟨tb, 1, none⟩ (.map (some (w.heap.size + 1)))).alloc (.cells #[.string ⟨#[]⟩, .string ⟨#[]⟩, .slice none 0 0, .slice none 0 0] 35))
  rw [show ((w.setCell ⟨tb, 1, none⟩ (.map (some (w.heap.size + 1)))).alloc (.cells #[.string ⟨#[]⟩, .string ⟨#[]⟩, .slice none 0 0, .slice none 0 0] 35)).heap.size = w.heap.size + 1 by simp [World.setCell]] at h2
  exact h2

set_option maxHeartbeats 2000000 in
set_option maxRecDepth 100000 in
theorem look_none (B tb fm : Nat) (L : List Fc) (s : ByteArray) (hs : s.size ≤ maxLen) (w00 : World) (sv0 : Value) (c0 : Nat) (h0 : Tb B w00 tb fm sv0 c0 L) (w : World) (c : Nat) (hst0 : Stp tb w00 sv0 w (.map none)) (hB : B ≤ w.heap.size) (hT : Tb B w tb fm (.map none) c L) :
    Calls Tryd.prog 36 #[.pointer (some ⟨tb, 0, none⟩), .string s] w (LookPost B tb fm L s w00 w (.map none) c) := by
  have hq := eqnil72 none
  have hmm := @run_makeMap Tryd.prog
  have a0 : w.cell? ⟨tb, 0, none⟩ = some (.map (some fm)) := hT.blk.cell 0
  have a1 : w.cell? ⟨tb, 1, none⟩ = some (.map none) := hT.blk.cell 1
  have af := hT.blk.frozen 1
  have hlt := hT.blk.lt
  obtain ⟨hTx, hsx⟩ := hT.first hB
  obtain ⟨w2, hrun, hT2, hst⟩ := hTx.see (by decide) hs
  have b0 : w2.cell? ⟨tb, 0, none⟩ = some (.map (some fm)) := hT2.blk.cell 0
  have hsw := hsx.trans hst
  obtain ⟨cs, hlk, hF⟩ := h0.faces.look (hst0.trans hsw).mods h0.fm_ne hs
  have HR := Lib.hid hF
  obtain ⟨x1, x2, x3, y1, y2, y3, rfl, _, _⟩ := hF
  generalize ((fnd L s).getD zF).name = fn at *
  generalize ((fnd L s).getD zF).sup = fsu at *
  have R0 : Blk w2 w.heap.size [.string ⟨#[]⟩, .string ⟨#[]⟩, .slice none 0 0, .slice none 0 0] 35 := by
    have h1 := (Blk.new (w.setCell ⟨tb, 1, none⟩ (.map (some (w.heap.size + 1)))) [.string ⟨#[]⟩, .string ⟨#[]⟩, .slice none 0 0, .slice none 0 0] 35).below (below1 _ (.map #[] 0))
    rw [show (w.setCell ⟨tb, 1, none⟩ (.map (some (w.heap.size + 1)))).heap.size = w.heap.size by simp [World.setCell]] at h1
    exact h1.keep hst.mods (fun e => by
      rcases e with e | e
      · omega
      · simp at e)
  have r0 : w2.cell? ⟨w.heap.size, 0, none⟩ = some (.string ⟨#[]⟩) := R0.cell 0
  have r1 : w2.cell? ⟨w.heap.size, 1, none⟩ = some (.string ⟨#[]⟩) := R0.cell 1
  have r2 : w2.cell? ⟨w.heap.size, 2, none⟩ = some (.slice none 0 0) := R0.cell 2
  have r3 : w2.cell? ⟨w.heap.size, 3, none⟩ = some (.slice none 0 0) := R0.cell 3
  have f0 := R0.frozen 0
  have f1 := R0.frozen 1
  have f2 := R0.frozen 2
  have f3 := R0.frozen 3
  have hl0 := R0.lt
  have HT2 := Lib.hid hT2
  have HST := Lib.hid hsw
  have HR0 := Lib.hid R0
  have HT := Lib.hid hT
  clear h0 hst0 hT hT2 hst R0 hsw hTx hsx
  go_enter Tryd.func36, Tryd.ntmps36
  go_wp2
  have hB4 := (((((HR0.out.set 0 (.string fn)).set 1 (.string fsu)).set 2 (.slice x1 x2 x3)).set 3 (.slice y1 y2 y3)).below (below1 _ (.cells #[.string fn, .string fsu, .slice x1 x2 x3, .slice y1 y2 y3] 35)))
  have z0 := hB4.cell 0
  have z1 := hB4.cell 1
  have z2 := hB4.cell 2
  have z3 := hB4.cell 3
  simp at z0 z1 z2 z3
  have M4 : Mods (· = w.heap.size) w2 (((((w2.setCell ⟨w.heap.size, 0, none⟩ (.string fn)).setCell ⟨w.heap.size, 1, none⟩ (.string fsu)).setCell ⟨w.heap.size, 2, none⟩ (.slice x1 x2 x3)).setCell ⟨w.heap.size, 3, none⟩ (.slice y1 y2 y3)).alloc (.cells #[.string fn, .string fsu, .slice x1 x2 x3, .slice y1 y2 y3] 35)) := (((((Mods.refl (· = w.heap.size) w2).setCell (p := ⟨w.heap.size, 0, none⟩) (.inl rfl) _).setCell (p := ⟨w.heap.size, 1, none⟩) (.inl rfl) _).setCell (p := ⟨w.heap.size, 2, none⟩) (.inl rfl) _).setCell (p := ⟨w.heap.size, 3, none⟩) (.inl rfl) _).alloc _
  refine bodyPost_ret (v := .tuple #[.agg #[.string fn, .string fsu, .slice x1 x2 x3, .slice y1 y2 y3], .bool (fnd L s).isSome]) (by simp [results, Tryd.results36, go_sem, z0, z1, z2, z3]) rfl ?_
  have hst4 := HST.out.own M4 (fun k e => by omega)
  exact ⟨[.string fn, .string fsu, .slice x1 x2 x3, .slice y1 y2 y3], _, _, rfl, HR.out, HT.out.own HT2.out HST.out M4 (fun k e => by omega) (fun k e => by cases e; omega), hst4, by omega⟩

theorem look_any (B tb fm : Nat) (L : List Fc) (s : ByteArray) (hs : s.size ≤ maxLen) (w00 : World) (sv0 : Value) (c0 : Nat) (h0 : Tb B w00 tb fm sv0 c0 L) (w : World) (sv : Value) (c : Nat) (hst0 : Stp tb w00 sv0 w sv) (hB : B ≤ w.heap.size) (hT : Tb B w tb fm sv c L) (hc : c < 1000000000000) :
    Calls Tryd.prog 36 #[.pointer (some ⟨tb, 0, none⟩), .string s] w (LookPost B tb fm L s w00 w sv c) := by
  rcases hT.seen with rfl | ⟨m, S, rfl, _⟩
  · exact look_none B tb fm L s hs w00 sv0 c0 h0 w c hst0 hB hT
  · exact look_some B tb fm L s hs w00 sv0 c0 h0 w m c hst0 hT hc
end Go.Proofs.YthimpjfmelmhpaaDoor.Fc
