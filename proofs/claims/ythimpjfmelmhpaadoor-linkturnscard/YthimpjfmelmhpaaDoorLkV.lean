/-
  The statements' head: the document's example.
-/
import Derived.Test.YthimpjfmelmhpaaDoorLkS
namespace Go.Proofs.YthimpjfmelmhpaaDoor.Fc
open Go.RowKit
set_option linter.unusedVariables false
set_option linter.unusedSimpArgs false

theorem sl_blk {α : Type} {R : α → List Value → Prop} {xs : List α} {w : World} {b : Nat} {t : TypeId} {size n : Nat} {C : Nat → List Value} (hb : Blk w b (flat C n) t) (hm : n = xs.length) (hn : n ≤ 1000) (hC : ∀ i, i < n → (∃ x, xs[i]? = some x ∧ R x (C i)) ∧ (C i).length = size) : Sl w size R xs (.slice (some ⟨b, 0, none⟩) n n) := by
  have hlen : ∀ i, i < n → (C i).length = size := fun i hi => (hC i hi).2
  refine ⟨some ⟨b, 0, none⟩, n, by rw [hm], by omega, by unfold maxLen; omega, fun i x hi => ?_⟩
  have hin : i < n := by rw [hm]; exact (List.getElem?_eq_some_iff.1 hi).1
  obtain ⟨⟨y, hy, hRy⟩, _⟩ := hC i hin
  obtain rfl : x = y := Option.some.inj (hi.symm.trans hy)
  refine ⟨b, 0, C i, rfl, fun j v hv => ?_, hRy⟩
  have hj : j < size := by rw [← hlen i hin]; exact (List.getElem?_eq_some_iff.1 hv).1
  rw [Nat.zero_add, hb.cell, flat_at n hlen i j hin hj]
  exact hv
def tInt : ByteArray := ⟨#[105, 110, 116]⟩
def hdA : Fl := ⟨⟨⟨#[65]⟩, ⟨#[]⟩, [⟨⟨#[120]⟩, tInt, false⟩, ⟨⟨#[121]⟩, tInt, false⟩], []⟩, [], [], [], [], [], []⟩
def hdB : Fl := ⟨⟨⟨#[66]⟩, ⟨#[65]⟩, [⟨⟨#[122]⟩, tInt, false⟩], []⟩, [], [], [], [], [], []⟩
theorem pool_nil {f : Fl} (h1 : f.nu = []) (h2 : f.cl = []) (h3 : f.ty = []) (h4 : f.fd = []) (h5 : f.mt = []) : PoolP f := by
  unfold PoolP
  rw [h1, h2, h3, h4, h5]
  simp
theorem hdA_right : RightF hdA := by
  refine ⟨⟨by decide, .inl (by decide), by decide, by decide, fun k x hx => ?_, fun k x hx => ?_⟩, pool_nil rfl rfl rfl rfl rfl, rfl, fun i s b hs _ => ?_⟩
  · match k, hx with
    | 0, hx => simp [hdA] at hx; subst hx; exact ⟨(by simp [ltS, lastN, hdA, hdB, ByteArray.toList_eq, Op.bytesLess]), (by decide), (by simp [goodB, intB, tInt, ByteArray.toList_eq])⟩
    | 1, hx => simp [hdA] at hx; subst hx; exact ⟨(by simp [ltS, lastN, hdA, hdB, ByteArray.toList_eq, Op.bytesLess]), (by decide), (by simp [goodB, intB, tInt, ByteArray.toList_eq])⟩
    | k + 2, hx => simp [hdA] at hx
  · simp [hdA] at hx
  · simp [hdA] at hs
theorem hdB_right : RightF hdB := by
  refine ⟨⟨by decide, .inr (by decide), by decide, by decide, fun k x hx => ?_, fun k x hx => ?_⟩, pool_nil rfl rfl rfl rfl rfl, rfl, fun i s b hs _ => ?_⟩
  · match k, hx with
    | 0, hx => simp [hdB] at hx; subst hx; exact ⟨(by simp [ltS, lastN, hdA, hdB, ByteArray.toList_eq, Op.bytesLess]), (by decide), (by simp [goodB, intB, tInt, ByteArray.toList_eq])⟩
    | k + 1, hx => simp [hdB] at hx
  · simp [hdB] at hx
  · simp [hdB] at hs
theorem hd_int : intB tInt = true := by simp [intB, tInt, ByteArray.toList_eq]
theorem hd_chkF : chkF (faces [hdA, hdB]) [⟨#[65]⟩] hdB.fc.fs = 0 := by
  have h : fldOf (faces [hdA, hdB]) [⟨#[65]⟩] ⟨#[122]⟩ = none := by decide
  simp [chkF, knB, hd_int, hdB, h]
  simpa [hdB] using h
theorem hd_chk : chk (faces [hdA, hdB]) ⟨#[65]⟩ = 0 ∧ chk (faces [hdA, hdB]) ⟨#[66]⟩ = 0 := by
  have e1 : ab (faces [hdA, hdB]) ⟨#[65]⟩ = ([⟨#[65]⟩], true) := by decide
  have e2 : ab (faces [hdA, hdB]) ⟨#[66]⟩ = ([⟨#[66]⟩, ⟨#[65]⟩], true) := by decide
  have f1 : fnd (faces [hdA, hdB]) ⟨#[65]⟩ = some hdA.fc := by decide
  have f2 : fnd (faces [hdA, hdB]) ⟨#[66]⟩ = some hdB.fc := by decide
  have n1 : ¬ (Adj (hdA.fc.fs.map (·.name)) ∨ Adj (hdA.fc.ms.map (·.name))) := by
    rintro (h | h)
    · exact adj_no (fun i h0 h1 => by
        have h2 : i = 1 := by simp [hdA] at h1; omega
        subst h2
        decide) h
    · exact adj_no (fun i h0 h1 => by simp [hdA] at h1) h
  have n2 : ¬ (Adj (hdB.fc.fs.map (·.name)) ∨ Adj (hdB.fc.ms.map (·.name))) := by
    rintro (h | h)
    · exact adj_no (fun i h0 h1 => by simp [hdB] at h1; omega) h
    · exact adj_no (fun i h0 h1 => by simp [hdB] at h1) h
  constructor
  · unfold chk
    rw [e1, f1]
    show chkG _ [_] true hdA.fc = 0
    rw [chkG_rest n1]
    simp [chkF, chkM, knB, hd_int, hdA, fldOf]
  · unfold chk
    rw [e2, f2]
    show chkG _ [_, _] true hdB.fc = 0
    rw [chkG_rest n2, hd_chkF]
    rfl
theorem hd_lk : lkE [hdA, hdB] = 0 := by
  have hg : gat [] [hdA, hdB] = 0 := by
    rw [(gat_cons _ _ _).2.2 hdA_right (by simp), (gat_cons _ _ _).2.2 hdB_right (by decide)]
    rfl
  rw [lkE_fit hg, fitsE, fitsE, fitsE]
  have a1 : fitE [hdA, hdB] hdA = 0 := by
    unfold fitE
    rw [if_neg (by simpa [hdA] using hd_chk.1)]
    rfl
  have a2 : fitE [hdA, hdB] hdB = 0 := by
    unfold fitE
    rw [if_neg (by simpa [hdB] using hd_chk.2)]
    rfl
  rw [a1, a2]
  rfl
theorem hd_size : sizeF [hdA, hdB] ⟨#[66]⟩ = 3 := by decide
theorem hd_slot1 : slotF [hdA, hdB] ⟨#[66]⟩ ⟨#[122]⟩ = 2 := by decide
theorem hd_slot2 : slotF [hdA, hdB] ⟨#[66]⟩ ⟨#[120]⟩ = 0 := by decide
theorem int20 (w : World) : Calls Tryd.prog 20 #[] w fun e w' => e = .returned (.agg #[.string tInt, .bool false]) ∧ Below w.heap.size w w' := (int55 w)
set_option maxHeartbeats 1000000 in
theorem clos19 (s : ByteArray) (w : World) : Calls Tryd.prog 19 #[.string s] w fun e w' => e = .returned (.agg #[.string s, .string tInt, .bool false]) ∧ Below w.heap.size w w' := by
  have HI := Lib.hid (int20 (w.alloc (.cells #[.string ⟨#[]⟩, .string ⟨#[]⟩, .bool false] 68)))
  have HR0 : Hid (Blk (w.alloc (.cells #[.string ⟨#[]⟩, .string ⟨#[]⟩, .bool false] 68)) w.heap.size [.string ⟨#[]⟩, .string ⟨#[]⟩, .bool false] 68) := Lib.hid (Blk.new w _ _)
  go_enter Tryd.func19, Tryd.ntmps19
  go_wp2_with fail
  refine HI.out.mono ?_
  rintro e w1 ⟨rfl, hb1⟩
  have hr := HR0.out.below hb1
  have r0 := hr.cell 0
  have r1 := hr.cell 1
  have r2 := hr.cell 2
  simp only [List.getElem?_cons_zero, List.getElem?_cons_succ] at r0 r1 r2
  have f0 := hr.frozen 0
  have f1 := hr.frozen 1
  have f2 := hr.frozen 2
  have hl := hr.lt
  have HR := Lib.hid hr
  have HB := Lib.hid ((below1 w (.cells #[.string ⟨#[]⟩, .string ⟨#[]⟩, .bool false] 68)).trans (hb1.mono (by simp)))
  clear hr hb1
  go_wp2
  have hZ := ((HR.out.set 0 (.string s)).set 1 (.string tInt)).set 2 (.bool false)
  simp only [List.set_cons_zero, List.set_cons_succ] at hZ
  have z0 := hZ.cell 0
  have z1 := hZ.cell 1
  have z2 := hZ.cell 2
  simp only [List.getElem?_cons_zero, List.getElem?_cons_succ] at z0 z1 z2
  have hM := (((Mods.refl (· = w.heap.size) w1).setCell (p := ⟨w.heap.size, 0, none⟩) (.inl rfl) (.string s)).setCell (p := ⟨w.heap.size, 1, none⟩) (.inl rfl) (.string tInt)).setCell (p := ⟨w.heap.size, 2, none⟩) (.inl rfl) (.bool false)
  refine bodyPost_ret (v := .agg #[.string s, .string tInt, .bool false]) (by simp [results, Tryd.results19, go_sem, z0, z1, z2]) rfl ?_
  exact ⟨rfl, HB.out.trans (hM.below (B := w.heap.size) (fun k e => by omega) HB.out.size)⟩
set_option maxHeartbeats 4000000 in
set_option maxRecDepth 100000 in
theorem head6 (w : World) (hT : TabR w) : Calls Tryd.prog 6 #[] w fun e w' => e = .returned (.bool true) ∧ Below w.heap.size w w' := by
  have HT := Lib.hid hT
  clear hT
  go_enter Tryd.func6, Tryd.ntmps6
  go_wp2_with fail
  refine (clos19 ⟨#[120]⟩ w).mono ?_
  rintro e w1 ⟨rfl, hb1⟩
  go_wp2_with fail
  refine (clos19 ⟨#[121]⟩ w1).mono ?_
  rintro e w2 ⟨rfl, hb2⟩
  have HB2 : Hid (Below w.heap.size w w2) := Lib.hid (hb1.trans (hb2.mono hb1.size))
  clear hb1 hb2
  go_wp2_with fail
  refine (clos19 ⟨#[122]⟩ (w2.alloc (.cells #[.string ⟨#[120]⟩, .string tInt, .bool false, .string ⟨#[121]⟩, .string tInt, .bool false] 68))).mono ?_
  rintro e w3 ⟨rfl, hb3⟩
  have HA3 : Hid (Blk w3 w2.heap.size [.string ⟨#[120]⟩, .string tInt, .bool false, .string ⟨#[121]⟩, .string tInt, .bool false] 68) := Lib.hid ((Blk.new w2 [.string ⟨#[120]⟩, .string tInt, .bool false, .string ⟨#[121]⟩, .string tInt, .bool false] 68).below hb3)
  have HB3 : Hid (Below w.heap.size w w3) := Lib.hid (HB2.out.trans (((below1 w2 _).trans (hb3.mono (by simp))).mono HB2.out.size))
  clear hb3
  obtain ⟨W4, HW4⟩ : ∃ W4, Hid (W4 = (w3.alloc (.cells #[.string ⟨#[122]⟩, .string tInt, .bool false] 68)).alloc (.cells #[.string ⟨#[65]⟩, .string ⟨#[]⟩, .slice (some ⟨w2.heap.size, 0, none⟩) 2 2, .slice none 0 0, .slice none 0 0, .slice none 0 0, .slice none 0 0, .slice none 0 0, .slice none 0 0, .slice none 0 0, .string ⟨#[66]⟩, .string ⟨#[65]⟩, .slice (some ⟨w3.heap.size, 0, none⟩) 1 1, .slice none 0 0, .slice none 0 0, .slice none 0 0, .slice none 0 0, .slice none 0 0, .slice none 0 0, .slice none 0 0] 44)) := ⟨_, Lib.hid rfl⟩
  have HB4 : Hid (Below w3.heap.size w3 W4) := Lib.hid (by rw [HW4.out]; exact below2 w3 _ _)
  have HA4 := Lib.hid (HA3.out.below HB4.out)
  have HC4 : Hid (Blk W4 w3.heap.size [.string ⟨#[122]⟩, .string tInt, .bool false] 68) := Lib.hid (by rw [HW4.out]; exact (Blk.new w3 [.string ⟨#[122]⟩, .string tInt, .bool false] 68).below (below1 _ _))
  have HL4 : Hid (Blk W4 (w3.heap.size + 1) [.string ⟨#[65]⟩, .string ⟨#[]⟩, .slice (some ⟨w2.heap.size, 0, none⟩) 2 2, .slice none 0 0, .slice none 0 0, .slice none 0 0, .slice none 0 0, .slice none 0 0, .slice none 0 0, .slice none 0 0, .string ⟨#[66]⟩, .string ⟨#[65]⟩, .slice (some ⟨w3.heap.size, 0, none⟩) 1 1, .slice none 0 0, .slice none 0 0, .slice none 0 0, .slice none 0 0, .slice none 0 0, .slice none 0 0, .slice none 0 0] 44) := Lib.hid (by
    rw [HW4.out]
    have := Blk.new (w3.alloc (.cells #[.string ⟨#[122]⟩, .string tInt, .bool false] 68)) [.string ⟨#[65]⟩, .string ⟨#[]⟩, .slice (some ⟨w2.heap.size, 0, none⟩) 2 2, .slice none 0 0, .slice none 0 0, .slice none 0 0, .slice none 0 0, .slice none 0 0, .slice none 0 0, .slice none 0 0, .string ⟨#[66]⟩, .string ⟨#[65]⟩, .slice (some ⟨w3.heap.size, 0, none⟩) 1 1, .slice none 0 0, .slice none 0 0, .slice none 0 0, .slice none 0 0, .slice none 0 0, .slice none 0 0, .slice none 0 0] 44
    simpa using this)
  have hfa : Sl W4 3 VrR hdA.fc.fs (.slice (some ⟨w2.heap.size, 0, none⟩) 2 2) := sl_blk (C := fun i => match i with | 0 => [.string ⟨#[120]⟩, .string tInt, .bool false] | _ => [.string ⟨#[121]⟩, .string tInt, .bool false]) HA4.out rfl (by omega) (fun i hi => by
    match i, hi with
    | 0, _ => exact ⟨⟨_, rfl, rfl⟩, rfl⟩
    | 1, _ => exact ⟨⟨_, rfl, rfl⟩, rfl⟩)
  have hfb : Sl W4 3 VrR hdB.fc.fs (.slice (some ⟨w3.heap.size, 0, none⟩) 1 1) := sl_blk (C := fun _ => [.string ⟨#[122]⟩, .string tInt, .bool false]) HC4.out rfl (by omega) (fun i hi => by
    match i, hi with
    | 0, _ => exact ⟨⟨_, rfl, rfl⟩, rfl⟩)
  have hAll : Sl W4 10 (FlR W4) [hdA, hdB] (.slice (some ⟨w3.heap.size + 1, 0, none⟩) 2 2) := sl_blk (C := fun i => match i with | 0 => [.string ⟨#[65]⟩, .string ⟨#[]⟩, .slice (some ⟨w2.heap.size, 0, none⟩) 2 2, .slice none 0 0, .slice none 0 0, .slice none 0 0, .slice none 0 0, .slice none 0 0, .slice none 0 0, .slice none 0 0] | _ => [.string ⟨#[66]⟩, .string ⟨#[65]⟩, .slice (some ⟨w3.heap.size, 0, none⟩) 1 1, .slice none 0 0, .slice none 0 0, .slice none 0 0, .slice none 0 0, .slice none 0 0, .slice none 0 0, .slice none 0 0]) HL4.out rfl (by omega) (fun i hi => by
    match i, hi with
    | 0, _ => exact ⟨⟨hdA, rfl, _, _, _, _, _, _, _, _, _, _, _, _, _, _, _, _, _, _, _, _, _, _, _, _, rfl, ⟨_, _, _, _, _, _, rfl, hfa, Sl.nil _ _ _⟩, ⟨Sl.nil _ _ _, Sl.nil _ _ _, Sl.nil _ _ _, Sl.nil _ _ _, Sl.nil _ _ _⟩, Sl.nil _ _ _⟩, rfl⟩
    | 1, _ => exact ⟨⟨hdB, rfl, _, _, _, _, _, _, _, _, _, _, _, _, _, _, _, _, _, _, _, _, _, _, _, _, rfl, ⟨_, _, _, _, _, _, rfl, hfb, Sl.nil _ _ _⟩, ⟨Sl.nil _ _ _, Sl.nil _ _ _, Sl.nil _ _ _, Sl.nil _ _ _, Sl.nil _ _ _⟩, Sl.nil _ _ _⟩, rfl⟩)
  have HLK := Lib.hid (link8 [hdA, hdB] _ 2 2 W4 hAll ((HT.out.bel HB3.out).bel HB4.out) (fun f hf => by
    rcases List.mem_cons.1 hf with rfl | hf
    · exact ⟨⟨by decide, by decide, by decide, by decide, by decide, by simp [hdA]⟩, by decide, by decide, by decide, by decide⟩
    · rcases List.mem_cons.1 hf with rfl | hf
      · exact ⟨⟨by decide, by decide, by decide, by decide, by decide, by simp [hdB]⟩, by decide, by decide, by decide, by decide⟩
      · cases hf))
  have HBW : Hid (Below w.heap.size w W4) := Lib.hid (HB3.out.trans (HB4.out.mono HB3.out.size))
  clear hAll hfa hfb
  go_wp2_with fail
  rw [← HW4.out]
  refine HLK.out.mono ?_
  rintro e w5 (⟨h, _⟩ | ⟨_, h, _⟩ | ⟨_, _, i, sv, c, hW, hF, rfl, hI, hc⟩)
  · simp at h
  · exact absurd hd_lk h
  have HI := Lib.hid hI
  have hlf : i.fs.length ≤ 300 := by rw [hF]; decide
  have HSZ := Lib.hid (size16 i hlf sv c w5 hI (by omega) ⟨#[66]⟩ (by decide))
  rw [hF, hd_size] at HSZ
  have HW := Lib.hid hW
  have HF := Lib.hid hF
  clear hW hF hI HLK
  go_wp2_with fail
  refine HSZ.out.mono ?_
  rintro e w6 ⟨sv2, c2, rfl, hI2, hk2, hb2, hc2⟩
  have HSL := Lib.hid (slot17 i hlf sv2 c2 w6 hI2 (by omega) ⟨#[66]⟩ ⟨#[122]⟩ (by decide))
  rw [HF.out, hd_slot1] at HSL
  clear hI2 hk2 hb2 HSZ
  go_wp2_with fail
  refine HSL.out.mono ?_
  rintro e w7 ⟨sv3, c3, rfl, hI3, hk3, hb3, hc3⟩
  have HSM := Lib.hid (slot17 i hlf sv3 c3 w7 hI3 (by omega) ⟨#[66]⟩ ⟨#[120]⟩ (by decide))
  rw [HF.out, hd_slot2] at HSM
  clear hI3 hk3 hb3 HSL
  go_wp2_with fail
  refine HSM.out.mono ?_
  rintro e w8 ⟨sv4, c4, rfl, hI4, hk4, hb4, hc4⟩
  have hbf := hI4.below
  rw [HW.out] at hbf
  have HBF := Lib.hid (HBW.out.trans (hbf.mono HBW.out.size))
  clear hI4 hk4 hb4 HSM hbf
  go_wp2
  go_ret
  exact ⟨rfl, HBF.out⟩
end Go.Proofs.YthimpjfmelmhpaaDoor.Fc
