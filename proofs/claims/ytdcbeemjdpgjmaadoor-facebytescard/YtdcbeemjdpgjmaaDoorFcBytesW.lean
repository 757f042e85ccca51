/-
  FaceBytes: the walk.
-/
import Derived.Test.YtdcbeemjdpgjmaaDoorFcRightP
import Derived.Test.YtdcbeemjdpgjmaaDoorFcReadsW
import Derived.Deep.RegionHeld3
import Derived.Deep.Cut
import Derived.Deep.CutRange
namespace Go.Proofs.YtdcbeemjdpgjmaaDoor.Fc
open Go.RowKit
set_option linter.unusedVariables false

theorem i64_mask (j : Nat) (hj : j ≤ 62) (n : Int) : bits .and .i64 n (2 ^ j - 1 : Nat) = (((n % ((2 ^ 64 : Nat) : Int)).toNat % 2 ^ j : Nat) : Int) := by
  have hp : 2 ^ j ≤ 2 ^ 62 := Nat.pow_le_pow_right (by omega) hj
  have hpos : 0 < 2 ^ j := Nat.two_pow_pos j
  have h1 : (BitVec.ofInt 64 ((2 ^ j - 1 : Nat) : Int)).toNat = 2 ^ j - 1 := by
    rw [BitVec.ofInt_natCast, BitVec.toNat_ofNat, Nat.mod_eq_of_lt (by omega)]
  have key : (BitVec.ofInt 64 n &&& BitVec.ofInt 64 ((2 ^ j - 1 : Nat) : Int)).toNat = (n % ((2 ^ 64 : Nat) : Int)).toNat % 2 ^ j := by
    rw [BitVec.toNat_and, BitVec.toNat_ofInt, h1, Nat.and_two_pow_sub_one_eq_mod]
  show IntKind.i64.wrap ((BitVec.ofInt 64 n &&& BitVec.ofInt 64 ((2 ^ j - 1 : Nat) : Int)).toNat : Nat) = _
  rw [key, IntKind.wrap_i64]
  have : (n % ((2 ^ 64 : Nat) : Int)).toNat % 2 ^ j < 2 ^ j := Nat.mod_lt _ hpos
  omega

/-- the two lowest bits of a kind -/

theorem good_len {n : ByteArray} (h : goodB n = true) : n.size ≤ 40 := by
  unfold goodB intB boolB at h
  simp only [Bool.or_eq_true, Bool.and_eq_true, decide_eq_true_eq, beq_iff_eq] at h
  have e : n.toList.length = n.size := by rw [ByteArray.toList_eq]; rfl
  rcases h with (h | h) | h
  · rw [h] at e; simp at e; omega
  · rw [h] at e; simp at e; omega
  · omega
theorem class_len {n : ByteArray} (h : classB n = true) : n.size ≤ 40 := by
  unfold classB at h
  simp only [Bool.and_eq_true, decide_eq_true_eq] at h
  omega
theorem okS40 {s : ByteArray} (h : s.size ≤ 40) : OkS 40 s := ⟨by rw [bl_len]; omega, by rw [bl_len]; omega⟩
theorem right_ok {f : Fc} (h : RightP f) : OkF 40 200 f := by
  have h1 := h.nf; have h2 := h.nm
  refine ⟨okS40 (class_len h.name), okS40 (by rcases h.sup with h | h; omega; exact class_len h), ⟨⟨by omega, by omega⟩, fun x hx => ?_⟩, ⟨⟨by omega, by omega⟩, fun m hm => ?_⟩⟩
  · obtain ⟨k, hk⟩ := List.mem_iff_getElem?.1 hx
    obtain ⟨_, a, b⟩ := h.fs k x hk
    exact ⟨okS40 a, okS40 (good_len b), trivial⟩
  · obtain ⟨k, hk⟩ := List.mem_iff_getElem?.1 hm
    obtain ⟨_, a, b, c, d⟩ := h.ms k m hk
    exact ⟨okS40 a, trivial, ⟨okS40 (good_len b), trivial⟩, ⟨by omega, by omega⟩, fun t ht => ⟨okS40 (good_len (d t ht)), trivial⟩⟩
theorem fcB_pos (f : Fc) : 0 < (fcB f).length := by have := textB_pos (bl f.name); simp only [fcB, sB, List.length_append] at *; omega
theorem all_join (a b : ByteArray) : allOf [a, b] = allOf [a ++ b] := by simp [allOf, bsOf]
/-- what Right answers -/
noncomputable def rB (f : Fc) : Bool := @decide (RightP f) (Classical.propDecidable _)
theorem rB_of {f : Fc} {r : Bool} (h : r = true ↔ RightP f) : r = rB f := by
  unfold rB
  by_cases hp : RightP f
  · rw [h.2 hp]; simp [hp]
  · have : r = false := by cases r with
      | false => rfl
      | true => exact absurd (h.1 rfl) hp
    rw [this]; simp [hp]
theorem rB_true {f : Fc} (h : rB f = true) : RightP f := by unfold rB at h; simpa using h

set_option maxHeartbeats 4000000 in
set_option maxRecDepth 100000 in
theorem bytes3 (f : Fc) (cs : List Value) (cut : Int) (w : World) (hf : FcR w f cs) (hK : RdW 0 w K) :
    Calls Tryd.prog 3 #[.agg cs.toArray, .int .i64 cut] w fun e w' => e = .returned (.bool true) ∧ Below w.heap.size w w' := by
  have HFR := Lib.hid hf
  have HKR := Lib.hid hK
  obtain ⟨a1, n1, c1, a2, n2, c2, rfl, hf1, hm1⟩ := hf
  have HS1 := Lib.hid hf1
  have HM1 := Lib.hid hm1
  clear hf1 hm1 hK
  have H10 : Hid (∀ x, Below w.heap.size w x → Calls Tryd.prog 10 #[.agg #[.string f.name, .string f.sup, .slice a1 n1 c1, .slice a2 n2 c2]] x fun e w' => e = .returned (.bool (rB f)) ∧ Below x.heap.size x w') := Lib.hid (fun x hx => (right10 f _ x (HFR.out.keep (Keeps.of_below hx))).mono (by rintro e w' ⟨r, rfl, hr, hb⟩; exact ⟨by rw [rB_of hr], hb⟩))
  have H11 : Hid (∀ x, Below w.heap.size w x → Calls Tryd.prog 11 #[.agg #[.string f.name, .string f.sup, .slice a1 n1 c1, .slice a2 n2 c2]] x fun e w' => e = .returned (.bool (rB f)) ∧ Below x.heap.size x w') := Lib.hid (fun x hx => (right11 f _ x (HFR.out.keep (Keeps.of_below hx))).mono (by rintro e w' ⟨r, rfl, hr, hb⟩; exact ⟨by rw [rB_of hr], hb⟩))
  have H10g : Hid (∀ (x : World) (ds : List Value), FcR x f ds → Calls Tryd.prog 10 #[.agg ds.toArray] x fun e w' => e = .returned (.bool (rB f)) ∧ Below x.heap.size x w') := Lib.hid (fun x ds hx => (right10 f ds x hx).mono (by rintro e w' ⟨r, rfl, hr, hb⟩; exact ⟨by rw [rB_of hr], hb⟩))
  have HRT := Lib.hid (@rB_true f)
  obtain ⟨dc, HDG, heq0⟩ := dig_eq f
  have HEQ := Lib.hid heq0
  clear heq0
  generalize rB f = rb at *
  obtain ⟨W0, HW0⟩ : ∃ W0, Hid (W0 = w.alloc (.cells #[.string f.name, .string f.sup, .slice a1 n1 c1, .slice a2 n2 c2] 25)) := ⟨_, Lib.hid rfl⟩
  have HB0 : Hid (Below w.heap.size w W0) := Lib.hid (by rw [HW0.out]; exact below1 w _)
  have F0 : Hid (Blk W0 w.heap.size [.string f.name, .string f.sup, .slice a1 n1 c1, .slice a2 n2 c2] 25) := Lib.hid (by rw [HW0.out]; exact Blk.new w [.string f.name, .string f.sup, .slice a1 n1 c1, .slice a2 n2 c2] 25)
  go_enter Tryd.func3, Tryd.ntmps3
  go_wp2_with fail
  rw [← HW0.out]
  refine (head8 W0 (roots_keep HKR.out HB0.out)).mono ?_
  rintro e w1 ⟨rfl, hb1⟩
  have HB1 : Hid (Below w.heap.size w w1) := Lib.hid (HB0.out.trans (hb1.mono HB0.out.size))
  have HF1 := Lib.hid (F0.out.below hb1)
  have p0 := HF1.out.cell 0
  have p1 := HF1.out.cell 1
  have p2 := HF1.out.cell 2
  have p3 := HF1.out.cell 3
  simp only [List.getElem?_cons_succ, List.getElem?_cons_zero] at p0 p1 p2 p3
  clear hb1 F0 HB0 HW0
  go_wp2_with fail
  refine (few31 f a1 n1 c1 a2 n2 c2 w1 (vrs_keep (Keeps.of_below HB1.out) HS1.out) (sgs_keep (Keeps.of_below HB1.out) HM1.out)).mono ?_
  rintro e w2 ⟨r1, rfl, hr1, hb2⟩
  have HB2 : Hid (Below w.heap.size w w2) := Lib.hid (HB1.out.trans (hb2.mono HB1.out.size))
  cases r1 with
  | false =>
    go_wp2
    go_ret
    exact ⟨rfl, HB2.out⟩
  | true =>
  have HSM := Lib.hid (hr1 rfl)
  have HF2 := Lib.hid (HF1.out.below hb2)
  clear hb2 hr1 HF1 HB1 p0 p1 p2 p3
  go_upto_region 5 with fail
  have hrr : (rb == rb) = true := by simp
  have HD2 : Hid (RtB w w.heap.size w.heap.size [.string f.name, .string f.sup, .slice a1 n1 c1, .slice a2 n2 c2] [.string f.name, .string f.sup, .slice a1 n1 c1, .slice a2 n2 c2] 25 w2) := Lib.hid ⟨HF2.out, HF2.out, HB2.out⟩
  go_cut [19] from 15 to 19 (fun s19 wc => s19 = .bool false ∧ RtB w w.heap.size w.heap.size [.string f.name, .string f.sup, .slice a1 n1 c1, .slice a2 n2 c2] [.string f.name, .string f.sup, .slice a1 n1 c1, .slice a2 n2 c2] 25 wc)
  case first =>
    go_region_held3 (fun y => y.cell? ⟨w.heap.size, 0, none⟩ = some (.string f.name) ∧ y.cell? ⟨w.heap.size, 1, none⟩ = some (.string f.sup) ∧ y.cell? ⟨w.heap.size, 2, none⟩ = some (.slice a1 n1 c1) ∧ y.cell? ⟨w.heap.size, 3, none⟩ = some (.slice a2 n2 c2) ∧ RtB w w.heap.size w.heap.size [.string f.name, .string f.sup, .slice a1 n1 c1, .slice a2 n2 c2] [.string f.name, .string f.sup, .slice a1 n1 c1, .slice a2 n2 c2] 25 y)
      (first | exact ⟨hX.f.cell 0, hX.f.cell 1, hX.f.cell 2, hX.f.cell 3, hX⟩ | exact ⟨HD2.out.f.cell 0, HD2.out.f.cell 1, HD2.out.f.cell 2, HD2.out.f.cell 3, HD2.out.dr⟩)
      (first
        | (go_at_call 10; with_reducible refine (H10.out _ ?_).mono ?_; (first | exact hX.b | exact HD2.out.dr.b); rintro e y ⟨rfl, hby⟩; have hX := RtB.step (by first | exact hX | exact HD2.out.dr) hby)
        | (go_at_call 11; with_reducible refine (H11.out _ ?_).mono ?_; (first | exact hX.b | exact HD2.out.dr.b); rintro e y ⟨rfl, hby⟩; have hX := RtB.step (by first | exact hX | exact HD2.out.dr) hby))
    all_goals (
      go_wp2_with fail
      go_meet
      exact ⟨rfl, hX⟩)
  case rest =>
    obtain ⟨rfl, hC⟩ := hcut
    clear HD2 HF2 HB2
    have hb0 := hC.b
    have hs0 := hb0.size
    obtain ⟨W4, HW4⟩ : ∃ W4, Hid (W4 = wc.alloc (.cells #[.slice none 0 0] 31)) := ⟨_, Lib.hid rfl⟩
    have HB4 : Hid (Below w.heap.size w W4) := Lib.hid (by rw [HW4.out]; exact bl_al' hb0)
    have F4 : Hid (Blk W4 w.heap.size [.string f.name, .string f.sup, .slice a1 n1 c1, .slice a2 n2 c2] 25) := Lib.hid (by rw [HW4.out]; exact hC.f.al _)
    have A4 : Hid (Pk.WAt (wc.heap.size + 1) wc.heap.size W4 []) := Lib.hid (by rw [HW4.out]; exact Pk.WAt.new _ wc)
    have HS4 : Hid (W4.heap.size = wc.heap.size + 1) := Lib.hid (by rw [HW4.out]; simp)
    go_upto_region 8 with fail
    rw [← HW4.out]
    have p0 := F4.out.cell 0
    have p1 := F4.out.cell 1
    have p2 := F4.out.cell 2
    have p3 := F4.out.cell 3
    simp only [List.getElem?_cons_succ, List.getElem?_cons_zero] at p0 p1 p2 p3
    have HSL := Lib.hid (small_len HSM.out)
    have hFlt : w.heap.size < wc.heap.size := hC.f.lt
    clear hC HW4
    go_wp2_with fail
    refine (lay12 w f _ HFR.out (wc.heap.size + 1) wc.heap.size [] W4 HB4.out (by omega) A4.out (by omega) (by rw [HS4.out]; exact Nat.le_refl _) (by have := HSL.out; simp only [List.length_nil]; omega)).mono ?_
    rintro e w5 ⟨rfl, hw5, hk5⟩
    rw [List.nil_append] at hw5
    have HB5 : Hid (Below w.heap.size w w5) := Lib.hid (HB4.out.trans (kp_below hk5 (by omega) (by omega)))
    have F5 := Lib.hid (F4.out.kp hk5 (by decide) (by omega))
    obtain ⟨S1, HS1'⟩ : ∃ S1 : ByteArray, Hid (S1 = ⟨(fcB f).toArray⟩) := ⟨_, Lib.hid rfl⟩
    have HST : Hid (Calls Tryd.prog 13 #[.pointer (some ⟨wc.heap.size, 0, none⟩)] w5 fun e w' => e = .returned (.string S1) ∧ w5 = w') := Lib.hid (by rw [HS1'.out]; exact Pk.string_any _ _ _ w5 hw5)
    have HSZ : Hid (S1.size = (fcB f).length) := Lib.hid (by rw [HS1'.out]; simp [ByteArray.size])
    have hsz : S1.size ≤ 900000 := by rw [HSZ.out]; exact HSL.out
    have q0 := F5.out.cell 0
    have q1 := F5.out.cell 1
    have q2 := F5.out.cell 2
    have q3 := F5.out.cell 3
    simp only [List.getElem?_cons_succ, List.getElem?_cons_zero] at q0 q1 q2 q3
    clear hw5 hk5 F4 A4 HB4 p0 p1 p2 p3
    go_wp2_with (go_at_call 13; refine HST.out.mono ?_; rintro e w' ⟨rfl, rfl⟩)
    refine (digest14 f _ w5 (HFR.out.keep (Keeps.of_below HB5.out)) HSL.out (roots_keep HKR.out HB5.out)).mono ?_
    rintro e w6 ⟨rfl, hb6⟩
    rw [HDG.out]
    have HB6 : Hid (Below w.heap.size w w6) := Lib.hid (HB5.out.trans (hb6.mono HB5.out.size))
    have F6 := Lib.hid (F5.out.below hb6)
    clear hb6 q0 q1 q2 q3 HST F5 HB5
    go_wp2_with fail
    have HBA : Hid (Below w.heap.size w (w6.alloc (.cells #[.string (faceS ++ S1)] 9))) := Lib.hid (bl_al' HB6.out)
    have HT : Hid ((allOf [faceS ++ S1]).length < 1000000) := Lib.hid (by rw [all1, bsOf_length, ByteArray.size_append]; show 5 + _ < _; omega)
    refine (sum_any _ (some ⟨w6.heap.size, 0, none⟩) w6.heap.size 1 [faceS ++ S1] HT.out (by simp) (fun i hi => ⟨rfl, by simp, by
      have hi' : i < 1 := hi
      obtain rfl : i = 0 := by omega
      simp⟩) (roots_keep HKR.out HBA.out)).mono ?_
    rintro e w8 ⟨rfl, hb8⟩
    have HDV : Hid (Value.agg ((shaOf (allOf [faceS ++ S1])).map U8).toArray = .agg dc) := Lib.hid (by rw [← HDG.out, ← all_join, HS1'.out]; rfl)
    rw [HDV.out]
    have HB8 : Hid (Below w.heap.size w w8) := Lib.hid (HBA.out.trans (hb8.mono HBA.out.size))
    have F8 := Lib.hid ((F6.out.al _).below hb8)
    have heq := HEQ.out
    have p0 := F8.out.cell 0
    have p1 := F8.out.cell 1
    have p2 := F8.out.cell 2
    have p3 := F8.out.cell 3
    simp only [List.getElem?_cons_succ, List.getElem?_cons_zero] at p0 p1 p2 p3
    clear hb8 HBA HT HDV F6 HB6
    go_wp2_with fail
    refine (H11.out w8 HB8.out).mono ?_
    rintro e w9 ⟨rfl, hb9⟩
    have HB9 : Hid (Below w.heap.size w w9) := Lib.hid (HB8.out.trans (hb9.mono HB8.out.size))
    have F9 := Lib.hid (F8.out.below hb9)
    clear hb9 p0 p1 p2 p3 heq F8 HB8
    cases rb with
    | false =>
      go_wp2
      go_ret
      exact ⟨rfl, HB9.out⟩
    | true =>
    have HRP := Lib.hid (HRT.out rfl)
    have HOK := Lib.hid (right_ok HRP.out)
    have HBK : Hid (rdFc 40 200 ⟨bl S1, false⟩ = (f, ⟨[], false⟩)) := Lib.hid (by
      have := (cod_fc 40 200).back f [] HOK.out
      rw [List.append_nil] at this
      rw [HS1'.out]
      simpa [bl] using this)
    have HLS : Hid ((bl S1).length ≤ 140737488355328) := Lib.hid (by rw [bl_len]; omega)
    clear HRT hrr
    go_wp2_with fail
    refine (read16 S1 w9).mono ?_
    rintro e w10 ⟨rfl, hw10⟩
    have R10 : Pk.RAt w9.heap.size w10 ⟨bl S1, false⟩ := by rw [hw10]; exact rat_new S1 rfl
    have hb10 : Below w9.heap.size w9 w10 := by rw [hw10]; exact below1 w9 _
    have hs10 : w9.heap.size < w10.heap.size := by rw [hw10]; simp
    clear hw10
    go_wp2_with fail
    refine (read17 w9.heap.size ⟨bl S1, false⟩ w10 R10 HLS.out).mono ?_
    rintro e w11 ⟨ds, rfl, hf11, hr11, hm11⟩
    rw [HBK.out] at hf11 hr11
    dsimp only at hf11 hr11
    have hs11 := hm11.size
    have hsw := HB9.out.size
    have HB11 : Hid (Below w.heap.size w w11) := Lib.hid (HB9.out.trans ((hb10.trans (hm11.below (fun k e => by omega) (by omega))).mono hsw))
    have hF9 := F9.out.lt
    have F11 := Lib.hid ((F9.out.below hb10).keep hm11 (by omega))
    have HG11 := Lib.hid hf11
    obtain ⟨g1, o1, d1, g2, o2, d2, rfl, _, _⟩ := hf11
    obtain ⟨W12, HW12⟩ : ∃ W12, Hid (W12 = w11.alloc (.cells #[.string f.name, .string f.sup, .slice g1 o1 d1, .slice g2 o2 d2] 25)) := ⟨_, Lib.hid rfl⟩
    have HB12 : Hid (Below w.heap.size w W12) := Lib.hid (by rw [HW12.out]; exact bl_al' HB11.out)
    have HBX : Hid (Below w11.heap.size w11 W12) := Lib.hid (by rw [HW12.out]; exact below1 w11 _)
    have G12 : Hid (Blk W12 w11.heap.size [.string f.name, .string f.sup, .slice g1 o1 d1, .slice g2 o2 d2] 25) := Lib.hid (by rw [HW12.out]; exact Blk.new w11 [.string f.name, .string f.sup, .slice g1 o1 d1, .slice g2 o2 d2] 25)
    have F12 : Hid (Blk W12 w.heap.size [.string f.name, .string f.sup, .slice a1 n1 c1, .slice a2 n2 c2] 25) := Lib.hid (by rw [HW12.out]; exact F11.out.al _)
    have R12 : Hid (Pk.RAt w9.heap.size W12 ⟨[], false⟩) := Lib.hid (by rw [HW12.out]; exact rat_al hr11 _)
    clear hb10 hm11 R10 hr11 F11 F9
    go_upto_region 16 with fail
    rw [← HW12.out]
    have p0 := F12.out.cell 0
    have p1 := F12.out.cell 1
    have p2 := F12.out.cell 2
    have p3 := F12.out.cell 3
    simp only [List.getElem?_cons_succ, List.getElem?_cons_zero] at p0 p1 p2 p3
    have q0 := G12.out.cell 0
    have q1 := G12.out.cell 1
    have q2 := G12.out.cell 2
    have q3 := G12.out.cell 3
    simp only [List.getElem?_cons_succ, List.getElem?_cons_zero] at q0 q1 q2 q3
    have HDN : Hid (Calls Tryd.prog 18 #[.pointer (some ⟨w9.heap.size, 0, none⟩)] W12 fun e w' => e = .returned (.int .i64 0) ∧ W12 = w') := Lib.hid (by have := Pk.done_any w9.heap.size _ W12 R12.out; rwa [show Pk.rDone ⟨[], false⟩ = 0 from rfl] at this)
    clear HW12
    go_wp2_with (go_at_call 18; refine HDN.out.mono ?_; rintro e w' ⟨rfl, rfl⟩)
    refine (same19 f f [.string f.name, .string f.sup, .slice g1 o1 d1, .slice g2 o2 d2] [.string f.name, .string f.sup, .slice a1 n1 c1, .slice a2 n2 c2] W12 (HG11.out.keep (Keeps.of_below HBX.out)) (HFR.out.keep (Keeps.of_below HB12.out))).mono ?_
    rintro e w13 ⟨rfl, hb13⟩
    have hff : decide (f = f) = true := by simp
    rw [hff]
    have HB13 : Hid (Below w.heap.size w w13) := Lib.hid (HB12.out.trans (hb13.mono HB12.out.size))
    have G13 := G12.out.below hb13
    have HG13 : Hid (FcR w13 f [.string f.name, .string f.sup, .slice g1 o1 d1, .slice g2 o2 d2]) := Lib.hid ((HG11.out.keep (Keeps.of_below HBX.out)).keep (Keeps.of_below hb13))
    have v0 := G13.cell 0
    have v1 := G13.cell 1
    have v2 := G13.cell 2
    have v3 := G13.cell 3
    simp only [List.getElem?_cons_succ, List.getElem?_cons_zero] at v0 v1 v2 v3
    clear hb13 p0 p1 p2 p3 q0 q1 q2 q3 HDN hff G13 G12 F12 R12
    go_wp2_with fail
    refine (H10g.out w13 _ HG13.out).mono ?_
    rintro e w14 ⟨rfl, hb14⟩
    have HB14 : Hid (Below w.heap.size w w14) := Lib.hid (HB13.out.trans (hb14.mono HB13.out.size))
    clear hb14 v0 v1 v2 v3
    obtain ⟨q, HQ⟩ : ∃ q : Nat, Hid (q = (cut % ((2 ^ 64 : Nat) : Int)).toNat % 2 ^ 16) := ⟨_, Lib.hid rfl⟩
    have hand : bits .and .i64 cut 65535 = (q : Int) := by rw [HQ.out]; exact i64_mask 16 (by omega) cut
    have hq : q < 65536 := by rw [HQ.out]; exact Nat.mod_lt _ (by decide)
    have hpos : 0 < S1.size := by rw [HSZ.out]; exact fcB_pos f
    obtain ⟨m, HMQ⟩ : ∃ m : Nat, Hid (m = q % S1.size) := ⟨_, Lib.hid rfl⟩
    have hmlt : m < S1.size := by rw [HMQ.out]; exact Nat.mod_lt _ hpos
    have hrem : (q : Int).tmod (S1.size : Int) = (m : Int) := by rw [HMQ.out, Int.tmod_eq_emod_of_nonneg (by omega)]; exact (Int.natCast_emod q S1.size).symm
    have hne0 : ((S1.size : Int) == 0) = false := beq_eq_false_iff_ne.2 (by omega)
    have hwm : IntKind.i64.wrap (m : Int) = (m : Int) := by rw [IntKind.wrap_i64]; omega
    go_wp2_with fail
    obtain ⟨S2, HS2⟩ : ∃ S2, Hid (S2 = S1.extract 0 m) := ⟨_, Lib.hid rfl⟩
    rw [← HS2.out]
    have HB2L : Hid (bl S2 = (fcB f).take m) := Lib.hid (by rw [HS2.out, HS1'.out, Pk.cut_bytes]; simp)
    have HL2 : Hid ((bl S2).length ≤ 140737488355328) := Lib.hid (by rw [HB2L.out, List.length_take]; have := HSL.out; omega)
    have HCUT : Hid (Pk.rDone (rdFc 40 200 ⟨bl S2, false⟩).2 = 2) := Lib.hid (by
      rw [HB2L.out]
      unfold Pk.rDone
      rw [if_neg ((cod_fc 40 200).cut HOK.out m (by rw [← HSZ.out]; exact hmlt))])
    clear hand hrem hne0 hwm
    refine (read16 S2 w14).mono ?_
    rintro e w15 ⟨rfl, hw15⟩
    have R15 : Pk.RAt w14.heap.size w15 ⟨bl S2, false⟩ := by rw [hw15]; exact rat_new S2 rfl
    have hb15 : Below w14.heap.size w14 w15 := by rw [hw15]; exact below1 w14 _
    have hs15 : w14.heap.size < w15.heap.size := by rw [hw15]; simp
    have HB15 : Hid (Below w.heap.size w w15) := Lib.hid (HB14.out.trans (hb15.mono HB14.out.size))
    clear hw15 hb15
    go_wp2_with fail
    refine (read17 w14.heap.size ⟨bl S2, false⟩ w15 R15 HL2.out).mono ?_
    rintro e w16 ⟨ds', rfl, hf16, hr16, hm16⟩
    have HB16 : Hid (Below w.heap.size w w16) := Lib.hid (HB15.out.trans (hm16.below (fun k e => by have := HB14.out.size; omega) HB15.out.size))
    have HDN : Hid (Calls Tryd.prog 18 #[.pointer (some ⟨w14.heap.size, 0, none⟩)] w16 fun e w' => e = .returned (.int .i64 2) ∧ w16 = w') := Lib.hid (by have := Pk.done_any w14.heap.size _ w16 hr16; rwa [HCUT.out] at this)
    clear hf16 hr16 hm16 R15
    go_wp2_with (go_at_call 18; refine HDN.out.mono ?_; rintro e w' ⟨rfl, rfl⟩)
    go_ret
    exact ⟨rfl, HB16.out⟩
end Go.Proofs.YtdcbeemjdpgjmaaDoor.Fc
