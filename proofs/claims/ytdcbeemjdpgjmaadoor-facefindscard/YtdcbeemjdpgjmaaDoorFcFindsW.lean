/-
  FaceFinds: the walk.
-/
import Derived.Test.YtdcbeemjdpgjmaaDoorFcFinds
import Derived.Deep.Cut
import Derived.Deep.CutRange
namespace Go.Proofs.YtdcbeemjdpgjmaaDoor.Fc
open Go.RowKit
set_option linter.unusedVariables false

set_option maxHeartbeats 4000000 in
set_option maxRecDepth 100000 in
theorem finds7 (f : Fc) (cs : List Value) (s : ByteArray) (w : World) (hf : FcR w f cs) (hK : RdW 0 w K) :
    Calls Tryd.prog 7 #[.agg cs.toArray, .string s] w fun e w' => e = .returned (.bool true) ∧ Below w.heap.size w w' := by
  have HFR := Lib.hid hf
  have HKR := Lib.hid hK
  obtain ⟨a1, n1, c1, a2, n2, c2, rfl, hf1, hm1⟩ := hf
  obtain ⟨e1, l1, k1, hk1⟩ := hf1.at
  obtain ⟨e2, l2, k2, hk2⟩ := hm1.at
  unfold maxLen at k1 k2
  have E1 := Lib.hid e1
  have E2 := Lib.hid e2
  have HK1 := Lib.hid hk1
  have HK2 := Lib.hid hk2
  have HS1 := Lib.hid hf1
  have HM1 := Lib.hid hm1
  clear e1 e2 hk1 hk2 hf1 hm1 hK
  obtain ⟨W0, HW0⟩ : ∃ W0, Hid (W0 = w.alloc (.cells #[.string f.name, .string f.sup, .slice a1 n1 c1, .slice a2 n2 c2] 25)) := ⟨_, Lib.hid rfl⟩
  have HB0 : Hid (Below w.heap.size w W0) := Lib.hid (by rw [HW0.out]; exact below1 w _)
  have F0 : Hid (Blk W0 w.heap.size [.string f.name, .string f.sup, .slice a1 n1 c1, .slice a2 n2 c2] 25) := Lib.hid (by rw [HW0.out]; exact Blk.new w [.string f.name, .string f.sup, .slice a1 n1 c1, .slice a2 n2 c2] 25)
  go_enter Tryd.func7, Tryd.ntmps7
  go_wp2_with fail
  rw [← HW0.out]
  refine (head8 W0 (roots_keep HKR.out HB0.out)).mono ?_
  rintro e w1 ⟨rfl, hb1⟩
  have HB1 : Hid (Below w.heap.size w w1) := Lib.hid (HB0.out.trans (hb1.mono HB0.out.size))
  have F1 := F0.out.below hb1
  have p0 := F1.cell 0
  have p1 := F1.cell 1
  have p2 := F1.cell 2
  have p3 := F1.cell 3
  simp only [List.getElem?_cons_succ, List.getElem?_cons_zero] at p0 p1 p2 p3
  have HF1 := Lib.hid F1
  clear F1 hb1 F0 HB0 HW0
  go_wp2_with fail
  refine (few31 f a1 n1 c1 a2 n2 c2 w1 (vrs_keep (Keeps.of_below HB1.out) HS1.out) (sgs_keep (Keeps.of_below HB1.out) HM1.out)).mono ?_
  rintro e w2 ⟨r1, rfl, hr1, hb2⟩
  have HB2 : Hid (Below w.heap.size w w2) := Lib.hid (HB1.out.trans (hb2.mono HB1.out.size))
  cases r1 with
  | false =>
    go_wp2
    go_ret
    exact ⟨rfl, HB2.out⟩
  | true =>
  have HSM := Lib.hid (hr1 rfl)
  have F2 := HF1.out.below hb2
  have p0 := F2.cell 0
  have p1 := F2.cell 1
  have p2 := F2.cell 2
  have p3 := F2.cell 3
  simp only [List.getElem?_cons_succ, List.getElem?_cons_zero] at p0 p1 p2 p3
  have HF2 := Lib.hid F2
  clear F2 hb2 hr1 HF1 HB1
  go_wp2_with fail
  refine (right11 f _ w2 (HFR.out.keep (Keeps.of_below HB2.out))).mono ?_
  rintro e w3 ⟨r2, rfl, hr2, hb3⟩
  have HB3 : Hid (Below w.heap.size w w3) := Lib.hid (HB2.out.trans (hb3.mono HB2.out.size))
  have HF3 := Lib.hid (HF2.out.below hb3)
  clear p0 p1 p2 p3 HF2 HB2 hb3
  cases r2 with
  | false =>
    go_wp2
    go_ret
    exact ⟨rfl, HB3.out⟩
  | true =>
  have HRT := Lib.hid (hr2.1 rfl)
  clear hr2
  by_cases t60 : 60 < s.size
  · go_wp2
    go_ret
    exact ⟨rfl, HB3.out⟩
  have p2 := HF3.out.cell 2
  simp only [List.getElem?_cons_succ, List.getElem?_cons_zero] at p2
  have hn1 : n1 ≤ 12 := by rw [E1.out]; exact HSM.out.fs
  have hn2 : n2 ≤ 12 := by rw [E2.out]; exact HSM.out.ms
  have HPS : Hid (∀ m ∈ f.ms, m.ps.length ≤ 1000) := Lib.hid (fun m hm => by have := (HSM.out.m1 m hm).2.2.1; omega)
  go_wp2_with fail
  go_loopw [5, 37] (fun c i wr => ∃ k : Nat, k ≤ n1 ∧ i = .int .i64 k ∧ c = .int .i64 (((f.fs.take k).countP (fun v => decide (v.name = s)) : Nat) : Int) ∧ Hid (Blk wr w.heap.size [.string f.name, .string f.sup, .slice a1 n1 c1, .slice a2 n2 c2] 25) ∧ Below w.heap.size w wr) (fun _ i _ => n1 - (intOf i).toNat)
  case atStart => exact ⟨0, Nat.zero_le _, rfl, rfl, HF3, HB3.out⟩
  case round =>
    clear HF3 HB3 p2
    obtain ⟨k, hk, rfl, rfl, HF, hbr⟩ := hrel
    have hsr := hbr.size
    by_cases hkl : k < n1
    · obtain ⟨x, hx⟩ : ∃ v, f.fs[k]? = some v := ⟨_, List.getElem?_eq_getElem (by have := E1.out; omega)⟩
      have HFD : Hid (fldF f.fs x.name = some ⟨x.tn, x.ta⟩) := Lib.hid (by unfold fldF; rw [chain_find Vr.name (right_fs HRT.out) hx]; rfl)
      have HCS := Lib.hid (cnt_snoc Vr.name s hx)
      have hct := cnt_take Vr.name s f.fs k
      obtain ⟨g, o, cs, rfl, hcell, rfl⟩ := HK1.out k x hx
      generalize (f.fs.take k).countP (fun v => decide (v.name = s)) = cn at *
      have q0 : wr.cell? ⟨g, o + k * 3, none⟩ = some (.string x.name) := (hbr.cell (World.block_lt_of_cell? _ _ (hcell 0 _ rfl))).trans (hcell 0 _ rfl)
      have q1 : wr.cell? ⟨g, o + k * 3 + 1, none⟩ = some (.string x.tn) := (hbr.cell (World.block_lt_of_cell? _ _ (hcell 1 _ rfl))).trans (hcell 1 _ rfl)
      have q2 : wr.cell? ⟨g, o + k * 3 + 2, none⟩ = some (.bool x.ta) := (hbr.cell (World.block_lt_of_cell? _ _ (hcell 2 _ rfl))).trans (hcell 2 _ rfl)
      obtain ⟨W1, HWE⟩ : ∃ W1, Hid (W1 = wr.alloc (.cells #[.string x.name, .string x.tn, .bool x.ta] 58)) := ⟨_, Lib.hid rfl⟩
      have HB1 : Hid (Below w.heap.size w W1) := Lib.hid (by rw [HWE.out]; exact bl_al' hbr)
      have X1 : Hid (Blk W1 wr.heap.size [.string x.name, .string x.tn, .bool x.ta] 58) := Lib.hid (by rw [HWE.out]; exact Blk.new wr [.string x.name, .string x.tn, .bool x.ta] 58)
      have F1 : Hid (Blk W1 w.heap.size [.string f.name, .string f.sup, .slice (some ⟨g, o, none⟩) n1 c1, .slice a2 n2 c2] 25) := Lib.hid (by rw [HWE.out]; exact HF.out.al _)
      clear hcell hx
      go_upto_region 9 with fail
      rw [← HWE.out]
      have p0 := F1.out.cell 0
      have p1 := F1.out.cell 1
      have p2 := F1.out.cell 2
      have p3 := F1.out.cell 3
      have x0 := X1.out.cell 0
      simp only [List.getElem?_cons_succ, List.getElem?_cons_zero] at p0 p1 p2 p3 x0
      clear q0 q1 q2
      go_wp2_with fail
      refine (field53 f x.name _ n1 c1 a2 n2 c2 W1 (vrs_keep (Keeps.of_below HB1.out) HS1.out)).mono ?_
      rintro e w4 ⟨rfl, hb4⟩
      rw [HFD.out]
      have hb5 : Below w.heap.size w w4 := HB1.out.trans (hb4.mono HB1.out.size)
      have X4 := X1.out.below hb4
      have F4 := F1.out.below hb4
      obtain ⟨W5, HW5⟩ : ∃ W5, Hid (W5 = w4.alloc (.cells #[.string x.tn, .bool x.ta] 45)) := ⟨_, Lib.hid rfl⟩
      have HB5 : Hid (Below w.heap.size w W5) := Lib.hid (by rw [HW5.out]; exact bl_al' hb5)
      have T5 : Blk W5 w4.heap.size [.string x.tn, .bool x.ta] 45 := by rw [HW5.out]; exact Blk.new w4 [.string x.tn, .bool x.ta] 45
      have X5 : Blk W5 wr.heap.size [.string x.name, .string x.tn, .bool x.ta] 58 := by rw [HW5.out]; exact X4.al _
      have HF5 : Hid (Blk W5 w.heap.size [.string f.name, .string f.sup, .slice (some ⟨g, o, none⟩) n1 c1, .slice a2 n2 c2] 25) := Lib.hid (by rw [HW5.out]; exact F4.al _)
      have y0 := X5.cell 0
      have y1 := X5.cell 1
      have y2 := X5.cell 2
      have z0 := T5.cell 0
      have z1 := T5.cell 1
      simp only [List.getElem?_cons_succ, List.getElem?_cons_zero] at y0 y1 y2 z0 z1
      clear X4 F4 X1 F1 hb4 HB1 p0 p1 p2 p3 x0 HFD T5 X5
      go_upto_region 10 with fail
      rw [← HW5.out]
      clear HW5 HWE
      have hnn : (x.tn.toList == x.tn.toList) = true := by simp
      have haa : (x.ta == x.ta) = true := by simp
      by_cases hxs : x.name = s
      · have hne := teq hxs
        have HC2 : Hid ((f.fs.take (k + 1)).countP (fun v => decide (v.name = s)) = cn + 1) := Lib.hid (by rw [HCS.out, if_pos hxs])
        clear hxs HCS
        go_wp2
        go_roundw
        case rel => exact ⟨k + 1, by omega, by go_num, by rw [HC2.out]; go_num, HF5, HB5.out⟩
        case measure => simp [intOf]; omega
      · have hne := tne hxs
        have HC2 : Hid ((f.fs.take (k + 1)).countP (fun v => decide (v.name = s)) = cn) := Lib.hid (by rw [HCS.out, if_neg hxs]; rfl)
        clear hxs HCS
        go_wp2
        go_roundw
        case rel => exact ⟨k + 1, by omega, by go_num, by rw [HC2.out], HF5, HB5.out⟩
        case measure => simp [intOf]; omega
    · have HCF : Hid ((f.fs.take k).countP (fun v => decide (v.name = s)) = f.fs.countP (fun v => decide (v.name = s))) := Lib.hid (by rw [List.take_of_length_le (by have := E1.out; omega)])
      have HFC : Hid ((f.fs.countP (fun v => decide (v.name = s)) = 0 ∧ fldF f.fs s = none) ∨ (f.fs.countP (fun v => decide (v.name = s)) = 1 ∧ ∃ t, fldF f.fs s = some t)) := Lib.hid (by
        rcases find_cnt Vr.name s (cnt_one Vr.name s (chain_pair Vr.name (right_fs HRT.out))) with ⟨h1, h2⟩ | ⟨h1, x, h2⟩
        · exact .inl ⟨h1, by unfold fldF; rw [h2]; rfl⟩
        · exact .inr ⟨h1, _, by unfold fldF; rw [h2]; rfl⟩)
      rw [HCF.out]
      generalize f.fs.countP (fun v => decide (v.name = s)) = cF at *
      have p3 := HF.out.cell 3
      simp only [List.getElem?_cons_succ, List.getElem?_cons_zero] at p3
      clear HCF HK1
      go_wp2_with fail
      go_loopw [10, 66] (fun c i wr => ∃ k : Nat, k ≤ n2 ∧ i = .int .i64 k ∧ c = .int .i64 (((f.ms.take k).countP (fun v => decide (v.name = s)) : Nat) : Int) ∧ Hid (Blk wr w.heap.size [.string f.name, .string f.sup, .slice a1 n1 c1, .slice a2 n2 c2] 25) ∧ Below w.heap.size w wr) (fun _ i _ => n2 - (intOf i).toNat)
      case atStart => exact ⟨0, Nat.zero_le _, rfl, rfl, HF, hbr⟩
      case round =>
        clear HF p3 hbr hsr
        obtain ⟨k, hk, rfl, rfl, HF, hbr⟩ := hrel
        have hsr := hbr.size
        by_cases hkl : k < n2
        · obtain ⟨m, hx⟩ : ∃ v, f.ms[k]? = some v := ⟨_, List.getElem?_eq_getElem (by have := E2.out; omega)⟩
          have HFD : Hid (mthF f.ms m.name = some m) := Lib.hid (chain_find Sg.name (right_ms HRT.out) hx)
          have HCS := Lib.hid (cnt_snoc Sg.name s hx)
          have hct := cnt_take Sg.name s f.ms k
          obtain ⟨g, o, cs, rfl, hcell, b1, m1, d1, rfl, hps⟩ := HK2.out k m hx
          generalize (f.ms.take k).countP (fun v => decide (v.name = s)) = cn at *
          have q0 : wr.cell? ⟨g, o + k * 5, none⟩ = some (.string m.name) := (hbr.cell (World.block_lt_of_cell? _ _ (hcell 0 _ rfl))).trans (hcell 0 _ rfl)
          have q1 : wr.cell? ⟨g, o + k * 5 + 1, none⟩ = some (.bool m.st) := (hbr.cell (World.block_lt_of_cell? _ _ (hcell 1 _ rfl))).trans (hcell 1 _ rfl)
          have q2 : wr.cell? ⟨g, o + k * 5 + 2, none⟩ = some (.slice b1 m1 d1) := (hbr.cell (World.block_lt_of_cell? _ _ (hcell 2 _ rfl))).trans (hcell 2 _ rfl)
          have q3 : wr.cell? ⟨g, o + k * 5 + 3, none⟩ = some (.string m.rn) := (hbr.cell (World.block_lt_of_cell? _ _ (hcell 3 _ rfl))).trans (hcell 3 _ rfl)
          have q4 : wr.cell? ⟨g, o + k * 5 + 4, none⟩ = some (.bool m.ra) := (hbr.cell (World.block_lt_of_cell? _ _ (hcell 4 _ rfl))).trans (hcell 4 _ rfl)
          obtain ⟨W1, HWE⟩ : ∃ W1, Hid (W1 = wr.alloc (.cells #[.string m.name, .bool m.st, .slice b1 m1 d1, .string m.rn, .bool m.ra] 68)) := ⟨_, Lib.hid rfl⟩
          have HB1 : Hid (Below w.heap.size w W1) := Lib.hid (by rw [HWE.out]; exact bl_al' hbr)
          have X1 : Hid (Blk W1 wr.heap.size [.string m.name, .bool m.st, .slice b1 m1 d1, .string m.rn, .bool m.ra] 68) := Lib.hid (by rw [HWE.out]; exact Blk.new wr [.string m.name, .bool m.st, .slice b1 m1 d1, .string m.rn, .bool m.ra] 68)
          have F1 : Hid (Blk W1 w.heap.size [.string f.name, .string f.sup, .slice a1 n1 c1, .slice (some ⟨g, o, none⟩) n2 c2] 25) := Lib.hid (by rw [HWE.out]; exact HF.out.al _)
          have HPM := Lib.hid hps
          clear hcell hx hps
          go_upto_region 19 with fail
          rw [← HWE.out]
          have p0 := F1.out.cell 0
          have p1 := F1.out.cell 1
          have p2 := F1.out.cell 2
          have p3 := F1.out.cell 3
          have x0 := X1.out.cell 0
          simp only [List.getElem?_cons_succ, List.getElem?_cons_zero] at p0 p1 p2 p3 x0
          clear q0 q1 q2 q3 q4
          go_wp2_with fail
          refine (method54 f m.name a1 n1 c1 _ n2 c2 W1 (sgs_keep (Keeps.of_below HB1.out) HM1.out) HPS.out).mono ?_
          rintro e w4 ⟨pa, pn, pc, rfl, hsl, _, hb4⟩
          rw [HFD.out] at hsl ⊢
          have hb5 : Below w.heap.size w w4 := HB1.out.trans (hb4.mono HB1.out.size)
          have X4 := X1.out.below hb4
          have F4 := F1.out.below hb4
          obtain ⟨W5, HW5⟩ : ∃ W5, Hid (W5 = w4.alloc (.cells #[.string m.name, .bool m.st, .slice pa pn pc, .string m.rn, .bool m.ra] 68)) := ⟨_, Lib.hid rfl⟩
          have HB5 : Hid (Below w.heap.size w W5) := Lib.hid (by rw [HW5.out]; exact bl_al' hb5)
          have T5 : Blk W5 w4.heap.size [.string m.name, .bool m.st, .slice pa pn pc, .string m.rn, .bool m.ra] 68 := by rw [HW5.out]; exact Blk.new w4 [.string m.name, .bool m.st, .slice pa pn pc, .string m.rn, .bool m.ra] 68
          have X5 : Hid (Blk W5 wr.heap.size [.string m.name, .bool m.st, .slice b1 m1 d1, .string m.rn, .bool m.ra] 68) := Lib.hid (by rw [HW5.out]; exact X4.al _)
          have HF5 : Hid (Blk W5 w.heap.size [.string f.name, .string f.sup, .slice a1 n1 c1, .slice (some ⟨g, o, none⟩) n2 c2] 25) := Lib.hid (by rw [HW5.out]; exact F4.al _)
          have HSA : Hid (Sl W5 2 TyR m.ps (.slice pa pn pc)) := Lib.hid (by rw [HW5.out]; exact tys_keep (Keeps.of_below (below1 _ _)) hsl)
          have HSB : Hid (Sl W5 2 TyR m.ps (.slice b1 m1 d1)) := Lib.hid (tys_keep (Keeps.of_below HB5.out) HPM.out)
          have y0 := X5.out.cell 0
          have y1 := X5.out.cell 1
          have y2 := X5.out.cell 2
          have y3 := X5.out.cell 3
          have y4 := X5.out.cell 4
          have z0 := T5.cell 0
          have z1 := T5.cell 1
          have z2 := T5.cell 2
          have z3 := T5.cell 3
          have z4 := T5.cell 4
          simp only [List.getElem?_cons_succ, List.getElem?_cons_zero] at y0 y1 y2 y3 y4 z0 z1 z2 z3 z4
          clear X4 F4 X1 F1 hb4 hb5 HB1 p0 p1 p2 p3 x0 HFD T5 hsl
          go_upto_region 20 with fail
          rw [← HW5.out]
          clear HW5 HWE
          go_wp2_with fail
          refine (same24 m m pa pn pc b1 m1 d1 W5 HSA.out HSB.out).mono ?_
          rintro e w6 ⟨rfl, hb6⟩
          have hmm : decide (m = m) = true := by simp
          rw [hmm]
          have HB6 : Hid (Below w.heap.size w w6) := Lib.hid (HB5.out.trans (hb6.mono HB5.out.size))
          have HF6 := Lib.hid (HF5.out.below hb6)
          have X6 := X5.out.below hb6
          have u0 := X6.cell 0
          simp only [List.getElem?_cons_zero] at u0
          clear X6 X5 HF5 HB5 hb6 HSA HSB y0 y1 y2 y3 y4 z0 z1 z2 z3 z4 hmm
          by_cases hxs : m.name = s
          · have hne := teq hxs
            have HC2 : Hid ((f.ms.take (k + 1)).countP (fun v => decide (v.name = s)) = cn + 1) := Lib.hid (by rw [HCS.out, if_pos hxs])
            clear hxs HCS
            go_wp2
            go_roundw
            case rel => exact ⟨k + 1, by omega, by go_num, by rw [HC2.out]; go_num, HF6, HB6.out⟩
            case measure => simp [intOf]; omega
          · have hne := tne hxs
            have HC2 : Hid ((f.ms.take (k + 1)).countP (fun v => decide (v.name = s)) = cn) := Lib.hid (by rw [HCS.out, if_neg hxs]; rfl)
            clear hxs HCS
            go_wp2
            go_roundw
            case rel => exact ⟨k + 1, by omega, by go_num, by rw [HC2.out], HF6, HB6.out⟩
            case measure => simp [intOf]; omega
        · have HCM : Hid ((f.ms.take k).countP (fun v => decide (v.name = s)) = f.ms.countP (fun v => decide (v.name = s))) := Lib.hid (by rw [List.take_of_length_le (by have := E2.out; omega)])
          have hmc := find_cnt Sg.name s (cnt_one Sg.name s (chain_pair Sg.name (right_ms HRT.out)))
          have HMC : Hid ((f.ms.countP (fun v => decide (v.name = s)) = 0 ∧ mthF f.ms s = none) ∨ (f.ms.countP (fun v => decide (v.name = s)) = 1 ∧ ∃ t, mthF f.ms s = some t)) := Lib.hid hmc
          rw [HCM.out]
          generalize f.ms.countP (fun v => decide (v.name = s)) = cM at *
          clear HCM HK2 hmc
          rcases HFC.out with ⟨rfl, hfn⟩ | ⟨rfl, t, hfn⟩
          · have HFN := Lib.hid hfn
            clear hfn HFC
            rcases HMC.out with ⟨rfl, hmn⟩ | ⟨rfl, mm, hmn⟩
            · have HMN := Lib.hid hmn
              clear hmn HMC
              have p0 := HF.out.cell 0
              have p1 := HF.out.cell 1
              have p2 := HF.out.cell 2
              have p3 := HF.out.cell 3
              simp only [List.getElem?_cons_succ, List.getElem?_cons_zero] at p0 p1 p2 p3
              go_wp2_with fail
              refine (field53 f s a1 n1 c1 a2 n2 c2 wr (vrs_keep (Keeps.of_below hbr) HS1.out)).mono ?_
              rintro e w4 ⟨rfl, hb4⟩
              rw [HFN.out]
              have hb5 : Below w.heap.size w w4 := hbr.trans (hb4.mono hbr.size)
              have F4 := HF.out.below hb4
              obtain ⟨W5, HW5⟩ : ∃ W5, Hid (W5 = w4.alloc (.cells #[.string zT.n, .bool zT.a] 45)) := ⟨_, Lib.hid rfl⟩
              have HB5 : Hid (Below w.heap.size w W5) := Lib.hid (by rw [HW5.out]; exact bl_al' hb5)
              have F5 : Blk W5 w.heap.size [.string f.name, .string f.sup, .slice a1 n1 c1, .slice a2 n2 c2] 25 := by rw [HW5.out]; exact F4.al _
              have v0 := F5.cell 0
              have v1 := F5.cell 1
              have v2 := F5.cell 2
              have v3 := F5.cell 3
              simp only [List.getElem?_cons_succ, List.getElem?_cons_zero] at v0 v1 v2 v3
              clear F4 hb4 p0 p1 p2 p3 HF hbr F5
              go_upto_region 26 with fail
              rw [← HW5.out]
              clear HW5
              go_wp2_with fail
              refine (method54 f s a1 n1 c1 a2 n2 c2 W5 (sgs_keep (Keeps.of_below HB5.out) HM1.out) HPS.out).mono ?_
              rintro e w6 ⟨pa, pn, pc, rfl, _, _, hb6⟩
              rw [HMN.out]
              have HB6 : Hid (Below w.heap.size w w6) := Lib.hid (HB5.out.trans (hb6.mono HB5.out.size))
              clear hb6 v0 v1 v2 v3
              go_wp2
              go_ret
              exact ⟨rfl, bl_al' HB6.out⟩
            · have HMN := Lib.hid hmn
              clear hmn HMC
              have p0 := HF.out.cell 0
              have p1 := HF.out.cell 1
              have p2 := HF.out.cell 2
              have p3 := HF.out.cell 3
              simp only [List.getElem?_cons_succ, List.getElem?_cons_zero] at p0 p1 p2 p3
              go_wp2_with fail
              refine (field53 f s a1 n1 c1 a2 n2 c2 wr (vrs_keep (Keeps.of_below hbr) HS1.out)).mono ?_
              rintro e w4 ⟨rfl, hb4⟩
              rw [HFN.out]
              have hb5 : Below w.heap.size w w4 := hbr.trans (hb4.mono hbr.size)
              have F4 := HF.out.below hb4
              obtain ⟨W5, HW5⟩ : ∃ W5, Hid (W5 = w4.alloc (.cells #[.string zT.n, .bool zT.a] 45)) := ⟨_, Lib.hid rfl⟩
              have HB5 : Hid (Below w.heap.size w W5) := Lib.hid (by rw [HW5.out]; exact bl_al' hb5)
              have F5 : Blk W5 w.heap.size [.string f.name, .string f.sup, .slice a1 n1 c1, .slice a2 n2 c2] 25 := by rw [HW5.out]; exact F4.al _
              have v0 := F5.cell 0
              have v1 := F5.cell 1
              have v2 := F5.cell 2
              have v3 := F5.cell 3
              simp only [List.getElem?_cons_succ, List.getElem?_cons_zero] at v0 v1 v2 v3
              clear F4 hb4 p0 p1 p2 p3 HF hbr F5
              go_upto_region 26 with fail
              rw [← HW5.out]
              clear HW5
              go_wp2_with fail
              refine (method54 f s a1 n1 c1 a2 n2 c2 W5 (sgs_keep (Keeps.of_below HB5.out) HM1.out) HPS.out).mono ?_
              rintro e w6 ⟨pa, pn, pc, rfl, _, _, hb6⟩
              rw [HMN.out]
              have HB6 : Hid (Below w.heap.size w w6) := Lib.hid (HB5.out.trans (hb6.mono HB5.out.size))
              clear hb6 v0 v1 v2 v3
              go_wp2
              go_ret
              exact ⟨rfl, bl_al' HB6.out⟩
          · have HFN := Lib.hid hfn
            clear hfn HFC
            rcases HMC.out with ⟨rfl, hmn⟩ | ⟨rfl, mm, hmn⟩
            · have HMN := Lib.hid hmn
              clear hmn HMC
              have p0 := HF.out.cell 0
              have p1 := HF.out.cell 1
              have p2 := HF.out.cell 2
              have p3 := HF.out.cell 3
              simp only [List.getElem?_cons_succ, List.getElem?_cons_zero] at p0 p1 p2 p3
              go_wp2_with fail
              refine (field53 f s a1 n1 c1 a2 n2 c2 wr (vrs_keep (Keeps.of_below hbr) HS1.out)).mono ?_
              rintro e w4 ⟨rfl, hb4⟩
              rw [HFN.out]
              have hb5 : Below w.heap.size w w4 := hbr.trans (hb4.mono hbr.size)
              have F4 := HF.out.below hb4
              obtain ⟨W5, HW5⟩ : ∃ W5, Hid (W5 = w4.alloc (.cells #[.string t.n, .bool t.a] 45)) := ⟨_, Lib.hid rfl⟩
              have HB5 : Hid (Below w.heap.size w W5) := Lib.hid (by rw [HW5.out]; exact bl_al' hb5)
              have F5 : Blk W5 w.heap.size [.string f.name, .string f.sup, .slice a1 n1 c1, .slice a2 n2 c2] 25 := by rw [HW5.out]; exact F4.al _
              have v0 := F5.cell 0
              have v1 := F5.cell 1
              have v2 := F5.cell 2
              have v3 := F5.cell 3
              simp only [List.getElem?_cons_succ, List.getElem?_cons_zero] at v0 v1 v2 v3
              clear F4 hb4 p0 p1 p2 p3 HF hbr F5
              go_upto_region 26 with fail
              rw [← HW5.out]
              clear HW5
              go_wp2_with fail
              refine (method54 f s a1 n1 c1 a2 n2 c2 W5 (sgs_keep (Keeps.of_below HB5.out) HM1.out) HPS.out).mono ?_
              rintro e w6 ⟨pa, pn, pc, rfl, _, _, hb6⟩
              rw [HMN.out]
              have HB6 : Hid (Below w.heap.size w w6) := Lib.hid (HB5.out.trans (hb6.mono HB5.out.size))
              clear hb6 v0 v1 v2 v3
              go_wp2
              go_ret
              exact ⟨rfl, bl_al' HB6.out⟩
            · have HMN := Lib.hid hmn
              clear hmn HMC
              have p0 := HF.out.cell 0
              have p1 := HF.out.cell 1
              have p2 := HF.out.cell 2
              have p3 := HF.out.cell 3
              simp only [List.getElem?_cons_succ, List.getElem?_cons_zero] at p0 p1 p2 p3
              go_wp2_with fail
              refine (field53 f s a1 n1 c1 a2 n2 c2 wr (vrs_keep (Keeps.of_below hbr) HS1.out)).mono ?_
              rintro e w4 ⟨rfl, hb4⟩
              rw [HFN.out]
              have hb5 : Below w.heap.size w w4 := hbr.trans (hb4.mono hbr.size)
              have F4 := HF.out.below hb4
              obtain ⟨W5, HW5⟩ : ∃ W5, Hid (W5 = w4.alloc (.cells #[.string t.n, .bool t.a] 45)) := ⟨_, Lib.hid rfl⟩
              have HB5 : Hid (Below w.heap.size w W5) := Lib.hid (by rw [HW5.out]; exact bl_al' hb5)
              have F5 : Blk W5 w.heap.size [.string f.name, .string f.sup, .slice a1 n1 c1, .slice a2 n2 c2] 25 := by rw [HW5.out]; exact F4.al _
              have v0 := F5.cell 0
              have v1 := F5.cell 1
              have v2 := F5.cell 2
              have v3 := F5.cell 3
              simp only [List.getElem?_cons_succ, List.getElem?_cons_zero] at v0 v1 v2 v3
              clear F4 hb4 p0 p1 p2 p3 HF hbr F5
              go_upto_region 26 with fail
              rw [← HW5.out]
              clear HW5
              go_wp2_with fail
              refine (method54 f s a1 n1 c1 a2 n2 c2 W5 (sgs_keep (Keeps.of_below HB5.out) HM1.out) HPS.out).mono ?_
              rintro e w6 ⟨pa, pn, pc, rfl, _, _, hb6⟩
              rw [HMN.out]
              have HB6 : Hid (Below w.heap.size w w6) := Lib.hid (HB5.out.trans (hb6.mono HB5.out.size))
              clear hb6 v0 v1 v2 v3
              go_wp2
              go_ret
              exact ⟨rfl, bl_al' HB6.out⟩
end Go.Proofs.YtdcbeemjdpgjmaaDoor.Fc
