/-
  FaceApart: the walk.
-/
import Derived.Test.YtdcbeemjdpgjmaaDoorFcApart
import Derived.Deep.Cut
import Derived.Deep.CutRange
namespace Go.Proofs.YtdcbeemjdpgjmaaDoor.Fc
open Go.RowKit
set_option linter.unusedVariables false

theorem ap_cells {w x : World} {f g : Fc} {F G A B base base' : Nat} {u0 u1 u2 u3 v0 v1 v2 v3 : Value} (h : ApS w f g [u0, u1, u2, u3] [v0, v1, v2, v3] F G A B base base' x) :
    x.cell? ⟨F, 0, none⟩ = some u0 ∧ x.cell? ⟨F, 1, none⟩ = some u1 ∧ x.cell? ⟨F, 2, none⟩ = some u2 ∧ x.cell? ⟨F, 3, none⟩ = some u3 ∧ x.cell? ⟨G, 0, none⟩ = some v0 ∧ x.cell? ⟨G, 1, none⟩ = some v1 ∧ x.cell? ⟨G, 2, none⟩ = some v2 ∧ x.cell? ⟨G, 3, none⟩ = some v3 ∧ ApS w f g [u0, u1, u2, u3] [v0, v1, v2, v3] F G A B base base' x :=
  ⟨h.bf.cell 0, h.bf.cell 1, h.bf.cell 2, h.bf.cell 3, h.bg.cell 0, h.bg.cell 1, h.bg.cell 2, h.bg.cell 3, h⟩

set_option maxHeartbeats 4000000 in
set_option maxRecDepth 100000 in
theorem apart5 (f g : Fc) (cs ds : List Value) (w : World) (hf : FcR w f cs) (hg : FcR w g ds) (hK : RdW 0 w K) :
    Calls Tryd.prog 5 #[.agg cs.toArray, .agg ds.toArray] w fun e w' => e = .returned (.bool true) ∧ Below w.heap.size w w' := by
  have HF := Lib.hid hf
  have HG := Lib.hid hg
  have HK := Lib.hid hK
  obtain ⟨a1, n1, c1, a2, n2, c2, rfl, hf1, hm1⟩ := hf
  obtain ⟨a3, n3, c3, a4, n4, c4, rfl, hf2, hm2⟩ := hg
  have HF1 := Lib.hid hf1
  have HM1 := Lib.hid hm1
  have HF2 := Lib.hid hf2
  have HM2 := Lib.hid hm2
  clear hf1 hm1 hf2 hm2 hK
  obtain ⟨W0, HW0⟩ : ∃ W0, Hid (W0 = (w.alloc (.cells #[.string f.name, .string f.sup, .slice a1 n1 c1, .slice a2 n2 c2] 25)).alloc (.cells #[.string g.name, .string g.sup, .slice a3 n3 c3, .slice a4 n4 c4] 25)) := ⟨_, Lib.hid rfl⟩
  have HB0 : Hid (Below w.heap.size w W0) := Lib.hid (by rw [HW0.out]; exact below2 w _ _)
  have F0 : Hid (Blk W0 w.heap.size [.string f.name, .string f.sup, .slice a1 n1 c1, .slice a2 n2 c2] 25) := Lib.hid (by rw [HW0.out]; exact (Blk.new w [.string f.name, .string f.sup, .slice a1 n1 c1, .slice a2 n2 c2] 25).al _)
  have G0 : Hid (Blk W0 (w.heap.size + 1) [.string g.name, .string g.sup, .slice a3 n3 c3, .slice a4 n4 c4] 25) := Lib.hid (by rw [HW0.out]; exact Blk.newAt (by simp) [.string g.name, .string g.sup, .slice a3 n3 c3, .slice a4 n4 c4] 25)
  have hs0 : w.heap.size + 2 ≤ W0.heap.size := by rw [HW0.out]; simp
  go_enter Tryd.func5, Tryd.ntmps5
  go_wp2_with fail
  rw [← HW0.out]
  refine (head8 W0 (roots_keep HK.out HB0.out)).mono ?_
  rintro e w1 ⟨rfl, hb1⟩
  have hs1 := hb1.size
  have HB1 : Hid (Below w.heap.size w w1) := Lib.hid (HB0.out.trans (hb1.mono (by omega)))
  have F1 := F0.out.below hb1
  have G1 := G0.out.below hb1
  have p0 := F1.cell 0
  have p1 := F1.cell 1
  have p2 := F1.cell 2
  have p3 := F1.cell 3
  simp only [List.getElem?_cons_succ, List.getElem?_cons_zero] at p0 p1 p2 p3
  have HF1' := Lib.hid F1
  have HG1' := Lib.hid G1
  clear F1 G1 hb1 F0 G0 HB0 HW0
  go_wp2_with fail
  refine (few31 f a1 n1 c1 a2 n2 c2 w1 (vrs_keep (Keeps.of_below HB1.out) HF1.out) (sgs_keep (Keeps.of_below HB1.out) HM1.out)).mono ?_
  rintro e w2 ⟨r1, rfl, hr1, hb2⟩
  have hs2 := hb2.size
  have HB2 : Hid (Below w.heap.size w w2) := Lib.hid (HB1.out.trans (hb2.mono (by omega)))
  cases r1 with
  | false =>
    go_wp2
    go_ret
    exact ⟨rfl, HB2.out⟩
  | true =>
    have HS1 := Lib.hid (hr1 rfl)
    have G2 := HG1'.out.below hb2
    have F2 := HF1'.out.below hb2
    have q0 := G2.cell 0
    have q1 := G2.cell 1
    have q2 := G2.cell 2
    have q3 := G2.cell 3
    simp only [List.getElem?_cons_succ, List.getElem?_cons_zero] at q0 q1 q2 q3
    have HF2' := Lib.hid F2
    have HG2' := Lib.hid G2
    clear F2 G2 hb2 hr1 HF1' HG1' p0 p1 p2 p3 HB1
    go_wp2_with fail
    refine (few31 g a3 n3 c3 a4 n4 c4 w2 (vrs_keep (Keeps.of_below HB2.out) HF2.out) (sgs_keep (Keeps.of_below HB2.out) HM2.out)).mono ?_
    rintro e w3 ⟨r2, rfl, hr2, hb3⟩
    have hs3 := hb3.size
    have HB3 : Hid (Below w.heap.size w w3) := Lib.hid (HB2.out.trans (hb3.mono (by omega)))
    cases r2 with
    | false =>
      go_wp2
      go_ret
      exact ⟨rfl, HB3.out⟩
    | true =>
      have HS2 := Lib.hid (hr2 rfl)
      have F3 := HF2'.out.below hb3
      have G3 := HG2'.out.below hb3
      obtain ⟨W4, HW4⟩ : ∃ W4, Hid (W4 = (w3.alloc (.cells #[.slice none 0 0] 31)).alloc (.cells #[.slice none 0 0] 31)) := ⟨_, Lib.hid rfl⟩
      have hb4 : Below w3.heap.size w3 W4 := by rw [HW4.out]; exact below2 w3 _ _
      have hs4 : W4.heap.size = w3.heap.size + 2 := by rw [HW4.out]; simp
      have HS4 := Lib.hid hs4
      have F4 := F3.below hb4
      have G4 := G3.below hb4
      have p0 := F4.cell 0
      have p1 := F4.cell 1
      have p2 := F4.cell 2
      have p3 := F4.cell 3
      simp only [List.getElem?_cons_succ, List.getElem?_cons_zero] at p0 p1 p2 p3
      have HB4 : Hid (Below w.heap.size w W4) := Lib.hid (HB3.out.trans (hb4.mono (by omega)))
      have A4 : Hid (Pk.WAt (w3.heap.size + 1 + 1) w3.heap.size W4 []) := Lib.hid (by rw [HW4.out]; exact wat_al (Pk.WAt.new _ w3) _)
      have B4 : Hid (Blk W4 (w3.heap.size + 1) [.slice none 0 0] 31) := Lib.hid (by rw [HW4.out]; exact Blk.newAt (by simp) [.slice none 0 0] 31)
      have HF4 := Lib.hid F4
      have HG4 := Lib.hid G4
      clear F3 G3 F4 G4 hb4 hs4 hb3 hr2 HF2' HG2' q0 q1 q2 q3 HB2 HB3
      go_upto_region 7 with fail
      rw [← HW4.out]
      go_wp2_with fail
      refine (lay12 w f [.string f.name, .string f.sup, .slice a1 n1 c1, .slice a2 n2 c2] HF.out (w3.heap.size + 1 + 1) w3.heap.size [] W4 HB4.out (by omega) A4.out (by omega) (by rw [HS4.out]; omega) (by have := small_len HS1.out; simp only [List.length_nil]; omega)).mono ?_
      rintro e w5 ⟨rfl, hw5, hk5⟩
      rw [List.nil_append] at hw5
      have hs5 := hk5.size
      have F5 := HF4.out.kp hk5 (by decide) (by omega)
      have G5 := HG4.out.kp hk5 (by decide) (by omega)
      have B5 := B4.out.kp hk5 (by decide) (by omega)
      have q0 := G5.cell 0
      have q1 := G5.cell 1
      have q2 := G5.cell 2
      have q3 := G5.cell 3
      simp only [List.getElem?_cons_succ, List.getElem?_cons_zero] at q0 q1 q2 q3
      have HB5 : Hid (Below w.heap.size w w5) := Lib.hid (HB4.out.trans (kp_below hk5 (by omega) (by omega)))
      have A5 := Lib.hid hw5
      have HF5 := Lib.hid F5
      have HG5 := Lib.hid G5
      have HB5' := Lib.hid B5
      clear F5 G5 B5 hw5 hk5 HF4 HG4 B4 A4 HB4 p0 p1 p2 p3
      go_wp2_with fail
      refine (lay12 w g [.string g.name, .string g.sup, .slice a3 n3 c3, .slice a4 n4 c4] HG.out w5.heap.size (w3.heap.size + 1) [] w5 HB5.out (by omega) ⟨_, HB5'.out, World.ownsRow_nil _ _ _ _⟩ (by have := HS4.out; omega) (Nat.le_refl _) (by have := small_len HS2.out; simp only [List.length_nil]; omega)).mono ?_
      rintro e w6 ⟨rfl, hw6, hk6⟩
      rw [List.nil_append] at hw6
      have hlt5 : w3.heap.size + 1 < w5.heap.size := by have := HS4.out; omega
      have A6 := wat_keep A5.out (fun k hk hne => hk6.block k hk hne) (fun cs' e => by rw [show w5.heap[w3.heap.size + 1]? = _ from HB5'.out] at e; cases e) (by omega)
      have HA : Hid (ApS w f g [.string f.name, .string f.sup, .slice a1 n1 c1, .slice a2 n2 c2] [.string g.name, .string g.sup, .slice a3 n3 c3, .slice a4 n4 c4] w.heap.size (w.heap.size + 1) w3.heap.size (w3.heap.size + 1) (w3.heap.size + 1 + 1) w5.heap.size w6) := Lib.hid (by
        have hbw : Below w.heap.size w w6 := HB5.out.trans (kp_below hk6 (by omega) hlt5)
        exact ⟨HF5.out.kp hk6 (by decide) (by omega), HG5.out.kp hk6 (by decide) (by omega), HF.out.keep (Keeps.of_below hbw), HG.out.keep (Keeps.of_below hbw), A6, hw6, hbw⟩)
      have HE := Lib.hid (fcB_inj HS1.out HS2.out)
      clear hw6 hk6 A6 A5 HF5 HG5 HB5 HB5' q0 q1 q2 q3 HS1 HS2 HK HF1 HF2 HM1 HM2 HS4 HW4
      obtain ⟨S1, HS1⟩ : ∃ S1 : ByteArray, Hid (S1 = ⟨(fcB f).toArray⟩) := ⟨_, Lib.hid rfl⟩
      obtain ⟨S2, HS2⟩ : ∃ S2 : ByteArray, Hid (S2 = ⟨(fcB g).toArray⟩) := ⟨_, Lib.hid rfl⟩
      rw [← HS1.out, ← HS2.out] at HE
      obtain ⟨r, HR⟩ : ∃ r, Hid (decide (f = g) = r) := ⟨_, Lib.hid rfl⟩
      have HR2 : Hid (decide (g = f) = r) := Lib.hid (by rw [← HR.out]; exact decide_eq_decide.2 ⟨Eq.symm, Eq.symm⟩)
      rw [HR.out] at HE
      have heq := HE.out
      clear HE hs0 hs1 hs2 hs3 hs5 hlt5
      go_wp2_with fail
      generalize w3.heap.size + 1 + 1 = base at *
      generalize w3.heap.size + 1 = B at *
      generalize w3.heap.size = A at *
      generalize w5.heap.size = base' at *
      generalize w.heap.size + 1 = G at *
      obtain ⟨F, HFE⟩ : ∃ F, Hid (F = w.heap.size) := ⟨_, Lib.hid rfl⟩
      have HA' : Hid (ApS w f g [.string f.name, .string f.sup, .slice a1 n1 c1, .slice a2 n2 c2] [.string g.name, .string g.sup, .slice a3 n3 c3, .slice a4 n4 c4] F G A B base base' w6) := Lib.hid (by rw [HFE.out]; exact HA.out)
      rw [← HFE.out]
      clear HA HFE
      have HFG : Hid (∀ x, ApS w f g [.string f.name, .string f.sup, .slice a1 n1 c1, .slice a2 n2 c2] [.string g.name, .string g.sup, .slice a3 n3 c3, .slice a4 n4 c4] F G A B base base' x → Calls Tryd.prog 19 #[.agg #[.string f.name, .string f.sup, .slice a1 n1 c1, .slice a2 n2 c2], .agg #[.string g.name, .string g.sup, .slice a3 n3 c3, .slice a4 n4 c4]] x fun e w' => e = .returned (.bool r) ∧ ApS w f g [.string f.name, .string f.sup, .slice a1 n1 c1, .slice a2 n2 c2] [.string g.name, .string g.sup, .slice a3 n3 c3, .slice a4 n4 c4] F G A B base base' w') := Lib.hid (fun x h => ap_same h h.rf h.rg HR.out)
      have HGF : Hid (∀ x, ApS w f g [.string f.name, .string f.sup, .slice a1 n1 c1, .slice a2 n2 c2] [.string g.name, .string g.sup, .slice a3 n3 c3, .slice a4 n4 c4] F G A B base base' x → Calls Tryd.prog 19 #[.agg #[.string g.name, .string g.sup, .slice a3 n3 c3, .slice a4 n4 c4], .agg #[.string f.name, .string f.sup, .slice a1 n1 c1, .slice a2 n2 c2]] x fun e w' => e = .returned (.bool r) ∧ ApS w f g [.string f.name, .string f.sup, .slice a1 n1 c1, .slice a2 n2 c2] [.string g.name, .string g.sup, .slice a3 n3 c3, .slice a4 n4 c4] F G A B base base' w') := Lib.hid (fun x h => ap_same h h.rg h.rf HR2.out)
      have HFF : Hid (∀ x, ApS w f g [.string f.name, .string f.sup, .slice a1 n1 c1, .slice a2 n2 c2] [.string g.name, .string g.sup, .slice a3 n3 c3, .slice a4 n4 c4] F G A B base base' x → Calls Tryd.prog 19 #[.agg #[.string f.name, .string f.sup, .slice a1 n1 c1, .slice a2 n2 c2], .agg #[.string f.name, .string f.sup, .slice a1 n1 c1, .slice a2 n2 c2]] x fun e w' => e = .returned (.bool true) ∧ ApS w f g [.string f.name, .string f.sup, .slice a1 n1 c1, .slice a2 n2 c2] [.string g.name, .string g.sup, .slice a3 n3 c3, .slice a4 n4 c4] F G A B base base' w') := Lib.hid (fun x h => ap_same h h.rf h.rf (by simp))
      have HSA : Hid (∀ x, ApS w f g [.string f.name, .string f.sup, .slice a1 n1 c1, .slice a2 n2 c2] [.string g.name, .string g.sup, .slice a3 n3 c3, .slice a4 n4 c4] F G A B base base' x → Calls Tryd.prog 13 #[.pointer (some ⟨A, 0, none⟩)] x fun e w' => e = .returned (.string S1) ∧ ApS w f g [.string f.name, .string f.sup, .slice a1 n1 c1, .slice a2 n2 c2] [.string g.name, .string g.sup, .slice a3 n3 c3, .slice a4 n4 c4] F G A B base base' w') := Lib.hid (fun x h => (Pk.string_any base A _ x h.a).mono (by rintro e w' ⟨rfl, rfl⟩; exact ⟨by rw [HS1.out], h⟩))
      have HSB : Hid (∀ x, ApS w f g [.string f.name, .string f.sup, .slice a1 n1 c1, .slice a2 n2 c2] [.string g.name, .string g.sup, .slice a3 n3 c3, .slice a4 n4 c4] F G A B base base' x → Calls Tryd.prog 13 #[.pointer (some ⟨B, 0, none⟩)] x fun e w' => e = .returned (.string S2) ∧ ApS w f g [.string f.name, .string f.sup, .slice a1 n1 c1, .slice a2 n2 c2] [.string g.name, .string g.sup, .slice a3 n3 c3, .slice a4 n4 c4] F G A B base base' w') := Lib.hid (fun x h => (Pk.string_any base' B _ x h.b).mono (by rintro e w' ⟨rfl, rfl⟩; exact ⟨by rw [HS2.out], h⟩))
      clear HF HG HR HR2 HS1 HS2
      have hrr : (r == r) = true := by simp
      go_region_held3 (fun x => x.cell? ⟨F, 0, none⟩ = some (.string f.name) ∧ x.cell? ⟨F, 1, none⟩ = some (.string f.sup) ∧ x.cell? ⟨F, 2, none⟩ = some (.slice a1 n1 c1) ∧ x.cell? ⟨F, 3, none⟩ = some (.slice a2 n2 c2) ∧ x.cell? ⟨G, 0, none⟩ = some (.string g.name) ∧ x.cell? ⟨G, 1, none⟩ = some (.string g.sup) ∧ x.cell? ⟨G, 2, none⟩ = some (.slice a3 n3 c3) ∧ x.cell? ⟨G, 3, none⟩ = some (.slice a4 n4 c4) ∧ ApS w f g [.string f.name, .string f.sup, .slice a1 n1 c1, .slice a2 n2 c2] [.string g.name, .string g.sup, .slice a3 n3 c3, .slice a4 n4 c4] F G A B base base' x)
        (first | exact ap_cells hX | exact ap_cells HA'.out | exact ap_cells HA'.out.dr | exact ap_cells hX.dr)
        (first
          | (go_at_call 19; with_reducible refine (HFG.out _ ?_).mono ?_; (first | exact hX | exact HA'.out | exact HA'.out.dr); rintro e x' ⟨rfl, hX⟩)
          | (go_at_call 19; with_reducible refine (HGF.out _ ?_).mono ?_; (first | exact hX | exact HA'.out | exact HA'.out.dr); rintro e x' ⟨rfl, hX⟩)
          | (go_at_call 19; with_reducible refine (HFF.out _ ?_).mono ?_; (first | exact hX | exact HA'.out | exact HA'.out.dr); rintro e x' ⟨rfl, hX⟩)
          | (go_at_call 13; with_reducible refine (HSA.out _ ?_).mono ?_; (first | exact hX | exact HA'.out | exact HA'.out.dr); rintro e x' ⟨rfl, hX⟩)
          | (go_at_call 13; with_reducible refine (HSB.out _ ?_).mono ?_; (first | exact hX | exact HA'.out | exact HA'.out.dr); rintro e x' ⟨rfl, hX⟩))
      go_wp2
      go_ret
      exact ⟨rfl, hX.below⟩
end Go.Proofs.YtdcbeemjdpgjmaaDoor.Fc
