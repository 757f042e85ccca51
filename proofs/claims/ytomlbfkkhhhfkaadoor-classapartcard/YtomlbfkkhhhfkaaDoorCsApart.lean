/-
  ClassApart: the walk.
-/
import Derived.Test.YtomlbfkkhhhfkaaDoorCsSame
import Derived.Laws.DeepStrings4
namespace Go.Proofs.YtomlbfkkhhhfkaaDoor.Fc
open Go.RowKit
set_option linter.unusedVariables false

theorem text_inj {f g : Fl} (hf : RightF f) (hg : RightF g) (nf : ∀ z ∈ f.nu, OkI z) (ng : ∀ z ∈ g.nu, OkI z) {r : Bool} (hr : r = true ↔ f = g) :
    ((⟨(flB f).toArray⟩ : ByteArray).toList == (⟨(flB g).toArray⟩ : ByteArray).toList) = r := by
  cases r with
  | true => rw [hr.1 rfl]; simp
  | false => exact tne (fun e => by
      have e2 : flB f = flB g := by injection e with e; simpa using e
      have := hr.2 (fl_inj hf hg nf ng (r := []) (r' := []) (by rw [e2])).1
      cases this)
theorem pre_inj {f g : Fl} (hf : RightF f) (hg : RightF g) (nf : ∀ z ∈ f.nu, OkI z) (ng : ∀ z ∈ g.nu, OkI z) {r : Bool} (hr : r = true ↔ f = g) (n : Nat) (hn : n = min (flB f).length (flB g).length) :
    (((⟨(flB f).toArray⟩ : ByteArray).extract 0 n).toList == ((⟨(flB g).toArray⟩ : ByteArray).extract 0 n).toList) = r := by
  cases r with
  | true => rw [hr.1 rfl]; simp
  | false => exact tne (fun e => by
      rw [Pk.cut_bytes, Pk.cut_bytes] at e
      have e2 : (flB f).take n = (flB g).take n := by injection e with e; simpa using e
      have h : f = g := by
        rcases Nat.le_total (flB f).length (flB g).length with hl | hl
        · rw [List.take_of_length_le (by omega)] at e2
          exact (fl_inj hf hg nf ng (r := (flB g).drop n) (r' := []) (by rw [e2, List.take_append_drop, List.append_nil])).1
        · rw [List.take_of_length_le (l := flB g) (by omega)] at e2
          exact (fl_inj hf hg nf ng (r := []) (r' := (flB f).drop n) (by rw [← e2, List.take_append_drop, List.append_nil])).1
      have := hr.2 h
      cases this)
theorem EncV.two {f : Fl} {W w' : World} {e : Ending} (h : EncV f W e w') : ∃ S E, e = .returned (.tuple #[.string S, .int .i64 E]) ∧ (RightF f ∧ E = 0 ∧ S = ⟨(flB f).toArray⟩ ∨ E = 1) ∧ Below W.heap.size W w' := by
  obtain ⟨⟨hr, he⟩ | ⟨hr, he⟩, hb⟩ := h
  · exact ⟨_, _, he, .inl ⟨hr, rfl, rfl⟩, hb⟩
  · exact ⟨_, _, he, .inr rfl, hb⟩

set_option maxHeartbeats 8000000 in
set_option maxRecDepth 1000000 in
theorem apart7 (f g : Fl) (cs ds : List Value) (w : World) (hf : FlR w f cs) (hg : FlR w g ds) (nf : ∀ z ∈ f.nu, OkI z) (ng : ∀ z ∈ g.nu, OkI z) (hTab : TabR w) :
    Calls Tryd.prog 7 #[.agg cs.toArray, .agg ds.toArray] w fun e w' => e = .returned (.bool true) ∧ Below w.heap.size w w' := by
  have HF := Lib.hid hf
  have HG := Lib.hid hg
  have NF := Lib.hid nf
  have NG := Lib.hid ng
  have HTAB := Lib.hid hTab
  obtain ⟨a8, n8, c8, a9, n9, c9, a1, n1, c1, a2, n2, c2, a3, n3, c3, a4, n4, c4, a5, n5, c5, a0, n0, c0, rfl, _, _, _⟩ := hf
  obtain ⟨b8, m8, d8, b9, m9, d9, b1, m1, d1, b2, m2, d2, b3, m3, d3, b4, m4, d4, b5, m5, d5, b0, m0, d0, rfl, _, _, _⟩ := hg
  clear nf ng hTab
  obtain ⟨X1, HX1⟩ : ∃ X : List Value, Hid (X = [.string f.fc.name, .string f.fc.sup, .slice a8 n8 c8, .slice a9 n9 c9, .slice a1 n1 c1, .slice a2 n2 c2, .slice a3 n3 c3, .slice a4 n4 c4, .slice a5 n5 c5, .slice a0 n0 c0]) := ⟨_, Lib.hid rfl⟩
  obtain ⟨X2, HX2⟩ : ∃ X : List Value, Hid (X = [.string g.fc.name, .string g.fc.sup, .slice b8 m8 d8, .slice b9 m9 d9, .slice b1 m1 d1, .slice b2 m2 d2, .slice b3 m3 d3, .slice b4 m4 d4, .slice b5 m5 d5, .slice b0 m0 d0]) := ⟨_, Lib.hid rfl⟩
  obtain ⟨W0, HW0⟩ : ∃ W0, Hid (W0 = (w.alloc (.cells #[.string f.fc.name, .string f.fc.sup, .slice a8 n8 c8, .slice a9 n9 c9, .slice a1 n1 c1, .slice a2 n2 c2, .slice a3 n3 c3, .slice a4 n4 c4, .slice a5 n5 c5, .slice a0 n0 c0] 35)).alloc (.cells #[.string g.fc.name, .string g.fc.sup, .slice b8 m8 d8, .slice b9 m9 d9, .slice b1 m1 d1, .slice b2 m2 d2, .slice b3 m3 d3, .slice b4 m4 d4, .slice b5 m5 d5, .slice b0 m0 d0] 35)) := ⟨_, Lib.hid rfl⟩
  have HT0 : Hid (TwS w.heap.size X1 X2 w W0) := Lib.hid (by rw [HW0.out, HX1.out, HX2.out]; exact TwS.new w _ _)
  go_enter Tryd.func7, Tryd.ntmps7
  go_upto_region 1 with fail
  rw [← HW0.out]
  clear HW0
  go_wp2_with fail
  refine (head9 W0).mono ?_
  rintro e w1 ⟨rfl, hb1⟩
  have HT1 := Lib.hid (HT0.out.next hb1)
  clear hb1 HT0
  have p0 := HT1.out.f.cell 0
  have p1 := HT1.out.f.cell 1
  have p2 := HT1.out.f.cell 2
  have p3 := HT1.out.f.cell 3
  have p4 := HT1.out.f.cell 4
  have p5 := HT1.out.f.cell 5
  have p6 := HT1.out.f.cell 6
  have p7 := HT1.out.f.cell 7
  have p8 := HT1.out.f.cell 8
  have p9 := HT1.out.f.cell 9
  simp only [HX1.out, List.getElem?_cons_succ, List.getElem?_cons_zero] at p0 p1 p2 p3 p4 p5 p6 p7 p8 p9
  go_wp2_with fail
  refine (few10 f _ w1 (HF.out.keep (Keeps.of_below HT1.out.below))).mono ?_
  rintro e w2 ⟨r1, rfl, _, hb2⟩
  have HT2 := Lib.hid (HT1.out.next hb2)
  clear hb2 HT1 p0 p1 p2 p3 p4 p5 p6 p7 p8 p9
  cases r1 with
  | false =>
    go_wp2
    go_ret
    exact ⟨rfl, HT2.out.below⟩
  | true =>
  have q0 := HT2.out.g.cell 0
  have q1 := HT2.out.g.cell 1
  have q2 := HT2.out.g.cell 2
  have q3 := HT2.out.g.cell 3
  have q4 := HT2.out.g.cell 4
  have q5 := HT2.out.g.cell 5
  have q6 := HT2.out.g.cell 6
  have q7 := HT2.out.g.cell 7
  have q8 := HT2.out.g.cell 8
  have q9 := HT2.out.g.cell 9
  simp only [HX2.out, List.getElem?_cons_succ, List.getElem?_cons_zero] at q0 q1 q2 q3 q4 q5 q6 q7 q8 q9
  go_wp2_with fail
  refine (few10 g _ w2 (HG.out.keep (Keeps.of_below HT2.out.below))).mono ?_
  rintro e w3 ⟨r2, rfl, _, hb3⟩
  have HT3 := Lib.hid (HT2.out.next hb3)
  clear hb3 HT2 q0 q1 q2 q3 q4 q5 q6 q7 q8 q9
  cases r2 with
  | false =>
    go_wp2
    go_ret
    exact ⟨rfl, HT3.out.below⟩
  | true =>
  have p0 := HT3.out.f.cell 0
  have p1 := HT3.out.f.cell 1
  have p2 := HT3.out.f.cell 2
  have p3 := HT3.out.f.cell 3
  have p4 := HT3.out.f.cell 4
  have p5 := HT3.out.f.cell 5
  have p6 := HT3.out.f.cell 6
  have p7 := HT3.out.f.cell 7
  have p8 := HT3.out.f.cell 8
  have p9 := HT3.out.f.cell 9
  simp only [HX1.out, List.getElem?_cons_succ, List.getElem?_cons_zero] at p0 p1 p2 p3 p4 p5 p6 p7 p8 p9
  go_wp2_with fail
  refine (encode13 f _ w3 (HF.out.keep (Keeps.of_below HT3.out.below)) (HTAB.out.below HT3.out.below) NF.out).mono ?_
  intro e w4 hv
  obtain ⟨S1, E1, rfl, he1, hb4⟩ := hv.two
  have HT4 := Lib.hid (HT3.out.next hb4)
  have HE1 := Lib.hid he1
  clear hv he1 hb4 HT3 p0 p1 p2 p3 p4 p5 p6 p7 p8 p9
  have q0 := HT4.out.g.cell 0
  have q1 := HT4.out.g.cell 1
  have q2 := HT4.out.g.cell 2
  have q3 := HT4.out.g.cell 3
  have q4 := HT4.out.g.cell 4
  have q5 := HT4.out.g.cell 5
  have q6 := HT4.out.g.cell 6
  have q7 := HT4.out.g.cell 7
  have q8 := HT4.out.g.cell 8
  have q9 := HT4.out.g.cell 9
  simp only [HX2.out, List.getElem?_cons_succ, List.getElem?_cons_zero] at q0 q1 q2 q3 q4 q5 q6 q7 q8 q9
  go_wp2_with fail
  refine (encode13 g _ w4 (HG.out.keep (Keeps.of_below HT4.out.below)) (HTAB.out.below HT4.out.below) NG.out).mono ?_
  intro e w5 hv
  obtain ⟨S2, E2, rfl, he2, hb5⟩ := hv.two
  have HT := Lib.hid (HT4.out.next hb5)
  have HE2 := Lib.hid he2
  clear hv he2 hb5 HT4 q0 q1 q2 q3 q4 q5 q6 q7 q8 q9
  rcases HE1.out with ⟨hr1, rfl, hs1⟩ | rfl
  rotate_left
  · clear HE1 HE2
    go_wp2
    go_ret
    exact ⟨rfl, HT.out.below⟩
  rcases HE2.out with ⟨hr2, rfl, hs2⟩ | rfl
  rotate_left
  · clear HE1 HE2 hr1 hs1
    go_wp2
    go_ret
    exact ⟨rfl, HT.out.below⟩
  obtain ⟨r, hr⟩ : ∃ r : Bool, (r = true ↔ f = g) := by
    by_cases h : f = g
    · exact ⟨true, by simp [h]⟩
    · exact ⟨false, by simp [h]⟩
  have z1 : S1.size = (flB f).length := by rw [hs1]; exact List.size_toArray
  have z2 : S2.size = (flB g).length := by rw [hs2]; exact List.size_toArray
  have y1 := fl_le hr1 NF.out
  have y2 := fl_le hr2 NG.out
  have heq := text_inj hr1 hr2 NF.out NG.out hr
  obtain ⟨n, hn⟩ : ∃ n, n = min (flB f).length (flB g).length := ⟨_, rfl⟩
  have hpre := pre_inj hr1 hr2 NF.out NG.out hr n hn
  rw [← hs1, ← hs2] at heq hpre
  have hn1 : (n : Int) ≤ (S1.size : Int) := by omega
  have hn2 : (n : Int) ≤ (S2.size : Int) := by omega
  have k1 : (S1.size : Int) ≤ 50000000000 := by omega
  have k2 : (S2.size : Int) ≤ 50000000000 := by omega
  have hmn : (if (S2.size : Int) < (S1.size : Int) then (S2.size : Int) else (S1.size : Int)) = (n : Int) := by split <;> omega
  have hmn' : (if S2.size < S1.size then (S2.size : Int) else (S1.size : Int)) = (n : Int) := by split <;> omega
  have hrr : (r == r) = true := by simp
  have HC : Hid (∀ z, TwS w.heap.size X1 X2 w z → Calls Tryd.prog 16 #[.agg #[.string f.fc.name, .string f.fc.sup, .slice a8 n8 c8, .slice a9 n9 c9, .slice a1 n1 c1, .slice a2 n2 c2, .slice a3 n3 c3, .slice a4 n4 c4, .slice a5 n5 c5, .slice a0 n0 c0], .agg #[.string g.fc.name, .string g.fc.sup, .slice b8 m8 d8, .slice b9 m9 d9, .slice b1 m1 d1, .slice b2 m2 d2, .slice b3 m3 d3, .slice b4 m4 d4, .slice b5 m5 d5, .slice b0 m0 d0]] z fun e w' => e = .returned (.bool r) ∧ TwS w.heap.size X1 X2 w w') := Lib.hid (fun z hz => (same16 f g _ _ z (HF.out.keep (Keeps.of_below hz.below)) (HG.out.keep (Keeps.of_below hz.below))).mono fun e w' ⟨r', he, hr', hb⟩ => ⟨by rw [he, show r' = r by rw [Bool.eq_iff_iff, hr', hr]], hz.next hb⟩)
  clear HE1 HE2 hr1 hr2 hs1 hs2 z1 z2 y1 y2 hr hn NF NG HTAB HF HG
  go_upto_region 10 with fail
  refine wp_region_held_drew (S := fun z => TwS w.heap.size X1 X2 w z) (by kernel_rfl) ?_ (fun hHeld => ?_)
  · exact HT.out.dr
  refine wpAnyH_take (i := 0) (v := ?_) rfl (by kernel_rfl) (by kernel_rfl) (by kernel_rfl) (fun _ _ _ h => h) (Or.inl ⟨by rfl, ?_⟩) (by assumption) ?_
  rotate_left
  focus (intro w hSw; have p0 := hSw.f.cell 0; have q0 := hSw.g.cell 0; have p1 := hSw.f.cell 1; have q1 := hSw.g.cell 1; have p2 := hSw.f.cell 2; have q2 := hSw.g.cell 2; have p3 := hSw.f.cell 3; have q3 := hSw.g.cell 3; have p4 := hSw.f.cell 4; have q4 := hSw.g.cell 4; have p5 := hSw.f.cell 5; have q5 := hSw.g.cell 5; have p6 := hSw.f.cell 6; have q6 := hSw.g.cell 6; have p7 := hSw.f.cell 7; have q7 := hSw.g.cell 7; have p8 := hSw.f.cell 8; have q8 := hSw.g.cell 8; have p9 := hSw.f.cell 9; have q9 := hSw.g.cell 9; simp only [HX1.out, HX2.out, List.getElem?_cons_zero, List.getElem?_cons_succ] at p0 p1 p2 p3 p4 p5 p6 p7 p8 p9 q0 q1 q2 q3 q4 q5 q6 q7 q8 q9; go_simp; first | done | with_reducible rfl)
  simp only [Act.put, List.getElem_toArray, List.getElem_cons_zero, List.setIfInBounds_toArray, List.set_cons_zero, List.set_cons_succ]
  refine wpAnyH_take (i := 1) (v := ?_) rfl (by kernel_rfl) (by kernel_rfl) (by kernel_rfl) (fun _ _ _ h => h) (Or.inl ⟨by rfl, ?_⟩) (by assumption) ?_
  rotate_left
  focus (intro w hSw; have p0 := hSw.f.cell 0; have q0 := hSw.g.cell 0; have p1 := hSw.f.cell 1; have q1 := hSw.g.cell 1; have p2 := hSw.f.cell 2; have q2 := hSw.g.cell 2; have p3 := hSw.f.cell 3; have q3 := hSw.g.cell 3; have p4 := hSw.f.cell 4; have q4 := hSw.g.cell 4; have p5 := hSw.f.cell 5; have q5 := hSw.g.cell 5; have p6 := hSw.f.cell 6; have q6 := hSw.g.cell 6; have p7 := hSw.f.cell 7; have q7 := hSw.g.cell 7; have p8 := hSw.f.cell 8; have q8 := hSw.g.cell 8; have p9 := hSw.f.cell 9; have q9 := hSw.g.cell 9; simp only [HX1.out, HX2.out, List.getElem?_cons_zero, List.getElem?_cons_succ] at p0 p1 p2 p3 p4 p5 p6 p7 p8 p9 q0 q1 q2 q3 q4 q5 q6 q7 q8 q9; go_simp; first | done | with_reducible rfl)
  simp only [Act.put, List.getElem_toArray, List.getElem_cons_zero, List.getElem_cons_succ, List.setIfInBounds_toArray, List.set_cons_zero, List.set_cons_succ]
  refine wpAnyH_take (i := 2) (v := ?_) rfl (by kernel_rfl) (by kernel_rfl) (by kernel_rfl) (fun _ _ _ h => h) (Or.inl ⟨by rfl, ?_⟩) (by assumption) ?_
  rotate_left
  focus (intro w hSw; have p0 := hSw.f.cell 0; have q0 := hSw.g.cell 0; have p1 := hSw.f.cell 1; have q1 := hSw.g.cell 1; have p2 := hSw.f.cell 2; have q2 := hSw.g.cell 2; have p3 := hSw.f.cell 3; have q3 := hSw.g.cell 3; have p4 := hSw.f.cell 4; have q4 := hSw.g.cell 4; have p5 := hSw.f.cell 5; have q5 := hSw.g.cell 5; have p6 := hSw.f.cell 6; have q6 := hSw.g.cell 6; have p7 := hSw.f.cell 7; have q7 := hSw.g.cell 7; have p8 := hSw.f.cell 8; have q8 := hSw.g.cell 8; have p9 := hSw.f.cell 9; have q9 := hSw.g.cell 9; simp only [HX1.out, HX2.out, List.getElem?_cons_zero, List.getElem?_cons_succ] at p0 p1 p2 p3 p4 p5 p6 p7 p8 p9 q0 q1 q2 q3 q4 q5 q6 q7 q8 q9; go_simp; first | done | with_reducible rfl)
  simp only [Act.put, List.getElem_toArray, List.getElem_cons_zero, List.getElem_cons_succ, List.setIfInBounds_toArray, List.set_cons_zero, List.set_cons_succ]
  refine wpAnyH_take (i := 3) (v := ?_) rfl (by kernel_rfl) (by kernel_rfl) (by kernel_rfl) (fun _ _ _ h => h) (Or.inl ⟨by rfl, ?_⟩) (by assumption) ?_
  rotate_left
  focus (intro w hSw; have p0 := hSw.f.cell 0; have q0 := hSw.g.cell 0; have p1 := hSw.f.cell 1; have q1 := hSw.g.cell 1; have p2 := hSw.f.cell 2; have q2 := hSw.g.cell 2; have p3 := hSw.f.cell 3; have q3 := hSw.g.cell 3; have p4 := hSw.f.cell 4; have q4 := hSw.g.cell 4; have p5 := hSw.f.cell 5; have q5 := hSw.g.cell 5; have p6 := hSw.f.cell 6; have q6 := hSw.g.cell 6; have p7 := hSw.f.cell 7; have q7 := hSw.g.cell 7; have p8 := hSw.f.cell 8; have q8 := hSw.g.cell 8; have p9 := hSw.f.cell 9; have q9 := hSw.g.cell 9; simp only [HX1.out, HX2.out, List.getElem?_cons_zero, List.getElem?_cons_succ] at p0 p1 p2 p3 p4 p5 p6 p7 p8 p9 q0 q1 q2 q3 q4 q5 q6 q7 q8 q9; go_simp; first | done | with_reducible rfl)
  simp only [Act.put, List.getElem_toArray, List.getElem_cons_zero, List.getElem_cons_succ, List.setIfInBounds_toArray, List.set_cons_zero, List.set_cons_succ]
  refine wpAnyH_take (i := 4) (v := ?_) rfl (by kernel_rfl) (by kernel_rfl) (by kernel_rfl) (fun _ _ _ h => h) (Or.inl ⟨by rfl, ?_⟩) (by assumption) ?_
  rotate_left
  focus (intro w hSw; have p0 := hSw.f.cell 0; have q0 := hSw.g.cell 0; have p1 := hSw.f.cell 1; have q1 := hSw.g.cell 1; have p2 := hSw.f.cell 2; have q2 := hSw.g.cell 2; have p3 := hSw.f.cell 3; have q3 := hSw.g.cell 3; have p4 := hSw.f.cell 4; have q4 := hSw.g.cell 4; have p5 := hSw.f.cell 5; have q5 := hSw.g.cell 5; have p6 := hSw.f.cell 6; have q6 := hSw.g.cell 6; have p7 := hSw.f.cell 7; have q7 := hSw.g.cell 7; have p8 := hSw.f.cell 8; have q8 := hSw.g.cell 8; have p9 := hSw.f.cell 9; have q9 := hSw.g.cell 9; simp only [HX1.out, HX2.out, List.getElem?_cons_zero, List.getElem?_cons_succ] at p0 p1 p2 p3 p4 p5 p6 p7 p8 p9 q0 q1 q2 q3 q4 q5 q6 q7 q8 q9; go_simp; first | done | with_reducible rfl)
  simp only [Act.put, List.getElem_toArray, List.getElem_cons_zero, List.getElem_cons_succ, List.setIfInBounds_toArray, List.set_cons_zero, List.set_cons_succ]
  refine wpAnyH_ready (rs := [5]) (by kernel_rfl) (by simp) ?_
  refine AllReadyH.cons (o := _) rfl (fun K hK => ?_) AllReadyH.nil
  go_simp
  with_reducible refine (HC.out _ hHeld).mono ?_
  rintro e z1 ⟨rfl, hz1⟩
  go_simp
  refine hK.out _ _ hz1 (fun hHeld => ?_)
  clear hK K
  try simp only [Act.put, List.getElem_toArray, List.getElem_cons_zero, List.getElem_cons_succ, List.setIfInBounds_toArray, List.set_cons_zero, List.set_cons_succ]
  refine wpAnyH_take (i := 6) (v := ?_) rfl (by kernel_rfl) (by kernel_rfl) (by kernel_rfl) (fun _ _ _ h => h) (Or.inl ⟨by rfl, ?_⟩) (by assumption) ?_
  rotate_left
  focus (intro w hSw; have p0 := hSw.f.cell 0; have q0 := hSw.g.cell 0; have p1 := hSw.f.cell 1; have q1 := hSw.g.cell 1; have p2 := hSw.f.cell 2; have q2 := hSw.g.cell 2; have p3 := hSw.f.cell 3; have q3 := hSw.g.cell 3; have p4 := hSw.f.cell 4; have q4 := hSw.g.cell 4; have p5 := hSw.f.cell 5; have q5 := hSw.g.cell 5; have p6 := hSw.f.cell 6; have q6 := hSw.g.cell 6; have p7 := hSw.f.cell 7; have q7 := hSw.g.cell 7; have p8 := hSw.f.cell 8; have q8 := hSw.g.cell 8; have p9 := hSw.f.cell 9; have q9 := hSw.g.cell 9; simp only [HX1.out, HX2.out, List.getElem?_cons_zero, List.getElem?_cons_succ] at p0 p1 p2 p3 p4 p5 p6 p7 p8 p9 q0 q1 q2 q3 q4 q5 q6 q7 q8 q9; go_simp; first | done | with_reducible rfl)
  simp only [Act.put, List.getElem_toArray, List.getElem_cons_zero, List.getElem_cons_succ, List.setIfInBounds_toArray, List.set_cons_zero, List.set_cons_succ]
  refine wpAnyH_take (i := 7) (v := ?_) rfl (by kernel_rfl) (by kernel_rfl) (by kernel_rfl) (fun _ _ _ h => h) (Or.inl ⟨by rfl, ?_⟩) (by assumption) ?_
  rotate_left
  focus (intro w hSw; have p0 := hSw.f.cell 0; have q0 := hSw.g.cell 0; have p1 := hSw.f.cell 1; have q1 := hSw.g.cell 1; have p2 := hSw.f.cell 2; have q2 := hSw.g.cell 2; have p3 := hSw.f.cell 3; have q3 := hSw.g.cell 3; have p4 := hSw.f.cell 4; have q4 := hSw.g.cell 4; have p5 := hSw.f.cell 5; have q5 := hSw.g.cell 5; have p6 := hSw.f.cell 6; have q6 := hSw.g.cell 6; have p7 := hSw.f.cell 7; have q7 := hSw.g.cell 7; have p8 := hSw.f.cell 8; have q8 := hSw.g.cell 8; have p9 := hSw.f.cell 9; have q9 := hSw.g.cell 9; simp only [HX1.out, HX2.out, List.getElem?_cons_zero, List.getElem?_cons_succ] at p0 p1 p2 p3 p4 p5 p6 p7 p8 p9 q0 q1 q2 q3 q4 q5 q6 q7 q8 q9; go_simp; first | done | with_reducible rfl)
  simp only [Act.put, List.getElem_toArray, List.getElem_cons_zero, List.getElem_cons_succ, List.setIfInBounds_toArray, List.set_cons_zero, List.set_cons_succ]
  refine wpAnyH_take (i := 8) (v := ?_) rfl (by kernel_rfl) (by kernel_rfl) (by kernel_rfl) (fun _ _ _ h => h) (Or.inl ⟨by rfl, ?_⟩) (by assumption) ?_
  rotate_left
  focus (intro w hSw; have p0 := hSw.f.cell 0; have q0 := hSw.g.cell 0; have p1 := hSw.f.cell 1; have q1 := hSw.g.cell 1; have p2 := hSw.f.cell 2; have q2 := hSw.g.cell 2; have p3 := hSw.f.cell 3; have q3 := hSw.g.cell 3; have p4 := hSw.f.cell 4; have q4 := hSw.g.cell 4; have p5 := hSw.f.cell 5; have q5 := hSw.g.cell 5; have p6 := hSw.f.cell 6; have q6 := hSw.g.cell 6; have p7 := hSw.f.cell 7; have q7 := hSw.g.cell 7; have p8 := hSw.f.cell 8; have q8 := hSw.g.cell 8; have p9 := hSw.f.cell 9; have q9 := hSw.g.cell 9; simp only [HX1.out, HX2.out, List.getElem?_cons_zero, List.getElem?_cons_succ] at p0 p1 p2 p3 p4 p5 p6 p7 p8 p9 q0 q1 q2 q3 q4 q5 q6 q7 q8 q9; go_simp; first | done | with_reducible rfl)
  simp only [Act.put, List.getElem_toArray, List.getElem_cons_zero, List.getElem_cons_succ, List.setIfInBounds_toArray, List.set_cons_zero, List.set_cons_succ]
  refine wpAnyH_take (i := 9) (v := ?_) rfl (by kernel_rfl) (by kernel_rfl) (by kernel_rfl) (fun _ _ _ h => h) (Or.inl ⟨by rfl, ?_⟩) (by assumption) ?_
  rotate_left
  focus (intro w hSw; have p0 := hSw.f.cell 0; have q0 := hSw.g.cell 0; have p1 := hSw.f.cell 1; have q1 := hSw.g.cell 1; have p2 := hSw.f.cell 2; have q2 := hSw.g.cell 2; have p3 := hSw.f.cell 3; have q3 := hSw.g.cell 3; have p4 := hSw.f.cell 4; have q4 := hSw.g.cell 4; have p5 := hSw.f.cell 5; have q5 := hSw.g.cell 5; have p6 := hSw.f.cell 6; have q6 := hSw.g.cell 6; have p7 := hSw.f.cell 7; have q7 := hSw.g.cell 7; have p8 := hSw.f.cell 8; have q8 := hSw.g.cell 8; have p9 := hSw.f.cell 9; have q9 := hSw.g.cell 9; simp only [HX1.out, HX2.out, List.getElem?_cons_zero, List.getElem?_cons_succ] at p0 p1 p2 p3 p4 p5 p6 p7 p8 p9 q0 q1 q2 q3 q4 q5 q6 q7 q8 q9; go_simp; first | done | with_reducible rfl)
  simp only [Act.put, List.getElem_toArray, List.getElem_cons_zero, List.getElem_cons_succ, List.setIfInBounds_toArray, List.set_cons_zero, List.set_cons_succ]
  refine wpAnyH_take (i := 10) (v := ?_) rfl (by kernel_rfl) (by kernel_rfl) (by kernel_rfl) (fun _ _ _ h => h) (Or.inl ⟨by rfl, ?_⟩) (by assumption) ?_
  rotate_left
  focus (intro w hSw; have p0 := hSw.f.cell 0; have q0 := hSw.g.cell 0; have p1 := hSw.f.cell 1; have q1 := hSw.g.cell 1; have p2 := hSw.f.cell 2; have q2 := hSw.g.cell 2; have p3 := hSw.f.cell 3; have q3 := hSw.g.cell 3; have p4 := hSw.f.cell 4; have q4 := hSw.g.cell 4; have p5 := hSw.f.cell 5; have q5 := hSw.g.cell 5; have p6 := hSw.f.cell 6; have q6 := hSw.g.cell 6; have p7 := hSw.f.cell 7; have q7 := hSw.g.cell 7; have p8 := hSw.f.cell 8; have q8 := hSw.g.cell 8; have p9 := hSw.f.cell 9; have q9 := hSw.g.cell 9; simp only [HX1.out, HX2.out, List.getElem?_cons_zero, List.getElem?_cons_succ] at p0 p1 p2 p3 p4 p5 p6 p7 p8 p9 q0 q1 q2 q3 q4 q5 q6 q7 q8 q9; go_simp; first | done | with_reducible rfl)
  simp only [Act.put, List.getElem_toArray, List.getElem_cons_zero, List.getElem_cons_succ, List.setIfInBounds_toArray, List.set_cons_zero, List.set_cons_succ]
  refine wpAnyH_take (i := 11) (v := ?_) rfl (by kernel_rfl) (by kernel_rfl) (by kernel_rfl) (fun _ _ _ h => h) (Or.inl ⟨by rfl, ?_⟩) (by assumption) ?_
  rotate_left
  focus (intro w hSw; have p0 := hSw.f.cell 0; have q0 := hSw.g.cell 0; have p1 := hSw.f.cell 1; have q1 := hSw.g.cell 1; have p2 := hSw.f.cell 2; have q2 := hSw.g.cell 2; have p3 := hSw.f.cell 3; have q3 := hSw.g.cell 3; have p4 := hSw.f.cell 4; have q4 := hSw.g.cell 4; have p5 := hSw.f.cell 5; have q5 := hSw.g.cell 5; have p6 := hSw.f.cell 6; have q6 := hSw.g.cell 6; have p7 := hSw.f.cell 7; have q7 := hSw.g.cell 7; have p8 := hSw.f.cell 8; have q8 := hSw.g.cell 8; have p9 := hSw.f.cell 9; have q9 := hSw.g.cell 9; simp only [HX1.out, HX2.out, List.getElem?_cons_zero, List.getElem?_cons_succ] at p0 p1 p2 p3 p4 p5 p6 p7 p8 p9 q0 q1 q2 q3 q4 q5 q6 q7 q8 q9; go_simp; first | done | with_reducible rfl)
  simp only [Act.put, List.getElem_toArray, List.getElem_cons_zero, List.getElem_cons_succ, List.setIfInBounds_toArray, List.set_cons_zero, List.set_cons_succ]
  refine wpAnyH_take (i := 12) (v := ?_) rfl (by kernel_rfl) (by kernel_rfl) (by kernel_rfl) (fun _ _ _ h => h) (Or.inl ⟨by rfl, ?_⟩) (by assumption) ?_
  rotate_left
  focus (intro w hSw; have p0 := hSw.f.cell 0; have q0 := hSw.g.cell 0; have p1 := hSw.f.cell 1; have q1 := hSw.g.cell 1; have p2 := hSw.f.cell 2; have q2 := hSw.g.cell 2; have p3 := hSw.f.cell 3; have q3 := hSw.g.cell 3; have p4 := hSw.f.cell 4; have q4 := hSw.g.cell 4; have p5 := hSw.f.cell 5; have q5 := hSw.g.cell 5; have p6 := hSw.f.cell 6; have q6 := hSw.g.cell 6; have p7 := hSw.f.cell 7; have q7 := hSw.g.cell 7; have p8 := hSw.f.cell 8; have q8 := hSw.g.cell 8; have p9 := hSw.f.cell 9; have q9 := hSw.g.cell 9; simp only [HX1.out, HX2.out, List.getElem?_cons_zero, List.getElem?_cons_succ] at p0 p1 p2 p3 p4 p5 p6 p7 p8 p9 q0 q1 q2 q3 q4 q5 q6 q7 q8 q9; go_simp; first | done | with_reducible rfl)
  simp only [Act.put, List.getElem_toArray, List.getElem_cons_zero, List.getElem_cons_succ, List.setIfInBounds_toArray, List.set_cons_zero, List.set_cons_succ]
  refine wpAnyH_take (i := 13) (v := ?_) rfl (by kernel_rfl) (by kernel_rfl) (by kernel_rfl) (fun _ _ _ h => h) (Or.inl ⟨by rfl, ?_⟩) (by assumption) ?_
  rotate_left
  focus (intro w hSw; have p0 := hSw.f.cell 0; have q0 := hSw.g.cell 0; have p1 := hSw.f.cell 1; have q1 := hSw.g.cell 1; have p2 := hSw.f.cell 2; have q2 := hSw.g.cell 2; have p3 := hSw.f.cell 3; have q3 := hSw.g.cell 3; have p4 := hSw.f.cell 4; have q4 := hSw.g.cell 4; have p5 := hSw.f.cell 5; have q5 := hSw.g.cell 5; have p6 := hSw.f.cell 6; have q6 := hSw.g.cell 6; have p7 := hSw.f.cell 7; have q7 := hSw.g.cell 7; have p8 := hSw.f.cell 8; have q8 := hSw.g.cell 8; have p9 := hSw.f.cell 9; have q9 := hSw.g.cell 9; simp only [HX1.out, HX2.out, List.getElem?_cons_zero, List.getElem?_cons_succ] at p0 p1 p2 p3 p4 p5 p6 p7 p8 p9 q0 q1 q2 q3 q4 q5 q6 q7 q8 q9; go_simp; first | done | with_reducible rfl)
  simp only [Act.put, List.getElem_toArray, List.getElem_cons_zero, List.getElem_cons_succ, List.setIfInBounds_toArray, List.set_cons_zero, List.set_cons_succ]
  refine wpAnyH_take (i := 14) (v := ?_) rfl (by kernel_rfl) (by kernel_rfl) (by kernel_rfl) (fun _ _ _ h => h) (Or.inl ⟨by rfl, ?_⟩) (by assumption) ?_
  rotate_left
  focus (intro w hSw; have p0 := hSw.f.cell 0; have q0 := hSw.g.cell 0; have p1 := hSw.f.cell 1; have q1 := hSw.g.cell 1; have p2 := hSw.f.cell 2; have q2 := hSw.g.cell 2; have p3 := hSw.f.cell 3; have q3 := hSw.g.cell 3; have p4 := hSw.f.cell 4; have q4 := hSw.g.cell 4; have p5 := hSw.f.cell 5; have q5 := hSw.g.cell 5; have p6 := hSw.f.cell 6; have q6 := hSw.g.cell 6; have p7 := hSw.f.cell 7; have q7 := hSw.g.cell 7; have p8 := hSw.f.cell 8; have q8 := hSw.g.cell 8; have p9 := hSw.f.cell 9; have q9 := hSw.g.cell 9; simp only [HX1.out, HX2.out, List.getElem?_cons_zero, List.getElem?_cons_succ] at p0 p1 p2 p3 p4 p5 p6 p7 p8 p9 q0 q1 q2 q3 q4 q5 q6 q7 q8 q9; go_simp; first | done | with_reducible rfl)
  simp only [Act.put, List.getElem_toArray, List.getElem_cons_zero, List.getElem_cons_succ, List.setIfInBounds_toArray, List.set_cons_zero, List.set_cons_succ]
  refine wpAnyH_take (i := 15) (v := ?_) rfl (by kernel_rfl) (by kernel_rfl) (by kernel_rfl) (fun _ _ _ h => h) (Or.inl ⟨by rfl, ?_⟩) (by assumption) ?_
  rotate_left
  focus (intro w hSw; have p0 := hSw.f.cell 0; have q0 := hSw.g.cell 0; have p1 := hSw.f.cell 1; have q1 := hSw.g.cell 1; have p2 := hSw.f.cell 2; have q2 := hSw.g.cell 2; have p3 := hSw.f.cell 3; have q3 := hSw.g.cell 3; have p4 := hSw.f.cell 4; have q4 := hSw.g.cell 4; have p5 := hSw.f.cell 5; have q5 := hSw.g.cell 5; have p6 := hSw.f.cell 6; have q6 := hSw.g.cell 6; have p7 := hSw.f.cell 7; have q7 := hSw.g.cell 7; have p8 := hSw.f.cell 8; have q8 := hSw.g.cell 8; have p9 := hSw.f.cell 9; have q9 := hSw.g.cell 9; simp only [HX1.out, HX2.out, List.getElem?_cons_zero, List.getElem?_cons_succ] at p0 p1 p2 p3 p4 p5 p6 p7 p8 p9 q0 q1 q2 q3 q4 q5 q6 q7 q8 q9; go_simp; first | done | with_reducible rfl)
  simp only [Act.put, List.getElem_toArray, List.getElem_cons_zero, List.getElem_cons_succ, List.setIfInBounds_toArray, List.set_cons_zero, List.set_cons_succ]
  refine wpAnyH_take (i := 16) (v := ?_) rfl (by kernel_rfl) (by kernel_rfl) (by kernel_rfl) (fun _ _ _ h => h) (Or.inl ⟨by rfl, ?_⟩) (by assumption) ?_
  rotate_left
  focus (intro w hSw; have p0 := hSw.f.cell 0; have q0 := hSw.g.cell 0; have p1 := hSw.f.cell 1; have q1 := hSw.g.cell 1; have p2 := hSw.f.cell 2; have q2 := hSw.g.cell 2; have p3 := hSw.f.cell 3; have q3 := hSw.g.cell 3; have p4 := hSw.f.cell 4; have q4 := hSw.g.cell 4; have p5 := hSw.f.cell 5; have q5 := hSw.g.cell 5; have p6 := hSw.f.cell 6; have q6 := hSw.g.cell 6; have p7 := hSw.f.cell 7; have q7 := hSw.g.cell 7; have p8 := hSw.f.cell 8; have q8 := hSw.g.cell 8; have p9 := hSw.f.cell 9; have q9 := hSw.g.cell 9; simp only [HX1.out, HX2.out, List.getElem?_cons_zero, List.getElem?_cons_succ] at p0 p1 p2 p3 p4 p5 p6 p7 p8 p9 q0 q1 q2 q3 q4 q5 q6 q7 q8 q9; go_simp; first | done | with_reducible rfl)
  simp only [Act.put, List.getElem_toArray, List.getElem_cons_zero, List.getElem_cons_succ, List.setIfInBounds_toArray, List.set_cons_zero, List.set_cons_succ]
  refine wpAnyH_ready (rs := [17]) (by kernel_rfl) (by simp) ?_
  refine AllReadyH.cons (o := _) rfl (fun K hK => ?_) AllReadyH.nil
  go_simp
  with_reducible refine (HC.out _ hHeld).mono ?_
  rintro e z2 ⟨rfl, hz2⟩
  go_simp
  refine hK.out _ _ hz2 (fun hHeld => ?_)
  clear hK K
  try simp only [Act.put, List.getElem_toArray, List.getElem_cons_zero, List.getElem_cons_succ, List.setIfInBounds_toArray, List.set_cons_zero, List.set_cons_succ]
  refine wpAnyH_take (i := 18) (v := ?_) rfl (by kernel_rfl) (by kernel_rfl) (by kernel_rfl) (fun _ _ _ h => h) (Or.inl ⟨by rfl, ?_⟩) (by assumption) ?_
  rotate_left
  focus (intro w hSw; have p0 := hSw.f.cell 0; have q0 := hSw.g.cell 0; have p1 := hSw.f.cell 1; have q1 := hSw.g.cell 1; have p2 := hSw.f.cell 2; have q2 := hSw.g.cell 2; have p3 := hSw.f.cell 3; have q3 := hSw.g.cell 3; have p4 := hSw.f.cell 4; have q4 := hSw.g.cell 4; have p5 := hSw.f.cell 5; have q5 := hSw.g.cell 5; have p6 := hSw.f.cell 6; have q6 := hSw.g.cell 6; have p7 := hSw.f.cell 7; have q7 := hSw.g.cell 7; have p8 := hSw.f.cell 8; have q8 := hSw.g.cell 8; have p9 := hSw.f.cell 9; have q9 := hSw.g.cell 9; simp only [HX1.out, HX2.out, List.getElem?_cons_zero, List.getElem?_cons_succ] at p0 p1 p2 p3 p4 p5 p6 p7 p8 p9 q0 q1 q2 q3 q4 q5 q6 q7 q8 q9; go_simp; first | done | with_reducible rfl)
  simp only [Act.put, List.getElem_toArray, List.getElem_cons_zero, List.getElem_cons_succ, List.setIfInBounds_toArray, List.set_cons_zero, List.set_cons_succ]
  refine wpAnyH_take (i := 19) (v := ?_) rfl (by kernel_rfl) (by kernel_rfl) (by kernel_rfl) (fun _ _ _ h => h) (Or.inl ⟨by rfl, ?_⟩) (by assumption) ?_
  rotate_left
  focus (intro w hSw; have p0 := hSw.f.cell 0; have q0 := hSw.g.cell 0; have p1 := hSw.f.cell 1; have q1 := hSw.g.cell 1; have p2 := hSw.f.cell 2; have q2 := hSw.g.cell 2; have p3 := hSw.f.cell 3; have q3 := hSw.g.cell 3; have p4 := hSw.f.cell 4; have q4 := hSw.g.cell 4; have p5 := hSw.f.cell 5; have q5 := hSw.g.cell 5; have p6 := hSw.f.cell 6; have q6 := hSw.g.cell 6; have p7 := hSw.f.cell 7; have q7 := hSw.g.cell 7; have p8 := hSw.f.cell 8; have q8 := hSw.g.cell 8; have p9 := hSw.f.cell 9; have q9 := hSw.g.cell 9; simp only [HX1.out, HX2.out, List.getElem?_cons_zero, List.getElem?_cons_succ] at p0 p1 p2 p3 p4 p5 p6 p7 p8 p9 q0 q1 q2 q3 q4 q5 q6 q7 q8 q9; go_simp; first | done | with_reducible rfl)
  simp only [Act.put, List.getElem_toArray, List.getElem_cons_zero, List.getElem_cons_succ, List.setIfInBounds_toArray, List.set_cons_zero, List.set_cons_succ]
  refine wpAnyH_take (i := 20) (v := ?_) rfl (by kernel_rfl) (by kernel_rfl) (by kernel_rfl) (fun _ _ _ h => h) (Or.inl ⟨by rfl, ?_⟩) (by assumption) ?_
  rotate_left
  focus (intro w hSw; have p0 := hSw.f.cell 0; have q0 := hSw.g.cell 0; have p1 := hSw.f.cell 1; have q1 := hSw.g.cell 1; have p2 := hSw.f.cell 2; have q2 := hSw.g.cell 2; have p3 := hSw.f.cell 3; have q3 := hSw.g.cell 3; have p4 := hSw.f.cell 4; have q4 := hSw.g.cell 4; have p5 := hSw.f.cell 5; have q5 := hSw.g.cell 5; have p6 := hSw.f.cell 6; have q6 := hSw.g.cell 6; have p7 := hSw.f.cell 7; have q7 := hSw.g.cell 7; have p8 := hSw.f.cell 8; have q8 := hSw.g.cell 8; have p9 := hSw.f.cell 9; have q9 := hSw.g.cell 9; simp only [HX1.out, HX2.out, List.getElem?_cons_zero, List.getElem?_cons_succ] at p0 p1 p2 p3 p4 p5 p6 p7 p8 p9 q0 q1 q2 q3 q4 q5 q6 q7 q8 q9; go_simp; first | done | with_reducible rfl)
  simp only [Act.put, List.getElem_toArray, List.getElem_cons_zero, List.getElem_cons_succ, List.setIfInBounds_toArray, List.set_cons_zero, List.set_cons_succ]
  refine wpAnyH_done (by kernel_rfl) ?_ _
  go_wp2
  go_ret
  exact ⟨rfl, hHeld.below⟩
end Go.Proofs.YtomlbfkkhhhfkaaDoor.Fc
