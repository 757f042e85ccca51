/-
  Right by the page is right; bytes that are cut off, or more: plain facts.
  ClassBytes: the walk.
-/
import Derived.Test.YtomlbfkkhhhfkaaDoorUNP
import Derived.Test.YtomlbfkkhhhfkaaDoorCsFew2
import Derived.Test.YtomlbfkkhhhfkaaDoorR12
import Derived.Test.YtomlbfkkhhhfkaaDoorCsLay15
import Derived.Test.YtomlbfkkhhhfkaaDoorCsSame
namespace Go.Proofs.YtomlbfkkhhhfkaaDoor.Fc
set_option linter.unusedVariables false

theorem mask_and (n : Int) (j m : Nat) (hj : j ≤ 16) (hm : (BitVec.ofInt 64 m).toNat = 2 ^ j - 1) : ∃ q : Nat, q < 2 ^ j ∧ bits .and .i64 n m = (q : Int) := by
  have key : (BitVec.ofInt 64 n &&& BitVec.ofInt 64 m).toNat = (n % ((2 ^ 64 : Nat) : Int)).toNat % 2 ^ j := by
    rw [BitVec.toNat_and, BitVec.toNat_ofInt, hm, Nat.and_two_pow_sub_one_eq_mod]
  have h2 : 2 ^ j ≤ 2 ^ 16 := Nat.pow_le_pow_right (by omega) hj
  have h3 : (n % ((2 ^ 64 : Nat) : Int)).toNat % 2 ^ j < 2 ^ j := Nat.mod_lt _ (Nat.pow_pos (by omega))
  refine ⟨(n % ((2 ^ 64 : Nat) : Int)).toNat % 2 ^ j, h3, ?_⟩
  show IntKind.i64.wrap ((BitVec.ofInt 64 n &&& BitVec.ofInt 64 m).toNat : Nat) = _
  rw [key, IntKind.wrap_i64]
  omega
theorem class_iff (x : ByteArray) : RightP ⟨x, ⟨#[]⟩, [], []⟩ ↔ classB x = true :=
  ⟨fun h => h.name, fun h => ⟨h, .inl rfl, Nat.zero_le _, Nat.zero_le _, fun k y hk => by simp at hk, fun k y hk => by simp at hk⟩⟩
theorem fd_iff (x : Fd) : RightP ⟨x.2, ⟨#[]⟩, [x.1], []⟩ ↔ FdS x := by
  constructor
  · intro h
    obtain ⟨a, b, c⟩ := h.fs 0 x.1 rfl
    exact ⟨h.name, ltS_pos a, b, c⟩
  · rintro ⟨a, b, c, d⟩
    refine ⟨a, .inl rfl, by show 1 ≤ 200; omega, Nat.zero_le _, fun k y hk => ?_, fun k y hk => by simp at hk⟩
    match k, hk with
    | 0, hk =>
      simp at hk; subst hk
      exact ⟨ltS_nil b, c, d⟩
    | k + 1, hk => simp at hk
theorem mt_iff (x : Mt) : RightP ⟨x.2, ⟨#[]⟩, [], [x.1]⟩ ↔ MtS x := by
  constructor
  · intro h
    exact ⟨h.name, ⟨by show classB ⟨#[65]⟩ = true; unfold classB greatB; decide +kernel, .inl rfl, Nat.zero_le _, by show 1 ≤ 200; omega, fun k y hk => by simp at hk, h.ms⟩⟩
  · rintro ⟨a, h⟩
    exact ⟨a, .inl rfl, Nat.zero_le _, by show 1 ≤ 200; omega, fun k y hk => by simp at hk, h.ms⟩
theorem right_iff {f : Fl} (h : FewF f) : RightS f ↔ RightF f := by
  constructor
  · intro r
    exact ⟨r.fc, ⟨by have := h.nu; omega, ⟨by have := h.cl; omega, fun x hx => (class_iff x).2 (r.cl x hx)⟩, ⟨by have := h.ty; omega, r.ty⟩, ⟨by have := h.fd; omega, fun x hx => (fd_iff x).2 (r.fd x hx)⟩, ⟨by have := h.mt; omega, fun x hx => (mt_iff x).2 (r.mt x hx)⟩⟩, r.ln, r.bd⟩
  · intro r
    obtain ⟨_, ⟨_, b⟩, ⟨_, c⟩, ⟨_, d⟩, ⟨_, e⟩⟩ := r.po
    exact ⟨r.fc, r.ln, fun x hx => (class_iff x).1 (b x hx), c, fun x hx => (fd_iff x).1 (d x hx), fun x hx => (mt_iff x).1 (e x hx), r.bd⟩
theorem right_ints {f : Fl} (h : RightF f) : ∀ b ∈ f.bd, OkI b.lo ∧ OkI b.st ∧ ∀ x ∈ b.co, OkI x.1 ∧ OkI x.2 := by
  intro b hb
  obtain ⟨⟨h1, h2⟩, ⟨h3, h4⟩, _, h5⟩ := right_bd h b hb
  refine ⟨⟨by omega, by omega⟩, ⟨by omega, by omega⟩, fun x hx => ?_⟩
  obtain ⟨g1, g2, g3⟩ := h5 x hx
  refine ⟨⟨by omega, by omega⟩, ?_⟩
  split at g3
  · exact ⟨by omega, by omega⟩
  · exact ⟨by omega, by omega⟩
theorem dec_cut {f : Fl} (h : RightF f) (hn : ∀ z ∈ f.nu, OkI z) {m : Nat} (hm : m < (flB f).length) : ¬ DecOk ((flB f).take m) := by
  rintro ⟨h1, h2⟩
  have h3 := (fl_inj h h1 hn (rdfl_ok _) (r := []) (r' := (flB f).drop m) (by rw [List.append_nil, h2, List.take_append_drop])).2
  have h4 := congrArg List.length h3
  simp only [List.length_nil, List.length_drop] at h4
  omega
theorem dec_more {f : Fl} (h : RightF f) (hn : ∀ z ∈ f.nu, OkI z) : ¬ DecOk (flB f ++ [0]) := by
  rintro ⟨h1, h2⟩
  have h3 := (fl_inj h h1 hn (rdfl_ok _) (r := [0]) (r' := []) (by rw [List.append_nil, h2])).2
  cases h3
theorem flB_pos (f : Fl) : 0 < (flB f).length := by
  have := sB_pos f.fc.name
  unfold flB fcB
  simp only [List.length_append]
  omega
theorem decode14s (s : ByteArray) (w : World) (hs : s.size ≤ 140737488355328) (hT : TabR w) : Calls Tryd.prog 14 #[.string s] w (DecV (bl s) w) := by
  have h := decode14 (bl s) w (by rw [bl_len]; exact hs) hT
  have e : (⟨(bl s).toArray⟩ : ByteArray) = s := by cases s; simp [bl]
  rwa [e] at h
end Go.Proofs.YtomlbfkkhhhfkaaDoor.Fc
namespace Go.Proofs.YtomlbfkkhhhfkaaDoor.Fc
open Go.RowKit
set_option linter.unusedVariables false
set_option linter.unusedSimpArgs false

set_option maxHeartbeats 8000000 in
set_option maxRecDepth 100000 in
theorem bytes3 (f : Fl) (cs : List Value) (cut : Int) (w : World) (hf : FlR w f cs) (hT : TabR w) (hnu : ∀ z ∈ f.nu, OkI z) :
    Calls Tryd.prog 3 #[.agg cs.toArray, .int .i64 cut] w fun e w' => e = .returned (.bool true) ∧ Below w.heap.size w w' := by
  have HF := Lib.hid hf
  have HT := Lib.hid hT
  have HNU := Lib.hid hnu
  obtain ⟨a8, n8, c8, a9, n9, c9, a1, n1, c1, a2, n2, c2, a3, n3, c3, a4, n4, c4, a5, n5, c5, a0, n0, c0, rfl, _, _, _⟩ := hf
  clear hT hnu
  obtain ⟨R, HRB⟩ : ∃ R : Bool, Hid (R = true ↔ RightF f) := by
    by_cases h : RightF f
    · exact ⟨true, Lib.hid (by simp [h])⟩
    · exact ⟨false, Lib.hid (by simp [h])⟩
  have HRE : Hid (∀ r : Bool, (r = true ↔ RightF f) → r = R) := Lib.hid (fun r h => by rw [Bool.eq_iff_iff, h, HRB.out])
  have H11 : Hid (∀ z, Below w.heap.size w z → Calls Tryd.prog 11 #[.agg #[.string f.fc.name, .string f.fc.sup, .slice a8 n8 c8, .slice a9 n9 c9, .slice a1 n1 c1, .slice a2 n2 c2, .slice a3 n3 c3, .slice a4 n4 c4, .slice a5 n5 c5, .slice a0 n0 c0]] z fun e z' => e = .returned (.bool R) ∧ Below z.heap.size z z') := Lib.hid (fun z hz => (right11 f _ z (HF.out.keep (Keeps.of_below hz)) (HT.out.below hz)).mono (by rintro e z' ⟨r, rfl, hr, hb⟩; exact ⟨by rw [HRE.out _ hr], hb⟩))
  obtain ⟨F, HFE⟩ : ∃ b, Hid (b = w.heap.size) := ⟨_, Lib.hid rfl⟩
  obtain ⟨W0, HW0⟩ : ∃ W, Hid (W = w.alloc (.cells #[.string f.fc.name, .string f.fc.sup, .slice a8 n8 c8, .slice a9 n9 c9, .slice a1 n1 c1, .slice a2 n2 c2, .slice a3 n3 c3, .slice a4 n4 c4, .slice a5 n5 c5, .slice a0 n0 c0] 35)) := ⟨_, Lib.hid rfl⟩
  have F0 : Hid (Blk W0 F [.string f.fc.name, .string f.fc.sup, .slice a8 n8 c8, .slice a9 n9 c9, .slice a1 n1 c1, .slice a2 n2 c2, .slice a3 n3 c3, .slice a4 n4 c4, .slice a5 n5 c5, .slice a0 n0 c0] 35) := Lib.hid (by rw [HW0.out, HFE.out]; exact Blk.new w _ 35)
  have HB0 : Hid (Below w.heap.size w W0) := Lib.hid (by rw [HW0.out]; exact below1 w _)
  go_enter Tryd.func3, Tryd.ntmps3
  go_upto_region 1 with fail
  try dsimp only [List.append]
  rw [← HW0.out, ← HFE.out]
  clear HW0
  go_wp2_with fail
  refine (head9 W0).mono ?_
  rintro e w1 ⟨rfl, hb1⟩
  have HB1 : Hid (Below w.heap.size w w1) := Lib.hid (HB0.out.trans (hb1.mono HB0.out.size))
  have F1 := Lib.hid (F0.out.below hb1)
  clear hb1 F0 HB0
  have p0 := F1.out.cell 0
  have p1 := F1.out.cell 1
  have p2 := F1.out.cell 2
  have p3 := F1.out.cell 3
  have p4 := F1.out.cell 4
  have p5 := F1.out.cell 5
  have p6 := F1.out.cell 6
  have p7 := F1.out.cell 7
  have p8 := F1.out.cell 8
  have p9 := F1.out.cell 9
  simp only [List.getElem?_cons_succ, List.getElem?_cons_zero] at p0 p1 p2 p3 p4 p5 p6 p7 p8 p9
  have HFW := Lib.hid (few10m f _ w1 (HF.out.keep (Keeps.of_below HB1.out)))
  go_wp2_with fail
  refine HFW.out.mono ?_
  rintro e w2 ⟨r, rfl, hr, hb2⟩
  have HB2 : Hid (Below w.heap.size w w2) := Lib.hid (HB1.out.trans (hb2.mono HB1.out.size))
  have F2 := Lib.hid (F1.out.below hb2)
  have HR := Lib.hid hr
  clear hb2 hr HFW F1 HB1 p0 p1 p2 p3 p4 p5 p6 p7 p8 p9
  cases r with
  | false =>
    go_wp2
    go_ret
    exact ⟨rfl, HB2.out⟩
  | true =>
  have HSI := Lib.hid (right_iff (HR.out (by simp)))
  have H12 : Hid (∀ z, Below w.heap.size w z → Calls Tryd.prog 12 #[.agg #[.string f.fc.name, .string f.fc.sup, .slice a8 n8 c8, .slice a9 n9 c9, .slice a1 n1 c1, .slice a2 n2 c2, .slice a3 n3 c3, .slice a4 n4 c4, .slice a5 n5 c5, .slice a0 n0 c0]] z fun e z' => e = .returned (.bool R) ∧ Below z.heap.size z z') := Lib.hid (fun z hz => (right12 f _ z (HF.out.keep (Keeps.of_below hz)) (HT.out.below hz)).mono (by rintro e z' ⟨r, rfl, hr, hb⟩; exact ⟨by rw [HRE.out _ (hr.trans HSI.out)], hb⟩))
  clear HR HRE
  go_upto_region 5 with fail
  refine wp_region_chain (by kernel_rfl) (fun k => match k with | 0 => [] | 1 => [0] | 2 => [] | 3 => [1, 2] | 4 => [1, 3] | _ => []) [18, 19, 20, 21, 22] (by kernel_rfl) ?hpre (by kernel_rfl) (by decide) (by intro d hd; have h : d < 84 := (show ∀ d ∈ [18, 19, 20, 21, 22], d < 84 by decide) d hd; exact h) [(2, .pointer (some ⟨F, 0, none⟩))] ?hbase (fun l T z => Blk z F [.string f.fc.name, .string f.fc.sup, .slice a8 n8 c8, .slice a9 n9 c9, .slice a1 n1 c1, .slice a2 n2 c2, .slice a3 n3 c3, .slice a4 n4 c4, .slice a5 n5 c5, .slice a0 n0 c0] 35 ∧ Below w.heap.size w z ∧ (l 0 = true → T 0 = .agg #[.string f.fc.name, .string f.fc.sup, .slice a8 n8 c8, .slice a9 n9 c9, .slice a1 n1 c1, .slice a2 n2 c2, .slice a3 n3 c3, .slice a4 n4 c4, .slice a5 n5 c5, .slice a0 n0 c0]) ∧ (l 1 = true → T 1 = .bool R) ∧ (l 2 = true → T 2 = .agg #[.string f.fc.name, .string f.fc.sup, .slice a8 n8 c8, .slice a9 n9 c9, .slice a1 n1 c1, .slice a2 n2 c2, .slice a3 n3 c3, .slice a4 n4 c4, .slice a5 n5 c5, .slice a0 n0 c0]) ∧ (l 3 = true → T 3 = .bool R) ∧ (l 4 = true → T 4 = .bool false)) ?h0 ?step (by kernel_rfl) ?fin
  case hpre =>
    intro i j hj
    show j < 5
    match i, hj with
    | 0, hj => cases hj
    | 1, hj => simp at hj; omega
    | 2, hj => cases hj
    | 3, hj => simp at hj; omega
    | 4, hj => simp at hj; omega
    | i + 5, hj => cases hj
  case hbase =>
    intro q hq
    simp only [List.mem_cons, List.not_mem_nil, or_false] at hq
    subst hq
    exact ⟨rfl, by simp⟩
  case h0 => exact fun T => ⟨F2.out, HB2.out.drew, fun h => (by cases h), fun h => (by cases h), fun h => (by cases h), fun h => (by cases h), fun h => (by cases h)⟩
  case step =>
    rintro l T z ⟨hB, hBel, h0, h1, h2, h3, h4⟩ i o hi ho hl hpr A hA hB2 K' hK
    have hi' : i < 5 := hi
    rcases (show i = 0 ∨ i = 1 ∨ i = 2 ∨ i = 3 ∨ i = 4 by omega) with rfl | rfl | rfl | rfl | rfl
    · obtain rfl := Option.some.inj (show some _ = some o from ho)
      dsimp only [List.getElem_toArray, List.getElem_cons_zero, List.getElem_cons_succ] at hK ⊢
      have b2 : A.tmps.getD 2 undef = .pointer (some ⟨F, 0, none⟩) := hB2 (2, .pointer (some ⟨F, 0, none⟩)) (by simp)
      have p0 := hB.cell 0
      have p1 := hB.cell 1
      have p2 := hB.cell 2
      have p3 := hB.cell 3
      have p4 := hB.cell 4
      have p5 := hB.cell 5
      have p6 := hB.cell 6
      have p7 := hB.cell 7
      have p8 := hB.cell 8
      have p9 := hB.cell 9
      simp only [List.getElem?_cons_succ, List.getElem?_cons_zero] at p0 p1 p2 p3 p4 p5 p6 p7 p8 p9
      clear hA hB2
      go_simp
      exact hK _ _ ⟨hB, hBel, (fun _ => by simp [upT]), (fun h => by simpa [upT] using h1 (by simpa [upT] using h)), (fun h => by simpa [upT] using h2 (by simpa [upT] using h)), (fun h => by simpa [upT] using h3 (by simpa [upT] using h)), (fun h => by simpa [upT] using h4 (by simpa [upT] using h))⟩
    · obtain rfl := Option.some.inj (show some _ = some o from ho)
      dsimp only [List.getElem_toArray, List.getElem_cons_zero, List.getElem_cons_succ] at hK ⊢
      have g0 : A.tmps.getD 18 undef = .agg #[.string f.fc.name, .string f.fc.sup, .slice a8 n8 c8, .slice a9 n9 c9, .slice a1 n1 c1, .slice a2 n2 c2, .slice a3 n3 c3, .slice a4 n4 c4, .slice a5 n5 c5, .slice a0 n0 c0] := (hA 0 18 rfl).trans (h0 (hpr 0 (by decide)))
      have e0 : A.tmps[18]?.getD undef = _ := (Array.getD_eq_getD_getElem? ..).symm.trans g0
      clear hA hB2
      go_simp
      refine (H11.out z hBel).mono ?_
      rintro e z' ⟨rfl, hb⟩
      go_simp
      exact hK _ _ ⟨hB.below hb, hBel.trans (hb.mono hBel.size), (fun h => by simpa [upT] using h0 (by simpa [upT] using h)), (fun _ => by simp [upT]), (fun h => by simpa [upT] using h2 (by simpa [upT] using h)), (fun h => by simpa [upT] using h3 (by simpa [upT] using h)), (fun h => by simpa [upT] using h4 (by simpa [upT] using h))⟩
    · obtain rfl := Option.some.inj (show some _ = some o from ho)
      dsimp only [List.getElem_toArray, List.getElem_cons_zero, List.getElem_cons_succ] at hK ⊢
      have b2 : A.tmps.getD 2 undef = .pointer (some ⟨F, 0, none⟩) := hB2 (2, .pointer (some ⟨F, 0, none⟩)) (by simp)
      have p0 := hB.cell 0
      have p1 := hB.cell 1
      have p2 := hB.cell 2
      have p3 := hB.cell 3
      have p4 := hB.cell 4
      have p5 := hB.cell 5
      have p6 := hB.cell 6
      have p7 := hB.cell 7
      have p8 := hB.cell 8
      have p9 := hB.cell 9
      simp only [List.getElem?_cons_succ, List.getElem?_cons_zero] at p0 p1 p2 p3 p4 p5 p6 p7 p8 p9
      clear hA hB2
      go_simp
      exact hK _ _ ⟨hB, hBel, (fun h => by simpa [upT] using h0 (by simpa [upT] using h)), (fun h => by simpa [upT] using h1 (by simpa [upT] using h)), (fun _ => by simp [upT]), (fun h => by simpa [upT] using h3 (by simpa [upT] using h)), (fun h => by simpa [upT] using h4 (by simpa [upT] using h))⟩
    · obtain rfl := Option.some.inj (show some _ = some o from ho)
      dsimp only [List.getElem_toArray, List.getElem_cons_zero, List.getElem_cons_succ] at hK ⊢
      have g1 : A.tmps.getD 19 undef = .bool R := (hA 1 19 rfl).trans (h1 (hpr 1 (by decide)))
      have e1 : A.tmps[19]?.getD undef = _ := (Array.getD_eq_getD_getElem? ..).symm.trans g1
      have g2 : A.tmps.getD 20 undef = .agg #[.string f.fc.name, .string f.fc.sup, .slice a8 n8 c8, .slice a9 n9 c9, .slice a1 n1 c1, .slice a2 n2 c2, .slice a3 n3 c3, .slice a4 n4 c4, .slice a5 n5 c5, .slice a0 n0 c0] := (hA 2 20 rfl).trans (h2 (hpr 2 (by decide)))
      have e2 : A.tmps[20]?.getD undef = _ := (Array.getD_eq_getD_getElem? ..).symm.trans g2
      clear hA hB2
      go_simp
      refine (H12.out z hBel).mono ?_
      rintro e z' ⟨rfl, hb⟩
      go_simp
      exact hK _ _ ⟨hB.below hb, hBel.trans (hb.mono hBel.size), (fun h => by simpa [upT] using h0 (by simpa [upT] using h)), (fun h => by simpa [upT] using h1 (by simpa [upT] using h)), (fun h => by simpa [upT] using h2 (by simpa [upT] using h)), (fun _ => by simp [upT]), (fun h => by simpa [upT] using h4 (by simpa [upT] using h))⟩
    · obtain rfl := Option.some.inj (show some _ = some o from ho)
      dsimp only [List.getElem_toArray, List.getElem_cons_zero, List.getElem_cons_succ] at hK ⊢
      have g1 : A.tmps.getD 19 undef = .bool R := (hA 1 19 rfl).trans (h1 (hpr 1 (by decide)))
      have e1 : A.tmps[19]?.getD undef = _ := (Array.getD_eq_getD_getElem? ..).symm.trans g1
      have g3 : A.tmps.getD 21 undef = .bool R := (hA 3 21 rfl).trans (h3 (hpr 3 (by decide)))
      have e3 : A.tmps[21]?.getD undef = _ := (Array.getD_eq_getD_getElem? ..).symm.trans g3
      clear hA hB2
      go_simp
      exact hK _ _ ⟨hB, hBel, (fun h => by simpa [upT] using h0 (by simpa [upT] using h)), (fun h => by simpa [upT] using h1 (by simpa [upT] using h)), (fun h => by simpa [upT] using h2 (by simpa [upT] using h)), (fun h => by simpa [upT] using h3 (by simpa [upT] using h)), (fun _ => by simp [upT])⟩
  case fin =>
    rintro l T z ⟨hB, hBel, _, _, _, _, h4⟩ hall
    have hT4 : T 4 = .bool false := h4 (hall 4 (by show 4 < 5; omega))
    have F3 := Lib.hid hB
    have HB3 := Lib.hid hBel
    clear hB hBel h4 hall F2 HB2
    simp only [actA, setAll, List.setIfInBounds_toArray, List.set_cons_zero, List.set_cons_succ, Nat.zero_add, Nat.reduceAdd]
    rw [hT4]
    clear hT4
    have p0 := F3.out.cell 0
    have p1 := F3.out.cell 1
    have p2 := F3.out.cell 2
    have p3 := F3.out.cell 3
    have p4 := F3.out.cell 4
    have p5 := F3.out.cell 5
    have p6 := F3.out.cell 6
    have p7 := F3.out.cell 7
    have p8 := F3.out.cell 8
    have p9 := F3.out.cell 9
    simp only [List.getElem?_cons_succ, List.getElem?_cons_zero] at p0 p1 p2 p3 p4 p5 p6 p7 p8 p9
    have HE := Lib.hid (encode13 f _ z (HF.out.keep (Keeps.of_below HB3.out)) (HT.out.below HB3.out) HNU.out)
    go_wp2_with fail
    refine HE.out.mono ?_
    rintro e w3 ⟨hv, hb3⟩
    have HB4 : Hid (Below w.heap.size w w3) := Lib.hid (HB3.out.trans (hb3.mono HB3.out.size))
    have F4 := Lib.hid (F3.out.below hb3)
    clear hb3 HE F3 HB3 p0 p1 p2 p3 p4 p5 p6 p7 p8 p9
    rcases hv with ⟨hr, rfl⟩ | ⟨hr, rfl⟩
    rotate_left
    · obtain rfl : R = false := by cases R with
        | false => rfl
        | true => exact absurd (HRB.out.1 rfl) hr
      have p0 := F4.out.cell 0
      have p1 := F4.out.cell 1
      have p2 := F4.out.cell 2
      have p3 := F4.out.cell 3
      have p4 := F4.out.cell 4
      have p5 := F4.out.cell 5
      have p6 := F4.out.cell 6
      have p7 := F4.out.cell 7
      have p8 := F4.out.cell 8
      have p9 := F4.out.cell 9
      simp only [List.getElem?_cons_succ, List.getElem?_cons_zero] at p0 p1 p2 p3 p4 p5 p6 p7 p8 p9
      clear hr HRB H11
      go_wp2_with fail
      refine (H12.out w3 HB4.out).mono ?_
      rintro e w4 ⟨rfl, hb4⟩
      have HB5 : Hid (Below w.heap.size w w4) := Lib.hid (HB4.out.trans (hb4.mono HB4.out.size))
      clear hb4 p0 p1 p2 p3 p4 p5 p6 p7 p8 p9 F4 HB4 H12
      go_wp2
      go_ret
      exact ⟨rfl, HB5.out⟩
    obtain rfl : R = true := HRB.out.2 hr
    have HRF := Lib.hid hr
    have HLE := Lib.hid (fl_le hr HNU.out)
    have HDO := Lib.hid (dec_of hr HNU.out)
    have HCUT := Lib.hid (fun m (hm : m < (flB f).length) => dec_cut hr HNU.out hm)
    have HMORE := Lib.hid (dec_more hr HNU.out)
    obtain ⟨S1, HS1⟩ : ∃ s : ByteArray, Hid (s = ⟨(flB f).toArray⟩) := ⟨_, Lib.hid rfl⟩
    have HBL : Hid (bl S1 = flB f) := Lib.hid (by rw [HS1.out])
    have hsz : S1.size ≤ 50000000000 := by rw [← bl_len, HBL.out]; exact HLE.out
    have hpos : 0 < S1.size := by rw [← bl_len, HBL.out]; exact flB_pos f
    have HLY := Lib.hid (fun z (hz : Below w.heap.size w z) => lay15 f _ z (HF.out.keep (Keeps.of_below hz)) (HT.out.below hz) HNU.out (right_ints hr) (by have := HLE.out; omega))
    rw [← HS1.out] at HLY ⊢
    clear hr HRB H11 HLE
    have p0 := F4.out.cell 0
    have p1 := F4.out.cell 1
    have p2 := F4.out.cell 2
    have p3 := F4.out.cell 3
    have p4 := F4.out.cell 4
    have p5 := F4.out.cell 5
    have p6 := F4.out.cell 6
    have p7 := F4.out.cell 7
    have p8 := F4.out.cell 8
    have p9 := F4.out.cell 9
    simp only [List.getElem?_cons_succ, List.getElem?_cons_zero] at p0 p1 p2 p3 p4 p5 p6 p7 p8 p9
    go_wp2_with fail
    refine (H12.out w3 HB4.out).mono ?_
    rintro e w4 ⟨rfl, hb4⟩
    have HB5 : Hid (Below w.heap.size w w4) := Lib.hid (HB4.out.trans (hb4.mono HB4.out.size))
    have F5 := Lib.hid (F4.out.below hb4)
    clear hb4 p0 p1 p2 p3 p4 p5 p6 p7 p8 p9 F4 HB4 H12
    have HD1 := Lib.hid (decode14s S1 w4 (by omega) (HT.out.below HB5.out))
    go_wp2_with fail
    refine HD1.out.mono ?_
    rintro e w5 ⟨hv, hb5⟩
    have HB6 : Hid (Below w.heap.size w w5) := Lib.hid (HB5.out.trans (hb5.mono HB5.out.size))
    have F6 := Lib.hid (F5.out.below hb5)
    clear hb5 HD1 F5 HB5
    rcases hv with ⟨⟨gl, ⟨b1, m1, d1⟩, ⟨b2, m2, d2⟩, ⟨b3, m3, d3⟩, ⟨b4, m4, d4⟩, ⟨b5, m5, d5⟩, ⟨b6, m6, d6⟩, ⟨b7, m7, d7⟩, ⟨b8, m8, d8⟩⟩, he, hx, _, hfo⟩ | ⟨_, hno⟩
    rotate_left
    · rw [HBL.out] at hno
      exact absurd HDO.out.1 hno
    have he' : e = .returned (.tuple #[.agg #[.string gl.fc.name, .string gl.fc.sup, .slice b1 m1 d1, .slice b2 m2 d2, .slice b3 m3 d3, .slice b4 m4 d4, .slice b5 m5 d5, .slice b6 m6 d6, .slice b7 m7 d7, .slice b8 m8 d8], .int .i64 0]) := he
    subst he'
    clear he
    obtain rfl : f = gl := by
      have h1 := HDO.out.2
      rw [← HBL.out] at h1
      exact h1.symm.trans hx.symm
    clear hx HDO
    have HG6 : Hid (FlR w5 f [.string f.fc.name, .string f.fc.sup, .slice b1 m1 d1, .slice b2 m2 d2, .slice b3 m3 d3, .slice b4 m4 d4, .slice b5 m5 d5, .slice b6 m6 d6, .slice b7 m7 d7, .slice b8 m8 d8]) := Lib.hid hfo.flr
    clear hfo
    obtain ⟨G, HGE⟩ : ∃ b, Hid (b = w5.heap.size) := ⟨_, Lib.hid rfl⟩
    obtain ⟨W7, HW7⟩ : ∃ W, Hid (W = w5.alloc (.cells #[.string f.fc.name, .string f.fc.sup, .slice b1 m1 d1, .slice b2 m2 d2, .slice b3 m3 d3, .slice b4 m4 d4, .slice b5 m5 d5, .slice b6 m6 d6, .slice b7 m7 d7, .slice b8 m8 d8] 35)) := ⟨_, Lib.hid rfl⟩
    have G7 : Hid (Blk W7 G [.string f.fc.name, .string f.fc.sup, .slice b1 m1 d1, .slice b2 m2 d2, .slice b3 m3 d3, .slice b4 m4 d4, .slice b5 m5 d5, .slice b6 m6 d6, .slice b7 m7 d7, .slice b8 m8 d8] 35) := Lib.hid (by rw [HW7.out, HGE.out]; exact Blk.new w5 _ 35)
    have HB7 : Hid (Below w.heap.size w W7) := Lib.hid (by rw [HW7.out]; exact bl_al' HB6.out)
    have F7 : Hid (Blk W7 F [.string f.fc.name, .string f.fc.sup, .slice a8 n8 c8, .slice a9 n9 c9, .slice a1 n1 c1, .slice a2 n2 c2, .slice a3 n3 c3, .slice a4 n4 c4, .slice a5 n5 c5, .slice a0 n0 c0] 35) := Lib.hid (by rw [HW7.out]; exact F6.out.below (below1 w5 _))
    have HG7 : Hid (FlR W7 f [.string f.fc.name, .string f.fc.sup, .slice b1 m1 d1, .slice b2 m2 d2, .slice b3 m3 d3, .slice b4 m4 d4, .slice b5 m5 d5, .slice b6 m6 d6, .slice b7 m7 d7, .slice b8 m8 d8]) := Lib.hid (by rw [HW7.out]; exact HG6.out.keep (Keeps.of_below (below1 w5 _)))
    clear F6 HB6 HG6
    go_upto_region 11 with fail
    rw [← HW7.out, ← HGE.out]
    clear HW7 HGE
    obtain ⟨q, hq, eq⟩ := mask_and cut 16 65535 (by omega) (by decide)
    simp only [Nat.reducePow] at hq
    have EQ : bits .and .i64 cut 65535 = (q : Int) := eq
    clear eq
    obtain ⟨m, HMQ⟩ : ∃ m : Nat, Hid (m = q % S1.size) := ⟨_, Lib.hid rfl⟩
    have hmlt : m < S1.size := by rw [HMQ.out]; exact Nat.mod_lt _ hpos
    have hrem : (q : Int).tmod (S1.size : Int) = (m : Int) := by rw [HMQ.out, Int.tmod_eq_emod_of_nonneg (by omega)]; exact (Int.natCast_emod q S1.size).symm
    have hne0 : ((S1.size : Int) == 0) = false := beq_eq_false_iff_ne.2 (by omega)
    have hwm : IntKind.i64.wrap (m : Int) = (m : Int) := by rw [IntKind.wrap_i64]; omega
    go_wp2_with fail
    obtain ⟨S2, HS2⟩ : ∃ S2, Hid (S2 = S1.extract 0 m) := ⟨_, Lib.hid rfl⟩
    rw [← HS2.out]
    have HBL2 : Hid (bl S2 = (flB f).take m) := Lib.hid (by rw [HS2.out, HS1.out, Pk.cut_bytes]; simp [bl])
    have HN2 : Hid (¬ DecOk (bl S2)) := Lib.hid (by rw [HBL2.out]; exact HCUT.out m (by rw [← HBL.out, bl_len]; exact hmlt))
    have hsz2 : S2.size ≤ 140737488355328 := by rw [← bl_len, HBL2.out, List.length_take, ← HBL.out, bl_len]; omega
    clear EQ hrem hne0 hwm
    have HD2 := Lib.hid (decode14s S2 W7 hsz2 (HT.out.below HB7.out))
    refine HD2.out.mono ?_
    rintro e w8 ⟨hv, hb8⟩
    rcases hv with ⟨_, _, _, hno, _⟩ | ⟨rfl, _⟩
    · exact absurd hno HN2.out
    have HB8 : Hid (Below w.heap.size w w8) := Lib.hid (HB7.out.trans (hb8.mono HB7.out.size))
    have F8 := Lib.hid (F7.out.below hb8)
    have G8 := Lib.hid (G7.out.below hb8)
    have HG8 : Hid (FlR w8 f [.string f.fc.name, .string f.fc.sup, .slice b1 m1 d1, .slice b2 m2 d2, .slice b3 m3 d3, .slice b4 m4 d4, .slice b5 m5 d5, .slice b6 m6 d6, .slice b7 m7 d7, .slice b8 m8 d8]) := Lib.hid (HG7.out.keep (Keeps.of_below hb8))
    clear hb8 HD2 F7 G7 HB7 HG7 HN2 HBL2 hsz2 HS2 HCUT
    obtain ⟨W9, HW9⟩ : ∃ W, Hid (W = w8.alloc (.cells #[.string ⟨#[]⟩, .string ⟨#[]⟩, .slice none 0 0, .slice none 0 0, .slice none 0 0, .slice none 0 0, .slice none 0 0, .slice none 0 0, .slice none 0 0, .slice none 0 0] 35)) := ⟨_, Lib.hid rfl⟩
    have HB9 : Hid (Below w.heap.size w W9) := Lib.hid (by rw [HW9.out]; exact bl_al' HB8.out)
    have F9 : Hid (Blk W9 F [.string f.fc.name, .string f.fc.sup, .slice a8 n8 c8, .slice a9 n9 c9, .slice a1 n1 c1, .slice a2 n2 c2, .slice a3 n3 c3, .slice a4 n4 c4, .slice a5 n5 c5, .slice a0 n0 c0] 35) := Lib.hid (by rw [HW9.out]; exact F8.out.below (below1 w8 _))
    have G9 : Hid (Blk W9 G [.string f.fc.name, .string f.fc.sup, .slice b1 m1 d1, .slice b2 m2 d2, .slice b3 m3 d3, .slice b4 m4 d4, .slice b5 m5 d5, .slice b6 m6 d6, .slice b7 m7 d7, .slice b8 m8 d8] 35) := Lib.hid (by rw [HW9.out]; exact G8.out.below (below1 w8 _))
    have HG9 : Hid (FlR W9 f [.string f.fc.name, .string f.fc.sup, .slice b1 m1 d1, .slice b2 m2 d2, .slice b3 m3 d3, .slice b4 m4 d4, .slice b5 m5 d5, .slice b6 m6 d6, .slice b7 m7 d7, .slice b8 m8 d8]) := Lib.hid (by rw [HW9.out]; exact HG8.out.keep (Keeps.of_below (below1 w8 _)))
    clear F8 G8 HB8 HG8
    go_upto_region 12 with fail
    rw [← HW9.out]
    clear HW9
    go_wp2_with fail
    obtain ⟨S3, HS3⟩ : ∃ S3, Hid (S3 = S1 ++ (⟨#[0]⟩ : ByteArray)) := ⟨_, Lib.hid rfl⟩
    rw [← HS3.out]
    have HBL3 : Hid (bl S3 = flB f ++ [0]) := Lib.hid (by rw [HS3.out, ← HBL.out]; simp [bl])
    have hsz3 : S3.size ≤ 140737488355328 := by rw [← bl_len, HBL3.out, List.length_append, ← HBL.out, bl_len]; simp; omega
    have HD3 := Lib.hid (decode14s S3 W9 hsz3 (HT.out.below HB9.out))
    refine HD3.out.mono ?_
    rintro e wa ⟨hv, hba⟩
    rcases hv with ⟨_, _, _, hno, _⟩ | ⟨rfl, _⟩
    · rw [HBL3.out] at hno
      exact absurd hno HMORE.out
    have HBa : Hid (Below w.heap.size w wa) := Lib.hid (HB9.out.trans (hba.mono HB9.out.size))
    have Fa := Lib.hid (F9.out.below hba)
    have Ga := Lib.hid (G9.out.below hba)
    have HGa : Hid (FlR wa f [.string f.fc.name, .string f.fc.sup, .slice b1 m1 d1, .slice b2 m2 d2, .slice b3 m3 d3, .slice b4 m4 d4, .slice b5 m5 d5, .slice b6 m6 d6, .slice b7 m7 d7, .slice b8 m8 d8]) := Lib.hid (HG9.out.keep (Keeps.of_below hba))
    clear hba HD3 F9 G9 HB9 HG9 HMORE HBL3 hsz3 HS3
    obtain ⟨Wb, HWb⟩ : ∃ W, Hid (W = wa.alloc (.cells #[.string ⟨#[]⟩, .string ⟨#[]⟩, .slice none 0 0, .slice none 0 0, .slice none 0 0, .slice none 0 0, .slice none 0 0, .slice none 0 0, .slice none 0 0, .slice none 0 0] 35)) := ⟨_, Lib.hid rfl⟩
    have HBb : Hid (Below w.heap.size w Wb) := Lib.hid (by rw [HWb.out]; exact bl_al' HBa.out)
    have Fb : Hid (Blk Wb F [.string f.fc.name, .string f.fc.sup, .slice a8 n8 c8, .slice a9 n9 c9, .slice a1 n1 c1, .slice a2 n2 c2, .slice a3 n3 c3, .slice a4 n4 c4, .slice a5 n5 c5, .slice a0 n0 c0] 35) := Lib.hid (by rw [HWb.out]; exact Fa.out.below (below1 wa _))
    have Gb : Hid (Blk Wb G [.string f.fc.name, .string f.fc.sup, .slice b1 m1 d1, .slice b2 m2 d2, .slice b3 m3 d3, .slice b4 m4 d4, .slice b5 m5 d5, .slice b6 m6 d6, .slice b7 m7 d7, .slice b8 m8 d8] 35) := Lib.hid (by rw [HWb.out]; exact Ga.out.below (below1 wa _))
    have HGb : Hid (FlR Wb f [.string f.fc.name, .string f.fc.sup, .slice b1 m1 d1, .slice b2 m2 d2, .slice b3 m3 d3, .slice b4 m4 d4, .slice b5 m5 d5, .slice b6 m6 d6, .slice b7 m7 d7, .slice b8 m8 d8]) := Lib.hid (by rw [HWb.out]; exact HGa.out.keep (Keeps.of_below (below1 wa _)))
    clear Fa Ga HBa HGa
    go_upto_region 13 with fail
    rw [← HWb.out]
    clear HWb
    have p0 := Fb.out.cell 0
    have p1 := Fb.out.cell 1
    have p2 := Fb.out.cell 2
    have p3 := Fb.out.cell 3
    have p4 := Fb.out.cell 4
    have p5 := Fb.out.cell 5
    have p6 := Fb.out.cell 6
    have p7 := Fb.out.cell 7
    have p8 := Fb.out.cell 8
    have p9 := Fb.out.cell 9
    simp only [List.getElem?_cons_succ, List.getElem?_cons_zero] at p0 p1 p2 p3 p4 p5 p6 p7 p8 p9
    go_wp2_with fail
    refine (HLY.out Wb HBb.out).mono ?_
    rintro e wc ⟨rfl, hbc⟩
    have HBc : Hid (Below w.heap.size w wc) := Lib.hid (HBb.out.trans (hbc.mono HBb.out.size))
    have Fc' := Lib.hid (Fb.out.below hbc)
    have Gc := Lib.hid (Gb.out.below hbc)
    have HGc : Hid (FlR wc f [.string f.fc.name, .string f.fc.sup, .slice b1 m1 d1, .slice b2 m2 d2, .slice b3 m3 d3, .slice b4 m4 d4, .slice b5 m5 d5, .slice b6 m6 d6, .slice b7 m7 d7, .slice b8 m8 d8]) := Lib.hid (HGb.out.keep (Keeps.of_below hbc))
    clear hbc Fb Gb HBb HGb p0 p1 p2 p3 p4 p5 p6 p7 p8 p9
    have p0 := Fc'.out.cell 0
    have p1 := Fc'.out.cell 1
    have p2 := Fc'.out.cell 2
    have p3 := Fc'.out.cell 3
    have p4 := Fc'.out.cell 4
    have p5 := Fc'.out.cell 5
    have p6 := Fc'.out.cell 6
    have p7 := Fc'.out.cell 7
    have p8 := Fc'.out.cell 8
    have p9 := Fc'.out.cell 9
    simp only [List.getElem?_cons_succ, List.getElem?_cons_zero] at p0 p1 p2 p3 p4 p5 p6 p7 p8 p9
    have q0 := Gc.out.cell 0
    have q1 := Gc.out.cell 1
    have q2 := Gc.out.cell 2
    have q3 := Gc.out.cell 3
    have q4 := Gc.out.cell 4
    have q5 := Gc.out.cell 5
    have q6 := Gc.out.cell 6
    have q7 := Gc.out.cell 7
    have q8 := Gc.out.cell 8
    have q9 := Gc.out.cell 9
    simp only [List.getElem?_cons_succ, List.getElem?_cons_zero] at q0 q1 q2 q3 q4 q5 q6 q7 q8 q9
    have HSA := Lib.hid (same16 f f _ _ wc (HF.out.keep (Keeps.of_below HBc.out)) HGc.out)
    go_wp2_with fail
    refine HSA.out.mono ?_
    rintro e wd ⟨r, rfl, hr, hbd⟩
    obtain rfl : r = true := hr.2 (by simp)
    have HBd : Hid (Below w.heap.size w wd) := Lib.hid (HBc.out.trans (hbd.mono HBc.out.size))
    clear hr hbd HSA p0 p1 p2 p3 p4 p5 p6 p7 p8 p9 q0 q1 q2 q3 q4 q5 q6 q7 q8 q9
    go_wp2
    go_ret
    exact ⟨rfl, HBd.out⟩
end Go.Proofs.YtomlbfkkhhhfkaaDoor.Fc
