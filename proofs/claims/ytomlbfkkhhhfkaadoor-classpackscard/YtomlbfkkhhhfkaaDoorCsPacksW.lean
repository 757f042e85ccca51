/-
  ClassPacks: the walk.
-/
import Derived.Test.YtomlbfkkhhhfkaaDoorPKO
import Derived.Test.YtomlbfkkhhhfkaaDoorCsLay15
import Derived.Test.YtomlbfkkhhhfkaaDoorCsSame
import Derived.Deep.RegionHeld3
namespace Go.Proofs.YtomlbfkkhhhfkaaDoor.Fc
open Go.RowKit
set_option linter.unusedVariables false
set_option linter.unusedSimpArgs false

set_option maxHeartbeats 16000000 in
set_option maxRecDepth 100000 in
theorem packs5 (fs : List Fl) (a : Option Addr) (n c : Nat) (cut : Int) (w : World) (hs : Sl w 10 (FlR w) fs (.slice a n c)) (hT : TabR w) (hw : ∀ f ∈ fs, FlW f) :
    Calls Tryd.prog 5 #[.slice a n c, .int .i64 cut] w fun e w' => e = .returned (.bool true) ∧ Below w.heap.size w w' := by
  obtain ⟨e0, l0, k0, hk0⟩ := hs.at
  unfold maxLen at k0
  have E0 := Lib.hid e0
  have HK0 := Lib.hid hk0
  have HT := Lib.hid hT
  have HW := Lib.hid hw
  have HSL := Lib.hid hs
  clear e0 hk0 hT hw hs
  go_enter Tryd.func5, Tryd.ntmps5
  go_wp2_with fail
  refine (head9 w).mono ?_
  rintro e w1 ⟨rfl, hb1⟩
  have HB1 := Lib.hid hb1
  clear hb1
  by_cases hbig : 8 < n
  · have d1 : decide ((8 : Int) < (n : Int)) = true := decide_eq_true (by omega)
    go_wp2_with fail
    all_goals first | (exfalso; omega) | skip
    go_ret
    exact ⟨rfl, HB1.out⟩
  have hn8 : n ≤ 8 := by omega
  have d1 : decide ((8 : Int) < (n : Int)) = false := decide_eq_false (by omega)
  obtain ⟨BW, HBW⟩ : ∃ b, Hid (b = w1.heap.size) := ⟨_, Lib.hid rfl⟩
  obtain ⟨W2, HW2⟩ : ∃ W, Hid (W = (w1.alloc (.cells #[.slice none 0 0] 54)).alloc (.cells #[.int .i64 n] 3)) := ⟨_, Lib.hid rfl⟩
  have HA : Hid (Pk.WAt (BW + 1) BW W2 []) := Lib.hid (by rw [HW2.out, HBW.out]; exact (Pk.WAt.new _ w1).alloc _)
  have HB2 : Hid (Below w.heap.size w W2) := Lib.hid (by rw [HW2.out]; exact bl_al' (bl_al' HB1.out))
  have hs2 : W2.heap.size = BW + 2 := by rw [HW2.out, HBW.out]; simp
  have hwB : w.heap.size ≤ BW := by rw [HBW.out]; exact HB1.out.size
  have HV : Hid (Pk.Vals (BW + 1) BW W2 (some ⟨BW + 1, 0, none⟩) (Pk.ints [(n : Int)])) := Lib.hid (by rw [HW2.out, HBW.out]; exact Pk.vals_new (by simp) (by decide) (by omega))
  have HN := Lib.hid (Pk.num_any (BW + 1) BW [(n : Int)] (by simp; omega) (some ⟨BW + 1, 0, none⟩) 1 [] W2 HA.out (by omega) (by rw [hs2]; omega) HV.out (by simp))
  clear HA HV
  go_wp2_with fail
  all_goals first | (exfalso; omega) | skip
  rw [← HW2.out, ← HBW.out]
  refine HN.out.mono ?_
  rintro e w3 ⟨rfl, hw3, hk3⟩
  have HE2 : Hid ([] ++ Pk.encAll [(n : Int)] = Pk.encI (n : Int)) := Lib.hid (by simp [Pk.encAll])
  have HA3 : Hid (Pk.WAt (BW + 1) BW w3 (Pk.encI (n : Int))) := Lib.hid (by rw [← HE2.out]; exact hw3)
  have HB3 : Hid (Below w.heap.size w w3) := Lib.hid (HB2.out.trans (hk3.below (by omega) (by omega)))
  have hs3 : BW + 1 ≤ w3.heap.size := by have := hk3.size; omega
  have HLE : Hid ((Pk.encI (n : Int)).length ≤ 9) := Lib.hid (by unfold Pk.encI; exact Pk.enc_len9 _ (by omega))
  clear hw3 hk3 HN HW2 HBW HB1 HB2 hs2 HE2 d1 hbig
  go_wp2
  go_loopw [5, 30] (fun g i wr => ∃ (k : Nat) (G : Bool), k ≤ n ∧ i = .int .i64 k ∧ g = .bool G ∧ Hid (Pk.WAt (BW + 1) BW wr (Pk.encI (n : Int) ++ (fs.take k).flatMap arB)) ∧ Hid (∀ f ∈ fs.take k, (flB f).length ≤ 100000000) ∧ Hid (G = true ↔ ∀ f ∈ fs.take k, RightF f) ∧ Hid (Below w.heap.size w wr) ∧ BW + 1 ≤ wr.heap.size) (fun _ i _ => n - (intOf i).toNat)
  case atStart => exact ⟨0, true, Nat.zero_le _, rfl, rfl, Lib.hid (by simpa using HA3.out), Lib.hid (by intro f hf; simp at hf), Lib.hid (by simp), HB3, hs3⟩
  case round =>
    clear HA3 HB3 hs3
    obtain ⟨k, G, hk, rfl, rfl, HA, HLN, HG, HB, hsr⟩ := hrel
    by_cases hkl : k < n
    · obtain ⟨x, hx⟩ : ∃ v, fs[k]? = some v := ⟨_, List.getElem?_eq_getElem (by have := E0.out; omega)⟩
      obtain ⟨g, o, cs, rfl, hcell, hfl⟩ := HK0.out k x hx
      have HFL := Lib.hid hfl
      obtain ⟨a8, n8, c8, a9, n9, c9, a1, n1, c1, a2, n2, c2, a3, n3, c3, a4, n4, c4, a5, n5, c5, a0, n0, c0, rfl, _, _, _⟩ := hfl
      have p0 : wr.cell? ⟨g, o + k * 10, none⟩ = some (.string x.fc.name) := (HB.out.cell (World.block_lt_of_cell? _ _ (hcell 0 _ rfl))).trans (hcell 0 _ rfl)
      have p1 : wr.cell? ⟨g, o + k * 10 + 1, none⟩ = some (.string x.fc.sup) := (HB.out.cell (World.block_lt_of_cell? _ _ (hcell 1 _ rfl))).trans (hcell 1 _ rfl)
      have p2 : wr.cell? ⟨g, o + k * 10 + 2, none⟩ = some (.slice a8 n8 c8) := (HB.out.cell (World.block_lt_of_cell? _ _ (hcell 2 _ rfl))).trans (hcell 2 _ rfl)
      have p3 : wr.cell? ⟨g, o + k * 10 + 3, none⟩ = some (.slice a9 n9 c9) := (HB.out.cell (World.block_lt_of_cell? _ _ (hcell 3 _ rfl))).trans (hcell 3 _ rfl)
      have p4 : wr.cell? ⟨g, o + k * 10 + 4, none⟩ = some (.slice a1 n1 c1) := (HB.out.cell (World.block_lt_of_cell? _ _ (hcell 4 _ rfl))).trans (hcell 4 _ rfl)
      have p5 : wr.cell? ⟨g, o + k * 10 + 5, none⟩ = some (.slice a2 n2 c2) := (HB.out.cell (World.block_lt_of_cell? _ _ (hcell 5 _ rfl))).trans (hcell 5 _ rfl)
      have p6 : wr.cell? ⟨g, o + k * 10 + 6, none⟩ = some (.slice a3 n3 c3) := (HB.out.cell (World.block_lt_of_cell? _ _ (hcell 6 _ rfl))).trans (hcell 6 _ rfl)
      have p7 : wr.cell? ⟨g, o + k * 10 + 7, none⟩ = some (.slice a4 n4 c4) := (HB.out.cell (World.block_lt_of_cell? _ _ (hcell 7 _ rfl))).trans (hcell 7 _ rfl)
      have p8 : wr.cell? ⟨g, o + k * 10 + 8, none⟩ = some (.slice a5 n5 c5) := (HB.out.cell (World.block_lt_of_cell? _ _ (hcell 8 _ rfl))).trans (hcell 8 _ rfl)
      have p9 : wr.cell? ⟨g, o + k * 10 + 9, none⟩ = some (.slice a0 n0 c0) := (HB.out.cell (World.block_lt_of_cell? _ _ (hcell 9 _ rfl))).trans (hcell 9 _ rfl)
      have HXM := Lib.hid (List.mem_of_getElem? hx)
      have HX := Lib.hid hx
      have HSN : Hid (Pk.encI (n : Int) ++ (fs.take (k + 1)).flatMap arB = (Pk.encI (n : Int) ++ (fs.take k).flatMap arB) ++ arB x) := Lib.hid (by rw [flat_snoc arB hx, List.append_assoc])
      have HLk : Hid ((Pk.encI (n : Int) ++ (fs.take k).flatMap arB).length ≤ 10000000000) := Lib.hid (by
        have h1 := flat_le arB 100000009 (fs.take k) (fun f hf => by
          have h2 := HLN.out f hf
          have h3 := Pk.enc_len9 (flB f).length (by omega)
          unfold arB Pk.textB
          rw [List.length_append]
          omega)
        have h2 := HLE.out
        rw [List.length_take] at h1
        rw [List.length_append]
        have h3 : min k fs.length * 100000009 ≤ 8 * 100000009 := Nat.mul_le_mul_right _ (by omega)
        omega)
      have HXW := Lib.hid (HW.out x (List.mem_of_getElem? hx))
      clear hcell hx
      generalize (Pk.encI (n : Int) ++ (fs.take k).flatMap arB) = Q1 at *
      obtain ⟨X, HXE⟩ : ∃ b, Hid (b = wr.heap.size) := ⟨_, Lib.hid rfl⟩
      obtain ⟨W5, HW5⟩ : ∃ W, Hid (W = wr.alloc (.cells #[.string x.fc.name, .string x.fc.sup, .slice a8 n8 c8, .slice a9 n9 c9, .slice a1 n1 c1, .slice a2 n2 c2, .slice a3 n3 c3, .slice a4 n4 c4, .slice a5 n5 c5, .slice a0 n0 c0] 35)) := ⟨_, Lib.hid rfl⟩
      have X5 : Hid (Blk W5 X [.string x.fc.name, .string x.fc.sup, .slice a8 n8 c8, .slice a9 n9 c9, .slice a1 n1 c1, .slice a2 n2 c2, .slice a3 n3 c3, .slice a4 n4 c4, .slice a5 n5 c5, .slice a0 n0 c0] 35) := Lib.hid (by rw [HW5.out, HXE.out]; exact Blk.new wr _ 35)
      have HB5 : Hid (Below w.heap.size w W5) := Lib.hid (by rw [HW5.out]; exact bl_al' HB.out)
      have HA5 : Hid (Pk.WAt (BW + 1) BW W5 Q1) := Lib.hid (by rw [HW5.out]; exact wat_al HA.out _)
      have hs5 : BW + 1 ≤ W5.heap.size := by rw [HW5.out]; simp; omega
      go_upto_region 11 with fail
      rw [← HW5.out, ← HXE.out]
      clear HW5 HXE p0 p1 p2 p3 p4 p5 p6 p7 p8 p9 HA HB hsr
      have p0 := X5.out.cell 0
      have p1 := X5.out.cell 1
      have p2 := X5.out.cell 2
      have p3 := X5.out.cell 3
      have p4 := X5.out.cell 4
      have p5 := X5.out.cell 5
      have p6 := X5.out.cell 6
      have p7 := X5.out.cell 7
      have p8 := X5.out.cell 8
      have p9 := X5.out.cell 9
      simp only [List.getElem?_cons_succ, List.getElem?_cons_zero] at p0 p1 p2 p3 p4 p5 p6 p7 p8 p9
      have HFW := Lib.hid (few10p x [.string x.fc.name, .string x.fc.sup, .slice a8 n8 c8, .slice a9 n9 c9, .slice a1 n1 c1, .slice a2 n2 c2, .slice a3 n3 c3, .slice a4 n4 c4, .slice a5 n5 c5, .slice a0 n0 c0] W5 (HFL.out.keep (Keeps.of_below HB5.out)) HXW.out.2.2)
      go_wp2_with fail
      refine HFW.out.mono ?_
      rintro e w6 ⟨r, rfl, hr, hb6⟩
      have HB6 : Hid (Below w.heap.size w w6) := Lib.hid (HB5.out.trans (hb6.mono HB5.out.size))
      have HA6 : Hid (Pk.WAt (BW + 1) BW w6 Q1) := Lib.hid (wat_below HA5.out hb6)
      have X6 := Lib.hid (X5.out.below hb6)
      have hs6 : BW + 1 ≤ w6.heap.size := Nat.le_trans hs5 hb6.size
      have HRR := Lib.hid hr
      clear hb6 hr HFW HB5 HA5 X5 hs5 p0 p1 p2 p3 p4 p5 p6 p7 p8 p9
      cases r with
      | false =>
        go_wp2
        go_ret
        exact ⟨rfl, HB6.out⟩
      | true =>
      have HFF := Lib.hid (HRR.out (by simp))
      have HXL := Lib.hid (few_len HFF.out.1 HFF.out.2 HXW.out)
      have HLN2 : Hid (∀ f ∈ fs.take (k + 1), (flB f).length ≤ 100000000) := Lib.hid (all_snk HX.out HLN.out HXL.out)
      obtain ⟨t, HTT⟩ : ∃ t : ByteArray, Hid (t = ⟨(flB x).toArray⟩) := ⟨_, Lib.hid rfl⟩
      have HST : Hid (sB t = arB x) := Lib.hid (by rw [HTT.out]; simp [sB, arB, bl])
      have HLY : Hid (∀ z, Below w.heap.size w z → Calls Tryd.prog 15 #[.agg #[.string x.fc.name, .string x.fc.sup, .slice a8 n8 c8, .slice a9 n9 c9, .slice a1 n1 c1, .slice a2 n2 c2, .slice a3 n3 c3, .slice a4 n4 c4, .slice a5 n5 c5, .slice a0 n0 c0]] z fun e z' => e = .returned (.string t) ∧ Below z.heap.size z z') := Lib.hid (fun z hz => by rw [HTT.out]; exact lay15 x _ z (HFL.out.keep (Keeps.of_below hz)) (HT.out.below hz) HXW.out.1 HXW.out.2.1 (by have := HXL.out; omega))
      have HTX : Hid (∀ z b, Pk.WAt (BW + 1) BW z Q1 → BW + 1 ≤ z.heap.size → Blk z b [.string t] 9 → b ≠ BW → Calls Tryd.prog 20 #[.pointer (some ⟨BW, 0, none⟩), .slice (some ⟨b, 0, none⟩) 1 1] z fun e z' => e = .returned (.pointer (some ⟨BW, 0, none⟩)) ∧ Pk.WAt (BW + 1) BW z' (Pk.encI (n : Int) ++ (fs.take (k + 1)).flatMap arB) ∧ Pk.Kp (BW + 1) BW z z') := Lib.hid (fun z b ha hsz hB hne => by
        have e : Pk.textAll [bl t] = arB x := by rw [← HST.out]; simp [Pk.textAll, sB]
        have hv : Pk.Vals (BW + 1) BW z (some ⟨b, 0, none⟩) (Pk.strs [bl t]) := .inr ⟨_, rfl, .inr ⟨hB.lt, hB.nb (by decide)⟩, hne, fun i hi => by
          obtain rfl : i = 0 := by simp [Pk.strs] at hi; omega
          have := hB.cell 0
          simpa [Addr.add, Pk.strs, bl_mk] using this⟩
        have hh := Pk.text_any (BW + 1) BW [bl t] (some ⟨b, 0, none⟩) 1 Q1 z ha (by omega) hsz hv (by simp) (by
          have h1 := HLk.out
          have h2 := HXL.out
          have h3 := Pk.enc_len9 (flB x).length (by omega)
          rw [e]
          unfold arB Pk.textB
          rw [List.length_append]
          omega)
        rw [e] at hh
        rw [HSN.out]
        exact hh)
      have H12 := Lib.hid (fun z (hz : Below w.heap.size w z) => right12 x [.string x.fc.name, .string x.fc.sup, .slice a8 n8 c8, .slice a9 n9 c9, .slice a1 n1 c1, .slice a2 n2 c2, .slice a3 n3 c3, .slice a4 n4 c4, .slice a5 n5 c5, .slice a0 n0 c0] z (HFL.out.keep (Keeps.of_below hz)) (HT.out.below hz))
      clear HRR
      have p0 := X6.out.cell 0
      have p1 := X6.out.cell 1
      have p2 := X6.out.cell 2
      have p3 := X6.out.cell 3
      have p4 := X6.out.cell 4
      have p5 := X6.out.cell 5
      have p6 := X6.out.cell 6
      have p7 := X6.out.cell 7
      have p8 := X6.out.cell 8
      have p9 := X6.out.cell 9
      simp only [List.getElem?_cons_succ, List.getElem?_cons_zero] at p0 p1 p2 p3 p4 p5 p6 p7 p8 p9
      cases G with
      | false =>
        have HG2 : Hid (false = true ↔ ∀ f ∈ fs.take (k + 1), RightF f) := Lib.hid ⟨fun h => (by cases h), fun h => HG.out.2 (fun f hf => h f (List.take_subset_take_left fs (Nat.le_succ k) hf))⟩
        clear H12 HG
        go_wp2_with fail
        refine (HLY.out w6 HB6.out).mono ?_
        rintro e w7 ⟨rfl, hb7⟩
        have HB7 : Hid (Below w.heap.size w w7) := Lib.hid (HB6.out.trans (hb7.mono HB6.out.size))
        have HA7 : Hid (Pk.WAt (BW + 1) BW w7 Q1) := Lib.hid (wat_below HA6.out hb7)
        have hs7 : BW + 1 ≤ w7.heap.size := Nat.le_trans hs6 hb7.size
        clear hb7 HB6 HA6 X6 hs6 p0 p1 p2 p3 p4 p5 p6 p7 p8 p9 HLY
        go_wp2_with fail
        refine (HTX.out _ w7.heap.size (wat_al HA7.out _) (by simp; omega) (Blk.new w7 [.string t] 9) (by omega)).mono ?_
        rintro e w8 ⟨rfl, hw8, hk8⟩
        have HA8 := Lib.hid hw8
        have HB8 : Hid (Below w.heap.size w w8) := Lib.hid ((bl_al' HB7.out).trans (hk8.below (by omega) (by omega)))
        have hs8 : BW + 1 ≤ w8.heap.size := by have := hk8.size; simp at this; omega
        clear hw8 hk8 HA7 HB7 hs7 HTX
        go_wp2
        go_roundw
        case rel => exact ⟨k + 1, false, by omega, by go_num, rfl, HA8, HLN2, HG2, HB8, hs8⟩
        case measure => simp [intOf]; omega
      | true =>
        go_wp2_with fail
        refine (H12.out w6 HB6.out).mono ?_
        rintro e w7 ⟨r, rfl, hr, hb7⟩
        have HG2 : Hid (r = true ↔ ∀ f ∈ fs.take (k + 1), RightF f) := Lib.hid (by
          rw [hr, right_iff HFF.out.1]
          exact ⟨fun h => all_snk HX.out (HG.out.1 (by simp)) h, fun h => h x (by
            have hl := (List.getElem?_eq_some_iff.1 HX.out).1
            rw [List.take_succ_eq_append_getElem hl, (List.getElem?_eq_some_iff.1 HX.out).2]
            simp)⟩)
        have HB7 : Hid (Below w.heap.size w w7) := Lib.hid (HB6.out.trans (hb7.mono HB6.out.size))
        have HA7 : Hid (Pk.WAt (BW + 1) BW w7 Q1) := Lib.hid (wat_below HA6.out hb7)
        have X7 := Lib.hid (X6.out.below hb7)
        have hs7 : BW + 1 ≤ w7.heap.size := Nat.le_trans hs6 hb7.size
        clear hb7 hr HB6 HA6 X6 hs6 p0 p1 p2 p3 p4 p5 p6 p7 p8 p9 H12 HG
        have p0 := X7.out.cell 0
        have p1 := X7.out.cell 1
        have p2 := X7.out.cell 2
        have p3 := X7.out.cell 3
        have p4 := X7.out.cell 4
        have p5 := X7.out.cell 5
        have p6 := X7.out.cell 6
        have p7 := X7.out.cell 7
        have p8 := X7.out.cell 8
        have p9 := X7.out.cell 9
        simp only [List.getElem?_cons_succ, List.getElem?_cons_zero] at p0 p1 p2 p3 p4 p5 p6 p7 p8 p9
        go_wp2_with fail
        refine (HLY.out w7 HB7.out).mono ?_
        rintro e w8 ⟨rfl, hb8⟩
        have HB8 : Hid (Below w.heap.size w w8) := Lib.hid (HB7.out.trans (hb8.mono HB7.out.size))
        have HA8 : Hid (Pk.WAt (BW + 1) BW w8 Q1) := Lib.hid (wat_below HA7.out hb8)
        have hs8 : BW + 1 ≤ w8.heap.size := Nat.le_trans hs7 hb8.size
        clear hb8 HB7 HA7 X7 hs7 p0 p1 p2 p3 p4 p5 p6 p7 p8 p9 HLY
        go_wp2_with fail
        refine (HTX.out _ w8.heap.size (wat_al HA8.out _) (by simp; omega) (Blk.new w8 [.string t] 9) (by omega)).mono ?_
        rintro e w9 ⟨rfl, hw9, hk9⟩
        have HA9 := Lib.hid hw9
        have HB9 : Hid (Below w.heap.size w w9) := Lib.hid ((bl_al' HB8.out).trans (hk9.below (by omega) (by omega)))
        have hs9 : BW + 1 ≤ w9.heap.size := by have := hk9.size; simp at this; omega
        clear hw9 hk9 HA8 HB8 hs8 HTX
        go_wp2
        go_roundw
        case rel => exact ⟨k + 1, r, by omega, by go_num, rfl, HA9, HLN2, HG2, HB9, hs9⟩
        case measure => simp [intOf]; omega
    · have hkn : k = n := by omega
      subst hkn
      have HGF : Hid (G = true ↔ ∀ f ∈ fs, RightF f) := Lib.hid (by have h := HG.out; rwa [List.take_of_length_le (by have := E0.out; omega)] at h)
      have HAF : Hid (Pk.WAt (BW + 1) BW wr (arcB fs)) := Lib.hid (by
        have h := HA.out
        rw [List.take_of_length_le (by have := E0.out; omega)] at h
        unfold arcB
        rw [← E0.out]
        exact h)
      clear HA HLN HG
      have HAR := Lib.hid (archive18 fs a k c wr (by
        have h := HSL.out
        obtain ⟨a', cap, e, hl, hc, hkk⟩ := h
        exact ⟨a', cap, e, hl, hc, fun i x hx => by
          obtain ⟨b, o, cs, ea, hcell, hr⟩ := hkk i x hx
          exact ⟨b, o, cs, ea, fun j v hv => (HB.out.cell (World.block_lt_of_cell? _ _ (hcell j v hv))).trans (hcell j v hv), hr.keep (Keeps.of_below HB.out)⟩⟩) (HT.out.below HB.out) (fun f hf => (HW.out f hf).1))
      have HNX : Hid (fs.length ≤ 200) := Lib.hid (by have := E0.out; omega)
      obtain ⟨wq, hwq⟩ : ∃ wq, wq = wr := ⟨_, rfl⟩
      subst hwq
      go_wp2_with fail
      refine HAR.out.mono ?_
      rintro e w4 ⟨hv, hb4⟩
      have HB4 : Hid (Below w.heap.size w w4) := Lib.hid (HB.out.trans (hb4.mono HB.out.size))
      have HA4 : Hid (Pk.WAt (BW + 1) BW w4 (arcB fs)) := Lib.hid (wat_below HAF.out hb4)
      clear hb4 HAR HAF HB hsr
      rcases hv with ⟨h, _⟩ | ⟨_, h, rfl⟩ | ⟨_, h, rfl⟩
      · exact absurd HNX.out (Nat.not_le_of_lt h)
      · obtain rfl : G = false := by cases G with
          | false => rfl
          | true => exact absurd (HGF.out.1 rfl) h
        clear h HGF
        go_wp2
        go_ret
        exact ⟨rfl, HB4.out⟩
      · obtain rfl : G = true := HGF.out.2 h
        have HOK : Hid (∀ f ∈ fs, RightF f ∧ ∀ z ∈ f.nu, OkI z) := Lib.hid (fun f hf => ⟨h f hf, (HW.out f hf).1⟩)
        have HUB := Lib.hid (un_back HOK.out HNX.out)
        have HCUT := Lib.hid (fun m (hm : m < (arcB fs).length) => un_cut HOK.out HNX.out hm)
        obtain ⟨S1, HS1⟩ : ∃ s : ByteArray, Hid (s = ⟨(arcB fs).toArray⟩) := ⟨_, Lib.hid rfl⟩
        have HBL : Hid (bl S1 = arcB fs) := Lib.hid (by rw [HS1.out])
        have hsz : S1.size ≤ 140737488355328 := by rw [← bl_len, HBL.out]; exact arcB_len HOK.out HNX.out
        have hpos : 0 < S1.size := by rw [← bl_len, HBL.out]; exact arcB_pos fs
        have HSTR : Hid (∀ z, Below w4.heap.size w4 z → Calls Tryd.prog 21 #[.pointer (some ⟨BW, 0, none⟩)] z fun e z' => e = .returned (.string S1) ∧ z = z') := Lib.hid (fun z hz => by rw [HS1.out]; exact Pk.string_any _ _ _ _ (wat_below HA4.out hz))
        rw [← HS1.out]
        clear h HGF
        have HU := Lib.hid (unpack17s S1 w4 hsz (HT.out.below HB4.out))
        go_wp2_with fail
        refine HU.out.mono ?_
        rintro e w5 ⟨hv, hb5⟩
        rcases hv with ⟨ps, a4, n4, c4, rfl, _, hps, hsl, hfs⟩ | ⟨_, hno⟩
        rotate_left
        · rw [HBL.out] at hno
          exact absurd HUB.out.1 hno
        rw [HBL.out, HUB.out.2] at hps
        have hnl : n4 = k := by
          have h1 := congrArg List.length hps
          rw [List.length_map] at h1
          rw [hsl.at.1, h1]
          exact E0.out.symm
        subst hnl
        have hfl := fls_of hfs hsl
        rw [hps] at hfl
        have HGL := Lib.hid hfl
        have HB5 : Hid (Below w.heap.size w w5) := Lib.hid (HB4.out.trans (hb5.mono HB4.out.size))
        have HST5 := Lib.hid (HSTR.out w5 hb5)
        clear hb5 hps hsl hfs hfl HU HUB HSTR HA4 HB4
        have hnn : ((n4 : Int) == (n4 : Int)) = true := by simp
        go_wp2_with fail
        refine HST5.out.mono ?_
        rintro e w6 ⟨rfl, rfl⟩
        clear HST5
        go_wp2
        go_loopw [87] (fun i wr => ∃ k : Nat, k ≤ n4 ∧ i = .int .i64 k ∧ Hid (Below w5.heap.size w5 wr)) (fun i _ => n4 - (intOf i).toNat)
        case atStart => exact ⟨0, Nat.zero_le _, rfl, Lib.hid (Below.refl _ _)⟩
        case round =>
          obtain ⟨k, hk, rfl, HBR⟩ := hrel
          have HBW : Hid (Below w.heap.size w wr) := Lib.hid (HB5.out.trans (HBR.out.mono HB5.out.size))
          by_cases hkl : k < n4
          · obtain ⟨x, hx⟩ : ∃ v, fs[k]? = some v := ⟨_, List.getElem?_eq_getElem (by have := E0.out; omega)⟩
            obtain ⟨g, o, cs, rfl, hcell, hfl⟩ := HK0.out k x hx
            obtain ⟨g', o', ds, rfl, hcell', hfl'⟩ := HGL.out.at.2.2.2 k x hx
            have HFL := Lib.hid hfl
            have HFL' := Lib.hid hfl'
            obtain ⟨a8, n8, c8, a9, n9, c9, a1, n1, c1, a2, n2, c2, a3, n3, c3, a4, n4, c4, a5, n5, c5, a0, n0, c0, rfl, _, _, _⟩ := hfl
            obtain ⟨b8, m8, d8, b9, m9, d9, b1, m1, d1, b2, m2, d2, b3, m3, d3, b4, m4, d4, b5, m5, d5, b0, m0, d0, rfl, _, _, _⟩ := hfl'
            obtain ⟨wq, HWQ⟩ : ∃ v, Hid (v = wr) := ⟨_, Lib.hid rfl⟩
            have hq1 : Below w.heap.size w wq := by rw [HWQ.out]; exact HBW.out
            have hq2 : Below w5.heap.size w5 wq := by rw [HWQ.out]; exact HBR.out
            have old : ∀ {p : Addr} {v : Value} (z : World), Below wq.heap.size wq z → w.cell? p = some v → z.cell? p = some v := fun z hz h => ((hq1.trans (hz.mono hq1.size)).cell (World.block_lt_of_cell? _ _ h)).trans h
            have old' : ∀ {p : Addr} {v : Value} (z : World), Below wq.heap.size wq z → w5.cell? p = some v → z.cell? p = some v := fun z hz h => ((hq2.trans (hz.mono hq2.size)).cell (World.block_lt_of_cell? _ _ h)).trans h
            have HM0 : Hid (∀ z, Below wq.heap.size wq z → z.cell? ⟨g, o + k * 10, none⟩ = some (.string x.fc.name)) := Lib.hid (fun z hz => old z hz (hcell 0 _ rfl))
            have HL0 : Hid (∀ z, Below wq.heap.size wq z → z.cell? ⟨g', o' + k * 10, none⟩ = some (.string x.fc.name)) := Lib.hid (fun z hz => old' z hz (hcell' 0 _ rfl))
            have HM1 : Hid (∀ z, Below wq.heap.size wq z → z.cell? ⟨g, o + k * 10 + 1, none⟩ = some (.string x.fc.sup)) := Lib.hid (fun z hz => old z hz (hcell 1 _ rfl))
            have HL1 : Hid (∀ z, Below wq.heap.size wq z → z.cell? ⟨g', o' + k * 10 + 1, none⟩ = some (.string x.fc.sup)) := Lib.hid (fun z hz => old' z hz (hcell' 1 _ rfl))
            have HM2 : Hid (∀ z, Below wq.heap.size wq z → z.cell? ⟨g, o + k * 10 + 2, none⟩ = some (.slice a8 n8 c8)) := Lib.hid (fun z hz => old z hz (hcell 2 _ rfl))
            have HL2 : Hid (∀ z, Below wq.heap.size wq z → z.cell? ⟨g', o' + k * 10 + 2, none⟩ = some (.slice b8 m8 d8)) := Lib.hid (fun z hz => old' z hz (hcell' 2 _ rfl))
            have HM3 : Hid (∀ z, Below wq.heap.size wq z → z.cell? ⟨g, o + k * 10 + 3, none⟩ = some (.slice a9 n9 c9)) := Lib.hid (fun z hz => old z hz (hcell 3 _ rfl))
            have HL3 : Hid (∀ z, Below wq.heap.size wq z → z.cell? ⟨g', o' + k * 10 + 3, none⟩ = some (.slice b9 m9 d9)) := Lib.hid (fun z hz => old' z hz (hcell' 3 _ rfl))
            have HM4 : Hid (∀ z, Below wq.heap.size wq z → z.cell? ⟨g, o + k * 10 + 4, none⟩ = some (.slice a1 n1 c1)) := Lib.hid (fun z hz => old z hz (hcell 4 _ rfl))
            have HL4 : Hid (∀ z, Below wq.heap.size wq z → z.cell? ⟨g', o' + k * 10 + 4, none⟩ = some (.slice b1 m1 d1)) := Lib.hid (fun z hz => old' z hz (hcell' 4 _ rfl))
            have HM5 : Hid (∀ z, Below wq.heap.size wq z → z.cell? ⟨g, o + k * 10 + 5, none⟩ = some (.slice a2 n2 c2)) := Lib.hid (fun z hz => old z hz (hcell 5 _ rfl))
            have HL5 : Hid (∀ z, Below wq.heap.size wq z → z.cell? ⟨g', o' + k * 10 + 5, none⟩ = some (.slice b2 m2 d2)) := Lib.hid (fun z hz => old' z hz (hcell' 5 _ rfl))
            have HM6 : Hid (∀ z, Below wq.heap.size wq z → z.cell? ⟨g, o + k * 10 + 6, none⟩ = some (.slice a3 n3 c3)) := Lib.hid (fun z hz => old z hz (hcell 6 _ rfl))
            have HL6 : Hid (∀ z, Below wq.heap.size wq z → z.cell? ⟨g', o' + k * 10 + 6, none⟩ = some (.slice b3 m3 d3)) := Lib.hid (fun z hz => old' z hz (hcell' 6 _ rfl))
            have HM7 : Hid (∀ z, Below wq.heap.size wq z → z.cell? ⟨g, o + k * 10 + 7, none⟩ = some (.slice a4 n4 c4)) := Lib.hid (fun z hz => old z hz (hcell 7 _ rfl))
            have HL7 : Hid (∀ z, Below wq.heap.size wq z → z.cell? ⟨g', o' + k * 10 + 7, none⟩ = some (.slice b4 m4 d4)) := Lib.hid (fun z hz => old' z hz (hcell' 7 _ rfl))
            have HM8 : Hid (∀ z, Below wq.heap.size wq z → z.cell? ⟨g, o + k * 10 + 8, none⟩ = some (.slice a5 n5 c5)) := Lib.hid (fun z hz => old z hz (hcell 8 _ rfl))
            have HL8 : Hid (∀ z, Below wq.heap.size wq z → z.cell? ⟨g', o' + k * 10 + 8, none⟩ = some (.slice b5 m5 d5)) := Lib.hid (fun z hz => old' z hz (hcell' 8 _ rfl))
            have HM9 : Hid (∀ z, Below wq.heap.size wq z → z.cell? ⟨g, o + k * 10 + 9, none⟩ = some (.slice a0 n0 c0)) := Lib.hid (fun z hz => old z hz (hcell 9 _ rfl))
            have HL9 : Hid (∀ z, Below wq.heap.size wq z → z.cell? ⟨g', o' + k * 10 + 9, none⟩ = some (.slice b0 m0 d0)) := Lib.hid (fun z hz => old' z hz (hcell' 9 _ rfl))
            have HC : Hid (∀ z, Below wq.heap.size wq z → Calls Tryd.prog 16 #[.agg #[.string x.fc.name, .string x.fc.sup, .slice b8 m8 d8, .slice b9 m9 d9, .slice b1 m1 d1, .slice b2 m2 d2, .slice b3 m3 d3, .slice b4 m4 d4, .slice b5 m5 d5, .slice b0 m0 d0], .agg #[.string x.fc.name, .string x.fc.sup, .slice a8 n8 c8, .slice a9 n9 c9, .slice a1 n1 c1, .slice a2 n2 c2, .slice a3 n3 c3, .slice a4 n4 c4, .slice a5 n5 c5, .slice a0 n0 c0]] z (IffP (x = x) z)) := Lib.hid (fun z hz => same16 x x _ _ z (HFL'.out.keep (Keeps.of_below (hq2.trans (hz.mono hq2.size)))) (HFL.out.keep (Keeps.of_below (hq1.trans (hz.mono hq1.size)))))
            clear hcell hcell' hx old old' hq1 hq2 HFL HFL'
            go_upto_region 25 with fail
            rw [← HWQ.out]
            refine wp_region_held_drew (S := fun z => Below wq.heap.size wq z) (by kernel_rfl) ?_ (fun hHeld => ?_)
            · exact (Below.refl _ _).drew
            refine wpAnyH_take (i := 0) (v := ?_) rfl (by kernel_rfl) (by kernel_rfl) (by kernel_rfl) (fun _ _ _ h => h) (Or.inl ⟨by rfl, ?_⟩) (by assumption) ?_
            rotate_left
            focus (intro w hSw; have s0 := HM0.out w hSw; have t0 := HL0.out w hSw; have s1 := HM1.out w hSw; have t1 := HL1.out w hSw; have s2 := HM2.out w hSw; have t2 := HL2.out w hSw; have s3 := HM3.out w hSw; have t3 := HL3.out w hSw; have s4 := HM4.out w hSw; have t4 := HL4.out w hSw; have s5 := HM5.out w hSw; have t5 := HL5.out w hSw; have s6 := HM6.out w hSw; have t6 := HL6.out w hSw; have s7 := HM7.out w hSw; have t7 := HL7.out w hSw; have s8 := HM8.out w hSw; have t8 := HL8.out w hSw; have s9 := HM9.out w hSw; have t9 := HL9.out w hSw; go_simp; first | done | with_reducible rfl)
            simp only [Act.put, List.getElem_toArray, List.getElem_cons_zero, List.setIfInBounds_toArray, List.set_cons_zero, List.set_cons_succ]
            refine wpAnyH_take (i := 1) (v := ?_) rfl (by kernel_rfl) (by kernel_rfl) (by kernel_rfl) (fun _ _ _ h => h) (Or.inl ⟨by rfl, ?_⟩) (by assumption) ?_
            rotate_left
            focus (intro w hSw; have s0 := HM0.out w hSw; have t0 := HL0.out w hSw; have s1 := HM1.out w hSw; have t1 := HL1.out w hSw; have s2 := HM2.out w hSw; have t2 := HL2.out w hSw; have s3 := HM3.out w hSw; have t3 := HL3.out w hSw; have s4 := HM4.out w hSw; have t4 := HL4.out w hSw; have s5 := HM5.out w hSw; have t5 := HL5.out w hSw; have s6 := HM6.out w hSw; have t6 := HL6.out w hSw; have s7 := HM7.out w hSw; have t7 := HL7.out w hSw; have s8 := HM8.out w hSw; have t8 := HL8.out w hSw; have s9 := HM9.out w hSw; have t9 := HL9.out w hSw; go_simp; first | done | with_reducible rfl)
            simp only [Act.put, List.getElem_toArray, List.getElem_cons_zero, List.getElem_cons_succ, List.setIfInBounds_toArray, List.set_cons_zero, List.set_cons_succ]
            refine wpAnyH_take (i := 2) (v := ?_) rfl (by kernel_rfl) (by kernel_rfl) (by kernel_rfl) (fun _ _ _ h => h) (Or.inl ⟨by rfl, ?_⟩) (by assumption) ?_
            rotate_left
            focus (intro w hSw; have s0 := HM0.out w hSw; have t0 := HL0.out w hSw; have s1 := HM1.out w hSw; have t1 := HL1.out w hSw; have s2 := HM2.out w hSw; have t2 := HL2.out w hSw; have s3 := HM3.out w hSw; have t3 := HL3.out w hSw; have s4 := HM4.out w hSw; have t4 := HL4.out w hSw; have s5 := HM5.out w hSw; have t5 := HL5.out w hSw; have s6 := HM6.out w hSw; have t6 := HL6.out w hSw; have s7 := HM7.out w hSw; have t7 := HL7.out w hSw; have s8 := HM8.out w hSw; have t8 := HL8.out w hSw; have s9 := HM9.out w hSw; have t9 := HL9.out w hSw; go_simp; first | done | with_reducible rfl)
            simp only [Act.put, List.getElem_toArray, List.getElem_cons_zero, List.getElem_cons_succ, List.setIfInBounds_toArray, List.set_cons_zero, List.set_cons_succ]
            refine wpAnyH_take (i := 3) (v := ?_) rfl (by kernel_rfl) (by kernel_rfl) (by kernel_rfl) (fun _ _ _ h => h) (Or.inl ⟨by rfl, ?_⟩) (by assumption) ?_
            rotate_left
            focus (intro w hSw; have s0 := HM0.out w hSw; have t0 := HL0.out w hSw; have s1 := HM1.out w hSw; have t1 := HL1.out w hSw; have s2 := HM2.out w hSw; have t2 := HL2.out w hSw; have s3 := HM3.out w hSw; have t3 := HL3.out w hSw; have s4 := HM4.out w hSw; have t4 := HL4.out w hSw; have s5 := HM5.out w hSw; have t5 := HL5.out w hSw; have s6 := HM6.out w hSw; have t6 := HL6.out w hSw; have s7 := HM7.out w hSw; have t7 := HL7.out w hSw; have s8 := HM8.out w hSw; have t8 := HL8.out w hSw; have s9 := HM9.out w hSw; have t9 := HL9.out w hSw; go_simp; first | done | with_reducible rfl)
            simp only [Act.put, List.getElem_toArray, List.getElem_cons_zero, List.getElem_cons_succ, List.setIfInBounds_toArray, List.set_cons_zero, List.set_cons_succ]
            refine wpAnyH_take (i := 4) (v := ?_) rfl (by kernel_rfl) (by kernel_rfl) (by kernel_rfl) (fun _ _ _ h => h) (Or.inl ⟨by rfl, ?_⟩) (by assumption) ?_
            rotate_left
            focus (intro w hSw; have s0 := HM0.out w hSw; have t0 := HL0.out w hSw; have s1 := HM1.out w hSw; have t1 := HL1.out w hSw; have s2 := HM2.out w hSw; have t2 := HL2.out w hSw; have s3 := HM3.out w hSw; have t3 := HL3.out w hSw; have s4 := HM4.out w hSw; have t4 := HL4.out w hSw; have s5 := HM5.out w hSw; have t5 := HL5.out w hSw; have s6 := HM6.out w hSw; have t6 := HL6.out w hSw; have s7 := HM7.out w hSw; have t7 := HL7.out w hSw; have s8 := HM8.out w hSw; have t8 := HL8.out w hSw; have s9 := HM9.out w hSw; have t9 := HL9.out w hSw; go_simp; first | done | with_reducible rfl)
            simp only [Act.put, List.getElem_toArray, List.getElem_cons_zero, List.getElem_cons_succ, List.setIfInBounds_toArray, List.set_cons_zero, List.set_cons_succ]
            refine wpAnyH_take (i := 5) (v := ?_) rfl (by kernel_rfl) (by kernel_rfl) (by kernel_rfl) (fun _ _ _ h => h) (Or.inl ⟨by rfl, ?_⟩) (by assumption) ?_
            rotate_left
            focus (intro w hSw; have s0 := HM0.out w hSw; have t0 := HL0.out w hSw; have s1 := HM1.out w hSw; have t1 := HL1.out w hSw; have s2 := HM2.out w hSw; have t2 := HL2.out w hSw; have s3 := HM3.out w hSw; have t3 := HL3.out w hSw; have s4 := HM4.out w hSw; have t4 := HL4.out w hSw; have s5 := HM5.out w hSw; have t5 := HL5.out w hSw; have s6 := HM6.out w hSw; have t6 := HL6.out w hSw; have s7 := HM7.out w hSw; have t7 := HL7.out w hSw; have s8 := HM8.out w hSw; have t8 := HL8.out w hSw; have s9 := HM9.out w hSw; have t9 := HL9.out w hSw; go_simp; first | done | with_reducible rfl)
            simp only [Act.put, List.getElem_toArray, List.getElem_cons_zero, List.getElem_cons_succ, List.setIfInBounds_toArray, List.set_cons_zero, List.set_cons_succ]
            refine wpAnyH_take (i := 6) (v := ?_) rfl (by kernel_rfl) (by kernel_rfl) (by kernel_rfl) (fun _ _ _ h => h) (Or.inl ⟨by rfl, ?_⟩) (by assumption) ?_
            rotate_left
            focus (intro w hSw; have s0 := HM0.out w hSw; have t0 := HL0.out w hSw; have s1 := HM1.out w hSw; have t1 := HL1.out w hSw; have s2 := HM2.out w hSw; have t2 := HL2.out w hSw; have s3 := HM3.out w hSw; have t3 := HL3.out w hSw; have s4 := HM4.out w hSw; have t4 := HL4.out w hSw; have s5 := HM5.out w hSw; have t5 := HL5.out w hSw; have s6 := HM6.out w hSw; have t6 := HL6.out w hSw; have s7 := HM7.out w hSw; have t7 := HL7.out w hSw; have s8 := HM8.out w hSw; have t8 := HL8.out w hSw; have s9 := HM9.out w hSw; have t9 := HL9.out w hSw; go_simp; first | done | with_reducible rfl)
            simp only [Act.put, List.getElem_toArray, List.getElem_cons_zero, List.getElem_cons_succ, List.setIfInBounds_toArray, List.set_cons_zero, List.set_cons_succ]
            refine wpAnyH_take (i := 7) (v := ?_) rfl (by kernel_rfl) (by kernel_rfl) (by kernel_rfl) (fun _ _ _ h => h) (Or.inl ⟨by rfl, ?_⟩) (by assumption) ?_
            rotate_left
            focus (intro w hSw; have s0 := HM0.out w hSw; have t0 := HL0.out w hSw; have s1 := HM1.out w hSw; have t1 := HL1.out w hSw; have s2 := HM2.out w hSw; have t2 := HL2.out w hSw; have s3 := HM3.out w hSw; have t3 := HL3.out w hSw; have s4 := HM4.out w hSw; have t4 := HL4.out w hSw; have s5 := HM5.out w hSw; have t5 := HL5.out w hSw; have s6 := HM6.out w hSw; have t6 := HL6.out w hSw; have s7 := HM7.out w hSw; have t7 := HL7.out w hSw; have s8 := HM8.out w hSw; have t8 := HL8.out w hSw; have s9 := HM9.out w hSw; have t9 := HL9.out w hSw; go_simp; first | done | with_reducible rfl)
            simp only [Act.put, List.getElem_toArray, List.getElem_cons_zero, List.getElem_cons_succ, List.setIfInBounds_toArray, List.set_cons_zero, List.set_cons_succ]
            refine wpAnyH_ready (rs := [8]) (by kernel_rfl) (by simp) ?_
            refine AllReadyH.cons (o := _) rfl (fun K hK => ?_) AllReadyH.nil
            go_simp
            with_reducible refine (HC.out _ hHeld).mono ?_
            rintro e z1 ⟨r, rfl, hr, hz1⟩
            obtain rfl : r = true := hr.2 (by simp)
            go_simp
            refine hK.out _ _ (hHeld.trans (hz1.mono hHeld.size)) (fun hHeld => ?_)
            clear hK K
            try simp only [Act.put, List.getElem_toArray, List.getElem_cons_zero, List.getElem_cons_succ, List.setIfInBounds_toArray, List.set_cons_zero, List.set_cons_succ]
            refine wpAnyH_take (i := 9) (v := ?_) rfl (by kernel_rfl) (by kernel_rfl) (by kernel_rfl) (fun _ _ _ h => h) (Or.inl ⟨by rfl, ?_⟩) (by assumption) ?_
            rotate_left
            focus (intro w hSw; have s0 := HM0.out w hSw; have t0 := HL0.out w hSw; have s1 := HM1.out w hSw; have t1 := HL1.out w hSw; have s2 := HM2.out w hSw; have t2 := HL2.out w hSw; have s3 := HM3.out w hSw; have t3 := HL3.out w hSw; have s4 := HM4.out w hSw; have t4 := HL4.out w hSw; have s5 := HM5.out w hSw; have t5 := HL5.out w hSw; have s6 := HM6.out w hSw; have t6 := HL6.out w hSw; have s7 := HM7.out w hSw; have t7 := HL7.out w hSw; have s8 := HM8.out w hSw; have t8 := HL8.out w hSw; have s9 := HM9.out w hSw; have t9 := HL9.out w hSw; go_simp; first | done | with_reducible rfl)
            simp only [Act.put, List.getElem_toArray, List.getElem_cons_zero, List.getElem_cons_succ, List.setIfInBounds_toArray, List.set_cons_zero, List.set_cons_succ]
            refine wpAnyH_done (by kernel_rfl) ?_ _
            have HBN : Hid (Below w5.heap.size w5 z1) := Lib.hid (by have h := HBR.out; rw [← HWQ.out] at h; exact h.trans (hHeld.mono h.size))
            clear hHeld HC HM0 HL0 HM1 HL1 HM2 HL2 HM3 HL3 HM4 HL4 HM5 HL5 HM6 HL6 HM7 HL7 HM8 HL8 HM9 HL9
            go_wp2
            go_roundw
            case rel => exact ⟨k + 1, by omega, by go_num, HBN⟩
            case measure => simp [intOf]; omega
          · clear HBR
            obtain ⟨q, hq, eq⟩ := mask_and cut 16 65535 (by omega) (by decide)
            simp only [Nat.reducePow] at hq
            have EQ : bits .and .i64 cut 65535 = (q : Int) := eq
            clear eq
            obtain ⟨m, HMQ⟩ : ∃ m : Nat, Hid (m = q % S1.size) := ⟨_, Lib.hid rfl⟩
            have hmlt : m < S1.size := by rw [HMQ.out]; exact Nat.mod_lt _ hpos
            have hrem : (q : Int).tmod (S1.size : Int) = (m : Int) := by rw [HMQ.out, Int.tmod_eq_emod_of_nonneg (by omega)]; exact (Int.natCast_emod q S1.size).symm
            have hne0 : ((S1.size : Int) == 0) = false := beq_eq_false_iff_ne.2 (by omega)
            have hwm : IntKind.i64.wrap (m : Int) = (m : Int) := by rw [IntKind.wrap_i64]; omega
            go_wp2_with fail
            obtain ⟨S2, HS2⟩ : ∃ S2, Hid (S2 = S1.extract 0 m) := ⟨_, Lib.hid rfl⟩
            rw [← HS2.out]
            have HBL2 : Hid (bl S2 = (arcB fs).take m) := Lib.hid (by rw [HS2.out, HS1.out, Pk.cut_bytes]; simp [bl])
            have HN2 : Hid (¬ UnOk (bl S2)) := Lib.hid (by rw [HBL2.out]; exact HCUT.out m (by rw [← HBL.out, bl_len]; exact hmlt))
            have hsz2 : S2.size ≤ 140737488355328 := by rw [← bl_len, HBL2.out, List.length_take, ← HBL.out, bl_len]; omega
            clear EQ hrem hne0 hwm
            refine (unpack17s S2 wr hsz2 (HT.out.below HBW.out)).mono ?_
            rintro e w8 ⟨hv, hb8⟩
            have HB8 : Hid (Below w.heap.size w w8) := Lib.hid (HBW.out.trans (hb8.mono HBW.out.size))
            rcases hv with ⟨_, _, _, _, _, hno, _⟩ | ⟨rfl, _⟩
            · exact absurd hno HN2.out
            clear hb8
            go_wp2
            go_ret
            exact ⟨rfl, HB8.out⟩
end Go.Proofs.YtomlbfkkhhhfkaaDoor.Fc
