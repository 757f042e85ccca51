/-
  A class's text.
-/
import Derived.Test.YtojkagfbdpjckaaDoorLnG
namespace Go.Proofs.YtojkagfbdpjckaaDoor
open Go.RowKit
set_option linter.unusedSimpArgs false
set_option linter.unusedVariables false

theorem flat_snoc {α : Type} (f : α → Bs) (xs : List α) (k : Nat) (h : k < xs.length) : (xs.take (k + 1)).flatMap f = (xs.take k).flatMap f ++ f xs[k] := by
  rw [List.take_succ_eq_append_getElem h, List.flatMap_append]
  simp
theorem flat_take_le {α : Type} (f : α → Bs) (xs : List α) (k : Nat) : ((xs.take k).flatMap f).length ≤ (xs.flatMap f).length := by
  have h : xs.flatMap f = (xs.take k).flatMap f ++ (xs.drop k).flatMap f := by rw [← List.flatMap_append, List.take_append_drop]
  rw [h, List.length_append]; omega
set_option maxHeartbeats 4000000 in
set_option maxRecDepth 100000 in
theorem class24n (ln co : Int) (name sup : ByteArray) (fs : List Vr) (ms : List Mt) (a1 : Option Addr) (n1 c1 : Nat) (a2 : Option Addr) (n2 c2 : Nat) (w : World) (hpow : Pow w) (h1 : Sl w 3 VrR fs (.slice a1 n1 c1)) (h2 : Sl w 8 (MtR w) ms (.slice a2 n2 c2)) (hs : sup.size = 0) (hlen : (cx name sup fs ms).length ≤ 140737488355328) :
    Calls Tryd.prog 24 #[.agg #[.int .i64 ln, .int .i64 co, .string name, .string sup, .slice a1 n1 c1, .slice a2 n2 c2]] w fun e w' => e = .returned (.string ⟨(cx name sup fs ms).toArray⟩) ∧ Below w.heap.size w w' := by
  have hcx : ((([] ++ ([99, 108, 97, 115, 115, 32] ++ name.data.toList) ++ [32, 123, 10]) ++ fs.flatMap (fun f => [9, 102, 105, 101, 108, 100, 32] ++ (vx f ++ [59, 10]))) ++ ms.flatMap mx ++ [125, 10]) = cx name sup fs ms := by
    unfold cx
    rw [if_pos hs]
    simp only [List.append_assoc, List.cons_append, List.nil_append]
  have hl2 : (((([] ++ ([99, 108, 97, 115, 115, 32] ++ name.data.toList) ++ [32, 123, 10]) ++ fs.flatMap (fun f => [9, 102, 105, 101, 108, 100, 32] ++ (vx f ++ [59, 10]))) ++ ms.flatMap mx ++ [125, 10])).length ≤ 140737488355328 := by rw [hcx]; exact hlen
  have HL := Lib.hid hl2
  have HCX := Lib.hid hcx
  obtain ⟨e1, l1, m1, g1⟩ := h1.at
  obtain ⟨e2, l2, m2, g2⟩ := h2.at
  unfold maxLen at m1 m2
  have HF := Lib.hid (And.intro e1 g1)
  have HM := Lib.hid (And.intro e2 g2)
  have HP := Lib.hid hpow
  have b1 : n1 ≤ 9223372036854775807 := by omega
  have b2 : n2 ≤ 9223372036854775807 := by omega
  clear hlen hcx hl2 e1 l1 m1 g1 e2 l2 m2 g2 h1 h2 hpow
  have hq : sup = ⟨#[]⟩ := by cases sup; rename_i d; have : d = #[] := Array.eq_empty_of_size_eq_zero hs; rw [this]
  subst hq
  go_enter Tryd.func24, Tryd.ntmps24
  go_wp2_with fail
  refine (put2 w.heap.size (w.heap.size + 1) (w.heap.size + 2) [] ⟨#[99, 108, 97, 115, 115, 32]⟩ name _ ((page_new w _).alloc _) (by simpa using heap_al1 ((w.alloc (.cells #[.int .i64 ln, .int .i64 co, .string name, .string ⟨#[]⟩, .slice a1 n1 c1, .slice a2 n2 c2] 38)).alloc (.cells #[.pointer none, .slice none 0 0] 64)) _) (by omega) (by have h := HL.out; simp only [List.length_append, List.length_cons, List.length_nil] at h ⊢; omega) (by simp; omega)).mono ?_
  rintro ee w1 ⟨rfl, hL1⟩
  have hr1 := hL1.row ((below1 _ _).block w.heap.size (by simp; omega) |>.trans (heap_al2 w _ _)) (by omega) (by decide)
  have hw1 : Below w.heap.size w w1 := ((below2 w _ _).alloc (by simp; omega) _).trans hL1.2.1
  have hs1 : w.heap.size + 2 ≤ w1.heap.size := by have := hL1.size; simp at this; omega
  have HL1 := Lib.hid (show Lays w.heap.size (w.heap.size + 1) _ w1 w1 from ⟨hL1.1, Below.refl _ _, Lib.OthersKept.refl _ _ _⟩)
  clear hL1
  have d0 := cell_row hr1 0 rfl
  have d1 := cell_row hr1 1 rfl
  have d2 := cell_row hr1 2 rfl
  have d3 := cell_row hr1 3 rfl
  have d4 := cell_row hr1 4 rfl
  have d5 := cell_row hr1 5 rfl
  go_wp2_with fail
  refine (put1 w.heap.size (w.heap.size + 1) w1.heap.size _ ⟨#[32, 123, 10]⟩ _ (HL1.out.1.alloc _) (heap_al1 _ _) (by omega) (by have h := HL.out; simp only [List.length_append, List.length_cons, List.length_nil] at h ⊢; omega) (by simp; omega)).mono ?_
  rintro ee w2 ⟨rfl, hL2⟩
  have hr1' := hL2.row ((below1 w1 _).block _ (by omega) |>.trans hr1) (by omega) (by decide)
  have HL2 := Lib.hid (HL1.out.trans (Lays.new (by omega) (below1 w1 _) hL2))
  have hs2 : w.heap.size + 2 ≤ w2.heap.size := by have := hL2.size; simp at this; omega
  have hr2 := hr1'
  clear hL2 hr1'
  clear d0 d1 d2 d3 d4 d5
  have d0 := cell_row hr2 0 rfl
  have d1 := cell_row hr2 1 rfl
  have d2 := cell_row hr2 2 rfl
  have d3 := cell_row hr2 3 rfl
  have d4 := cell_row hr2 4 rfl
  have d5 := cell_row hr2 5 rfl
  go_wp2
  go_loopw [24] (fun i wr => ∃ j : Nat, j ≤ n1 ∧ i = .int .i64 j ∧ Hid (Lays w.heap.size (w.heap.size + 1) (([] ++ ([99, 108, 97, 115, 115, 32] ++ name.data.toList) ++ [32, 123, 10]) ++ (fs.take j).flatMap (fun f => [9, 102, 105, 101, 108, 100, 32] ++ (vx f ++ [59, 10]))) w1 wr)) (fun i _ => n1 - (intOf i).toNat)
  case atStart => exact ⟨0, Nat.zero_le _, rfl, Lib.hid (by have := HL2.out; simpa using this)⟩
  case round =>
    obtain ⟨j, hj1, rfl, HLr⟩ := hrel
    have hwr : Below w.heap.size w wr := hw1.trans HLr.out.2.1
    have hsr := HLr.out.size
    have hbr := HLr.out.1.lt
    by_cases hltj : j < n1
    · have hxj : j < fs.length := by have := HF.out.1; omega
      obtain ⟨g, o, cs, rfl, hcell, hcs⟩ := HF.out.2 j fs[j] (List.getElem?_eq_getElem hxj)
      have HSn := Lib.hid (flat_snoc (fun f => [9, 102, 105, 101, 108, 100, 32] ++ (vx f ++ [59, 10])) fs j hxj)
      have HTl := Lib.hid (flat_take_le (fun f => [9, 102, 105, 101, 108, 100, 32] ++ (vx f ++ [59, 10])) fs (j + 1))
      generalize fs[j] = f at *
      unfold VrR at hcs
      subst hcs
      have k0 : wr.cell? ⟨g, o + j * 3, none⟩ = some (.string f.name) := (hwr.cell (World.block_lt_of_cell? _ _ (hcell 0 _ rfl))).trans (hcell 0 _ rfl)
      have hgl : g < wr.heap.size := World.block_lt_of_cell? _ _ k0
      have k1 := (hwr.cell (World.block_lt_of_cell? _ _ (hcell 1 _ rfl))).trans (hcell 1 _ rfl)
      have k2 := (hwr.cell (World.block_lt_of_cell? _ _ (hcell 2 _ rfl))).trans (hcell 2 _ rfl)
      clear hcell
      have hln : (([] ++ ([99, 108, 97, 115, 115, 32] ++ name.data.toList) ++ [32, 123, 10])).length + (((fs.take j).flatMap (fun f => [9, 102, 105, 101, 108, 100, 32] ++ (vx f ++ [59, 10]))).length + (7 + ((vx f).length + 2))) ≤ 140737488355328 := by
        have h1 := HTl.out
        rw [HSn.out] at h1
        have h := HL.out
        simp only [List.length_append, List.length_cons, List.length_nil] at h h1 ⊢
        omega
      have HLN := Lib.hid hln
      clear hln HTl
      go_wp2_with fail
      refine (put1 w.heap.size (w.heap.size + 1) (wr.heap.size + 1) _ ⟨#[9, 102, 105, 101, 108, 100, 32]⟩ _ ((HLr.out.1.alloc _).alloc _) (heap_al3 _ _ _) (by omega) (by have h := HLN.out; simp only [List.length_append, List.length_cons, List.length_nil] at h ⊢; omega) (by simp; omega)).mono ?_
      rintro ee v1 ⟨rfl, hL⟩
      have hrv := hL.row (heap_al2 _ _ _) (by omega) (by decide)
      have HV1 := Lib.hid (HLr.out.trans (Lays.new (by omega) (below2 wr _ _) hL))
      have hv1 : wr.heap.size + 1 ≤ v1.heap.size := by have := hL.size; simp at this; omega
      clear hL
      have p0 := cell_row hrv 0 rfl
      have p1 := cell_row hrv 1 rfl
      have p2 := cell_row hrv 2 rfl
      go_wp2_with fail
      refine (var40 w.heap.size (w.heap.size + 1) _ f v1 HV1.out.1 (by have h := HLN.out; simp only [List.length_append, List.length_cons, List.length_nil] at h ⊢; omega) (by omega)).mono ?_
      rintro ee v2 ⟨rfl, hL⟩
      have HV2 := Lib.hid (HV1.out.trans hL)
      have hv2 : wr.heap.size + 1 ≤ v2.heap.size := by have := hL.size; omega
      clear hL
      go_wp2_with fail
      refine (put1 w.heap.size (w.heap.size + 1) v2.heap.size _ ⟨#[59, 10]⟩ _ (HV2.out.1.alloc _) (heap_al1 _ _) (by omega) (by have h := HLN.out; simp only [List.length_append, List.length_cons, List.length_nil] at h ⊢; omega) (by simp; omega)).mono ?_
      rintro ee v3 ⟨rfl, hL⟩
      have hfin := HV2.out.trans (Lays.new (by omega) (below1 v2 _) hL)
      have hfin2 : Lays w.heap.size (w.heap.size + 1) (([] ++ ([99, 108, 97, 115, 115, 32] ++ name.data.toList) ++ [32, 123, 10]) ++ (fs.take (j + 1)).flatMap (fun f => [9, 102, 105, 101, 108, 100, 32] ++ (vx f ++ [59, 10]))) w1 v3 := by
        rw [HSn.out]
        simpa only [List.append_assoc, List.cons_append, List.nil_append] using hfin
      have HFin := Lib.hid hfin2
      clear hL hfin hfin2
      go_wp2
      go_roundw
      case rel => exact ⟨j + 1, by omega, by go_num, HFin⟩
      case measure => simp [intOf]; omega
    · have HE : Hid (fs.take j = fs) := Lib.hid (List.take_of_length_le (by have := HF.out.1; omega))
      have hLA := HLr.out
      rw [HE.out] at hLA
      have HLA := Lib.hid hLA
      have hr1 := hLA.row hr1 (by omega) (by decide)
      clear hLA HLr HE
      have d5 := cell_row hr1 5 rfl
      obtain ⟨wq, hwq⟩ : ∃ wq, wq = wr := ⟨_, rfl⟩
      subst hwq
      go_wp2
      go_loopw [38] (fun i wr => ∃ j : Nat, j ≤ n2 ∧ i = .int .i64 j ∧ Hid (Lays w.heap.size (w.heap.size + 1) ((([] ++ ([99, 108, 97, 115, 115, 32] ++ name.data.toList) ++ [32, 123, 10]) ++ fs.flatMap (fun f => [9, 102, 105, 101, 108, 100, 32] ++ (vx f ++ [59, 10]))) ++ (ms.take j).flatMap mx) w1 wr)) (fun i _ => n2 - (intOf i).toNat)
      case atStart => exact ⟨0, Nat.zero_le _, rfl, Lib.hid (by have := HLA.out; simpa using this)⟩
      case round =>
        obtain ⟨j, hj1, rfl, HLr⟩ := hrel
        have hwr : Below w.heap.size w wr := hw1.trans HLr.out.2.1
        have hsr := HLr.out.size
        have hbr := HLr.out.1.lt
        by_cases hltj : j < n2
        · have hxj : j < ms.length := by have := HM.out.1; omega
          obtain ⟨g, o, cs, rfl, hcell, hcs⟩ := HM.out.2 j ms[j] (List.getElem?_eq_getElem hxj)
          have HSn := Lib.hid (flat_snoc mx ms j hxj)
          have HTl := Lib.hid (flat_take_le mx ms (j + 1))
          have HMT := Lib.hid (meth41 w HP.out (w.heap.size + 1) ms[j] cs hcs)
          obtain ⟨pv, bv, rfl, q1, dd, q2⟩ := hcs
          obtain ⟨pa, pc, rfl⟩ := q1.form
          obtain ⟨qa, qc, rfl⟩ := q2.form
          clear q1 q2
          generalize ms[j] = m at *
          have k0 : wr.cell? ⟨g, o + j * 8, none⟩ = some (.int .i64 m.ln) := (hwr.cell (World.block_lt_of_cell? _ _ (hcell 0 _ rfl))).trans (hcell 0 _ rfl)
          have hgl : g < wr.heap.size := World.block_lt_of_cell? _ _ k0
          have k1 := (hwr.cell (World.block_lt_of_cell? _ _ (hcell 1 _ rfl))).trans (hcell 1 _ rfl)
          have k2 := (hwr.cell (World.block_lt_of_cell? _ _ (hcell 2 _ rfl))).trans (hcell 2 _ rfl)
          have k3 := (hwr.cell (World.block_lt_of_cell? _ _ (hcell 3 _ rfl))).trans (hcell 3 _ rfl)
          have k4 := (hwr.cell (World.block_lt_of_cell? _ _ (hcell 4 _ rfl))).trans (hcell 4 _ rfl)
          have k5 := (hwr.cell (World.block_lt_of_cell? _ _ (hcell 5 _ rfl))).trans (hcell 5 _ rfl)
          have k6 := (hwr.cell (World.block_lt_of_cell? _ _ (hcell 6 _ rfl))).trans (hcell 6 _ rfl)
          have k7 := (hwr.cell (World.block_lt_of_cell? _ _ (hcell 7 _ rfl))).trans (hcell 7 _ rfl)
          clear hcell
          unfold mtC at HMT
          have hln : ((([] ++ ([99, 108, 97, 115, 115, 32] ++ name.data.toList) ++ [32, 123, 10]) ++ fs.flatMap (fun f => [9, 102, 105, 101, 108, 100, 32] ++ (vx f ++ [59, 10])))).length + (((ms.take j).flatMap mx).length + (mx m).length) ≤ 140737488355328 := by
            have h1 := HTl.out
            rw [HSn.out] at h1
            have h := HL.out
            simp only [List.length_append, List.length_cons, List.length_nil] at h h1 ⊢
            omega
          have HLN := Lib.hid hln
          clear hln HTl
          go_wp2_with fail
          refine (HMT.out _ _ (hwr.trans ((below1 wr _).mono (by omega))) (HLr.out.1.alloc _) (by have h := HLN.out; rw [List.length_append]; omega)).mono ?_
          rintro ee v1 ⟨rfl, hL⟩
          have hfin := HLr.out.trans (Lays.new (by omega) (below1 wr _) hL)
          rw [List.append_assoc, ← HSn.out] at hfin
          have HFin := Lib.hid hfin
          clear hL hfin
          go_wp2
          go_roundw
          case rel => exact ⟨j + 1, by omega, by go_num, HFin⟩
          case measure => simp [intOf]; omega
        · have HE : Hid (ms.take j = ms) := Lib.hid (List.take_of_length_le (by have := HM.out.1; omega))
          have hLB := HLr.out
          rw [HE.out] at hLB
          have HLB := Lib.hid hLB
          clear hLB HLr HE
          go_wp2_with fail
          refine (put1 w.heap.size (w.heap.size + 1) wr.heap.size _ ⟨#[125, 10]⟩ _ (HLB.out.1.alloc _) (heap_al1 _ _) (by omega) (by have h := HL.out; simp only [List.length_append, List.length_cons, List.length_nil] at h ⊢; omega) (by simp; omega)).mono ?_
          rintro ee v1 ⟨rfl, hL⟩
          have hfin := HLB.out.trans (Lays.new (by omega) (below1 wr _) hL)
          have hw2 : Below w.heap.size w v1 := hw1.trans hfin.2.1
          have HFin := Lib.hid hfin
          have hsv := hw2.size
          clear hL hfin
          go_wp2_with fail
          refine (text_any w.heap.size (w.heap.size + 1) _ v1 HFin.out.1 hsv).mono ?_
          rintro ee v2 ⟨rfl, hb2⟩
          have hans := HCX.out
          go_wp2
          go_ret
          refine ⟨?_, hw2.trans hb2⟩
          rw [← hans]
          simp only [List.append_assoc, List.cons_append, List.nil_append]
          rfl
set_option maxHeartbeats 4000000 in
set_option maxRecDepth 100000 in
theorem class24e (ln co : Int) (name sup : ByteArray) (fs : List Vr) (ms : List Mt) (a1 : Option Addr) (n1 c1 : Nat) (a2 : Option Addr) (n2 c2 : Nat) (w : World) (hpow : Pow w) (h1 : Sl w 3 VrR fs (.slice a1 n1 c1)) (h2 : Sl w 8 (MtR w) ms (.slice a2 n2 c2)) (hs : 0 < sup.size) (hlen : (cx name sup fs ms).length ≤ 140737488355328) :
    Calls Tryd.prog 24 #[.agg #[.int .i64 ln, .int .i64 co, .string name, .string sup, .slice a1 n1 c1, .slice a2 n2 c2]] w fun e w' => e = .returned (.string ⟨(cx name sup fs ms).toArray⟩) ∧ Below w.heap.size w w' := by
  have hcx : ((([] ++ ([99, 108, 97, 115, 115, 32] ++ name.data.toList) ++ ([32, 101, 120, 116, 101, 110, 100, 115, 32] ++ sup.data.toList) ++ [32, 123, 10]) ++ fs.flatMap (fun f => [9, 102, 105, 101, 108, 100, 32] ++ (vx f ++ [59, 10]))) ++ ms.flatMap mx ++ [125, 10]) = cx name sup fs ms := by
    unfold cx
    rw [if_neg (by omega)]
    simp only [List.append_assoc, List.cons_append, List.nil_append]
  have hl2 : (((([] ++ ([99, 108, 97, 115, 115, 32] ++ name.data.toList) ++ ([32, 101, 120, 116, 101, 110, 100, 115, 32] ++ sup.data.toList) ++ [32, 123, 10]) ++ fs.flatMap (fun f => [9, 102, 105, 101, 108, 100, 32] ++ (vx f ++ [59, 10]))) ++ ms.flatMap mx ++ [125, 10])).length ≤ 140737488355328 := by rw [hcx]; exact hlen
  have HL := Lib.hid hl2
  have HCX := Lib.hid hcx
  obtain ⟨e1, l1, m1, g1⟩ := h1.at
  obtain ⟨e2, l2, m2, g2⟩ := h2.at
  unfold maxLen at m1 m2
  have HF := Lib.hid (And.intro e1 g1)
  have HM := Lib.hid (And.intro e2 g2)
  have HP := Lib.hid hpow
  have b1 : n1 ≤ 9223372036854775807 := by omega
  have b2 : n2 ≤ 9223372036854775807 := by omega
  clear hlen hcx hl2 e1 l1 m1 g1 e2 l2 m2 g2 h1 h2 hpow
  have hqe : sup.data.toList ≠ [] := fun h => by have h2 := congrArg List.length h; have h3 : sup.data.toList.length = sup.size := rfl; rw [h3, List.length_nil] at h2; omega
  have hq : (sup.toList == (⟨#[]⟩ : ByteArray).toList) = false := beq_eq_false_iff_ne.2 (by rw [Lib.toList_data, Lib.toList_data]; exact hqe)
  have hq2 : (sup.toList == []) = false := beq_eq_false_iff_ne.2 (by rw [Lib.toList_data]; exact hqe)
  clear hqe
  go_enter Tryd.func24, Tryd.ntmps24
  go_wp2_with fail
  refine (put2 w.heap.size (w.heap.size + 1) (w.heap.size + 2) [] ⟨#[99, 108, 97, 115, 115, 32]⟩ name _ ((page_new w _).alloc _) (by simpa using heap_al1 ((w.alloc (.cells #[.int .i64 ln, .int .i64 co, .string name, .string sup, .slice a1 n1 c1, .slice a2 n2 c2] 38)).alloc (.cells #[.pointer none, .slice none 0 0] 64)) _) (by omega) (by have h := HL.out; simp only [List.length_append, List.length_cons, List.length_nil] at h ⊢; omega) (by simp; omega)).mono ?_
  rintro ee w1 ⟨rfl, hL1⟩
  have hr1 := hL1.row ((below1 _ _).block w.heap.size (by simp; omega) |>.trans (heap_al2 w _ _)) (by omega) (by decide)
  have hw1 : Below w.heap.size w w1 := ((below2 w _ _).alloc (by simp; omega) _).trans hL1.2.1
  have hs1 : w.heap.size + 2 ≤ w1.heap.size := by have := hL1.size; simp at this; omega
  have HL1 := Lib.hid (show Lays w.heap.size (w.heap.size + 1) _ w1 w1 from ⟨hL1.1, Below.refl _ _, Lib.OthersKept.refl _ _ _⟩)
  clear hL1
  have d0 := cell_row hr1 0 rfl
  have d1 := cell_row hr1 1 rfl
  have d2 := cell_row hr1 2 rfl
  have d3 := cell_row hr1 3 rfl
  have d4 := cell_row hr1 4 rfl
  have d5 := cell_row hr1 5 rfl
  go_wp2_with fail
  refine (put2 w.heap.size (w.heap.size + 1) w1.heap.size _ ⟨#[32, 101, 120, 116, 101, 110, 100, 115, 32]⟩ sup _ (HL1.out.1.alloc _) (heap_al1 _ _) (by omega) (by have h := HL.out; simp only [List.length_append, List.length_cons, List.length_nil] at h ⊢; omega) (by simp; omega)).mono ?_
  rintro ee w2 ⟨rfl, hL2⟩
  have hr1' := hL2.row ((below1 w1 _).block _ (by omega) |>.trans hr1) (by omega) (by decide)
  have HL2 := Lib.hid (HL1.out.trans (Lays.new (by omega) (below1 w1 _) hL2))
  have hs2 : w.heap.size + 2 ≤ w2.heap.size := by have := hL2.size; simp at this; omega
  have hr2 := hr1'
  clear hL2 hr1'
  clear d0 d1 d2 d3 d4 d5
  have d0 := cell_row hr2 0 rfl
  have d1 := cell_row hr2 1 rfl
  have d2 := cell_row hr2 2 rfl
  have d3 := cell_row hr2 3 rfl
  have d4 := cell_row hr2 4 rfl
  have d5 := cell_row hr2 5 rfl
  go_wp2_with fail
  refine (put1 w.heap.size (w.heap.size + 1) w2.heap.size _ ⟨#[32, 123, 10]⟩ _ (HL2.out.1.alloc _) (heap_al1 _ _) (by omega) (by have h := HL.out; simp only [List.length_append, List.length_cons, List.length_nil] at h ⊢; omega) (by simp; omega)).mono ?_
  rintro ee w3 ⟨rfl, hL3⟩
  have hr1' := hL3.row ((below1 w2 _).block _ (by omega) |>.trans hr2) (by omega) (by decide)
  have HL3 := Lib.hid (HL2.out.trans (Lays.new (by omega) (below1 w2 _) hL3))
  have hs3 : w.heap.size + 2 ≤ w3.heap.size := by have := hL3.size; simp at this; omega
  have hr3 := hr1'
  clear hL3 hr1'
  clear d0 d1 d2 d3 d4 d5
  have d0 := cell_row hr3 0 rfl
  have d1 := cell_row hr3 1 rfl
  have d2 := cell_row hr3 2 rfl
  have d3 := cell_row hr3 3 rfl
  have d4 := cell_row hr3 4 rfl
  have d5 := cell_row hr3 5 rfl
  go_wp2
  go_loopw [24] (fun i wr => ∃ j : Nat, j ≤ n1 ∧ i = .int .i64 j ∧ Hid (Lays w.heap.size (w.heap.size + 1) (([] ++ ([99, 108, 97, 115, 115, 32] ++ name.data.toList) ++ ([32, 101, 120, 116, 101, 110, 100, 115, 32] ++ sup.data.toList) ++ [32, 123, 10]) ++ (fs.take j).flatMap (fun f => [9, 102, 105, 101, 108, 100, 32] ++ (vx f ++ [59, 10]))) w1 wr)) (fun i _ => n1 - (intOf i).toNat)
  case atStart => exact ⟨0, Nat.zero_le _, rfl, Lib.hid (by have := HL3.out; simpa using this)⟩
  case round =>
    obtain ⟨j, hj1, rfl, HLr⟩ := hrel
    have hwr : Below w.heap.size w wr := hw1.trans HLr.out.2.1
    have hsr := HLr.out.size
    have hbr := HLr.out.1.lt
    by_cases hltj : j < n1
    · have hxj : j < fs.length := by have := HF.out.1; omega
      obtain ⟨g, o, cs, rfl, hcell, hcs⟩ := HF.out.2 j fs[j] (List.getElem?_eq_getElem hxj)
      have HSn := Lib.hid (flat_snoc (fun f => [9, 102, 105, 101, 108, 100, 32] ++ (vx f ++ [59, 10])) fs j hxj)
      have HTl := Lib.hid (flat_take_le (fun f => [9, 102, 105, 101, 108, 100, 32] ++ (vx f ++ [59, 10])) fs (j + 1))
      generalize fs[j] = f at *
      unfold VrR at hcs
      subst hcs
      have k0 : wr.cell? ⟨g, o + j * 3, none⟩ = some (.string f.name) := (hwr.cell (World.block_lt_of_cell? _ _ (hcell 0 _ rfl))).trans (hcell 0 _ rfl)
      have hgl : g < wr.heap.size := World.block_lt_of_cell? _ _ k0
      have k1 := (hwr.cell (World.block_lt_of_cell? _ _ (hcell 1 _ rfl))).trans (hcell 1 _ rfl)
      have k2 := (hwr.cell (World.block_lt_of_cell? _ _ (hcell 2 _ rfl))).trans (hcell 2 _ rfl)
      clear hcell
      have hln : (([] ++ ([99, 108, 97, 115, 115, 32] ++ name.data.toList) ++ ([32, 101, 120, 116, 101, 110, 100, 115, 32] ++ sup.data.toList) ++ [32, 123, 10])).length + (((fs.take j).flatMap (fun f => [9, 102, 105, 101, 108, 100, 32] ++ (vx f ++ [59, 10]))).length + (7 + ((vx f).length + 2))) ≤ 140737488355328 := by
        have h1 := HTl.out
        rw [HSn.out] at h1
        have h := HL.out
        simp only [List.length_append, List.length_cons, List.length_nil] at h h1 ⊢
        omega
      have HLN := Lib.hid hln
      clear hln HTl
      go_wp2_with fail
      refine (put1 w.heap.size (w.heap.size + 1) (wr.heap.size + 1) _ ⟨#[9, 102, 105, 101, 108, 100, 32]⟩ _ ((HLr.out.1.alloc _).alloc _) (heap_al3 _ _ _) (by omega) (by have h := HLN.out; simp only [List.length_append, List.length_cons, List.length_nil] at h ⊢; omega) (by simp; omega)).mono ?_
      rintro ee v1 ⟨rfl, hL⟩
      have hrv := hL.row (heap_al2 _ _ _) (by omega) (by decide)
      have HV1 := Lib.hid (HLr.out.trans (Lays.new (by omega) (below2 wr _ _) hL))
      have hv1 : wr.heap.size + 1 ≤ v1.heap.size := by have := hL.size; simp at this; omega
      clear hL
      have p0 := cell_row hrv 0 rfl
      have p1 := cell_row hrv 1 rfl
      have p2 := cell_row hrv 2 rfl
      go_wp2_with fail
      refine (var40 w.heap.size (w.heap.size + 1) _ f v1 HV1.out.1 (by have h := HLN.out; simp only [List.length_append, List.length_cons, List.length_nil] at h ⊢; omega) (by omega)).mono ?_
      rintro ee v2 ⟨rfl, hL⟩
      have HV2 := Lib.hid (HV1.out.trans hL)
      have hv2 : wr.heap.size + 1 ≤ v2.heap.size := by have := hL.size; omega
      clear hL
      go_wp2_with fail
      refine (put1 w.heap.size (w.heap.size + 1) v2.heap.size _ ⟨#[59, 10]⟩ _ (HV2.out.1.alloc _) (heap_al1 _ _) (by omega) (by have h := HLN.out; simp only [List.length_append, List.length_cons, List.length_nil] at h ⊢; omega) (by simp; omega)).mono ?_
      rintro ee v3 ⟨rfl, hL⟩
      have hfin := HV2.out.trans (Lays.new (by omega) (below1 v2 _) hL)
      have hfin2 : Lays w.heap.size (w.heap.size + 1) (([] ++ ([99, 108, 97, 115, 115, 32] ++ name.data.toList) ++ ([32, 101, 120, 116, 101, 110, 100, 115, 32] ++ sup.data.toList) ++ [32, 123, 10]) ++ (fs.take (j + 1)).flatMap (fun f => [9, 102, 105, 101, 108, 100, 32] ++ (vx f ++ [59, 10]))) w1 v3 := by
        rw [HSn.out]
        simpa only [List.append_assoc, List.cons_append, List.nil_append] using hfin
      have HFin := Lib.hid hfin2
      clear hL hfin hfin2
      go_wp2
      go_roundw
      case rel => exact ⟨j + 1, by omega, by go_num, HFin⟩
      case measure => simp [intOf]; omega
    · have HE : Hid (fs.take j = fs) := Lib.hid (List.take_of_length_le (by have := HF.out.1; omega))
      have hLA := HLr.out
      rw [HE.out] at hLA
      have HLA := Lib.hid hLA
      have hr1 := hLA.row hr1 (by omega) (by decide)
      clear hLA HLr HE
      have d5 := cell_row hr1 5 rfl
      obtain ⟨wq, hwq⟩ : ∃ wq, wq = wr := ⟨_, rfl⟩
      subst hwq
      go_wp2
      go_loopw [38] (fun i wr => ∃ j : Nat, j ≤ n2 ∧ i = .int .i64 j ∧ Hid (Lays w.heap.size (w.heap.size + 1) ((([] ++ ([99, 108, 97, 115, 115, 32] ++ name.data.toList) ++ ([32, 101, 120, 116, 101, 110, 100, 115, 32] ++ sup.data.toList) ++ [32, 123, 10]) ++ fs.flatMap (fun f => [9, 102, 105, 101, 108, 100, 32] ++ (vx f ++ [59, 10]))) ++ (ms.take j).flatMap mx) w1 wr)) (fun i _ => n2 - (intOf i).toNat)
      case atStart => exact ⟨0, Nat.zero_le _, rfl, Lib.hid (by have := HLA.out; simpa using this)⟩
      case round =>
        obtain ⟨j, hj1, rfl, HLr⟩ := hrel
        have hwr : Below w.heap.size w wr := hw1.trans HLr.out.2.1
        have hsr := HLr.out.size
        have hbr := HLr.out.1.lt
        by_cases hltj : j < n2
        · have hxj : j < ms.length := by have := HM.out.1; omega
          obtain ⟨g, o, cs, rfl, hcell, hcs⟩ := HM.out.2 j ms[j] (List.getElem?_eq_getElem hxj)
          have HSn := Lib.hid (flat_snoc mx ms j hxj)
          have HTl := Lib.hid (flat_take_le mx ms (j + 1))
          have HMT := Lib.hid (meth41 w HP.out (w.heap.size + 1) ms[j] cs hcs)
          obtain ⟨pv, bv, rfl, q1, dd, q2⟩ := hcs
          obtain ⟨pa, pc, rfl⟩ := q1.form
          obtain ⟨qa, qc, rfl⟩ := q2.form
          clear q1 q2
          generalize ms[j] = m at *
          have k0 : wr.cell? ⟨g, o + j * 8, none⟩ = some (.int .i64 m.ln) := (hwr.cell (World.block_lt_of_cell? _ _ (hcell 0 _ rfl))).trans (hcell 0 _ rfl)
          have hgl : g < wr.heap.size := World.block_lt_of_cell? _ _ k0
          have k1 := (hwr.cell (World.block_lt_of_cell? _ _ (hcell 1 _ rfl))).trans (hcell 1 _ rfl)
          have k2 := (hwr.cell (World.block_lt_of_cell? _ _ (hcell 2 _ rfl))).trans (hcell 2 _ rfl)
          have k3 := (hwr.cell (World.block_lt_of_cell? _ _ (hcell 3 _ rfl))).trans (hcell 3 _ rfl)
          have k4 := (hwr.cell (World.block_lt_of_cell? _ _ (hcell 4 _ rfl))).trans (hcell 4 _ rfl)
          have k5 := (hwr.cell (World.block_lt_of_cell? _ _ (hcell 5 _ rfl))).trans (hcell 5 _ rfl)
          have k6 := (hwr.cell (World.block_lt_of_cell? _ _ (hcell 6 _ rfl))).trans (hcell 6 _ rfl)
          have k7 := (hwr.cell (World.block_lt_of_cell? _ _ (hcell 7 _ rfl))).trans (hcell 7 _ rfl)
          clear hcell
          unfold mtC at HMT
          have hln : ((([] ++ ([99, 108, 97, 115, 115, 32] ++ name.data.toList) ++ ([32, 101, 120, 116, 101, 110, 100, 115, 32] ++ sup.data.toList) ++ [32, 123, 10]) ++ fs.flatMap (fun f => [9, 102, 105, 101, 108, 100, 32] ++ (vx f ++ [59, 10])))).length + (((ms.take j).flatMap mx).length + (mx m).length) ≤ 140737488355328 := by
            have h1 := HTl.out
            rw [HSn.out] at h1
            have h := HL.out
            simp only [List.length_append, List.length_cons, List.length_nil] at h h1 ⊢
            omega
          have HLN := Lib.hid hln
          clear hln HTl
          go_wp2_with fail
          refine (HMT.out _ _ (hwr.trans ((below1 wr _).mono (by omega))) (HLr.out.1.alloc _) (by have h := HLN.out; rw [List.length_append]; omega)).mono ?_
          rintro ee v1 ⟨rfl, hL⟩
          have hfin := HLr.out.trans (Lays.new (by omega) (below1 wr _) hL)
          rw [List.append_assoc, ← HSn.out] at hfin
          have HFin := Lib.hid hfin
          clear hL hfin
          go_wp2
          go_roundw
          case rel => exact ⟨j + 1, by omega, by go_num, HFin⟩
          case measure => simp [intOf]; omega
        · have HE : Hid (ms.take j = ms) := Lib.hid (List.take_of_length_le (by have := HM.out.1; omega))
          have hLB := HLr.out
          rw [HE.out] at hLB
          have HLB := Lib.hid hLB
          clear hLB HLr HE
          go_wp2_with fail
          refine (put1 w.heap.size (w.heap.size + 1) wr.heap.size _ ⟨#[125, 10]⟩ _ (HLB.out.1.alloc _) (heap_al1 _ _) (by omega) (by have h := HL.out; simp only [List.length_append, List.length_cons, List.length_nil] at h ⊢; omega) (by simp; omega)).mono ?_
          rintro ee v1 ⟨rfl, hL⟩
          have hfin := HLB.out.trans (Lays.new (by omega) (below1 wr _) hL)
          have hw2 : Below w.heap.size w v1 := hw1.trans hfin.2.1
          have HFin := Lib.hid hfin
          have hsv := hw2.size
          clear hL hfin
          go_wp2_with fail
          refine (text_any w.heap.size (w.heap.size + 1) _ v1 HFin.out.1 hsv).mono ?_
          rintro ee v2 ⟨rfl, hb2⟩
          have hans := HCX.out
          go_wp2
          go_ret
          refine ⟨?_, hw2.trans hb2⟩
          rw [← hans]
          simp only [List.append_assoc, List.cons_append, List.nil_append]
          rfl
theorem class24 (ln co : Int) (name sup : ByteArray) (fs : List Vr) (ms : List Mt) (a1 : Option Addr) (n1 c1 : Nat) (a2 : Option Addr) (n2 c2 : Nat) (w : World) (hpow : Pow w) (h1 : Sl w 3 VrR fs (.slice a1 n1 c1)) (h2 : Sl w 8 (MtR w) ms (.slice a2 n2 c2)) (hlen : (cx name sup fs ms).length ≤ 140737488355328) :
    Calls Tryd.prog 24 #[.agg #[.int .i64 ln, .int .i64 co, .string name, .string sup, .slice a1 n1 c1, .slice a2 n2 c2]] w fun e w' => e = .returned (.string ⟨(cx name sup fs ms).toArray⟩) ∧ Below w.heap.size w w' := by
  rcases Nat.eq_zero_or_pos sup.size with hs | hs
  · exact class24n ln co name sup fs ms a1 n1 c1 a2 n2 c2 w hpow h1 h2 hs hlen
  · exact class24e ln co name sup fs ms a1 n1 c1 a2 n2 c2 w hpow h1 h2 hs hlen
end Go.Proofs.YtojkagfbdpjckaaDoor
