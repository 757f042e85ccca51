/-
  Methods that are laid on a page; a statement's text.
-/
import Derived.Test.YtojkagfbdpjckaaDoorLnF
namespace Go.Proofs.YtojkagfbdpjckaaDoor
open Go.RowKit
set_option linter.unusedSimpArgs false
set_option linter.unusedVariables false

set_option maxHeartbeats 4000000 in
set_option maxRecDepth 100000 in
theorem meth41_true (W : World) (b : Nat) (ln co : Int) (name : ByteArray) (ps : List Vr) (rn : ByteArray) (ra : Bool) (body : List St) (a1 : Option Addr) (c1 : Nat) (a2 : Option Addr) (n2 c2 : Nat) (h1 : Sl W 3 VrR ps (.slice a1 ps.length c1)) (h2 : SsLay W b body (.slice a2 n2 c2)) (l : Bs) (w : World) (hw : Below W.heap.size W w) (hp : Pg W.heap.size b (Lib.byteCells l) w) (hlen : l.length + (mx (Mt.mk ln co name true ps rn ra body)).length ≤ 140737488355328) :
    Calls Tryd.prog 41 #[.agg #[.int .i64 ln, .int .i64 co, .string name, .bool true, .slice a1 ps.length c1, .string rn, .bool ra, .slice a2 n2 c2], .pointer (some ⟨b, 0, none⟩)] w fun e' w' => e' = .returned (.tuple #[]) ∧ Lays W.heap.size b (l ++ mx (Mt.mk ln co name true ps rn ra body)) w w' := by
  have hB := hw.size
  have hlt := hp.lt
  have hgb : w.heap.size ≠ b := by omega
  have HPS := Lib.hid h1
  have HBD := Lib.hid h2
  clear h1 h2
  have htx : mx (Mt.mk ln co name true ps rn ra body) = [9] ++ ([115, 116, 97, 116, 105, 99, 32] ++ ([109, 101, 116, 104, 111, 100, 32] ++ (tyB rn ra ++ ([32] ++ (name.data.toList ++ (lst (ps.map vx) ++ ([32, 123, 10] ++ (sxs 2 body ++ ([9] ++ [125, 10]))))))))) := rfl
  rw [htx] at hlen ⊢
  have hl2 : l.length + (1 + (7 + (7 + ((tyB rn ra).length + (1 + (name.data.toList.length + ((lst (ps.map vx)).length + (3 + ((sxs 2 body).length + 3))))))))) ≤ 140737488355328 := by
    have h := hlen
    simp only [List.length_append, List.length_cons, List.length_nil] at h
    omega
  have HL := Lib.hid hl2
  clear hlen htx hl2
  have HTS := Lib.hid (tyS_bytes rn ra)
  have htz : rn.size ≤ 140737488355328 := by
    have h := HL.out
    have h2 : rn.size ≤ (tyB rn ra).length := by simp only [tyB, List.length_append]; show rn.data.toList.length ≤ _; omega
    omega
  go_enter Tryd.func41, Tryd.ntmps41
  go_wp2_with fail
  refine (put1 W.heap.size b (w.heap.size + 1) l ⟨#[9]⟩ _ ((hp.alloc _).alloc _) (heap_al3 _ _ _) (by omega) (by have h := HL.out; simp only [List.length_cons, List.length_nil]; omega) (by simp; omega)).mono ?_
  rintro ee w1 ⟨rfl, hL1⟩
  have hr1 := hL1.row (heap_al2 _ _ _) hgb (by decide)
  have HL1 := Lib.hid (Lays.new hB (below2 w _ _) hL1)
  have hs1 : w.heap.size + 1 ≤ w1.heap.size := by have := hL1.size; simp at this; omega
  have hw1 : Below W.heap.size W w1 := hw.trans HL1.out.2.1
  clear hL1
  have d0 := cell_row hr1 0 rfl
  have d1 := cell_row hr1 1 rfl
  have d2 := cell_row hr1 2 rfl
  have d3 := cell_row hr1 3 rfl
  have d4 := cell_row hr1 4 rfl
  have d5 := cell_row hr1 5 rfl
  have d6 := cell_row hr1 6 rfl
  have d7 := cell_row hr1 7 rfl
  go_wp2_with fail
  refine (put1 W.heap.size b w1.heap.size _ ⟨#[115, 116, 97, 116, 105, 99, 32]⟩ _ (HL1.out.1.alloc _) (heap_al1 _ _) (by have := HL1.out.1.lt; omega) (by have h := HL.out; have h2 := HTS.out; simp only [List.length_append, List.length_cons, List.length_nil, h2, tabs_len] at h ⊢; omega) (by simp; omega)).mono ?_
  rintro e w2 ⟨rfl, hL2⟩
  have hr1 := hL2.row ((below1 w1 _).block _ (by omega) |>.trans hr1) hgb (by decide)
  have HL2 := Lib.hid (HL1.out.trans (Lays.new (by omega) (below1 w1 _) hL2))
  have hs2 : w.heap.size + 1 ≤ w2.heap.size := by have := hL2.size; simp at this; omega
  have hw2 : Below W.heap.size W w2 := hw.trans HL2.out.2.1
  clear hL2
  clear d0 d1 d2 d3 d4 d5 d6 d7
  have d0 := cell_row hr1 0 rfl
  have d1 := cell_row hr1 1 rfl
  have d2 := cell_row hr1 2 rfl
  have d3 := cell_row hr1 3 rfl
  have d4 := cell_row hr1 4 rfl
  have d5 := cell_row hr1 5 rfl
  have d6 := cell_row hr1 6 rfl
  have d7 := cell_row hr1 7 rfl
  go_wp2_with fail
  clear d0 d1 d2 d3 d4 d5 d6 d7
  refine wp_region_held_drew (S := fun w' => w'.heap[w.heap.size]? = some (.cells #[.int .i64 ln, .int .i64 co, .string name, .bool true, .slice a1 ps.length c1, .string rn, .bool ra, .slice a2 n2 c2] 43 (0, 0))) (by kernel_rfl) ?_ (fun hHeld => ?_)
  · exact hr1
  refine wpAnyH_take (i := 0) (v := ?_) rfl (by kernel_rfl) (by kernel_rfl) (by kernel_rfl) (fun _ _ _ h => h) (Or.inl ⟨by rfl, ?_⟩) (by assumption) ?_
  rotate_left
  focus (intro w hSw; have p0 := cell_row hSw 0 rfl; have p1 := cell_row hSw 1 rfl; have p2 := cell_row hSw 2 rfl; have p3 := cell_row hSw 3 rfl; have p4 := cell_row hSw 4 rfl; have p5 := cell_row hSw 5 rfl; have p6 := cell_row hSw 6 rfl; have p7 := cell_row hSw 7 rfl; go_simp; first | done | with_reducible rfl)
  simp only [Act.put, List.getElem_toArray, List.getElem_cons_zero, List.setIfInBounds_toArray, List.set_cons_zero, List.set_cons_succ]
  refine wpAnyH_take (i := 1) (v := ?_) rfl (by kernel_rfl) (by kernel_rfl) (by kernel_rfl) (fun _ _ _ h => h) (Or.inl ⟨by rfl, ?_⟩) (by assumption) ?_
  rotate_left
  focus (intro w hSw; have p0 := cell_row hSw 0 rfl; have p1 := cell_row hSw 1 rfl; have p2 := cell_row hSw 2 rfl; have p3 := cell_row hSw 3 rfl; have p4 := cell_row hSw 4 rfl; have p5 := cell_row hSw 5 rfl; have p6 := cell_row hSw 6 rfl; have p7 := cell_row hSw 7 rfl; go_simp; first | done | with_reducible rfl)
  simp only [Act.put, List.getElem_toArray, List.getElem_cons_zero, List.getElem_cons_succ, List.setIfInBounds_toArray, List.set_cons_zero, List.set_cons_succ]
  refine wpAnyH_take (i := 2) (v := ?_) rfl (by kernel_rfl) (by kernel_rfl) (by kernel_rfl) (fun _ _ _ h => h) (Or.inl ⟨by rfl, ?_⟩) (by assumption) ?_
  rotate_left
  focus (intro w hSw; have p0 := cell_row hSw 0 rfl; have p1 := cell_row hSw 1 rfl; have p2 := cell_row hSw 2 rfl; have p3 := cell_row hSw 3 rfl; have p4 := cell_row hSw 4 rfl; have p5 := cell_row hSw 5 rfl; have p6 := cell_row hSw 6 rfl; have p7 := cell_row hSw 7 rfl; go_simp; first | done | with_reducible rfl)
  simp only [Act.put, List.getElem_toArray, List.getElem_cons_zero, List.getElem_cons_succ, List.setIfInBounds_toArray, List.set_cons_zero, List.set_cons_succ]
  refine wpAnyH_take (i := 4) (v := ?_) rfl (by kernel_rfl) (by kernel_rfl) (by kernel_rfl) (fun _ _ _ h => h) (Or.inl ⟨by rfl, ?_⟩) (by assumption) ?_
  rotate_left
  focus (intro w hSw; have p0 := cell_row hSw 0 rfl; have p1 := cell_row hSw 1 rfl; have p2 := cell_row hSw 2 rfl; have p3 := cell_row hSw 3 rfl; have p4 := cell_row hSw 4 rfl; have p5 := cell_row hSw 5 rfl; have p6 := cell_row hSw 6 rfl; have p7 := cell_row hSw 7 rfl; go_simp; first | done | with_reducible rfl)
  simp only [Act.put, List.getElem_toArray, List.getElem_cons_zero, List.getElem_cons_succ, List.setIfInBounds_toArray, List.set_cons_zero, List.set_cons_succ]
  refine wpAnyH_take (i := 5) (v := ?_) rfl (by kernel_rfl) (by kernel_rfl) (by kernel_rfl) (fun _ _ _ h => h) (Or.inl ⟨by rfl, ?_⟩) (by assumption) ?_
  rotate_left
  focus (intro w hSw; have p0 := cell_row hSw 0 rfl; have p1 := cell_row hSw 1 rfl; have p2 := cell_row hSw 2 rfl; have p3 := cell_row hSw 3 rfl; have p4 := cell_row hSw 4 rfl; have p5 := cell_row hSw 5 rfl; have p6 := cell_row hSw 6 rfl; have p7 := cell_row hSw 7 rfl; go_simp; first | done | with_reducible rfl)
  simp only [Act.put, List.getElem_toArray, List.getElem_cons_zero, List.getElem_cons_succ, List.setIfInBounds_toArray, List.set_cons_zero, List.set_cons_succ]
  refine wpAnyH_ready (rs := [3]) (by kernel_rfl) (by simp) ?_
  refine AllReadyH.cons (o := _) rfl (fun K hK => ?_) AllReadyH.nil
  go_simp
  with_reducible refine (type50 rn ra _ htz).mono ?_
  rintro ee wA ⟨rfl, hbA⟩
  have hbx : Below w2.heap.size w2 wA := Below.trans (Below.drew (Below.refl _ _)) hbA
  have hsA := hbx.size
  have hr2 := (hbx.block _ (by omega)).trans hr1
  clear hbA hHeld
  go_simp
  refine hK.out _ _ hr2 (fun hHeld => ?_)
  clear hK K
  try simp only [Act.put, List.getElem_toArray, List.getElem_cons_zero, List.getElem_cons_succ, List.setIfInBounds_toArray, List.set_cons_zero, List.set_cons_succ]
  refine wpAnyH_ready (rs := [6]) (by kernel_rfl) (by simp) ?_
  refine AllReadyH.cons (o := _) rfl (fun K hK => ?_) AllReadyH.nil
  go_simp
  refine hK.out _ _ (((below1 wA (.cells #[.string ⟨#[109, 101, 116, 104, 111, 100, 32]⟩, .string (tyS rn ra), .string ⟨#[32]⟩, .string name] 9)).block _ (by omega)).trans hr2) (fun hHeld => ?_)
  clear hK K
  try simp only [Act.put, List.getElem_toArray, List.getElem_cons_zero, List.getElem_cons_succ, List.setIfInBounds_toArray, List.set_cons_zero, List.set_cons_succ]
  refine wpAnyH_ready (rs := [7]) (by kernel_rfl) (by simp) ?_
  refine AllReadyH.cons (o := _) rfl (fun K hK => ?_) AllReadyH.nil
  go_simp
  have HLA := Lib.hid (HL2.out.then hB hbx)
  have hltA := HLA.out.1.lt
  refine (put4 W.heap.size b wA.heap.size _ _ _ _ _ _ (HLA.out.1.alloc _) (heap_al1 _ _) (by omega) (by have h := HL.out; have h2 := HTS.out; simp only [List.length_append, List.length_cons, List.length_nil, h2, tabs_len] at h ⊢; omega) (by simp; omega)).mono ?_
  rintro ee w3 ⟨rfl, hL2⟩
  have hr1 := hL2.row hHeld (by omega) (by decide)
  have HL3 := Lib.hid (HLA.out.trans (Lays.new (by omega) (below1 wA _) hL2))
  have hs3 : w.heap.size + 1 ≤ w3.heap.size := by have := hL2.size; simp at this; omega
  have hw3 : Below W.heap.size W w3 := hw.trans HL3.out.2.1
  clear hL2
  go_simp
  refine hK.out _ _ hr1 (fun hHeld => ?_)
  clear hK K
  try simp only [Act.put, List.getElem_toArray, List.getElem_cons_zero, List.getElem_cons_succ, List.setIfInBounds_toArray, List.set_cons_zero, List.set_cons_succ]
  refine wpAnyH_done (by kernel_rfl) ?_ _
  clear hHeld
  have d0 := cell_row hr1 0 rfl
  have d1 := cell_row hr1 1 rfl
  have d2 := cell_row hr1 2 rfl
  have d3 := cell_row hr1 3 rfl
  have d4 := cell_row hr1 4 rfl
  have d5 := cell_row hr1 5 rfl
  have d6 := cell_row hr1 6 rfl
  have d7 := cell_row hr1 7 rfl
  go_wp2_with fail
  refine (vars54 W b ps a1 c1 HPS.out _ w3 hw3 HL3.out.1 (by have h := HL.out; have h2 := HTS.out; simp only [List.length_append, List.length_cons, List.length_nil, h2, tabs_len] at h ⊢; omega)).mono ?_
  rintro ee w4 ⟨rfl, hL4⟩
  have hr1 := hL4.row hr1 hgb (by decide)
  have HL4 := Lib.hid (HL3.out.trans hL4)
  have hs4 : w.heap.size + 1 ≤ w4.heap.size := by have := hL4.size; omega
  have hw4 : Below W.heap.size W w4 := hw.trans HL4.out.2.1
  clear hL4
  go_wp2_with fail
  refine (put1 W.heap.size b w4.heap.size _ ⟨#[32, 123, 10]⟩ _ (HL4.out.1.alloc _) (heap_al1 _ _) (by have := HL4.out.1.lt; omega) (by have h := HL.out; have h2 := HTS.out; simp only [List.length_append, List.length_cons, List.length_nil, h2, tabs_len] at h ⊢; omega) (by simp; omega)).mono ?_
  rintro e w5 ⟨rfl, hL5⟩
  have hr1 := hL5.row ((below1 w4 _).block _ (by omega) |>.trans hr1) hgb (by decide)
  have HL5 := Lib.hid (HL4.out.trans (Lays.new (by omega) (below1 w4 _) hL5))
  have hs5 : w.heap.size + 1 ≤ w5.heap.size := by have := hL5.size; simp at this; omega
  have hw5 : Below W.heap.size W w5 := hw.trans HL5.out.2.1
  clear hL5
  clear d0 d1 d2 d3 d4 d5 d6 d7
  have d0 := cell_row hr1 0 rfl
  have d1 := cell_row hr1 1 rfl
  have d2 := cell_row hr1 2 rfl
  have d3 := cell_row hr1 3 rfl
  have d4 := cell_row hr1 4 rfl
  have d5 := cell_row hr1 5 rfl
  have d6 := cell_row hr1 6 rfl
  have d7 := cell_row hr1 7 rfl
  go_wp2_with fail
  refine (HBD.out 2 _ w5 (by omega) hw5 HL5.out.1 (by have h := HL.out; have h2 := HTS.out; simp only [List.length_append, List.length_cons, List.length_nil, h2, tabs_len] at h ⊢; omega)).mono ?_
  rintro ee w6 ⟨rfl, hL6⟩
  have hr1 := hL6.row hr1 hgb (by decide)
  have HL6 := Lib.hid (HL5.out.trans hL6)
  have hs6 : w.heap.size + 1 ≤ w6.heap.size := by have := hL6.size; omega
  have hw6 : Below W.heap.size W w6 := hw.trans HL6.out.2.1
  clear hL6
  go_wp2_with fail
  refine (put1 W.heap.size b w6.heap.size _ ⟨#[9, 125, 10]⟩ _ (HL6.out.1.alloc _) (heap_al1 _ _) (by have := HL6.out.1.lt; omega) (by have h := HL.out; have h2 := HTS.out; simp only [List.length_append, List.length_cons, List.length_nil, h2, tabs_len] at h ⊢; omega) (by simp; omega)).mono ?_
  rintro e w7 ⟨rfl, hL7⟩
  have hr1 := hL7.row ((below1 w6 _).block _ (by omega) |>.trans hr1) hgb (by decide)
  have HL7 := Lib.hid (HL6.out.trans (Lays.new (by omega) (below1 w6 _) hL7))
  have hs7 : w.heap.size + 1 ≤ w7.heap.size := by have := hL7.size; simp at this; omega
  have hw7 : Below W.heap.size W w7 := hw.trans HL7.out.2.1
  clear hL7
  have hfin := HL7.out
  go_wp2
  go_end0
  refine ⟨rfl, ?_⟩
  rw [HTS.out] at hfin
  simpa only [List.append_assoc, List.cons_append, List.nil_append] using hfin
set_option maxHeartbeats 4000000 in
set_option maxRecDepth 100000 in
theorem meth41_false (W : World) (b : Nat) (ln co : Int) (name : ByteArray) (ps : List Vr) (rn : ByteArray) (ra : Bool) (body : List St) (a1 : Option Addr) (c1 : Nat) (a2 : Option Addr) (n2 c2 : Nat) (h1 : Sl W 3 VrR ps (.slice a1 ps.length c1)) (h2 : SsLay W b body (.slice a2 n2 c2)) (l : Bs) (w : World) (hw : Below W.heap.size W w) (hp : Pg W.heap.size b (Lib.byteCells l) w) (hlen : l.length + (mx (Mt.mk ln co name false ps rn ra body)).length ≤ 140737488355328) :
    Calls Tryd.prog 41 #[.agg #[.int .i64 ln, .int .i64 co, .string name, .bool false, .slice a1 ps.length c1, .string rn, .bool ra, .slice a2 n2 c2], .pointer (some ⟨b, 0, none⟩)] w fun e' w' => e' = .returned (.tuple #[]) ∧ Lays W.heap.size b (l ++ mx (Mt.mk ln co name false ps rn ra body)) w w' := by
  have hB := hw.size
  have hlt := hp.lt
  have hgb : w.heap.size ≠ b := by omega
  have HPS := Lib.hid h1
  have HBD := Lib.hid h2
  clear h1 h2
  have htx : mx (Mt.mk ln co name false ps rn ra body) = [9] ++ ([] ++ ([109, 101, 116, 104, 111, 100, 32] ++ (tyB rn ra ++ ([32] ++ (name.data.toList ++ (lst (ps.map vx) ++ ([32, 123, 10] ++ (sxs 2 body ++ ([9] ++ [125, 10]))))))))) := rfl
  rw [htx] at hlen ⊢
  have hl2 : l.length + (1 + (0 + (7 + ((tyB rn ra).length + (1 + (name.data.toList.length + ((lst (ps.map vx)).length + (3 + ((sxs 2 body).length + 3))))))))) ≤ 140737488355328 := by
    have h := hlen
    simp only [List.length_append, List.length_cons, List.length_nil] at h
    omega
  have HL := Lib.hid hl2
  clear hlen htx hl2
  have HTS := Lib.hid (tyS_bytes rn ra)
  have htz : rn.size ≤ 140737488355328 := by
    have h := HL.out
    have h2 : rn.size ≤ (tyB rn ra).length := by simp only [tyB, List.length_append]; show rn.data.toList.length ≤ _; omega
    omega
  go_enter Tryd.func41, Tryd.ntmps41
  go_wp2_with fail
  refine (put1 W.heap.size b (w.heap.size + 1) l ⟨#[9]⟩ _ ((hp.alloc _).alloc _) (heap_al3 _ _ _) (by omega) (by have h := HL.out; simp only [List.length_cons, List.length_nil]; omega) (by simp; omega)).mono ?_
  rintro ee w1 ⟨rfl, hL1⟩
  have hr1 := hL1.row (heap_al2 _ _ _) hgb (by decide)
  have HL1 := Lib.hid (Lays.new hB (below2 w _ _) hL1)
  have hs1 : w.heap.size + 1 ≤ w1.heap.size := by have := hL1.size; simp at this; omega
  have hw1 : Below W.heap.size W w1 := hw.trans HL1.out.2.1
  clear hL1
  have d0 := cell_row hr1 0 rfl
  have d1 := cell_row hr1 1 rfl
  have d2 := cell_row hr1 2 rfl
  have d3 := cell_row hr1 3 rfl
  have d4 := cell_row hr1 4 rfl
  have d5 := cell_row hr1 5 rfl
  have d6 := cell_row hr1 6 rfl
  have d7 := cell_row hr1 7 rfl
  go_wp2_with fail
  clear d0 d1 d2 d3 d4 d5 d6 d7
  refine wp_region_held_drew (S := fun w' => w'.heap[w.heap.size]? = some (.cells #[.int .i64 ln, .int .i64 co, .string name, .bool false, .slice a1 ps.length c1, .string rn, .bool ra, .slice a2 n2 c2] 43 (0, 0))) (by kernel_rfl) ?_ (fun hHeld => ?_)
  · exact hr1
  refine wpAnyH_take (i := 0) (v := ?_) rfl (by kernel_rfl) (by kernel_rfl) (by kernel_rfl) (fun _ _ _ h => h) (Or.inl ⟨by rfl, ?_⟩) (by assumption) ?_
  rotate_left
  focus (intro w hSw; have p0 := cell_row hSw 0 rfl; have p1 := cell_row hSw 1 rfl; have p2 := cell_row hSw 2 rfl; have p3 := cell_row hSw 3 rfl; have p4 := cell_row hSw 4 rfl; have p5 := cell_row hSw 5 rfl; have p6 := cell_row hSw 6 rfl; have p7 := cell_row hSw 7 rfl; go_simp; first | done | with_reducible rfl)
  simp only [Act.put, List.getElem_toArray, List.getElem_cons_zero, List.setIfInBounds_toArray, List.set_cons_zero, List.set_cons_succ]
  refine wpAnyH_take (i := 1) (v := ?_) rfl (by kernel_rfl) (by kernel_rfl) (by kernel_rfl) (fun _ _ _ h => h) (Or.inl ⟨by rfl, ?_⟩) (by assumption) ?_
  rotate_left
  focus (intro w hSw; have p0 := cell_row hSw 0 rfl; have p1 := cell_row hSw 1 rfl; have p2 := cell_row hSw 2 rfl; have p3 := cell_row hSw 3 rfl; have p4 := cell_row hSw 4 rfl; have p5 := cell_row hSw 5 rfl; have p6 := cell_row hSw 6 rfl; have p7 := cell_row hSw 7 rfl; go_simp; first | done | with_reducible rfl)
  simp only [Act.put, List.getElem_toArray, List.getElem_cons_zero, List.getElem_cons_succ, List.setIfInBounds_toArray, List.set_cons_zero, List.set_cons_succ]
  refine wpAnyH_take (i := 2) (v := ?_) rfl (by kernel_rfl) (by kernel_rfl) (by kernel_rfl) (fun _ _ _ h => h) (Or.inl ⟨by rfl, ?_⟩) (by assumption) ?_
  rotate_left
  focus (intro w hSw; have p0 := cell_row hSw 0 rfl; have p1 := cell_row hSw 1 rfl; have p2 := cell_row hSw 2 rfl; have p3 := cell_row hSw 3 rfl; have p4 := cell_row hSw 4 rfl; have p5 := cell_row hSw 5 rfl; have p6 := cell_row hSw 6 rfl; have p7 := cell_row hSw 7 rfl; go_simp; first | done | with_reducible rfl)
  simp only [Act.put, List.getElem_toArray, List.getElem_cons_zero, List.getElem_cons_succ, List.setIfInBounds_toArray, List.set_cons_zero, List.set_cons_succ]
  refine wpAnyH_take (i := 4) (v := ?_) rfl (by kernel_rfl) (by kernel_rfl) (by kernel_rfl) (fun _ _ _ h => h) (Or.inl ⟨by rfl, ?_⟩) (by assumption) ?_
  rotate_left
  focus (intro w hSw; have p0 := cell_row hSw 0 rfl; have p1 := cell_row hSw 1 rfl; have p2 := cell_row hSw 2 rfl; have p3 := cell_row hSw 3 rfl; have p4 := cell_row hSw 4 rfl; have p5 := cell_row hSw 5 rfl; have p6 := cell_row hSw 6 rfl; have p7 := cell_row hSw 7 rfl; go_simp; first | done | with_reducible rfl)
  simp only [Act.put, List.getElem_toArray, List.getElem_cons_zero, List.getElem_cons_succ, List.setIfInBounds_toArray, List.set_cons_zero, List.set_cons_succ]
  refine wpAnyH_take (i := 5) (v := ?_) rfl (by kernel_rfl) (by kernel_rfl) (by kernel_rfl) (fun _ _ _ h => h) (Or.inl ⟨by rfl, ?_⟩) (by assumption) ?_
  rotate_left
  focus (intro w hSw; have p0 := cell_row hSw 0 rfl; have p1 := cell_row hSw 1 rfl; have p2 := cell_row hSw 2 rfl; have p3 := cell_row hSw 3 rfl; have p4 := cell_row hSw 4 rfl; have p5 := cell_row hSw 5 rfl; have p6 := cell_row hSw 6 rfl; have p7 := cell_row hSw 7 rfl; go_simp; first | done | with_reducible rfl)
  simp only [Act.put, List.getElem_toArray, List.getElem_cons_zero, List.getElem_cons_succ, List.setIfInBounds_toArray, List.set_cons_zero, List.set_cons_succ]
  refine wpAnyH_ready (rs := [3]) (by kernel_rfl) (by simp) ?_
  refine AllReadyH.cons (o := _) rfl (fun K hK => ?_) AllReadyH.nil
  go_simp
  with_reducible refine (type50 rn ra _ htz).mono ?_
  rintro ee wA ⟨rfl, hbA⟩
  have hbx : Below w1.heap.size w1 wA := Below.trans (Below.drew (Below.refl _ _)) hbA
  have hsA := hbx.size
  have hr2 := (hbx.block _ (by omega)).trans hr1
  clear hbA hHeld
  go_simp
  refine hK.out _ _ hr2 (fun hHeld => ?_)
  clear hK K
  try simp only [Act.put, List.getElem_toArray, List.getElem_cons_zero, List.getElem_cons_succ, List.setIfInBounds_toArray, List.set_cons_zero, List.set_cons_succ]
  refine wpAnyH_ready (rs := [6]) (by kernel_rfl) (by simp) ?_
  refine AllReadyH.cons (o := _) rfl (fun K hK => ?_) AllReadyH.nil
  go_simp
  refine hK.out _ _ (((below1 wA (.cells #[.string ⟨#[109, 101, 116, 104, 111, 100, 32]⟩, .string (tyS rn ra), .string ⟨#[32]⟩, .string name] 9)).block _ (by omega)).trans hr2) (fun hHeld => ?_)
  clear hK K
  try simp only [Act.put, List.getElem_toArray, List.getElem_cons_zero, List.getElem_cons_succ, List.setIfInBounds_toArray, List.set_cons_zero, List.set_cons_succ]
  refine wpAnyH_ready (rs := [7]) (by kernel_rfl) (by simp) ?_
  refine AllReadyH.cons (o := _) rfl (fun K hK => ?_) AllReadyH.nil
  go_simp
  have HLA := Lib.hid (HL1.out.then hB hbx)
  have hltA := HLA.out.1.lt
  refine (put4 W.heap.size b wA.heap.size _ _ _ _ _ _ (HLA.out.1.alloc _) (heap_al1 _ _) (by omega) (by have h := HL.out; have h2 := HTS.out; simp only [List.length_append, List.length_cons, List.length_nil, h2, tabs_len] at h ⊢; omega) (by simp; omega)).mono ?_
  rintro ee w2 ⟨rfl, hL2⟩
  have hr1 := hL2.row hHeld (by omega) (by decide)
  have HL2 := Lib.hid (HLA.out.trans (Lays.new (by omega) (below1 wA _) hL2))
  have hs2 : w.heap.size + 1 ≤ w2.heap.size := by have := hL2.size; simp at this; omega
  have hw2 : Below W.heap.size W w2 := hw.trans HL2.out.2.1
  clear hL2
  go_simp
  refine hK.out _ _ hr1 (fun hHeld => ?_)
  clear hK K
  try simp only [Act.put, List.getElem_toArray, List.getElem_cons_zero, List.getElem_cons_succ, List.setIfInBounds_toArray, List.set_cons_zero, List.set_cons_succ]
  refine wpAnyH_done (by kernel_rfl) ?_ _
  clear hHeld
  have d0 := cell_row hr1 0 rfl
  have d1 := cell_row hr1 1 rfl
  have d2 := cell_row hr1 2 rfl
  have d3 := cell_row hr1 3 rfl
  have d4 := cell_row hr1 4 rfl
  have d5 := cell_row hr1 5 rfl
  have d6 := cell_row hr1 6 rfl
  have d7 := cell_row hr1 7 rfl
  go_wp2_with fail
  refine (vars54 W b ps a1 c1 HPS.out _ w2 hw2 HL2.out.1 (by have h := HL.out; have h2 := HTS.out; simp only [List.length_append, List.length_cons, List.length_nil, h2, tabs_len] at h ⊢; omega)).mono ?_
  rintro ee w3 ⟨rfl, hL3⟩
  have hr1 := hL3.row hr1 hgb (by decide)
  have HL3 := Lib.hid (HL2.out.trans hL3)
  have hs3 : w.heap.size + 1 ≤ w3.heap.size := by have := hL3.size; omega
  have hw3 : Below W.heap.size W w3 := hw.trans HL3.out.2.1
  clear hL3
  go_wp2_with fail
  refine (put1 W.heap.size b w3.heap.size _ ⟨#[32, 123, 10]⟩ _ (HL3.out.1.alloc _) (heap_al1 _ _) (by have := HL3.out.1.lt; omega) (by have h := HL.out; have h2 := HTS.out; simp only [List.length_append, List.length_cons, List.length_nil, h2, tabs_len] at h ⊢; omega) (by simp; omega)).mono ?_
  rintro e w4 ⟨rfl, hL4⟩
  have hr1 := hL4.row ((below1 w3 _).block _ (by omega) |>.trans hr1) hgb (by decide)
  have HL4 := Lib.hid (HL3.out.trans (Lays.new (by omega) (below1 w3 _) hL4))
  have hs4 : w.heap.size + 1 ≤ w4.heap.size := by have := hL4.size; simp at this; omega
  have hw4 : Below W.heap.size W w4 := hw.trans HL4.out.2.1
  clear hL4
  clear d0 d1 d2 d3 d4 d5 d6 d7
  have d0 := cell_row hr1 0 rfl
  have d1 := cell_row hr1 1 rfl
  have d2 := cell_row hr1 2 rfl
  have d3 := cell_row hr1 3 rfl
  have d4 := cell_row hr1 4 rfl
  have d5 := cell_row hr1 5 rfl
  have d6 := cell_row hr1 6 rfl
  have d7 := cell_row hr1 7 rfl
  go_wp2_with fail
  refine (HBD.out 2 _ w4 (by omega) hw4 HL4.out.1 (by have h := HL.out; have h2 := HTS.out; simp only [List.length_append, List.length_cons, List.length_nil, h2, tabs_len] at h ⊢; omega)).mono ?_
  rintro ee w5 ⟨rfl, hL5⟩
  have hr1 := hL5.row hr1 hgb (by decide)
  have HL5 := Lib.hid (HL4.out.trans hL5)
  have hs5 : w.heap.size + 1 ≤ w5.heap.size := by have := hL5.size; omega
  have hw5 : Below W.heap.size W w5 := hw.trans HL5.out.2.1
  clear hL5
  go_wp2_with fail
  refine (put1 W.heap.size b w5.heap.size _ ⟨#[9, 125, 10]⟩ _ (HL5.out.1.alloc _) (heap_al1 _ _) (by have := HL5.out.1.lt; omega) (by have h := HL.out; have h2 := HTS.out; simp only [List.length_append, List.length_cons, List.length_nil, h2, tabs_len] at h ⊢; omega) (by simp; omega)).mono ?_
  rintro e w6 ⟨rfl, hL6⟩
  have hr1 := hL6.row ((below1 w5 _).block _ (by omega) |>.trans hr1) hgb (by decide)
  have HL6 := Lib.hid (HL5.out.trans (Lays.new (by omega) (below1 w5 _) hL6))
  have hs6 : w.heap.size + 1 ≤ w6.heap.size := by have := hL6.size; simp at this; omega
  have hw6 : Below W.heap.size W w6 := hw.trans HL6.out.2.1
  clear hL6
  have hfin := HL6.out
  go_wp2
  go_end0
  refine ⟨rfl, ?_⟩
  rw [HTS.out] at hfin
  simpa only [List.append_assoc, List.cons_append, List.nil_append] using hfin
theorem meth41 (W : World) (hpow : Pow W) (b : Nat) (m : Mt) (cs : List Value) (hm : MtR W m cs) (l : Bs) (w : World) (hw : Below W.heap.size W w) (hp : Pg W.heap.size b (Lib.byteCells l) w) (hlen : l.length + (mx m).length ≤ 140737488355328) :
    Calls Tryd.prog 41 #[.agg cs.toArray, .pointer (some ⟨b, 0, none⟩)] w fun e' w' => e' = .returned (.tuple #[]) ∧ Lays W.heap.size b (l ++ mx m) w w' := by
  obtain ⟨pv, bv, rfl, h1, d, h2⟩ := hm
  obtain ⟨a1, c1, rfl⟩ := h1.form
  obtain ⟨a2, c2, rfl⟩ := h2.form
  obtain ⟨ln, co, name, st, ps, rn, ra, body⟩ := m
  cases st
  · exact meth41_false W b ln co name ps rn ra body a1 c1 a2 _ c2 h1 (sts_any W hpow b d body _ h2) l w hw hp hlen
  · exact meth41_true W b ln co name ps rn ra body a1 c1 a2 _ c2 h1 (sts_any W hpow b d body _ h2) l w hw hp hlen
set_option maxHeartbeats 1000000 in
set_option maxRecDepth 100000 in
theorem stmt23 (w : World) (hpow : Pow w) (d : Nat) (s : St) (cs : List Value) (h : StR w d s cs) (deep : Nat) (hd : deep ≤ 140737488355328) (hlen : (sx deep s).length ≤ 140737488355328) :
    Calls Tryd.prog 23 #[.agg cs.toArray, .int .i64 deep] w fun e w' => e = .returned (.string ⟨(sx deep s).toArray⟩) ∧ Below w.heap.size w w' := by
  have HS := Lib.hid (st_any w hpow (w.heap.size + 1) d s cs h deep [])
  have HLen := Lib.hid hlen
  obtain ⟨does, ln, co, name, tn, ta, a1, n1, c1, a2, n2, c2, a3, n3, c3, rfl⟩ := st_shape h
  clear h hlen hpow
  unfold stC at HS ⊢
  go_enter Tryd.func23, Tryd.ntmps23
  go_wp2_with fail
  refine (HS.out _ (below2 w _ _) (page_new w _) (by have := HLen.out; simpa using this)).mono ?_
  rintro ee w1 ⟨rfl, hL1⟩
  have hb1 : Below w.heap.size w w1 := (below2 w _ _).trans hL1.2.1
  have hs1 := hb1.size
  have HL1 := Lib.hid hL1
  clear hL1
  go_wp2_with fail
  refine (text_any w.heap.size (w.heap.size + 1) _ w1 HL1.out.1 hs1).mono ?_
  rintro ee w2 ⟨rfl, hb2⟩
  go_wp2
  go_ret
  exact ⟨rfl, hb1.trans hb2⟩
end Go.Proofs.YtojkagfbdpjckaaDoor
