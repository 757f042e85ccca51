/-
  AstExprs walked.
-/
import Derived.Test.YtojkagfbdpjckaaDoorTextAll
import Derived.Test.YtojkagfbdpjckaaDoorSame
namespace Go.Proofs.YtojkagfbdpjckaaDoor
open Go.RowKit

set_option maxHeartbeats 2000000 in
set_option maxRecDepth 100000 in
theorem exprs_few (kind ln co num : Int) (name tn : ByteArray) (ta : Bool) (kids : List Tree) (fn : ByteArray) (fa : Bool) (ow : ByteArray) (a1 : Option Addr) (n1 c1 : Nat) (W : World) (hpow : Pow W) (hx : Ex W (.mk kind ln co num name tn ta kids fn fa ow) (.slice a1 n1 c1)) (hf : few (.mk kind ln co num name tn ta kids fn fa ow) 0 = true) :
    Calls Tryd.prog 3 #[.agg #[.int .i64 kind, .int .i64 ln, .int .i64 co, .int .i64 num, .string name, .string tn, .bool ta, .slice a1 n1 c1, .string fn, .bool fa, .string ow]] W fun e w' => e = .returned (.bool true) ∧ Below W.heap.size W w' := by
  have hpos := Pow.pos hpow
  obtain ⟨A0, eA0⟩ : ∃ A : ByteArray, A = ⟨(tx (.mk kind ln co num name tn ta kids fn fa ow)).toArray⟩ := ⟨_, rfl⟩
  have l0 : (tx (.mk kind ln co num name tn ta kids fn fa ow)).length ≤ 72559411200 := tx_few hx.oks hf
  have HT : Hid (∀ w, Below W.heap.size W w → Calls Tryd.prog 10 #[.agg #[.int .i64 kind, .int .i64 ln, .int .i64 co, .int .i64 num, .string name, .string tn, .bool ta, .slice a1 n1 c1, .string fn, .bool fa, .string ow]] w fun e w' => e = .returned (.string A0) ∧ Below w.heap.size w w') := Lib.hid (fun w hb => by
    rw [eA0]; exact text10 (.mk kind ln co num name tn ta kids fn fa ow) (.slice a1 n1 c1) w (Pow.keep hpow hpos hb) (hx.below hb) (by omega))
  have HU : Hid (∀ w, Below W.heap.size W w → Calls Tryd.prog 11 #[.agg #[.int .i64 kind, .int .i64 ln, .int .i64 co, .int .i64 num, .string name, .string tn, .bool ta, .slice a1 n1 c1, .string fn, .bool fa, .string ow]] w fun e w' => e = .returned (.string A0) ∧ Below w.heap.size w w') := Lib.hid (fun w hb => by
    rw [eA0]; exact text11 (.mk kind ln co num name tn ta kids fn fa ow) (.slice a1 n1 c1) w (Pow.keep hpow hpos hb) (hx.below hb) (by omega))
  have HS : Hid (∀ w, Below W.heap.size W w → Calls Tryd.prog 12 #[.agg #[.int .i64 kind, .int .i64 ln, .int .i64 co, .int .i64 num, .string name, .string tn, .bool ta, .slice a1 n1 c1, .string fn, .bool fa, .string ow], .agg #[.int .i64 kind, .int .i64 ln, .int .i64 co, .int .i64 num, .string name, .string tn, .bool ta, .slice a1 n1 c1, .string fn, .bool fa, .string ow]] w fun e w' => e = .returned (.bool true) ∧ Below w.heap.size w w') := Lib.hid (fun w hb => same12 (.mk kind ln co num name tn ta kids fn fa ow) (.slice a1 n1 c1) w (hx.below hb))
  have HF : Hid (∀ w, Below W.heap.size W w → Calls Tryd.prog 9 #[.agg #[.int .i64 kind, .int .i64 ln, .int .i64 co, .int .i64 num, .string name, .string tn, .bool ta, .slice a1 n1 c1, .string fn, .bool fa, .string ow], .int .i64 0] w fun e w' => e = .returned (.bool (few (.mk kind ln co num name tn ta kids fn fa ow) 0)) ∧ Below w.heap.size w w') := Lib.hid (fun w hb => few9 (.mk kind ln co num name tn ta kids fn fa ow) (.slice a1 n1 c1) w (hx.below hb))
  have HFew := Lib.hid hf
  have HP := Lib.hid (fun (w : World) (hb : Below W.heap.size W w) => Pow.keep hpow hpos hb)
  clear hx hf hpow l0 eA0
  go_enter Tryd.func3, Tryd.ntmps3
  go_wp2_with fail
  refine (head8 _ (HP.out _ (below1 W _))).mono ?_
  rintro e w1 ⟨rfl, hb1⟩
  have hB1 : Below W.heap.size W w1 := (below1 W _).trans (hb1.mono (by simp))
  have hr0 := (hb1.block W.heap.size (by simp)).trans (heap_al1 W _)
  have hl0 : W.heap.size < w1.heap.size := by have := hb1.size; simp at this; omega
  clear hb1
  go_wp2_with fail
  refine wp_region_held_drew (S := fun w' => Below w1.heap.size w1 w') (by kernel_rfl) ?_ (fun hHeld => ?_)
  · exact Below.drew (Below.refl _ _)
  refine wpAnyH_take (i := 0) (v := ?_) rfl (by kernel_rfl) (by kernel_rfl) (by kernel_rfl) (fun _ _ _ h => h) (Or.inl ⟨by rfl, ?_⟩) (by assumption) ?_
  rotate_left
  focus (intro w hSw; have r0 : w.heap[W.heap.size]? = some (.cells #[.int .i64 kind, .int .i64 ln, .int .i64 co, .int .i64 num, .string name, .string tn, .bool ta, .slice a1 n1 c1, .string fn, .bool fa, .string ow] 29 (0, 0)) := (hSw.block _ hl0).trans hr0; have p0 : w.cell? ⟨W.heap.size, 0, none⟩ = some (.int .i64 kind) := cell_row r0 0 rfl; have p1 : w.cell? ⟨W.heap.size, 1, none⟩ = some (.int .i64 ln) := cell_row r0 1 rfl; have p2 : w.cell? ⟨W.heap.size, 2, none⟩ = some (.int .i64 co) := cell_row r0 2 rfl; have p3 : w.cell? ⟨W.heap.size, 3, none⟩ = some (.int .i64 num) := cell_row r0 3 rfl; have p4 : w.cell? ⟨W.heap.size, 4, none⟩ = some (.string name) := cell_row r0 4 rfl; have p5 : w.cell? ⟨W.heap.size, 5, none⟩ = some (.string tn) := cell_row r0 5 rfl; have p6 : w.cell? ⟨W.heap.size, 6, none⟩ = some (.bool ta) := cell_row r0 6 rfl; have p7 : w.cell? ⟨W.heap.size, 7, none⟩ = some (.slice a1 n1 c1) := cell_row r0 7 rfl; have p8 : w.cell? ⟨W.heap.size, 8, none⟩ = some (.string fn) := cell_row r0 8 rfl; have p9 : w.cell? ⟨W.heap.size, 9, none⟩ = some (.bool fa) := cell_row r0 9 rfl; have p10 : w.cell? ⟨W.heap.size, 10, none⟩ = some (.string ow) := cell_row r0 10 rfl; go_simp; first | done | with_reducible rfl)
  simp only [Act.put, List.getElem_toArray, List.getElem_cons_zero, List.setIfInBounds_toArray, List.set_cons_zero, List.set_cons_succ]
  refine wpAnyH_ready (rs := [1]) (by kernel_rfl) (by simp) ?_
  refine AllReadyH.cons (o := _) rfl (fun K hK => ?_) AllReadyH.nil
  go_simp
  with_reducible refine (HF.out _ (hB1.trans (hHeld.mono (by omega)))).mono ?_
  rintro e v1 ⟨rfl, hv1⟩
  rw [HFew.out]
  go_simp
  refine hK.out _ _ (hHeld.trans (hv1.mono hHeld.size)) (fun hHeld => ?_)
  clear hK K
  try simp only [Act.put, List.getElem_toArray, List.getElem_cons_zero, List.getElem_cons_succ, List.setIfInBounds_toArray, List.set_cons_zero, List.set_cons_succ]
  refine wpAnyH_take (i := 2) (v := ?_) rfl (by kernel_rfl) (by kernel_rfl) (by kernel_rfl) (fun _ _ _ h => h) (Or.inl ⟨by rfl, ?_⟩) (by assumption) ?_
  rotate_left
  focus (intro w hSw; have r0 : w.heap[W.heap.size]? = some (.cells #[.int .i64 kind, .int .i64 ln, .int .i64 co, .int .i64 num, .string name, .string tn, .bool ta, .slice a1 n1 c1, .string fn, .bool fa, .string ow] 29 (0, 0)) := (hSw.block _ hl0).trans hr0; have p0 : w.cell? ⟨W.heap.size, 0, none⟩ = some (.int .i64 kind) := cell_row r0 0 rfl; have p1 : w.cell? ⟨W.heap.size, 1, none⟩ = some (.int .i64 ln) := cell_row r0 1 rfl; have p2 : w.cell? ⟨W.heap.size, 2, none⟩ = some (.int .i64 co) := cell_row r0 2 rfl; have p3 : w.cell? ⟨W.heap.size, 3, none⟩ = some (.int .i64 num) := cell_row r0 3 rfl; have p4 : w.cell? ⟨W.heap.size, 4, none⟩ = some (.string name) := cell_row r0 4 rfl; have p5 : w.cell? ⟨W.heap.size, 5, none⟩ = some (.string tn) := cell_row r0 5 rfl; have p6 : w.cell? ⟨W.heap.size, 6, none⟩ = some (.bool ta) := cell_row r0 6 rfl; have p7 : w.cell? ⟨W.heap.size, 7, none⟩ = some (.slice a1 n1 c1) := cell_row r0 7 rfl; have p8 : w.cell? ⟨W.heap.size, 8, none⟩ = some (.string fn) := cell_row r0 8 rfl; have p9 : w.cell? ⟨W.heap.size, 9, none⟩ = some (.bool fa) := cell_row r0 9 rfl; have p10 : w.cell? ⟨W.heap.size, 10, none⟩ = some (.string ow) := cell_row r0 10 rfl; go_simp; first | done | with_reducible rfl)
  simp only [Act.put, List.getElem_toArray, List.getElem_cons_zero, List.getElem_cons_succ, List.setIfInBounds_toArray, List.set_cons_zero, List.set_cons_succ]
  refine wpAnyH_take (i := 3) (v := ?_) rfl (by kernel_rfl) (by kernel_rfl) (by kernel_rfl) (fun _ _ _ h => h) (Or.inl ⟨by rfl, ?_⟩) (by assumption) ?_
  rotate_left
  focus (intro w hSw; have r0 : w.heap[W.heap.size]? = some (.cells #[.int .i64 kind, .int .i64 ln, .int .i64 co, .int .i64 num, .string name, .string tn, .bool ta, .slice a1 n1 c1, .string fn, .bool fa, .string ow] 29 (0, 0)) := (hSw.block _ hl0).trans hr0; have p0 : w.cell? ⟨W.heap.size, 0, none⟩ = some (.int .i64 kind) := cell_row r0 0 rfl; have p1 : w.cell? ⟨W.heap.size, 1, none⟩ = some (.int .i64 ln) := cell_row r0 1 rfl; have p2 : w.cell? ⟨W.heap.size, 2, none⟩ = some (.int .i64 co) := cell_row r0 2 rfl; have p3 : w.cell? ⟨W.heap.size, 3, none⟩ = some (.int .i64 num) := cell_row r0 3 rfl; have p4 : w.cell? ⟨W.heap.size, 4, none⟩ = some (.string name) := cell_row r0 4 rfl; have p5 : w.cell? ⟨W.heap.size, 5, none⟩ = some (.string tn) := cell_row r0 5 rfl; have p6 : w.cell? ⟨W.heap.size, 6, none⟩ = some (.bool ta) := cell_row r0 6 rfl; have p7 : w.cell? ⟨W.heap.size, 7, none⟩ = some (.slice a1 n1 c1) := cell_row r0 7 rfl; have p8 : w.cell? ⟨W.heap.size, 8, none⟩ = some (.string fn) := cell_row r0 8 rfl; have p9 : w.cell? ⟨W.heap.size, 9, none⟩ = some (.bool fa) := cell_row r0 9 rfl; have p10 : w.cell? ⟨W.heap.size, 10, none⟩ = some (.string ow) := cell_row r0 10 rfl; go_simp; first | done | with_reducible rfl)
  simp only [Act.put, List.getElem_toArray, List.getElem_cons_zero, List.getElem_cons_succ, List.setIfInBounds_toArray, List.set_cons_zero, List.set_cons_succ]
  refine wpAnyH_take (i := 4) (v := ?_) rfl (by kernel_rfl) (by kernel_rfl) (by kernel_rfl) (fun _ _ _ h => h) (Or.inl ⟨by rfl, ?_⟩) (by assumption) ?_
  rotate_left
  focus (intro w hSw; have r0 : w.heap[W.heap.size]? = some (.cells #[.int .i64 kind, .int .i64 ln, .int .i64 co, .int .i64 num, .string name, .string tn, .bool ta, .slice a1 n1 c1, .string fn, .bool fa, .string ow] 29 (0, 0)) := (hSw.block _ hl0).trans hr0; have p0 : w.cell? ⟨W.heap.size, 0, none⟩ = some (.int .i64 kind) := cell_row r0 0 rfl; have p1 : w.cell? ⟨W.heap.size, 1, none⟩ = some (.int .i64 ln) := cell_row r0 1 rfl; have p2 : w.cell? ⟨W.heap.size, 2, none⟩ = some (.int .i64 co) := cell_row r0 2 rfl; have p3 : w.cell? ⟨W.heap.size, 3, none⟩ = some (.int .i64 num) := cell_row r0 3 rfl; have p4 : w.cell? ⟨W.heap.size, 4, none⟩ = some (.string name) := cell_row r0 4 rfl; have p5 : w.cell? ⟨W.heap.size, 5, none⟩ = some (.string tn) := cell_row r0 5 rfl; have p6 : w.cell? ⟨W.heap.size, 6, none⟩ = some (.bool ta) := cell_row r0 6 rfl; have p7 : w.cell? ⟨W.heap.size, 7, none⟩ = some (.slice a1 n1 c1) := cell_row r0 7 rfl; have p8 : w.cell? ⟨W.heap.size, 8, none⟩ = some (.string fn) := cell_row r0 8 rfl; have p9 : w.cell? ⟨W.heap.size, 9, none⟩ = some (.bool fa) := cell_row r0 9 rfl; have p10 : w.cell? ⟨W.heap.size, 10, none⟩ = some (.string ow) := cell_row r0 10 rfl; go_simp; first | done | with_reducible rfl)
  simp only [Act.put, List.getElem_toArray, List.getElem_cons_zero, List.getElem_cons_succ, List.setIfInBounds_toArray, List.set_cons_zero, List.set_cons_succ]
  refine wpAnyH_take (i := 6) (v := ?_) rfl (by kernel_rfl) (by kernel_rfl) (by kernel_rfl) (fun _ _ _ h => h) (Or.inl ⟨by rfl, ?_⟩) (by assumption) ?_
  rotate_left
  focus (intro w hSw; have r0 : w.heap[W.heap.size]? = some (.cells #[.int .i64 kind, .int .i64 ln, .int .i64 co, .int .i64 num, .string name, .string tn, .bool ta, .slice a1 n1 c1, .string fn, .bool fa, .string ow] 29 (0, 0)) := (hSw.block _ hl0).trans hr0; have p0 : w.cell? ⟨W.heap.size, 0, none⟩ = some (.int .i64 kind) := cell_row r0 0 rfl; have p1 : w.cell? ⟨W.heap.size, 1, none⟩ = some (.int .i64 ln) := cell_row r0 1 rfl; have p2 : w.cell? ⟨W.heap.size, 2, none⟩ = some (.int .i64 co) := cell_row r0 2 rfl; have p3 : w.cell? ⟨W.heap.size, 3, none⟩ = some (.int .i64 num) := cell_row r0 3 rfl; have p4 : w.cell? ⟨W.heap.size, 4, none⟩ = some (.string name) := cell_row r0 4 rfl; have p5 : w.cell? ⟨W.heap.size, 5, none⟩ = some (.string tn) := cell_row r0 5 rfl; have p6 : w.cell? ⟨W.heap.size, 6, none⟩ = some (.bool ta) := cell_row r0 6 rfl; have p7 : w.cell? ⟨W.heap.size, 7, none⟩ = some (.slice a1 n1 c1) := cell_row r0 7 rfl; have p8 : w.cell? ⟨W.heap.size, 8, none⟩ = some (.string fn) := cell_row r0 8 rfl; have p9 : w.cell? ⟨W.heap.size, 9, none⟩ = some (.bool fa) := cell_row r0 9 rfl; have p10 : w.cell? ⟨W.heap.size, 10, none⟩ = some (.string ow) := cell_row r0 10 rfl; go_simp; first | done | with_reducible rfl)
  simp only [Act.put, List.getElem_toArray, List.getElem_cons_zero, List.getElem_cons_succ, List.setIfInBounds_toArray, List.set_cons_zero, List.set_cons_succ]
  refine wpAnyH_ready (rs := [5]) (by kernel_rfl) (by simp) ?_
  refine AllReadyH.cons (o := _) rfl (fun K hK => ?_) AllReadyH.nil
  go_simp
  with_reducible refine (HT.out _ (hB1.trans (hHeld.mono (by omega)))).mono ?_
  rintro e v2 ⟨rfl, hv2⟩
  go_simp
  refine hK.out _ _ (hHeld.trans (hv2.mono hHeld.size)) (fun hHeld => ?_)
  clear hK K
  try simp only [Act.put, List.getElem_toArray, List.getElem_cons_zero, List.getElem_cons_succ, List.setIfInBounds_toArray, List.set_cons_zero, List.set_cons_succ]
  refine wpAnyH_ready (rs := [7]) (by kernel_rfl) (by simp) ?_
  refine AllReadyH.cons (o := _) rfl (fun K hK => ?_) AllReadyH.nil
  go_simp
  with_reducible refine (HU.out _ (hB1.trans (hHeld.mono (by omega)))).mono ?_
  rintro e v3 ⟨rfl, hv3⟩
  go_simp
  refine hK.out _ _ (hHeld.trans (hv3.mono hHeld.size)) (fun hHeld => ?_)
  clear hK K
  try simp only [Act.put, List.getElem_toArray, List.getElem_cons_zero, List.getElem_cons_succ, List.setIfInBounds_toArray, List.set_cons_zero, List.set_cons_succ]
  refine wpAnyH_take (i := 8) (v := ?_) rfl (by kernel_rfl) (by kernel_rfl) (by kernel_rfl) (fun _ _ _ h => h) (Or.inl ⟨by rfl, ?_⟩) (by assumption) ?_
  rotate_left
  focus (intro w hSw; have r0 : w.heap[W.heap.size]? = some (.cells #[.int .i64 kind, .int .i64 ln, .int .i64 co, .int .i64 num, .string name, .string tn, .bool ta, .slice a1 n1 c1, .string fn, .bool fa, .string ow] 29 (0, 0)) := (hSw.block _ hl0).trans hr0; have p0 : w.cell? ⟨W.heap.size, 0, none⟩ = some (.int .i64 kind) := cell_row r0 0 rfl; have p1 : w.cell? ⟨W.heap.size, 1, none⟩ = some (.int .i64 ln) := cell_row r0 1 rfl; have p2 : w.cell? ⟨W.heap.size, 2, none⟩ = some (.int .i64 co) := cell_row r0 2 rfl; have p3 : w.cell? ⟨W.heap.size, 3, none⟩ = some (.int .i64 num) := cell_row r0 3 rfl; have p4 : w.cell? ⟨W.heap.size, 4, none⟩ = some (.string name) := cell_row r0 4 rfl; have p5 : w.cell? ⟨W.heap.size, 5, none⟩ = some (.string tn) := cell_row r0 5 rfl; have p6 : w.cell? ⟨W.heap.size, 6, none⟩ = some (.bool ta) := cell_row r0 6 rfl; have p7 : w.cell? ⟨W.heap.size, 7, none⟩ = some (.slice a1 n1 c1) := cell_row r0 7 rfl; have p8 : w.cell? ⟨W.heap.size, 8, none⟩ = some (.string fn) := cell_row r0 8 rfl; have p9 : w.cell? ⟨W.heap.size, 9, none⟩ = some (.bool fa) := cell_row r0 9 rfl; have p10 : w.cell? ⟨W.heap.size, 10, none⟩ = some (.string ow) := cell_row r0 10 rfl; go_simp; first | done | with_reducible rfl)
  simp only [Act.put, List.getElem_toArray, List.getElem_cons_zero, List.getElem_cons_succ, List.setIfInBounds_toArray, List.set_cons_zero, List.set_cons_succ]
  refine wpAnyH_take (i := 9) (v := ?_) rfl (by kernel_rfl) (by kernel_rfl) (by kernel_rfl) (fun _ _ _ h => h) (Or.inl ⟨by rfl, ?_⟩) (by assumption) ?_
  rotate_left
  focus (intro w hSw; have r0 : w.heap[W.heap.size]? = some (.cells #[.int .i64 kind, .int .i64 ln, .int .i64 co, .int .i64 num, .string name, .string tn, .bool ta, .slice a1 n1 c1, .string fn, .bool fa, .string ow] 29 (0, 0)) := (hSw.block _ hl0).trans hr0; have p0 : w.cell? ⟨W.heap.size, 0, none⟩ = some (.int .i64 kind) := cell_row r0 0 rfl; have p1 : w.cell? ⟨W.heap.size, 1, none⟩ = some (.int .i64 ln) := cell_row r0 1 rfl; have p2 : w.cell? ⟨W.heap.size, 2, none⟩ = some (.int .i64 co) := cell_row r0 2 rfl; have p3 : w.cell? ⟨W.heap.size, 3, none⟩ = some (.int .i64 num) := cell_row r0 3 rfl; have p4 : w.cell? ⟨W.heap.size, 4, none⟩ = some (.string name) := cell_row r0 4 rfl; have p5 : w.cell? ⟨W.heap.size, 5, none⟩ = some (.string tn) := cell_row r0 5 rfl; have p6 : w.cell? ⟨W.heap.size, 6, none⟩ = some (.bool ta) := cell_row r0 6 rfl; have p7 : w.cell? ⟨W.heap.size, 7, none⟩ = some (.slice a1 n1 c1) := cell_row r0 7 rfl; have p8 : w.cell? ⟨W.heap.size, 8, none⟩ = some (.string fn) := cell_row r0 8 rfl; have p9 : w.cell? ⟨W.heap.size, 9, none⟩ = some (.bool fa) := cell_row r0 9 rfl; have p10 : w.cell? ⟨W.heap.size, 10, none⟩ = some (.string ow) := cell_row r0 10 rfl; go_simp; first | done | with_reducible rfl)
  simp only [Act.put, List.getElem_toArray, List.getElem_cons_zero, List.getElem_cons_succ, List.setIfInBounds_toArray, List.set_cons_zero, List.set_cons_succ]
  refine wpAnyH_take (i := 10) (v := ?_) rfl (by kernel_rfl) (by kernel_rfl) (by kernel_rfl) (fun _ _ _ h => h) (Or.inl ⟨by rfl, ?_⟩) (by assumption) ?_
  rotate_left
  focus (intro w hSw; have r0 : w.heap[W.heap.size]? = some (.cells #[.int .i64 kind, .int .i64 ln, .int .i64 co, .int .i64 num, .string name, .string tn, .bool ta, .slice a1 n1 c1, .string fn, .bool fa, .string ow] 29 (0, 0)) := (hSw.block _ hl0).trans hr0; have p0 : w.cell? ⟨W.heap.size, 0, none⟩ = some (.int .i64 kind) := cell_row r0 0 rfl; have p1 : w.cell? ⟨W.heap.size, 1, none⟩ = some (.int .i64 ln) := cell_row r0 1 rfl; have p2 : w.cell? ⟨W.heap.size, 2, none⟩ = some (.int .i64 co) := cell_row r0 2 rfl; have p3 : w.cell? ⟨W.heap.size, 3, none⟩ = some (.int .i64 num) := cell_row r0 3 rfl; have p4 : w.cell? ⟨W.heap.size, 4, none⟩ = some (.string name) := cell_row r0 4 rfl; have p5 : w.cell? ⟨W.heap.size, 5, none⟩ = some (.string tn) := cell_row r0 5 rfl; have p6 : w.cell? ⟨W.heap.size, 6, none⟩ = some (.bool ta) := cell_row r0 6 rfl; have p7 : w.cell? ⟨W.heap.size, 7, none⟩ = some (.slice a1 n1 c1) := cell_row r0 7 rfl; have p8 : w.cell? ⟨W.heap.size, 8, none⟩ = some (.string fn) := cell_row r0 8 rfl; have p9 : w.cell? ⟨W.heap.size, 9, none⟩ = some (.bool fa) := cell_row r0 9 rfl; have p10 : w.cell? ⟨W.heap.size, 10, none⟩ = some (.string ow) := cell_row r0 10 rfl; go_simp; first | done | with_reducible rfl)
  simp only [Act.put, List.getElem_toArray, List.getElem_cons_zero, List.getElem_cons_succ, List.setIfInBounds_toArray, List.set_cons_zero, List.set_cons_succ]
  refine wpAnyH_take (i := 11) (v := ?_) rfl (by kernel_rfl) (by kernel_rfl) (by kernel_rfl) (fun _ _ _ h => h) (Or.inl ⟨by rfl, ?_⟩) (by assumption) ?_
  rotate_left
  focus (intro w hSw; have r0 : w.heap[W.heap.size]? = some (.cells #[.int .i64 kind, .int .i64 ln, .int .i64 co, .int .i64 num, .string name, .string tn, .bool ta, .slice a1 n1 c1, .string fn, .bool fa, .string ow] 29 (0, 0)) := (hSw.block _ hl0).trans hr0; have p0 : w.cell? ⟨W.heap.size, 0, none⟩ = some (.int .i64 kind) := cell_row r0 0 rfl; have p1 : w.cell? ⟨W.heap.size, 1, none⟩ = some (.int .i64 ln) := cell_row r0 1 rfl; have p2 : w.cell? ⟨W.heap.size, 2, none⟩ = some (.int .i64 co) := cell_row r0 2 rfl; have p3 : w.cell? ⟨W.heap.size, 3, none⟩ = some (.int .i64 num) := cell_row r0 3 rfl; have p4 : w.cell? ⟨W.heap.size, 4, none⟩ = some (.string name) := cell_row r0 4 rfl; have p5 : w.cell? ⟨W.heap.size, 5, none⟩ = some (.string tn) := cell_row r0 5 rfl; have p6 : w.cell? ⟨W.heap.size, 6, none⟩ = some (.bool ta) := cell_row r0 6 rfl; have p7 : w.cell? ⟨W.heap.size, 7, none⟩ = some (.slice a1 n1 c1) := cell_row r0 7 rfl; have p8 : w.cell? ⟨W.heap.size, 8, none⟩ = some (.string fn) := cell_row r0 8 rfl; have p9 : w.cell? ⟨W.heap.size, 9, none⟩ = some (.bool fa) := cell_row r0 9 rfl; have p10 : w.cell? ⟨W.heap.size, 10, none⟩ = some (.string ow) := cell_row r0 10 rfl; go_simp; first | done | with_reducible rfl)
  simp only [Act.put, List.getElem_toArray, List.getElem_cons_zero, List.getElem_cons_succ, List.setIfInBounds_toArray, List.set_cons_zero, List.set_cons_succ]
  refine wpAnyH_ready (rs := [12]) (by kernel_rfl) (by simp) ?_
  refine AllReadyH.cons (o := _) rfl (fun K hK => ?_) AllReadyH.nil
  go_simp
  with_reducible refine (HS.out _ (hB1.trans (hHeld.mono (by omega)))).mono ?_
  rintro e v4 ⟨rfl, hv4⟩
  go_simp
  refine hK.out _ _ (hHeld.trans (hv4.mono hHeld.size)) (fun hHeld => ?_)
  clear hK K
  try simp only [Act.put, List.getElem_toArray, List.getElem_cons_zero, List.getElem_cons_succ, List.setIfInBounds_toArray, List.set_cons_zero, List.set_cons_succ]
  refine wpAnyH_take (i := 13) (v := ?_) rfl (by kernel_rfl) (by kernel_rfl) (by kernel_rfl) (fun _ _ _ h => h) (Or.inl ⟨by rfl, ?_⟩) (by assumption) ?_
  rotate_left
  focus (intro w hSw; have r0 : w.heap[W.heap.size]? = some (.cells #[.int .i64 kind, .int .i64 ln, .int .i64 co, .int .i64 num, .string name, .string tn, .bool ta, .slice a1 n1 c1, .string fn, .bool fa, .string ow] 29 (0, 0)) := (hSw.block _ hl0).trans hr0; have p0 : w.cell? ⟨W.heap.size, 0, none⟩ = some (.int .i64 kind) := cell_row r0 0 rfl; have p1 : w.cell? ⟨W.heap.size, 1, none⟩ = some (.int .i64 ln) := cell_row r0 1 rfl; have p2 : w.cell? ⟨W.heap.size, 2, none⟩ = some (.int .i64 co) := cell_row r0 2 rfl; have p3 : w.cell? ⟨W.heap.size, 3, none⟩ = some (.int .i64 num) := cell_row r0 3 rfl; have p4 : w.cell? ⟨W.heap.size, 4, none⟩ = some (.string name) := cell_row r0 4 rfl; have p5 : w.cell? ⟨W.heap.size, 5, none⟩ = some (.string tn) := cell_row r0 5 rfl; have p6 : w.cell? ⟨W.heap.size, 6, none⟩ = some (.bool ta) := cell_row r0 6 rfl; have p7 : w.cell? ⟨W.heap.size, 7, none⟩ = some (.slice a1 n1 c1) := cell_row r0 7 rfl; have p8 : w.cell? ⟨W.heap.size, 8, none⟩ = some (.string fn) := cell_row r0 8 rfl; have p9 : w.cell? ⟨W.heap.size, 9, none⟩ = some (.bool fa) := cell_row r0 9 rfl; have p10 : w.cell? ⟨W.heap.size, 10, none⟩ = some (.string ow) := cell_row r0 10 rfl; go_simp; first | done | with_reducible rfl)
  simp only [Act.put, List.getElem_toArray, List.getElem_cons_zero, List.getElem_cons_succ, List.setIfInBounds_toArray, List.set_cons_zero, List.set_cons_succ]
  refine wpAnyH_take (i := 14) (v := ?_) rfl (by kernel_rfl) (by kernel_rfl) (by kernel_rfl) (fun _ _ _ h => h) (Or.inl ⟨by rfl, ?_⟩) (by assumption) ?_
  rotate_left
  focus (intro w hSw; have r0 : w.heap[W.heap.size]? = some (.cells #[.int .i64 kind, .int .i64 ln, .int .i64 co, .int .i64 num, .string name, .string tn, .bool ta, .slice a1 n1 c1, .string fn, .bool fa, .string ow] 29 (0, 0)) := (hSw.block _ hl0).trans hr0; have p0 : w.cell? ⟨W.heap.size, 0, none⟩ = some (.int .i64 kind) := cell_row r0 0 rfl; have p1 : w.cell? ⟨W.heap.size, 1, none⟩ = some (.int .i64 ln) := cell_row r0 1 rfl; have p2 : w.cell? ⟨W.heap.size, 2, none⟩ = some (.int .i64 co) := cell_row r0 2 rfl; have p3 : w.cell? ⟨W.heap.size, 3, none⟩ = some (.int .i64 num) := cell_row r0 3 rfl; have p4 : w.cell? ⟨W.heap.size, 4, none⟩ = some (.string name) := cell_row r0 4 rfl; have p5 : w.cell? ⟨W.heap.size, 5, none⟩ = some (.string tn) := cell_row r0 5 rfl; have p6 : w.cell? ⟨W.heap.size, 6, none⟩ = some (.bool ta) := cell_row r0 6 rfl; have p7 : w.cell? ⟨W.heap.size, 7, none⟩ = some (.slice a1 n1 c1) := cell_row r0 7 rfl; have p8 : w.cell? ⟨W.heap.size, 8, none⟩ = some (.string fn) := cell_row r0 8 rfl; have p9 : w.cell? ⟨W.heap.size, 9, none⟩ = some (.bool fa) := cell_row r0 9 rfl; have p10 : w.cell? ⟨W.heap.size, 10, none⟩ = some (.string ow) := cell_row r0 10 rfl; go_simp; first | done | with_reducible rfl)
  simp only [Act.put, List.getElem_toArray, List.getElem_cons_zero, List.getElem_cons_succ, List.setIfInBounds_toArray, List.set_cons_zero, List.set_cons_succ]
  refine wpAnyH_take (i := 15) (v := ?_) rfl (by kernel_rfl) (by kernel_rfl) (by kernel_rfl) (fun _ _ _ h => h) (Or.inl ⟨by rfl, ?_⟩) (by assumption) ?_
  rotate_left
  focus (intro w hSw; have r0 : w.heap[W.heap.size]? = some (.cells #[.int .i64 kind, .int .i64 ln, .int .i64 co, .int .i64 num, .string name, .string tn, .bool ta, .slice a1 n1 c1, .string fn, .bool fa, .string ow] 29 (0, 0)) := (hSw.block _ hl0).trans hr0; have p0 : w.cell? ⟨W.heap.size, 0, none⟩ = some (.int .i64 kind) := cell_row r0 0 rfl; have p1 : w.cell? ⟨W.heap.size, 1, none⟩ = some (.int .i64 ln) := cell_row r0 1 rfl; have p2 : w.cell? ⟨W.heap.size, 2, none⟩ = some (.int .i64 co) := cell_row r0 2 rfl; have p3 : w.cell? ⟨W.heap.size, 3, none⟩ = some (.int .i64 num) := cell_row r0 3 rfl; have p4 : w.cell? ⟨W.heap.size, 4, none⟩ = some (.string name) := cell_row r0 4 rfl; have p5 : w.cell? ⟨W.heap.size, 5, none⟩ = some (.string tn) := cell_row r0 5 rfl; have p6 : w.cell? ⟨W.heap.size, 6, none⟩ = some (.bool ta) := cell_row r0 6 rfl; have p7 : w.cell? ⟨W.heap.size, 7, none⟩ = some (.slice a1 n1 c1) := cell_row r0 7 rfl; have p8 : w.cell? ⟨W.heap.size, 8, none⟩ = some (.string fn) := cell_row r0 8 rfl; have p9 : w.cell? ⟨W.heap.size, 9, none⟩ = some (.bool fa) := cell_row r0 9 rfl; have p10 : w.cell? ⟨W.heap.size, 10, none⟩ = some (.string ow) := cell_row r0 10 rfl; go_simp; first | done | with_reducible rfl)
  simp only [Act.put, List.getElem_toArray, List.getElem_cons_zero, List.getElem_cons_succ, List.setIfInBounds_toArray, List.set_cons_zero, List.set_cons_succ]
  refine wpAnyH_done (by kernel_rfl) ?_ _
  go_wp2
  go_ret
  exact ⟨rfl, hB1.trans (hHeld.mono (by omega))⟩
set_option maxHeartbeats 2000000 in
set_option maxRecDepth 100000 in
theorem exprs_not (kind ln co num : Int) (name tn : ByteArray) (ta : Bool) (kids : List Tree) (fn : ByteArray) (fa : Bool) (ow : ByteArray) (a1 : Option Addr) (n1 c1 : Nat) (W : World) (hpow : Pow W) (hx : Ex W (.mk kind ln co num name tn ta kids fn fa ow) (.slice a1 n1 c1)) (hf : few (.mk kind ln co num name tn ta kids fn fa ow) 0 = false) :
    Calls Tryd.prog 3 #[.agg #[.int .i64 kind, .int .i64 ln, .int .i64 co, .int .i64 num, .string name, .string tn, .bool ta, .slice a1 n1 c1, .string fn, .bool fa, .string ow]] W fun e w' => e = .returned (.bool true) ∧ Below W.heap.size W w' := by
  have hpos := Pow.pos hpow
  have HF : Hid (∀ w, Below W.heap.size W w → Calls Tryd.prog 9 #[.agg #[.int .i64 kind, .int .i64 ln, .int .i64 co, .int .i64 num, .string name, .string tn, .bool ta, .slice a1 n1 c1, .string fn, .bool fa, .string ow], .int .i64 0] w fun e w' => e = .returned (.bool (few (.mk kind ln co num name tn ta kids fn fa ow) 0)) ∧ Below w.heap.size w w') := Lib.hid (fun w hb => few9 (.mk kind ln co num name tn ta kids fn fa ow) (.slice a1 n1 c1) w (hx.below hb))
  have HFew := Lib.hid hf
  have HP := Lib.hid (fun (w : World) (hb : Below W.heap.size W w) => Pow.keep hpow hpos hb)
  clear hx hf hpow
  go_enter Tryd.func3, Tryd.ntmps3
  go_wp2_with fail
  refine (head8 _ (HP.out _ (below1 W _))).mono ?_
  rintro e w1 ⟨rfl, hb1⟩
  have hB1 : Below W.heap.size W w1 := (below1 W _).trans (hb1.mono (by simp))
  have hr0 := (hb1.block W.heap.size (by simp)).trans (heap_al1 W _)
  have hl0 : W.heap.size < w1.heap.size := by have := hb1.size; simp at this; omega
  clear hb1
  go_wp2_with fail
  refine wp_region_held_drew (S := fun w' => Below w1.heap.size w1 w') (by kernel_rfl) ?_ (fun hHeld => ?_)
  · exact Below.drew (Below.refl _ _)
  refine wpAnyH_take (i := 0) (v := ?_) rfl (by kernel_rfl) (by kernel_rfl) (by kernel_rfl) (fun _ _ _ h => h) (Or.inl ⟨by rfl, ?_⟩) (by assumption) ?_
  rotate_left
  focus (intro w hSw; have r0 : w.heap[W.heap.size]? = some (.cells #[.int .i64 kind, .int .i64 ln, .int .i64 co, .int .i64 num, .string name, .string tn, .bool ta, .slice a1 n1 c1, .string fn, .bool fa, .string ow] 29 (0, 0)) := (hSw.block _ hl0).trans hr0; have p0 : w.cell? ⟨W.heap.size, 0, none⟩ = some (.int .i64 kind) := cell_row r0 0 rfl; have p1 : w.cell? ⟨W.heap.size, 1, none⟩ = some (.int .i64 ln) := cell_row r0 1 rfl; have p2 : w.cell? ⟨W.heap.size, 2, none⟩ = some (.int .i64 co) := cell_row r0 2 rfl; have p3 : w.cell? ⟨W.heap.size, 3, none⟩ = some (.int .i64 num) := cell_row r0 3 rfl; have p4 : w.cell? ⟨W.heap.size, 4, none⟩ = some (.string name) := cell_row r0 4 rfl; have p5 : w.cell? ⟨W.heap.size, 5, none⟩ = some (.string tn) := cell_row r0 5 rfl; have p6 : w.cell? ⟨W.heap.size, 6, none⟩ = some (.bool ta) := cell_row r0 6 rfl; have p7 : w.cell? ⟨W.heap.size, 7, none⟩ = some (.slice a1 n1 c1) := cell_row r0 7 rfl; have p8 : w.cell? ⟨W.heap.size, 8, none⟩ = some (.string fn) := cell_row r0 8 rfl; have p9 : w.cell? ⟨W.heap.size, 9, none⟩ = some (.bool fa) := cell_row r0 9 rfl; have p10 : w.cell? ⟨W.heap.size, 10, none⟩ = some (.string ow) := cell_row r0 10 rfl; go_simp; first | done | with_reducible rfl)
  simp only [Act.put, List.getElem_toArray, List.getElem_cons_zero, List.setIfInBounds_toArray, List.set_cons_zero, List.set_cons_succ]
  refine wpAnyH_ready (rs := [1]) (by kernel_rfl) (by simp) ?_
  refine AllReadyH.cons (o := _) rfl (fun K hK => ?_) AllReadyH.nil
  go_simp
  with_reducible refine (HF.out _ (hB1.trans (hHeld.mono (by omega)))).mono ?_
  rintro e v1 ⟨rfl, hv1⟩
  rw [HFew.out]
  go_simp
  refine hK.out _ _ (hHeld.trans (hv1.mono hHeld.size)) (fun hHeld => ?_)
  clear hK K
  try simp only [Act.put, List.getElem_toArray, List.getElem_cons_zero, List.getElem_cons_succ, List.setIfInBounds_toArray, List.set_cons_zero, List.set_cons_succ]
  refine wpAnyH_take (i := 2) (v := ?_) rfl (by kernel_rfl) (by kernel_rfl) (by kernel_rfl) (fun _ _ _ h => h) (Or.inl ⟨by rfl, ?_⟩) (by assumption) ?_
  rotate_left
  focus (intro w hSw; have r0 : w.heap[W.heap.size]? = some (.cells #[.int .i64 kind, .int .i64 ln, .int .i64 co, .int .i64 num, .string name, .string tn, .bool ta, .slice a1 n1 c1, .string fn, .bool fa, .string ow] 29 (0, 0)) := (hSw.block _ hl0).trans hr0; have p0 : w.cell? ⟨W.heap.size, 0, none⟩ = some (.int .i64 kind) := cell_row r0 0 rfl; have p1 : w.cell? ⟨W.heap.size, 1, none⟩ = some (.int .i64 ln) := cell_row r0 1 rfl; have p2 : w.cell? ⟨W.heap.size, 2, none⟩ = some (.int .i64 co) := cell_row r0 2 rfl; have p3 : w.cell? ⟨W.heap.size, 3, none⟩ = some (.int .i64 num) := cell_row r0 3 rfl; have p4 : w.cell? ⟨W.heap.size, 4, none⟩ = some (.string name) := cell_row r0 4 rfl; have p5 : w.cell? ⟨W.heap.size, 5, none⟩ = some (.string tn) := cell_row r0 5 rfl; have p6 : w.cell? ⟨W.heap.size, 6, none⟩ = some (.bool ta) := cell_row r0 6 rfl; have p7 : w.cell? ⟨W.heap.size, 7, none⟩ = some (.slice a1 n1 c1) := cell_row r0 7 rfl; have p8 : w.cell? ⟨W.heap.size, 8, none⟩ = some (.string fn) := cell_row r0 8 rfl; have p9 : w.cell? ⟨W.heap.size, 9, none⟩ = some (.bool fa) := cell_row r0 9 rfl; have p10 : w.cell? ⟨W.heap.size, 10, none⟩ = some (.string ow) := cell_row r0 10 rfl; go_simp; first | done | with_reducible rfl)
  simp only [Act.put, List.getElem_toArray, List.getElem_cons_zero, List.getElem_cons_succ, List.setIfInBounds_toArray, List.set_cons_zero, List.set_cons_succ]
  refine wpAnyH_take (i := 3) (v := ?_) rfl (by kernel_rfl) (by kernel_rfl) (by kernel_rfl) (fun _ _ _ h => h) (Or.inl ⟨by rfl, ?_⟩) (by assumption) ?_
  rotate_left
  focus (intro w hSw; have r0 : w.heap[W.heap.size]? = some (.cells #[.int .i64 kind, .int .i64 ln, .int .i64 co, .int .i64 num, .string name, .string tn, .bool ta, .slice a1 n1 c1, .string fn, .bool fa, .string ow] 29 (0, 0)) := (hSw.block _ hl0).trans hr0; have p0 : w.cell? ⟨W.heap.size, 0, none⟩ = some (.int .i64 kind) := cell_row r0 0 rfl; have p1 : w.cell? ⟨W.heap.size, 1, none⟩ = some (.int .i64 ln) := cell_row r0 1 rfl; have p2 : w.cell? ⟨W.heap.size, 2, none⟩ = some (.int .i64 co) := cell_row r0 2 rfl; have p3 : w.cell? ⟨W.heap.size, 3, none⟩ = some (.int .i64 num) := cell_row r0 3 rfl; have p4 : w.cell? ⟨W.heap.size, 4, none⟩ = some (.string name) := cell_row r0 4 rfl; have p5 : w.cell? ⟨W.heap.size, 5, none⟩ = some (.string tn) := cell_row r0 5 rfl; have p6 : w.cell? ⟨W.heap.size, 6, none⟩ = some (.bool ta) := cell_row r0 6 rfl; have p7 : w.cell? ⟨W.heap.size, 7, none⟩ = some (.slice a1 n1 c1) := cell_row r0 7 rfl; have p8 : w.cell? ⟨W.heap.size, 8, none⟩ = some (.string fn) := cell_row r0 8 rfl; have p9 : w.cell? ⟨W.heap.size, 9, none⟩ = some (.bool fa) := cell_row r0 9 rfl; have p10 : w.cell? ⟨W.heap.size, 10, none⟩ = some (.string ow) := cell_row r0 10 rfl; go_simp; first | done | with_reducible rfl)
  simp only [Act.put, List.getElem_toArray, List.getElem_cons_zero, List.getElem_cons_succ, List.setIfInBounds_toArray, List.set_cons_zero, List.set_cons_succ]
  refine wpAnyH_take (i := 4) (v := undef) rfl (by kernel_rfl) (by kernel_rfl) (by kernel_rfl) (fun _ _ _ h => h) (Or.inr ⟨by rfl, rfl⟩) (by assumption) ?_
  try simp only [Act.put, List.getElem_toArray, List.getElem_cons_zero, List.getElem_cons_succ, List.setIfInBounds_toArray, List.set_cons_zero, List.set_cons_succ]
  refine wpAnyH_take (i := 5) (v := undef) rfl (by kernel_rfl) (by kernel_rfl) (by kernel_rfl) (fun _ _ _ h => h) (Or.inr ⟨by rfl, rfl⟩) (by assumption) ?_
  try simp only [Act.put, List.getElem_toArray, List.getElem_cons_zero, List.getElem_cons_succ, List.setIfInBounds_toArray, List.set_cons_zero, List.set_cons_succ]
  refine wpAnyH_take (i := 6) (v := undef) rfl (by kernel_rfl) (by kernel_rfl) (by kernel_rfl) (fun _ _ _ h => h) (Or.inr ⟨by rfl, rfl⟩) (by assumption) ?_
  try simp only [Act.put, List.getElem_toArray, List.getElem_cons_zero, List.getElem_cons_succ, List.setIfInBounds_toArray, List.set_cons_zero, List.set_cons_succ]
  refine wpAnyH_take (i := 7) (v := undef) rfl (by kernel_rfl) (by kernel_rfl) (by kernel_rfl) (fun _ _ _ h => h) (Or.inr ⟨by rfl, rfl⟩) (by assumption) ?_
  try simp only [Act.put, List.getElem_toArray, List.getElem_cons_zero, List.getElem_cons_succ, List.setIfInBounds_toArray, List.set_cons_zero, List.set_cons_succ]
  refine wpAnyH_take (i := 8) (v := undef) rfl (by kernel_rfl) (by kernel_rfl) (by kernel_rfl) (fun _ _ _ h => h) (Or.inr ⟨by rfl, rfl⟩) (by assumption) ?_
  try simp only [Act.put, List.getElem_toArray, List.getElem_cons_zero, List.getElem_cons_succ, List.setIfInBounds_toArray, List.set_cons_zero, List.set_cons_succ]
  refine wpAnyH_take (i := 9) (v := undef) rfl (by kernel_rfl) (by kernel_rfl) (by kernel_rfl) (fun _ _ _ h => h) (Or.inr ⟨by rfl, rfl⟩) (by assumption) ?_
  try simp only [Act.put, List.getElem_toArray, List.getElem_cons_zero, List.getElem_cons_succ, List.setIfInBounds_toArray, List.set_cons_zero, List.set_cons_succ]
  refine wpAnyH_take (i := 10) (v := undef) rfl (by kernel_rfl) (by kernel_rfl) (by kernel_rfl) (fun _ _ _ h => h) (Or.inr ⟨by rfl, rfl⟩) (by assumption) ?_
  try simp only [Act.put, List.getElem_toArray, List.getElem_cons_zero, List.getElem_cons_succ, List.setIfInBounds_toArray, List.set_cons_zero, List.set_cons_succ]
  refine wpAnyH_take (i := 11) (v := undef) rfl (by kernel_rfl) (by kernel_rfl) (by kernel_rfl) (fun _ _ _ h => h) (Or.inr ⟨by rfl, rfl⟩) (by assumption) ?_
  try simp only [Act.put, List.getElem_toArray, List.getElem_cons_zero, List.getElem_cons_succ, List.setIfInBounds_toArray, List.set_cons_zero, List.set_cons_succ]
  refine wpAnyH_take (i := 12) (v := undef) rfl (by kernel_rfl) (by kernel_rfl) (by kernel_rfl) (fun _ _ _ h => h) (Or.inr ⟨by rfl, rfl⟩) (by assumption) ?_
  try simp only [Act.put, List.getElem_toArray, List.getElem_cons_zero, List.getElem_cons_succ, List.setIfInBounds_toArray, List.set_cons_zero, List.set_cons_succ]
  refine wpAnyH_take (i := 13) (v := undef) rfl (by kernel_rfl) (by kernel_rfl) (by kernel_rfl) (fun _ _ _ h => h) (Or.inr ⟨by rfl, rfl⟩) (by assumption) ?_
  try simp only [Act.put, List.getElem_toArray, List.getElem_cons_zero, List.getElem_cons_succ, List.setIfInBounds_toArray, List.set_cons_zero, List.set_cons_succ]
  refine wpAnyH_take (i := 14) (v := ?_) rfl (by kernel_rfl) (by kernel_rfl) (by kernel_rfl) (fun _ _ _ h => h) (Or.inl ⟨by rfl, ?_⟩) (by assumption) ?_
  rotate_left
  focus (intro w hSw; have r0 : w.heap[W.heap.size]? = some (.cells #[.int .i64 kind, .int .i64 ln, .int .i64 co, .int .i64 num, .string name, .string tn, .bool ta, .slice a1 n1 c1, .string fn, .bool fa, .string ow] 29 (0, 0)) := (hSw.block _ hl0).trans hr0; have p0 : w.cell? ⟨W.heap.size, 0, none⟩ = some (.int .i64 kind) := cell_row r0 0 rfl; have p1 : w.cell? ⟨W.heap.size, 1, none⟩ = some (.int .i64 ln) := cell_row r0 1 rfl; have p2 : w.cell? ⟨W.heap.size, 2, none⟩ = some (.int .i64 co) := cell_row r0 2 rfl; have p3 : w.cell? ⟨W.heap.size, 3, none⟩ = some (.int .i64 num) := cell_row r0 3 rfl; have p4 : w.cell? ⟨W.heap.size, 4, none⟩ = some (.string name) := cell_row r0 4 rfl; have p5 : w.cell? ⟨W.heap.size, 5, none⟩ = some (.string tn) := cell_row r0 5 rfl; have p6 : w.cell? ⟨W.heap.size, 6, none⟩ = some (.bool ta) := cell_row r0 6 rfl; have p7 : w.cell? ⟨W.heap.size, 7, none⟩ = some (.slice a1 n1 c1) := cell_row r0 7 rfl; have p8 : w.cell? ⟨W.heap.size, 8, none⟩ = some (.string fn) := cell_row r0 8 rfl; have p9 : w.cell? ⟨W.heap.size, 9, none⟩ = some (.bool fa) := cell_row r0 9 rfl; have p10 : w.cell? ⟨W.heap.size, 10, none⟩ = some (.string ow) := cell_row r0 10 rfl; go_simp; first | done | with_reducible rfl)
  simp only [Act.put, List.getElem_toArray, List.getElem_cons_zero, List.getElem_cons_succ, List.setIfInBounds_toArray, List.set_cons_zero, List.set_cons_succ]
  refine wpAnyH_take (i := 15) (v := ?_) rfl (by kernel_rfl) (by kernel_rfl) (by kernel_rfl) (fun _ _ _ h => h) (Or.inl ⟨by rfl, ?_⟩) (by assumption) ?_
  rotate_left
  focus (intro w hSw; have r0 : w.heap[W.heap.size]? = some (.cells #[.int .i64 kind, .int .i64 ln, .int .i64 co, .int .i64 num, .string name, .string tn, .bool ta, .slice a1 n1 c1, .string fn, .bool fa, .string ow] 29 (0, 0)) := (hSw.block _ hl0).trans hr0; have p0 : w.cell? ⟨W.heap.size, 0, none⟩ = some (.int .i64 kind) := cell_row r0 0 rfl; have p1 : w.cell? ⟨W.heap.size, 1, none⟩ = some (.int .i64 ln) := cell_row r0 1 rfl; have p2 : w.cell? ⟨W.heap.size, 2, none⟩ = some (.int .i64 co) := cell_row r0 2 rfl; have p3 : w.cell? ⟨W.heap.size, 3, none⟩ = some (.int .i64 num) := cell_row r0 3 rfl; have p4 : w.cell? ⟨W.heap.size, 4, none⟩ = some (.string name) := cell_row r0 4 rfl; have p5 : w.cell? ⟨W.heap.size, 5, none⟩ = some (.string tn) := cell_row r0 5 rfl; have p6 : w.cell? ⟨W.heap.size, 6, none⟩ = some (.bool ta) := cell_row r0 6 rfl; have p7 : w.cell? ⟨W.heap.size, 7, none⟩ = some (.slice a1 n1 c1) := cell_row r0 7 rfl; have p8 : w.cell? ⟨W.heap.size, 8, none⟩ = some (.string fn) := cell_row r0 8 rfl; have p9 : w.cell? ⟨W.heap.size, 9, none⟩ = some (.bool fa) := cell_row r0 9 rfl; have p10 : w.cell? ⟨W.heap.size, 10, none⟩ = some (.string ow) := cell_row r0 10 rfl; go_simp; first | done | with_reducible rfl)
  simp only [Act.put, List.getElem_toArray, List.getElem_cons_zero, List.getElem_cons_succ, List.setIfInBounds_toArray, List.set_cons_zero, List.set_cons_succ]
  refine wpAnyH_done (by kernel_rfl) ?_ _
  go_wp2
  go_ret
  exact ⟨rfl, hB1.trans (hHeld.mono (by omega))⟩
theorem exprs_any (t0 : Tree) (k0 : Value) (W : World) (hpow : Pow W) (hx : Ex W t0 k0) :
    Calls Tryd.prog 3 #[exprV t0 k0] W fun e w' => e = .returned (.bool true) ∧ Below W.heap.size W w' := by
  obtain ⟨a1, n1, c1, rfl⟩ := hx.slice
  obtain ⟨kind, ln, co, num, name, tn, ta, kids, fn, fa, ow⟩ := t0
  cases h0 : few (.mk kind ln co num name tn ta kids fn fa ow) 0 with
  | false => exact exprs_not _ _ _ _ _ _ _ _ _ _ _ _ _ _ W hpow hx h0
  | true => exact exprs_few _ _ _ _ _ _ _ _ _ _ _ _ _ _ W hpow hx h0
end Go.Proofs.YtojkagfbdpjckaaDoor
