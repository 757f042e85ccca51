/-
  The statement's own text of an expression, kind by kind.
-/
import Derived.Test.YtojkagfbdpjckaaDoorClos
import Derived.Deep.RegionHeld3
namespace Go.Proofs.YtojkagfbdpjckaaDoor
open Go.RowKit

set_option maxHeartbeats 2000000 in
set_option maxRecDepth 100000 in
theorem text_k7 (W : World) (Q : Tree → Value → Prop) (hQ : ∀ t kk, t.ok → Q t kk → TextOK W t kk) (ln co num : Int) (name tn : ByteArray) (ta : Bool) (kids : List Tree) (fn : ByteArray) (fa : Bool) (ow : ByteArray) (ka : Option Addr) (kn kc : Nat) (hk : Kids W Q kids (.slice ka kn kc)) : TextOK W (.mk 7 ln co num name tn ta kids fn fa ow) (.slice ka kn kc) := by
  intro u hw hlen
  have hB := hw.size
  obtain ⟨Z0, eZ0⟩ : ∃ Z : ByteArray, Z = ⟨(nt (kids.map tx) 0).toArray⟩ := ⟨_, rfl⟩
  have sZ0 : Z0.size = (nt (kids.map tx) 0).length := by rw [eZ0]; rfl
  have hE : (⟨(tx (.mk 7 ln co num name tn ta kids fn fa ow)).toArray⟩ : ByteArray) = Z0 ++ ⟨#[46]⟩ ++ name := by
    rw [tx_mk, eZ0]
    exact ba_eq (by simp [txk, Go.Proofs.YtojkagfbdpjckaaDoor.one])
  have hsz : Z0.size + 1 + name.size ≤ 140737488355328 := by
    have h := congrArg ByteArray.size hE
    simp only [ByteArray.size_append] at h
    have q0 : (⟨#[46]⟩ : ByteArray).size = 1 := rfl
    have h2 : (⟨(tx (.mk 7 ln co num name tn ta kids fn fa ow)).toArray⟩ : ByteArray).size = (tx (.mk 7 ln co num name tn ta kids fn fa ow)).length := rfl
    omega
  rw [hE]
  have HK0 : Hid (∀ x, Below (u.heap.size + 1) (u.alloc (.cells #[.int .i64 7, .int .i64 ln, .int .i64 co, .int .i64 num, .string name, .string tn, .bool ta, .slice ka kn kc, .string fn, .bool fa, .string ow] 29)) x → Calls Tryd.prog 30 #[.int .i64 0, .pointer (some ⟨u.heap.size, 0, none⟩)] x fun e w' => e = .returned (.string Z0) ∧ Below x.heap.size x w') := Lib.hid (fun x hx => by
    rw [eZ0]
    exact clos30 W Q hQ kids ka kn kc hk u.heap.size _ 0 (by omega) x ((hw.trans ((below1 u _).mono hB)).trans (hx.mono (by omega))) ((hx.block _ (by omega)).trans (heap_al1 _ _)) rfl (by omega))
  have z2 : ¬ 9223372036854775807 < Z0.size + 1 := by omega
  have z3 : ¬ 9223372036854775807 < Z0.size + 1 + name.size := by omega
  clear hE hlen hk hQ hsz eZ0 sZ0
  unfold exprV exprC
  go_enter Tryd.func11, Tryd.ntmps11
  go_wp2
  refine wp_region_held_drew (S := fun w' => Below (u.heap.size + 1) (u.alloc (.cells #[.int .i64 7, .int .i64 ln, .int .i64 co, .int .i64 num, .string name, .string tn, .bool ta, .slice ka kn kc, .string fn, .bool fa, .string ow] 29)) w') (by kernel_rfl) ?_ (fun hHeld => ?_)
  · exact Below.drew (Below.refl _ _)
  refine wpAnyH_take (i := 0) (v := ?_) rfl (by kernel_rfl) (by kernel_rfl) (by kernel_rfl) (fun _ _ _ h => h) (Or.inl ⟨by rfl, ?_⟩) (by assumption) ?_
  rotate_left
  focus (intro w hSw; have r0 : w.heap[u.heap.size]? = some (.cells #[.int .i64 7, .int .i64 ln, .int .i64 co, .int .i64 num, .string name, .string tn, .bool ta, .slice ka kn kc, .string fn, .bool fa, .string ow] 29 (0, 0)) := (hSw.block _ (by omega)).trans (heap_al1 _ _); have p0 : w.cell? ⟨u.heap.size, 0, none⟩ = some (.int .i64 7) := cell_row r0 0 rfl; have p1 : w.cell? ⟨u.heap.size, 1, none⟩ = some (.int .i64 ln) := cell_row r0 1 rfl; have p2 : w.cell? ⟨u.heap.size, 2, none⟩ = some (.int .i64 co) := cell_row r0 2 rfl; have p3 : w.cell? ⟨u.heap.size, 3, none⟩ = some (.int .i64 num) := cell_row r0 3 rfl; have p4 : w.cell? ⟨u.heap.size, 4, none⟩ = some (.string name) := cell_row r0 4 rfl; have p5 : w.cell? ⟨u.heap.size, 5, none⟩ = some (.string tn) := cell_row r0 5 rfl; have p6 : w.cell? ⟨u.heap.size, 6, none⟩ = some (.bool ta) := cell_row r0 6 rfl; have p7 : w.cell? ⟨u.heap.size, 7, none⟩ = some (.slice ka kn kc) := cell_row r0 7 rfl; have p8 : w.cell? ⟨u.heap.size, 8, none⟩ = some (.string fn) := cell_row r0 8 rfl; have p9 : w.cell? ⟨u.heap.size, 9, none⟩ = some (.bool fa) := cell_row r0 9 rfl; have p10 : w.cell? ⟨u.heap.size, 10, none⟩ = some (.string ow) := cell_row r0 10 rfl; go_simp; first | done | with_reducible rfl)
  simp only [Act.put, List.getElem_toArray, List.getElem_cons_zero, List.setIfInBounds_toArray, List.set_cons_zero, List.set_cons_succ]
  refine wpAnyH_take (i := 3) (v := ?_) rfl (by kernel_rfl) (by kernel_rfl) (by kernel_rfl) (fun _ _ _ h => h) (Or.inl ⟨by rfl, ?_⟩) (by assumption) ?_
  rotate_left
  focus (intro w hSw; have r0 : w.heap[u.heap.size]? = some (.cells #[.int .i64 7, .int .i64 ln, .int .i64 co, .int .i64 num, .string name, .string tn, .bool ta, .slice ka kn kc, .string fn, .bool fa, .string ow] 29 (0, 0)) := (hSw.block _ (by omega)).trans (heap_al1 _ _); have p0 : w.cell? ⟨u.heap.size, 0, none⟩ = some (.int .i64 7) := cell_row r0 0 rfl; have p1 : w.cell? ⟨u.heap.size, 1, none⟩ = some (.int .i64 ln) := cell_row r0 1 rfl; have p2 : w.cell? ⟨u.heap.size, 2, none⟩ = some (.int .i64 co) := cell_row r0 2 rfl; have p3 : w.cell? ⟨u.heap.size, 3, none⟩ = some (.int .i64 num) := cell_row r0 3 rfl; have p4 : w.cell? ⟨u.heap.size, 4, none⟩ = some (.string name) := cell_row r0 4 rfl; have p5 : w.cell? ⟨u.heap.size, 5, none⟩ = some (.string tn) := cell_row r0 5 rfl; have p6 : w.cell? ⟨u.heap.size, 6, none⟩ = some (.bool ta) := cell_row r0 6 rfl; have p7 : w.cell? ⟨u.heap.size, 7, none⟩ = some (.slice ka kn kc) := cell_row r0 7 rfl; have p8 : w.cell? ⟨u.heap.size, 8, none⟩ = some (.string fn) := cell_row r0 8 rfl; have p9 : w.cell? ⟨u.heap.size, 9, none⟩ = some (.bool fa) := cell_row r0 9 rfl; have p10 : w.cell? ⟨u.heap.size, 10, none⟩ = some (.string ow) := cell_row r0 10 rfl; go_simp; first | done | with_reducible rfl)
  simp only [Act.put, List.getElem_toArray, List.getElem_cons_zero, List.getElem_cons_succ, List.setIfInBounds_toArray, List.set_cons_zero, List.set_cons_succ]
  refine wpAnyH_take (i := 4) (v := ?_) rfl (by kernel_rfl) (by kernel_rfl) (by kernel_rfl) (fun _ _ _ h => h) (Or.inl ⟨by rfl, ?_⟩) (by assumption) ?_
  rotate_left
  focus (intro w hSw; have r0 : w.heap[u.heap.size]? = some (.cells #[.int .i64 7, .int .i64 ln, .int .i64 co, .int .i64 num, .string name, .string tn, .bool ta, .slice ka kn kc, .string fn, .bool fa, .string ow] 29 (0, 0)) := (hSw.block _ (by omega)).trans (heap_al1 _ _); have p0 : w.cell? ⟨u.heap.size, 0, none⟩ = some (.int .i64 7) := cell_row r0 0 rfl; have p1 : w.cell? ⟨u.heap.size, 1, none⟩ = some (.int .i64 ln) := cell_row r0 1 rfl; have p2 : w.cell? ⟨u.heap.size, 2, none⟩ = some (.int .i64 co) := cell_row r0 2 rfl; have p3 : w.cell? ⟨u.heap.size, 3, none⟩ = some (.int .i64 num) := cell_row r0 3 rfl; have p4 : w.cell? ⟨u.heap.size, 4, none⟩ = some (.string name) := cell_row r0 4 rfl; have p5 : w.cell? ⟨u.heap.size, 5, none⟩ = some (.string tn) := cell_row r0 5 rfl; have p6 : w.cell? ⟨u.heap.size, 6, none⟩ = some (.bool ta) := cell_row r0 6 rfl; have p7 : w.cell? ⟨u.heap.size, 7, none⟩ = some (.slice ka kn kc) := cell_row r0 7 rfl; have p8 : w.cell? ⟨u.heap.size, 8, none⟩ = some (.string fn) := cell_row r0 8 rfl; have p9 : w.cell? ⟨u.heap.size, 9, none⟩ = some (.bool fa) := cell_row r0 9 rfl; have p10 : w.cell? ⟨u.heap.size, 10, none⟩ = some (.string ow) := cell_row r0 10 rfl; go_simp; first | done | with_reducible rfl)
  simp only [Act.put, List.getElem_toArray, List.getElem_cons_zero, List.getElem_cons_succ, List.setIfInBounds_toArray, List.set_cons_zero, List.set_cons_succ]
  refine wpAnyH_ready (rs := [1]) (by kernel_rfl) (by simp) ?_
  refine AllReadyH.cons (o := _) rfl (fun K hK => ?_) AllReadyH.nil
  go_simp
  with_reducible refine (HK0.out _ hHeld).mono ?_
  rintro e x1 ⟨rfl, hx1⟩
  go_simp
  refine hK.out _ _ (hHeld.trans (hx1.mono (Nat.le_trans (Nat.le_of_eq (by simp)) hHeld.size))) (fun hHeld => ?_)
  clear hK K
  try simp only [Act.put, List.getElem_toArray, List.getElem_cons_zero, List.getElem_cons_succ, List.setIfInBounds_toArray, List.set_cons_zero, List.set_cons_succ]
  refine wpAnyH_take (i := 2) (v := ?_) rfl (by kernel_rfl) (by kernel_rfl) (by kernel_rfl) (fun _ _ _ h => h) (Or.inl ⟨by rfl, ?_⟩) (by assumption) ?_
  rotate_left
  focus (intro w hSw; have r0 : w.heap[u.heap.size]? = some (.cells #[.int .i64 7, .int .i64 ln, .int .i64 co, .int .i64 num, .string name, .string tn, .bool ta, .slice ka kn kc, .string fn, .bool fa, .string ow] 29 (0, 0)) := (hSw.block _ (by omega)).trans (heap_al1 _ _); have p0 : w.cell? ⟨u.heap.size, 0, none⟩ = some (.int .i64 7) := cell_row r0 0 rfl; have p1 : w.cell? ⟨u.heap.size, 1, none⟩ = some (.int .i64 ln) := cell_row r0 1 rfl; have p2 : w.cell? ⟨u.heap.size, 2, none⟩ = some (.int .i64 co) := cell_row r0 2 rfl; have p3 : w.cell? ⟨u.heap.size, 3, none⟩ = some (.int .i64 num) := cell_row r0 3 rfl; have p4 : w.cell? ⟨u.heap.size, 4, none⟩ = some (.string name) := cell_row r0 4 rfl; have p5 : w.cell? ⟨u.heap.size, 5, none⟩ = some (.string tn) := cell_row r0 5 rfl; have p6 : w.cell? ⟨u.heap.size, 6, none⟩ = some (.bool ta) := cell_row r0 6 rfl; have p7 : w.cell? ⟨u.heap.size, 7, none⟩ = some (.slice ka kn kc) := cell_row r0 7 rfl; have p8 : w.cell? ⟨u.heap.size, 8, none⟩ = some (.string fn) := cell_row r0 8 rfl; have p9 : w.cell? ⟨u.heap.size, 9, none⟩ = some (.bool fa) := cell_row r0 9 rfl; have p10 : w.cell? ⟨u.heap.size, 10, none⟩ = some (.string ow) := cell_row r0 10 rfl; go_simp; first | done | with_reducible rfl)
  simp only [Act.put, List.getElem_toArray, List.getElem_cons_zero, List.getElem_cons_succ, List.setIfInBounds_toArray, List.set_cons_zero, List.set_cons_succ]
  refine wpAnyH_take (i := 5) (v := ?_) rfl (by kernel_rfl) (by kernel_rfl) (by kernel_rfl) (fun _ _ _ h => h) (Or.inl ⟨by rfl, ?_⟩) (by assumption) ?_
  rotate_left
  focus (intro w hSw; have r0 : w.heap[u.heap.size]? = some (.cells #[.int .i64 7, .int .i64 ln, .int .i64 co, .int .i64 num, .string name, .string tn, .bool ta, .slice ka kn kc, .string fn, .bool fa, .string ow] 29 (0, 0)) := (hSw.block _ (by omega)).trans (heap_al1 _ _); have p0 : w.cell? ⟨u.heap.size, 0, none⟩ = some (.int .i64 7) := cell_row r0 0 rfl; have p1 : w.cell? ⟨u.heap.size, 1, none⟩ = some (.int .i64 ln) := cell_row r0 1 rfl; have p2 : w.cell? ⟨u.heap.size, 2, none⟩ = some (.int .i64 co) := cell_row r0 2 rfl; have p3 : w.cell? ⟨u.heap.size, 3, none⟩ = some (.int .i64 num) := cell_row r0 3 rfl; have p4 : w.cell? ⟨u.heap.size, 4, none⟩ = some (.string name) := cell_row r0 4 rfl; have p5 : w.cell? ⟨u.heap.size, 5, none⟩ = some (.string tn) := cell_row r0 5 rfl; have p6 : w.cell? ⟨u.heap.size, 6, none⟩ = some (.bool ta) := cell_row r0 6 rfl; have p7 : w.cell? ⟨u.heap.size, 7, none⟩ = some (.slice ka kn kc) := cell_row r0 7 rfl; have p8 : w.cell? ⟨u.heap.size, 8, none⟩ = some (.string fn) := cell_row r0 8 rfl; have p9 : w.cell? ⟨u.heap.size, 9, none⟩ = some (.bool fa) := cell_row r0 9 rfl; have p10 : w.cell? ⟨u.heap.size, 10, none⟩ = some (.string ow) := cell_row r0 10 rfl; go_simp; first | done | with_reducible rfl)
  simp only [Act.put, List.getElem_toArray, List.getElem_cons_zero, List.getElem_cons_succ, List.setIfInBounds_toArray, List.set_cons_zero, List.set_cons_succ]
  refine wpAnyH_take (i := 6) (v := ?_) rfl (by kernel_rfl) (by kernel_rfl) (by kernel_rfl) (fun _ _ _ h => h) (Or.inl ⟨by rfl, ?_⟩) (by assumption) ?_
  rotate_left
  focus (intro w hSw; have r0 : w.heap[u.heap.size]? = some (.cells #[.int .i64 7, .int .i64 ln, .int .i64 co, .int .i64 num, .string name, .string tn, .bool ta, .slice ka kn kc, .string fn, .bool fa, .string ow] 29 (0, 0)) := (hSw.block _ (by omega)).trans (heap_al1 _ _); have p0 : w.cell? ⟨u.heap.size, 0, none⟩ = some (.int .i64 7) := cell_row r0 0 rfl; have p1 : w.cell? ⟨u.heap.size, 1, none⟩ = some (.int .i64 ln) := cell_row r0 1 rfl; have p2 : w.cell? ⟨u.heap.size, 2, none⟩ = some (.int .i64 co) := cell_row r0 2 rfl; have p3 : w.cell? ⟨u.heap.size, 3, none⟩ = some (.int .i64 num) := cell_row r0 3 rfl; have p4 : w.cell? ⟨u.heap.size, 4, none⟩ = some (.string name) := cell_row r0 4 rfl; have p5 : w.cell? ⟨u.heap.size, 5, none⟩ = some (.string tn) := cell_row r0 5 rfl; have p6 : w.cell? ⟨u.heap.size, 6, none⟩ = some (.bool ta) := cell_row r0 6 rfl; have p7 : w.cell? ⟨u.heap.size, 7, none⟩ = some (.slice ka kn kc) := cell_row r0 7 rfl; have p8 : w.cell? ⟨u.heap.size, 8, none⟩ = some (.string fn) := cell_row r0 8 rfl; have p9 : w.cell? ⟨u.heap.size, 9, none⟩ = some (.bool fa) := cell_row r0 9 rfl; have p10 : w.cell? ⟨u.heap.size, 10, none⟩ = some (.string ow) := cell_row r0 10 rfl; go_simp; first | done | with_reducible rfl)
  simp only [Act.put, List.getElem_toArray, List.getElem_cons_zero, List.getElem_cons_succ, List.setIfInBounds_toArray, List.set_cons_zero, List.set_cons_succ]
  refine wpAnyH_done (by kernel_rfl) ?_ _
  go_wp2
  go_ret
  exact ⟨rfl, (below1 u _).trans (hHeld.mono (by omega))⟩
set_option maxHeartbeats 2000000 in
set_option maxRecDepth 100000 in
theorem text_k8 (W : World) (Q : Tree → Value → Prop) (hQ : ∀ t kk, t.ok → Q t kk → TextOK W t kk) (ln co num : Int) (name tn : ByteArray) (ta : Bool) (kids : List Tree) (fn : ByteArray) (fa : Bool) (ow : ByteArray) (ka : Option Addr) (kn kc : Nat) (hk : Kids W Q kids (.slice ka kn kc)) : TextOK W (.mk 8 ln co num name tn ta kids fn fa ow) (.slice ka kn kc) := by
  intro u hw hlen
  have hB := hw.size
  obtain ⟨Z0, eZ0⟩ : ∃ Z : ByteArray, Z = ⟨(nt (kids.map tx) 0).toArray⟩ := ⟨_, rfl⟩
  obtain ⟨Y1, eY1⟩ : ∃ Z : ByteArray, Z = ⟨(cm ((kids.map tx).drop 1)).toArray⟩ := ⟨_, rfl⟩
  have sZ0 : Z0.size = (nt (kids.map tx) 0).length := by rw [eZ0]; rfl
  have sY1 : Y1.size = (cm ((kids.map tx).drop 1)).length := by rw [eY1]; rfl
  have hE : (⟨(tx (.mk 8 ln co num name tn ta kids fn fa ow)).toArray⟩ : ByteArray) = Z0 ++ ⟨#[46]⟩ ++ name ++ ⟨#[40]⟩ ++ Y1 ++ ⟨#[41]⟩ := by
    rw [tx_mk, eZ0, eY1]
    exact ba_eq (by simp [txk, Go.Proofs.YtojkagfbdpjckaaDoor.one, lst])
  have hsz : Z0.size + 1 + name.size + 1 + Y1.size + 1 ≤ 140737488355328 := by
    have h := congrArg ByteArray.size hE
    simp only [ByteArray.size_append] at h
    have q0 : (⟨#[40]⟩ : ByteArray).size = 1 := rfl
    have q1 : (⟨#[41]⟩ : ByteArray).size = 1 := rfl
    have q2 : (⟨#[46]⟩ : ByteArray).size = 1 := rfl
    have h2 : (⟨(tx (.mk 8 ln co num name tn ta kids fn fa ow)).toArray⟩ : ByteArray).size = (tx (.mk 8 ln co num name tn ta kids fn fa ow)).length := rfl
    omega
  rw [hE]
  have HK0 : Hid (∀ x, Below (u.heap.size + 1) (u.alloc (.cells #[.int .i64 8, .int .i64 ln, .int .i64 co, .int .i64 num, .string name, .string tn, .bool ta, .slice ka kn kc, .string fn, .bool fa, .string ow] 29)) x → Calls Tryd.prog 30 #[.int .i64 0, .pointer (some ⟨u.heap.size, 0, none⟩)] x fun e w' => e = .returned (.string Z0) ∧ Below x.heap.size x w') := Lib.hid (fun x hx => by
    rw [eZ0]
    exact clos30 W Q hQ kids ka kn kc hk u.heap.size _ 0 (by omega) x ((hw.trans ((below1 u _).mono hB)).trans (hx.mono (by omega))) ((hx.block _ (by omega)).trans (heap_al1 _ _)) rfl (by omega))
  have HA1 : Hid (∀ x, Below (u.heap.size + 1) (u.alloc (.cells #[.int .i64 8, .int .i64 ln, .int .i64 co, .int .i64 num, .string name, .string tn, .bool ta, .slice ka kn kc, .string fn, .bool fa, .string ow] 29)) x → Calls Tryd.prog 31 #[.int .i64 1, .pointer (some ⟨u.heap.size, 0, none⟩)] x fun e w' => e = .returned (.string Y1) ∧ Below x.heap.size x w') := Lib.hid (fun x hx => by
    rw [eY1]
    exact clos31 W Q hQ kids ka kn kc hk u.heap.size _ 1 (by omega) x ((hw.trans ((below1 u _).mono hB)).trans (hx.mono (by omega))) ((hx.block _ (by omega)).trans (heap_al1 _ _)) rfl (by omega))
  have z2 : ¬ 9223372036854775807 < Z0.size + 1 := by omega
  have z3 : ¬ 9223372036854775807 < Z0.size + 1 + name.size := by omega
  have z4 : ¬ 9223372036854775807 < Z0.size + 1 + name.size + 1 := by omega
  have z5 : ¬ 9223372036854775807 < Z0.size + 1 + name.size + 1 + Y1.size := by omega
  have z6 : ¬ 9223372036854775807 < Z0.size + 1 + name.size + 1 + Y1.size + 1 := by omega
  clear hE hlen hk hQ hsz eZ0 sZ0 eY1 sY1
  unfold exprV exprC
  go_enter Tryd.func11, Tryd.ntmps11
  go_wp2
  refine wp_region_held_drew (S := fun w' => Below (u.heap.size + 1) (u.alloc (.cells #[.int .i64 8, .int .i64 ln, .int .i64 co, .int .i64 num, .string name, .string tn, .bool ta, .slice ka kn kc, .string fn, .bool fa, .string ow] 29)) w') (by kernel_rfl) ?_ (fun hHeld => ?_)
  · exact Below.drew (Below.refl _ _)
  refine wpAnyH_take (i := 0) (v := ?_) rfl (by kernel_rfl) (by kernel_rfl) (by kernel_rfl) (fun _ _ _ h => h) (Or.inl ⟨by rfl, ?_⟩) (by assumption) ?_
  rotate_left
  focus (intro w hSw; have r0 : w.heap[u.heap.size]? = some (.cells #[.int .i64 8, .int .i64 ln, .int .i64 co, .int .i64 num, .string name, .string tn, .bool ta, .slice ka kn kc, .string fn, .bool fa, .string ow] 29 (0, 0)) := (hSw.block _ (by omega)).trans (heap_al1 _ _); have p0 : w.cell? ⟨u.heap.size, 0, none⟩ = some (.int .i64 8) := cell_row r0 0 rfl; have p1 : w.cell? ⟨u.heap.size, 1, none⟩ = some (.int .i64 ln) := cell_row r0 1 rfl; have p2 : w.cell? ⟨u.heap.size, 2, none⟩ = some (.int .i64 co) := cell_row r0 2 rfl; have p3 : w.cell? ⟨u.heap.size, 3, none⟩ = some (.int .i64 num) := cell_row r0 3 rfl; have p4 : w.cell? ⟨u.heap.size, 4, none⟩ = some (.string name) := cell_row r0 4 rfl; have p5 : w.cell? ⟨u.heap.size, 5, none⟩ = some (.string tn) := cell_row r0 5 rfl; have p6 : w.cell? ⟨u.heap.size, 6, none⟩ = some (.bool ta) := cell_row r0 6 rfl; have p7 : w.cell? ⟨u.heap.size, 7, none⟩ = some (.slice ka kn kc) := cell_row r0 7 rfl; have p8 : w.cell? ⟨u.heap.size, 8, none⟩ = some (.string fn) := cell_row r0 8 rfl; have p9 : w.cell? ⟨u.heap.size, 9, none⟩ = some (.bool fa) := cell_row r0 9 rfl; have p10 : w.cell? ⟨u.heap.size, 10, none⟩ = some (.string ow) := cell_row r0 10 rfl; go_simp; first | done | with_reducible rfl)
  simp only [Act.put, List.getElem_toArray, List.getElem_cons_zero, List.setIfInBounds_toArray, List.set_cons_zero, List.set_cons_succ]
  refine wpAnyH_take (i := 3) (v := ?_) rfl (by kernel_rfl) (by kernel_rfl) (by kernel_rfl) (fun _ _ _ h => h) (Or.inl ⟨by rfl, ?_⟩) (by assumption) ?_
  rotate_left
  focus (intro w hSw; have r0 : w.heap[u.heap.size]? = some (.cells #[.int .i64 8, .int .i64 ln, .int .i64 co, .int .i64 num, .string name, .string tn, .bool ta, .slice ka kn kc, .string fn, .bool fa, .string ow] 29 (0, 0)) := (hSw.block _ (by omega)).trans (heap_al1 _ _); have p0 : w.cell? ⟨u.heap.size, 0, none⟩ = some (.int .i64 8) := cell_row r0 0 rfl; have p1 : w.cell? ⟨u.heap.size, 1, none⟩ = some (.int .i64 ln) := cell_row r0 1 rfl; have p2 : w.cell? ⟨u.heap.size, 2, none⟩ = some (.int .i64 co) := cell_row r0 2 rfl; have p3 : w.cell? ⟨u.heap.size, 3, none⟩ = some (.int .i64 num) := cell_row r0 3 rfl; have p4 : w.cell? ⟨u.heap.size, 4, none⟩ = some (.string name) := cell_row r0 4 rfl; have p5 : w.cell? ⟨u.heap.size, 5, none⟩ = some (.string tn) := cell_row r0 5 rfl; have p6 : w.cell? ⟨u.heap.size, 6, none⟩ = some (.bool ta) := cell_row r0 6 rfl; have p7 : w.cell? ⟨u.heap.size, 7, none⟩ = some (.slice ka kn kc) := cell_row r0 7 rfl; have p8 : w.cell? ⟨u.heap.size, 8, none⟩ = some (.string fn) := cell_row r0 8 rfl; have p9 : w.cell? ⟨u.heap.size, 9, none⟩ = some (.bool fa) := cell_row r0 9 rfl; have p10 : w.cell? ⟨u.heap.size, 10, none⟩ = some (.string ow) := cell_row r0 10 rfl; go_simp; first | done | with_reducible rfl)
  simp only [Act.put, List.getElem_toArray, List.getElem_cons_zero, List.getElem_cons_succ, List.setIfInBounds_toArray, List.set_cons_zero, List.set_cons_succ]
  refine wpAnyH_take (i := 4) (v := ?_) rfl (by kernel_rfl) (by kernel_rfl) (by kernel_rfl) (fun _ _ _ h => h) (Or.inl ⟨by rfl, ?_⟩) (by assumption) ?_
  rotate_left
  focus (intro w hSw; have r0 : w.heap[u.heap.size]? = some (.cells #[.int .i64 8, .int .i64 ln, .int .i64 co, .int .i64 num, .string name, .string tn, .bool ta, .slice ka kn kc, .string fn, .bool fa, .string ow] 29 (0, 0)) := (hSw.block _ (by omega)).trans (heap_al1 _ _); have p0 : w.cell? ⟨u.heap.size, 0, none⟩ = some (.int .i64 8) := cell_row r0 0 rfl; have p1 : w.cell? ⟨u.heap.size, 1, none⟩ = some (.int .i64 ln) := cell_row r0 1 rfl; have p2 : w.cell? ⟨u.heap.size, 2, none⟩ = some (.int .i64 co) := cell_row r0 2 rfl; have p3 : w.cell? ⟨u.heap.size, 3, none⟩ = some (.int .i64 num) := cell_row r0 3 rfl; have p4 : w.cell? ⟨u.heap.size, 4, none⟩ = some (.string name) := cell_row r0 4 rfl; have p5 : w.cell? ⟨u.heap.size, 5, none⟩ = some (.string tn) := cell_row r0 5 rfl; have p6 : w.cell? ⟨u.heap.size, 6, none⟩ = some (.bool ta) := cell_row r0 6 rfl; have p7 : w.cell? ⟨u.heap.size, 7, none⟩ = some (.slice ka kn kc) := cell_row r0 7 rfl; have p8 : w.cell? ⟨u.heap.size, 8, none⟩ = some (.string fn) := cell_row r0 8 rfl; have p9 : w.cell? ⟨u.heap.size, 9, none⟩ = some (.bool fa) := cell_row r0 9 rfl; have p10 : w.cell? ⟨u.heap.size, 10, none⟩ = some (.string ow) := cell_row r0 10 rfl; go_simp; first | done | with_reducible rfl)
  simp only [Act.put, List.getElem_toArray, List.getElem_cons_zero, List.getElem_cons_succ, List.setIfInBounds_toArray, List.set_cons_zero, List.set_cons_succ]
  refine wpAnyH_take (i := 7) (v := ?_) rfl (by kernel_rfl) (by kernel_rfl) (by kernel_rfl) (fun _ _ _ h => h) (Or.inl ⟨by rfl, ?_⟩) (by assumption) ?_
  rotate_left
  focus (intro w hSw; have r0 : w.heap[u.heap.size]? = some (.cells #[.int .i64 8, .int .i64 ln, .int .i64 co, .int .i64 num, .string name, .string tn, .bool ta, .slice ka kn kc, .string fn, .bool fa, .string ow] 29 (0, 0)) := (hSw.block _ (by omega)).trans (heap_al1 _ _); have p0 : w.cell? ⟨u.heap.size, 0, none⟩ = some (.int .i64 8) := cell_row r0 0 rfl; have p1 : w.cell? ⟨u.heap.size, 1, none⟩ = some (.int .i64 ln) := cell_row r0 1 rfl; have p2 : w.cell? ⟨u.heap.size, 2, none⟩ = some (.int .i64 co) := cell_row r0 2 rfl; have p3 : w.cell? ⟨u.heap.size, 3, none⟩ = some (.int .i64 num) := cell_row r0 3 rfl; have p4 : w.cell? ⟨u.heap.size, 4, none⟩ = some (.string name) := cell_row r0 4 rfl; have p5 : w.cell? ⟨u.heap.size, 5, none⟩ = some (.string tn) := cell_row r0 5 rfl; have p6 : w.cell? ⟨u.heap.size, 6, none⟩ = some (.bool ta) := cell_row r0 6 rfl; have p7 : w.cell? ⟨u.heap.size, 7, none⟩ = some (.slice ka kn kc) := cell_row r0 7 rfl; have p8 : w.cell? ⟨u.heap.size, 8, none⟩ = some (.string fn) := cell_row r0 8 rfl; have p9 : w.cell? ⟨u.heap.size, 9, none⟩ = some (.bool fa) := cell_row r0 9 rfl; have p10 : w.cell? ⟨u.heap.size, 10, none⟩ = some (.string ow) := cell_row r0 10 rfl; go_simp; first | done | with_reducible rfl)
  simp only [Act.put, List.getElem_toArray, List.getElem_cons_zero, List.getElem_cons_succ, List.setIfInBounds_toArray, List.set_cons_zero, List.set_cons_succ]
  refine wpAnyH_ready (rs := [1]) (by kernel_rfl) (by simp) ?_
  refine AllReadyH.cons (o := _) rfl (fun K hK => ?_) AllReadyH.nil
  go_simp
  with_reducible refine (HK0.out _ hHeld).mono ?_
  rintro e x1 ⟨rfl, hx1⟩
  go_simp
  refine hK.out _ _ (hHeld.trans (hx1.mono (Nat.le_trans (Nat.le_of_eq (by simp)) hHeld.size))) (fun hHeld => ?_)
  clear hK K
  try simp only [Act.put, List.getElem_toArray, List.getElem_cons_zero, List.getElem_cons_succ, List.setIfInBounds_toArray, List.set_cons_zero, List.set_cons_succ]
  refine wpAnyH_take (i := 2) (v := ?_) rfl (by kernel_rfl) (by kernel_rfl) (by kernel_rfl) (fun _ _ _ h => h) (Or.inl ⟨by rfl, ?_⟩) (by assumption) ?_
  rotate_left
  focus (intro w hSw; have r0 : w.heap[u.heap.size]? = some (.cells #[.int .i64 8, .int .i64 ln, .int .i64 co, .int .i64 num, .string name, .string tn, .bool ta, .slice ka kn kc, .string fn, .bool fa, .string ow] 29 (0, 0)) := (hSw.block _ (by omega)).trans (heap_al1 _ _); have p0 : w.cell? ⟨u.heap.size, 0, none⟩ = some (.int .i64 8) := cell_row r0 0 rfl; have p1 : w.cell? ⟨u.heap.size, 1, none⟩ = some (.int .i64 ln) := cell_row r0 1 rfl; have p2 : w.cell? ⟨u.heap.size, 2, none⟩ = some (.int .i64 co) := cell_row r0 2 rfl; have p3 : w.cell? ⟨u.heap.size, 3, none⟩ = some (.int .i64 num) := cell_row r0 3 rfl; have p4 : w.cell? ⟨u.heap.size, 4, none⟩ = some (.string name) := cell_row r0 4 rfl; have p5 : w.cell? ⟨u.heap.size, 5, none⟩ = some (.string tn) := cell_row r0 5 rfl; have p6 : w.cell? ⟨u.heap.size, 6, none⟩ = some (.bool ta) := cell_row r0 6 rfl; have p7 : w.cell? ⟨u.heap.size, 7, none⟩ = some (.slice ka kn kc) := cell_row r0 7 rfl; have p8 : w.cell? ⟨u.heap.size, 8, none⟩ = some (.string fn) := cell_row r0 8 rfl; have p9 : w.cell? ⟨u.heap.size, 9, none⟩ = some (.bool fa) := cell_row r0 9 rfl; have p10 : w.cell? ⟨u.heap.size, 10, none⟩ = some (.string ow) := cell_row r0 10 rfl; go_simp; first | done | with_reducible rfl)
  simp only [Act.put, List.getElem_toArray, List.getElem_cons_zero, List.getElem_cons_succ, List.setIfInBounds_toArray, List.set_cons_zero, List.set_cons_succ]
  refine wpAnyH_take (i := 5) (v := ?_) rfl (by kernel_rfl) (by kernel_rfl) (by kernel_rfl) (fun _ _ _ h => h) (Or.inl ⟨by rfl, ?_⟩) (by assumption) ?_
  rotate_left
  focus (intro w hSw; have r0 : w.heap[u.heap.size]? = some (.cells #[.int .i64 8, .int .i64 ln, .int .i64 co, .int .i64 num, .string name, .string tn, .bool ta, .slice ka kn kc, .string fn, .bool fa, .string ow] 29 (0, 0)) := (hSw.block _ (by omega)).trans (heap_al1 _ _); have p0 : w.cell? ⟨u.heap.size, 0, none⟩ = some (.int .i64 8) := cell_row r0 0 rfl; have p1 : w.cell? ⟨u.heap.size, 1, none⟩ = some (.int .i64 ln) := cell_row r0 1 rfl; have p2 : w.cell? ⟨u.heap.size, 2, none⟩ = some (.int .i64 co) := cell_row r0 2 rfl; have p3 : w.cell? ⟨u.heap.size, 3, none⟩ = some (.int .i64 num) := cell_row r0 3 rfl; have p4 : w.cell? ⟨u.heap.size, 4, none⟩ = some (.string name) := cell_row r0 4 rfl; have p5 : w.cell? ⟨u.heap.size, 5, none⟩ = some (.string tn) := cell_row r0 5 rfl; have p6 : w.cell? ⟨u.heap.size, 6, none⟩ = some (.bool ta) := cell_row r0 6 rfl; have p7 : w.cell? ⟨u.heap.size, 7, none⟩ = some (.slice ka kn kc) := cell_row r0 7 rfl; have p8 : w.cell? ⟨u.heap.size, 8, none⟩ = some (.string fn) := cell_row r0 8 rfl; have p9 : w.cell? ⟨u.heap.size, 9, none⟩ = some (.bool fa) := cell_row r0 9 rfl; have p10 : w.cell? ⟨u.heap.size, 10, none⟩ = some (.string ow) := cell_row r0 10 rfl; go_simp; first | done | with_reducible rfl)
  simp only [Act.put, List.getElem_toArray, List.getElem_cons_zero, List.getElem_cons_succ, List.setIfInBounds_toArray, List.set_cons_zero, List.set_cons_succ]
  refine wpAnyH_take (i := 6) (v := ?_) rfl (by kernel_rfl) (by kernel_rfl) (by kernel_rfl) (fun _ _ _ h => h) (Or.inl ⟨by rfl, ?_⟩) (by assumption) ?_
  rotate_left
  focus (intro w hSw; have r0 : w.heap[u.heap.size]? = some (.cells #[.int .i64 8, .int .i64 ln, .int .i64 co, .int .i64 num, .string name, .string tn, .bool ta, .slice ka kn kc, .string fn, .bool fa, .string ow] 29 (0, 0)) := (hSw.block _ (by omega)).trans (heap_al1 _ _); have p0 : w.cell? ⟨u.heap.size, 0, none⟩ = some (.int .i64 8) := cell_row r0 0 rfl; have p1 : w.cell? ⟨u.heap.size, 1, none⟩ = some (.int .i64 ln) := cell_row r0 1 rfl; have p2 : w.cell? ⟨u.heap.size, 2, none⟩ = some (.int .i64 co) := cell_row r0 2 rfl; have p3 : w.cell? ⟨u.heap.size, 3, none⟩ = some (.int .i64 num) := cell_row r0 3 rfl; have p4 : w.cell? ⟨u.heap.size, 4, none⟩ = some (.string name) := cell_row r0 4 rfl; have p5 : w.cell? ⟨u.heap.size, 5, none⟩ = some (.string tn) := cell_row r0 5 rfl; have p6 : w.cell? ⟨u.heap.size, 6, none⟩ = some (.bool ta) := cell_row r0 6 rfl; have p7 : w.cell? ⟨u.heap.size, 7, none⟩ = some (.slice ka kn kc) := cell_row r0 7 rfl; have p8 : w.cell? ⟨u.heap.size, 8, none⟩ = some (.string fn) := cell_row r0 8 rfl; have p9 : w.cell? ⟨u.heap.size, 9, none⟩ = some (.bool fa) := cell_row r0 9 rfl; have p10 : w.cell? ⟨u.heap.size, 10, none⟩ = some (.string ow) := cell_row r0 10 rfl; go_simp; first | done | with_reducible rfl)
  simp only [Act.put, List.getElem_toArray, List.getElem_cons_zero, List.getElem_cons_succ, List.setIfInBounds_toArray, List.set_cons_zero, List.set_cons_succ]
  refine wpAnyH_ready (rs := [8]) (by kernel_rfl) (by simp) ?_
  refine AllReadyH.cons (o := _) rfl (fun K hK => ?_) AllReadyH.nil
  go_simp
  with_reducible refine (HA1.out _ hHeld).mono ?_
  rintro e x8 ⟨rfl, hx8⟩
  go_simp
  refine hK.out _ _ (hHeld.trans (hx8.mono (Nat.le_trans (Nat.le_of_eq (by simp)) hHeld.size))) (fun hHeld => ?_)
  clear hK K
  try simp only [Act.put, List.getElem_toArray, List.getElem_cons_zero, List.getElem_cons_succ, List.setIfInBounds_toArray, List.set_cons_zero, List.set_cons_succ]
  refine wpAnyH_take (i := 9) (v := ?_) rfl (by kernel_rfl) (by kernel_rfl) (by kernel_rfl) (fun _ _ _ h => h) (Or.inl ⟨by rfl, ?_⟩) (by assumption) ?_
  rotate_left
  focus (intro w hSw; have r0 : w.heap[u.heap.size]? = some (.cells #[.int .i64 8, .int .i64 ln, .int .i64 co, .int .i64 num, .string name, .string tn, .bool ta, .slice ka kn kc, .string fn, .bool fa, .string ow] 29 (0, 0)) := (hSw.block _ (by omega)).trans (heap_al1 _ _); have p0 : w.cell? ⟨u.heap.size, 0, none⟩ = some (.int .i64 8) := cell_row r0 0 rfl; have p1 : w.cell? ⟨u.heap.size, 1, none⟩ = some (.int .i64 ln) := cell_row r0 1 rfl; have p2 : w.cell? ⟨u.heap.size, 2, none⟩ = some (.int .i64 co) := cell_row r0 2 rfl; have p3 : w.cell? ⟨u.heap.size, 3, none⟩ = some (.int .i64 num) := cell_row r0 3 rfl; have p4 : w.cell? ⟨u.heap.size, 4, none⟩ = some (.string name) := cell_row r0 4 rfl; have p5 : w.cell? ⟨u.heap.size, 5, none⟩ = some (.string tn) := cell_row r0 5 rfl; have p6 : w.cell? ⟨u.heap.size, 6, none⟩ = some (.bool ta) := cell_row r0 6 rfl; have p7 : w.cell? ⟨u.heap.size, 7, none⟩ = some (.slice ka kn kc) := cell_row r0 7 rfl; have p8 : w.cell? ⟨u.heap.size, 8, none⟩ = some (.string fn) := cell_row r0 8 rfl; have p9 : w.cell? ⟨u.heap.size, 9, none⟩ = some (.bool fa) := cell_row r0 9 rfl; have p10 : w.cell? ⟨u.heap.size, 10, none⟩ = some (.string ow) := cell_row r0 10 rfl; go_simp; first | done | with_reducible rfl)
  simp only [Act.put, List.getElem_toArray, List.getElem_cons_zero, List.getElem_cons_succ, List.setIfInBounds_toArray, List.set_cons_zero, List.set_cons_succ]
  refine wpAnyH_take (i := 10) (v := ?_) rfl (by kernel_rfl) (by kernel_rfl) (by kernel_rfl) (fun _ _ _ h => h) (Or.inl ⟨by rfl, ?_⟩) (by assumption) ?_
  rotate_left
  focus (intro w hSw; have r0 : w.heap[u.heap.size]? = some (.cells #[.int .i64 8, .int .i64 ln, .int .i64 co, .int .i64 num, .string name, .string tn, .bool ta, .slice ka kn kc, .string fn, .bool fa, .string ow] 29 (0, 0)) := (hSw.block _ (by omega)).trans (heap_al1 _ _); have p0 : w.cell? ⟨u.heap.size, 0, none⟩ = some (.int .i64 8) := cell_row r0 0 rfl; have p1 : w.cell? ⟨u.heap.size, 1, none⟩ = some (.int .i64 ln) := cell_row r0 1 rfl; have p2 : w.cell? ⟨u.heap.size, 2, none⟩ = some (.int .i64 co) := cell_row r0 2 rfl; have p3 : w.cell? ⟨u.heap.size, 3, none⟩ = some (.int .i64 num) := cell_row r0 3 rfl; have p4 : w.cell? ⟨u.heap.size, 4, none⟩ = some (.string name) := cell_row r0 4 rfl; have p5 : w.cell? ⟨u.heap.size, 5, none⟩ = some (.string tn) := cell_row r0 5 rfl; have p6 : w.cell? ⟨u.heap.size, 6, none⟩ = some (.bool ta) := cell_row r0 6 rfl; have p7 : w.cell? ⟨u.heap.size, 7, none⟩ = some (.slice ka kn kc) := cell_row r0 7 rfl; have p8 : w.cell? ⟨u.heap.size, 8, none⟩ = some (.string fn) := cell_row r0 8 rfl; have p9 : w.cell? ⟨u.heap.size, 9, none⟩ = some (.bool fa) := cell_row r0 9 rfl; have p10 : w.cell? ⟨u.heap.size, 10, none⟩ = some (.string ow) := cell_row r0 10 rfl; go_simp; first | done | with_reducible rfl)
  simp only [Act.put, List.getElem_toArray, List.getElem_cons_zero, List.getElem_cons_succ, List.setIfInBounds_toArray, List.set_cons_zero, List.set_cons_succ]
  refine wpAnyH_take (i := 11) (v := ?_) rfl (by kernel_rfl) (by kernel_rfl) (by kernel_rfl) (fun _ _ _ h => h) (Or.inl ⟨by rfl, ?_⟩) (by assumption) ?_
  rotate_left
  focus (intro w hSw; have r0 : w.heap[u.heap.size]? = some (.cells #[.int .i64 8, .int .i64 ln, .int .i64 co, .int .i64 num, .string name, .string tn, .bool ta, .slice ka kn kc, .string fn, .bool fa, .string ow] 29 (0, 0)) := (hSw.block _ (by omega)).trans (heap_al1 _ _); have p0 : w.cell? ⟨u.heap.size, 0, none⟩ = some (.int .i64 8) := cell_row r0 0 rfl; have p1 : w.cell? ⟨u.heap.size, 1, none⟩ = some (.int .i64 ln) := cell_row r0 1 rfl; have p2 : w.cell? ⟨u.heap.size, 2, none⟩ = some (.int .i64 co) := cell_row r0 2 rfl; have p3 : w.cell? ⟨u.heap.size, 3, none⟩ = some (.int .i64 num) := cell_row r0 3 rfl; have p4 : w.cell? ⟨u.heap.size, 4, none⟩ = some (.string name) := cell_row r0 4 rfl; have p5 : w.cell? ⟨u.heap.size, 5, none⟩ = some (.string tn) := cell_row r0 5 rfl; have p6 : w.cell? ⟨u.heap.size, 6, none⟩ = some (.bool ta) := cell_row r0 6 rfl; have p7 : w.cell? ⟨u.heap.size, 7, none⟩ = some (.slice ka kn kc) := cell_row r0 7 rfl; have p8 : w.cell? ⟨u.heap.size, 8, none⟩ = some (.string fn) := cell_row r0 8 rfl; have p9 : w.cell? ⟨u.heap.size, 9, none⟩ = some (.bool fa) := cell_row r0 9 rfl; have p10 : w.cell? ⟨u.heap.size, 10, none⟩ = some (.string ow) := cell_row r0 10 rfl; go_simp; first | done | with_reducible rfl)
  simp only [Act.put, List.getElem_toArray, List.getElem_cons_zero, List.getElem_cons_succ, List.setIfInBounds_toArray, List.set_cons_zero, List.set_cons_succ]
  refine wpAnyH_done (by kernel_rfl) ?_ _
  go_wp2
  go_ret
  exact ⟨rfl, (below1 u _).trans (hHeld.mono (by omega))⟩
set_option maxHeartbeats 2000000 in
set_option maxRecDepth 100000 in
theorem text_k9 (W : World) (Q : Tree → Value → Prop) (hQ : ∀ t kk, t.ok → Q t kk → TextOK W t kk) (ln co num : Int) (name tn : ByteArray) (ta : Bool) (kids : List Tree) (fn : ByteArray) (fa : Bool) (ow : ByteArray) (ka : Option Addr) (kn kc : Nat) (hk : Kids W Q kids (.slice ka kn kc)) : TextOK W (.mk 9 ln co num name tn ta kids fn fa ow) (.slice ka kn kc) := by
  intro u hw hlen
  have hB := hw.size
  obtain ⟨Y0, eY0⟩ : ∃ Z : ByteArray, Z = ⟨(cm ((kids.map tx).drop 0)).toArray⟩ := ⟨_, rfl⟩
  have sY0 : Y0.size = (cm ((kids.map tx).drop 0)).length := by rw [eY0]; rfl
  have hE : (⟨(tx (.mk 9 ln co num name tn ta kids fn fa ow)).toArray⟩ : ByteArray) = tn ++ ⟨#[46]⟩ ++ name ++ ⟨#[40]⟩ ++ Y0 ++ ⟨#[41]⟩ := by
    rw [tx_mk, eY0]
    exact ba_eq (by simp [txk, lst])
  have hsz : tn.size + 1 + name.size + 1 + Y0.size + 1 ≤ 140737488355328 := by
    have h := congrArg ByteArray.size hE
    simp only [ByteArray.size_append] at h
    have q0 : (⟨#[40]⟩ : ByteArray).size = 1 := rfl
    have q1 : (⟨#[41]⟩ : ByteArray).size = 1 := rfl
    have q2 : (⟨#[46]⟩ : ByteArray).size = 1 := rfl
    have h2 : (⟨(tx (.mk 9 ln co num name tn ta kids fn fa ow)).toArray⟩ : ByteArray).size = (tx (.mk 9 ln co num name tn ta kids fn fa ow)).length := rfl
    omega
  rw [hE]
  have HA0 : Hid (∀ x, Below (u.heap.size + 1) (u.alloc (.cells #[.int .i64 9, .int .i64 ln, .int .i64 co, .int .i64 num, .string name, .string tn, .bool ta, .slice ka kn kc, .string fn, .bool fa, .string ow] 29)) x → Calls Tryd.prog 31 #[.int .i64 0, .pointer (some ⟨u.heap.size, 0, none⟩)] x fun e w' => e = .returned (.string Y0) ∧ Below x.heap.size x w') := Lib.hid (fun x hx => by
    rw [eY0]
    exact clos31 W Q hQ kids ka kn kc hk u.heap.size _ 0 (by omega) x ((hw.trans ((below1 u _).mono hB)).trans (hx.mono (by omega))) ((hx.block _ (by omega)).trans (heap_al1 _ _)) rfl (by omega))
  have z2 : ¬ 9223372036854775807 < tn.size + 1 := by omega
  have z3 : ¬ 9223372036854775807 < tn.size + 1 + name.size := by omega
  have z4 : ¬ 9223372036854775807 < tn.size + 1 + name.size + 1 := by omega
  have z5 : ¬ 9223372036854775807 < tn.size + 1 + name.size + 1 + Y0.size := by omega
  have z6 : ¬ 9223372036854775807 < tn.size + 1 + name.size + 1 + Y0.size + 1 := by omega
  clear hE hlen hk hQ hsz eY0 sY0
  unfold exprV exprC
  go_enter Tryd.func11, Tryd.ntmps11
  go_wp2
  refine wp_region_held_drew (S := fun w' => Below (u.heap.size + 1) (u.alloc (.cells #[.int .i64 9, .int .i64 ln, .int .i64 co, .int .i64 num, .string name, .string tn, .bool ta, .slice ka kn kc, .string fn, .bool fa, .string ow] 29)) w') (by kernel_rfl) ?_ (fun hHeld => ?_)
  · exact Below.drew (Below.refl _ _)
  refine wpAnyH_take (i := 0) (v := ?_) rfl (by kernel_rfl) (by kernel_rfl) (by kernel_rfl) (fun _ _ _ h => h) (Or.inl ⟨by rfl, ?_⟩) (by assumption) ?_
  rotate_left
  focus (intro w hSw; have r0 : w.heap[u.heap.size]? = some (.cells #[.int .i64 9, .int .i64 ln, .int .i64 co, .int .i64 num, .string name, .string tn, .bool ta, .slice ka kn kc, .string fn, .bool fa, .string ow] 29 (0, 0)) := (hSw.block _ (by omega)).trans (heap_al1 _ _); have p0 : w.cell? ⟨u.heap.size, 0, none⟩ = some (.int .i64 9) := cell_row r0 0 rfl; have p1 : w.cell? ⟨u.heap.size, 1, none⟩ = some (.int .i64 ln) := cell_row r0 1 rfl; have p2 : w.cell? ⟨u.heap.size, 2, none⟩ = some (.int .i64 co) := cell_row r0 2 rfl; have p3 : w.cell? ⟨u.heap.size, 3, none⟩ = some (.int .i64 num) := cell_row r0 3 rfl; have p4 : w.cell? ⟨u.heap.size, 4, none⟩ = some (.string name) := cell_row r0 4 rfl; have p5 : w.cell? ⟨u.heap.size, 5, none⟩ = some (.string tn) := cell_row r0 5 rfl; have p6 : w.cell? ⟨u.heap.size, 6, none⟩ = some (.bool ta) := cell_row r0 6 rfl; have p7 : w.cell? ⟨u.heap.size, 7, none⟩ = some (.slice ka kn kc) := cell_row r0 7 rfl; have p8 : w.cell? ⟨u.heap.size, 8, none⟩ = some (.string fn) := cell_row r0 8 rfl; have p9 : w.cell? ⟨u.heap.size, 9, none⟩ = some (.bool fa) := cell_row r0 9 rfl; have p10 : w.cell? ⟨u.heap.size, 10, none⟩ = some (.string ow) := cell_row r0 10 rfl; go_simp; first | done | with_reducible rfl)
  simp only [Act.put, List.getElem_toArray, List.getElem_cons_zero, List.setIfInBounds_toArray, List.set_cons_zero, List.set_cons_succ]
  refine wpAnyH_take (i := 1) (v := ?_) rfl (by kernel_rfl) (by kernel_rfl) (by kernel_rfl) (fun _ _ _ h => h) (Or.inl ⟨by rfl, ?_⟩) (by assumption) ?_
  rotate_left
  focus (intro w hSw; have r0 : w.heap[u.heap.size]? = some (.cells #[.int .i64 9, .int .i64 ln, .int .i64 co, .int .i64 num, .string name, .string tn, .bool ta, .slice ka kn kc, .string fn, .bool fa, .string ow] 29 (0, 0)) := (hSw.block _ (by omega)).trans (heap_al1 _ _); have p0 : w.cell? ⟨u.heap.size, 0, none⟩ = some (.int .i64 9) := cell_row r0 0 rfl; have p1 : w.cell? ⟨u.heap.size, 1, none⟩ = some (.int .i64 ln) := cell_row r0 1 rfl; have p2 : w.cell? ⟨u.heap.size, 2, none⟩ = some (.int .i64 co) := cell_row r0 2 rfl; have p3 : w.cell? ⟨u.heap.size, 3, none⟩ = some (.int .i64 num) := cell_row r0 3 rfl; have p4 : w.cell? ⟨u.heap.size, 4, none⟩ = some (.string name) := cell_row r0 4 rfl; have p5 : w.cell? ⟨u.heap.size, 5, none⟩ = some (.string tn) := cell_row r0 5 rfl; have p6 : w.cell? ⟨u.heap.size, 6, none⟩ = some (.bool ta) := cell_row r0 6 rfl; have p7 : w.cell? ⟨u.heap.size, 7, none⟩ = some (.slice ka kn kc) := cell_row r0 7 rfl; have p8 : w.cell? ⟨u.heap.size, 8, none⟩ = some (.string fn) := cell_row r0 8 rfl; have p9 : w.cell? ⟨u.heap.size, 9, none⟩ = some (.bool fa) := cell_row r0 9 rfl; have p10 : w.cell? ⟨u.heap.size, 10, none⟩ = some (.string ow) := cell_row r0 10 rfl; go_simp; first | done | with_reducible rfl)
  simp only [Act.put, List.getElem_toArray, List.getElem_cons_zero, List.getElem_cons_succ, List.setIfInBounds_toArray, List.set_cons_zero, List.set_cons_succ]
  refine wpAnyH_take (i := 2) (v := ?_) rfl (by kernel_rfl) (by kernel_rfl) (by kernel_rfl) (fun _ _ _ h => h) (Or.inl ⟨by rfl, ?_⟩) (by assumption) ?_
  rotate_left
  focus (intro w hSw; have r0 : w.heap[u.heap.size]? = some (.cells #[.int .i64 9, .int .i64 ln, .int .i64 co, .int .i64 num, .string name, .string tn, .bool ta, .slice ka kn kc, .string fn, .bool fa, .string ow] 29 (0, 0)) := (hSw.block _ (by omega)).trans (heap_al1 _ _); have p0 : w.cell? ⟨u.heap.size, 0, none⟩ = some (.int .i64 9) := cell_row r0 0 rfl; have p1 : w.cell? ⟨u.heap.size, 1, none⟩ = some (.int .i64 ln) := cell_row r0 1 rfl; have p2 : w.cell? ⟨u.heap.size, 2, none⟩ = some (.int .i64 co) := cell_row r0 2 rfl; have p3 : w.cell? ⟨u.heap.size, 3, none⟩ = some (.int .i64 num) := cell_row r0 3 rfl; have p4 : w.cell? ⟨u.heap.size, 4, none⟩ = some (.string name) := cell_row r0 4 rfl; have p5 : w.cell? ⟨u.heap.size, 5, none⟩ = some (.string tn) := cell_row r0 5 rfl; have p6 : w.cell? ⟨u.heap.size, 6, none⟩ = some (.bool ta) := cell_row r0 6 rfl; have p7 : w.cell? ⟨u.heap.size, 7, none⟩ = some (.slice ka kn kc) := cell_row r0 7 rfl; have p8 : w.cell? ⟨u.heap.size, 8, none⟩ = some (.string fn) := cell_row r0 8 rfl; have p9 : w.cell? ⟨u.heap.size, 9, none⟩ = some (.bool fa) := cell_row r0 9 rfl; have p10 : w.cell? ⟨u.heap.size, 10, none⟩ = some (.string ow) := cell_row r0 10 rfl; go_simp; first | done | with_reducible rfl)
  simp only [Act.put, List.getElem_toArray, List.getElem_cons_zero, List.getElem_cons_succ, List.setIfInBounds_toArray, List.set_cons_zero, List.set_cons_succ]
  refine wpAnyH_take (i := 3) (v := ?_) rfl (by kernel_rfl) (by kernel_rfl) (by kernel_rfl) (fun _ _ _ h => h) (Or.inl ⟨by rfl, ?_⟩) (by assumption) ?_
  rotate_left
  focus (intro w hSw; have r0 : w.heap[u.heap.size]? = some (.cells #[.int .i64 9, .int .i64 ln, .int .i64 co, .int .i64 num, .string name, .string tn, .bool ta, .slice ka kn kc, .string fn, .bool fa, .string ow] 29 (0, 0)) := (hSw.block _ (by omega)).trans (heap_al1 _ _); have p0 : w.cell? ⟨u.heap.size, 0, none⟩ = some (.int .i64 9) := cell_row r0 0 rfl; have p1 : w.cell? ⟨u.heap.size, 1, none⟩ = some (.int .i64 ln) := cell_row r0 1 rfl; have p2 : w.cell? ⟨u.heap.size, 2, none⟩ = some (.int .i64 co) := cell_row r0 2 rfl; have p3 : w.cell? ⟨u.heap.size, 3, none⟩ = some (.int .i64 num) := cell_row r0 3 rfl; have p4 : w.cell? ⟨u.heap.size, 4, none⟩ = some (.string name) := cell_row r0 4 rfl; have p5 : w.cell? ⟨u.heap.size, 5, none⟩ = some (.string tn) := cell_row r0 5 rfl; have p6 : w.cell? ⟨u.heap.size, 6, none⟩ = some (.bool ta) := cell_row r0 6 rfl; have p7 : w.cell? ⟨u.heap.size, 7, none⟩ = some (.slice ka kn kc) := cell_row r0 7 rfl; have p8 : w.cell? ⟨u.heap.size, 8, none⟩ = some (.string fn) := cell_row r0 8 rfl; have p9 : w.cell? ⟨u.heap.size, 9, none⟩ = some (.bool fa) := cell_row r0 9 rfl; have p10 : w.cell? ⟨u.heap.size, 10, none⟩ = some (.string ow) := cell_row r0 10 rfl; go_simp; first | done | with_reducible rfl)
  simp only [Act.put, List.getElem_toArray, List.getElem_cons_zero, List.getElem_cons_succ, List.setIfInBounds_toArray, List.set_cons_zero, List.set_cons_succ]
  refine wpAnyH_take (i := 4) (v := ?_) rfl (by kernel_rfl) (by kernel_rfl) (by kernel_rfl) (fun _ _ _ h => h) (Or.inl ⟨by rfl, ?_⟩) (by assumption) ?_
  rotate_left
  focus (intro w hSw; have r0 : w.heap[u.heap.size]? = some (.cells #[.int .i64 9, .int .i64 ln, .int .i64 co, .int .i64 num, .string name, .string tn, .bool ta, .slice ka kn kc, .string fn, .bool fa, .string ow] 29 (0, 0)) := (hSw.block _ (by omega)).trans (heap_al1 _ _); have p0 : w.cell? ⟨u.heap.size, 0, none⟩ = some (.int .i64 9) := cell_row r0 0 rfl; have p1 : w.cell? ⟨u.heap.size, 1, none⟩ = some (.int .i64 ln) := cell_row r0 1 rfl; have p2 : w.cell? ⟨u.heap.size, 2, none⟩ = some (.int .i64 co) := cell_row r0 2 rfl; have p3 : w.cell? ⟨u.heap.size, 3, none⟩ = some (.int .i64 num) := cell_row r0 3 rfl; have p4 : w.cell? ⟨u.heap.size, 4, none⟩ = some (.string name) := cell_row r0 4 rfl; have p5 : w.cell? ⟨u.heap.size, 5, none⟩ = some (.string tn) := cell_row r0 5 rfl; have p6 : w.cell? ⟨u.heap.size, 6, none⟩ = some (.bool ta) := cell_row r0 6 rfl; have p7 : w.cell? ⟨u.heap.size, 7, none⟩ = some (.slice ka kn kc) := cell_row r0 7 rfl; have p8 : w.cell? ⟨u.heap.size, 8, none⟩ = some (.string fn) := cell_row r0 8 rfl; have p9 : w.cell? ⟨u.heap.size, 9, none⟩ = some (.bool fa) := cell_row r0 9 rfl; have p10 : w.cell? ⟨u.heap.size, 10, none⟩ = some (.string ow) := cell_row r0 10 rfl; go_simp; first | done | with_reducible rfl)
  simp only [Act.put, List.getElem_toArray, List.getElem_cons_zero, List.getElem_cons_succ, List.setIfInBounds_toArray, List.set_cons_zero, List.set_cons_succ]
  refine wpAnyH_take (i := 5) (v := ?_) rfl (by kernel_rfl) (by kernel_rfl) (by kernel_rfl) (fun _ _ _ h => h) (Or.inl ⟨by rfl, ?_⟩) (by assumption) ?_
  rotate_left
  focus (intro w hSw; have r0 : w.heap[u.heap.size]? = some (.cells #[.int .i64 9, .int .i64 ln, .int .i64 co, .int .i64 num, .string name, .string tn, .bool ta, .slice ka kn kc, .string fn, .bool fa, .string ow] 29 (0, 0)) := (hSw.block _ (by omega)).trans (heap_al1 _ _); have p0 : w.cell? ⟨u.heap.size, 0, none⟩ = some (.int .i64 9) := cell_row r0 0 rfl; have p1 : w.cell? ⟨u.heap.size, 1, none⟩ = some (.int .i64 ln) := cell_row r0 1 rfl; have p2 : w.cell? ⟨u.heap.size, 2, none⟩ = some (.int .i64 co) := cell_row r0 2 rfl; have p3 : w.cell? ⟨u.heap.size, 3, none⟩ = some (.int .i64 num) := cell_row r0 3 rfl; have p4 : w.cell? ⟨u.heap.size, 4, none⟩ = some (.string name) := cell_row r0 4 rfl; have p5 : w.cell? ⟨u.heap.size, 5, none⟩ = some (.string tn) := cell_row r0 5 rfl; have p6 : w.cell? ⟨u.heap.size, 6, none⟩ = some (.bool ta) := cell_row r0 6 rfl; have p7 : w.cell? ⟨u.heap.size, 7, none⟩ = some (.slice ka kn kc) := cell_row r0 7 rfl; have p8 : w.cell? ⟨u.heap.size, 8, none⟩ = some (.string fn) := cell_row r0 8 rfl; have p9 : w.cell? ⟨u.heap.size, 9, none⟩ = some (.bool fa) := cell_row r0 9 rfl; have p10 : w.cell? ⟨u.heap.size, 10, none⟩ = some (.string ow) := cell_row r0 10 rfl; go_simp; first | done | with_reducible rfl)
  simp only [Act.put, List.getElem_toArray, List.getElem_cons_zero, List.getElem_cons_succ, List.setIfInBounds_toArray, List.set_cons_zero, List.set_cons_succ]
  refine wpAnyH_take (i := 6) (v := ?_) rfl (by kernel_rfl) (by kernel_rfl) (by kernel_rfl) (fun _ _ _ h => h) (Or.inl ⟨by rfl, ?_⟩) (by assumption) ?_
  rotate_left
  focus (intro w hSw; have r0 : w.heap[u.heap.size]? = some (.cells #[.int .i64 9, .int .i64 ln, .int .i64 co, .int .i64 num, .string name, .string tn, .bool ta, .slice ka kn kc, .string fn, .bool fa, .string ow] 29 (0, 0)) := (hSw.block _ (by omega)).trans (heap_al1 _ _); have p0 : w.cell? ⟨u.heap.size, 0, none⟩ = some (.int .i64 9) := cell_row r0 0 rfl; have p1 : w.cell? ⟨u.heap.size, 1, none⟩ = some (.int .i64 ln) := cell_row r0 1 rfl; have p2 : w.cell? ⟨u.heap.size, 2, none⟩ = some (.int .i64 co) := cell_row r0 2 rfl; have p3 : w.cell? ⟨u.heap.size, 3, none⟩ = some (.int .i64 num) := cell_row r0 3 rfl; have p4 : w.cell? ⟨u.heap.size, 4, none⟩ = some (.string name) := cell_row r0 4 rfl; have p5 : w.cell? ⟨u.heap.size, 5, none⟩ = some (.string tn) := cell_row r0 5 rfl; have p6 : w.cell? ⟨u.heap.size, 6, none⟩ = some (.bool ta) := cell_row r0 6 rfl; have p7 : w.cell? ⟨u.heap.size, 7, none⟩ = some (.slice ka kn kc) := cell_row r0 7 rfl; have p8 : w.cell? ⟨u.heap.size, 8, none⟩ = some (.string fn) := cell_row r0 8 rfl; have p9 : w.cell? ⟨u.heap.size, 9, none⟩ = some (.bool fa) := cell_row r0 9 rfl; have p10 : w.cell? ⟨u.heap.size, 10, none⟩ = some (.string ow) := cell_row r0 10 rfl; go_simp; first | done | with_reducible rfl)
  simp only [Act.put, List.getElem_toArray, List.getElem_cons_zero, List.getElem_cons_succ, List.setIfInBounds_toArray, List.set_cons_zero, List.set_cons_succ]
  refine wpAnyH_take (i := 7) (v := ?_) rfl (by kernel_rfl) (by kernel_rfl) (by kernel_rfl) (fun _ _ _ h => h) (Or.inl ⟨by rfl, ?_⟩) (by assumption) ?_
  rotate_left
  focus (intro w hSw; have r0 : w.heap[u.heap.size]? = some (.cells #[.int .i64 9, .int .i64 ln, .int .i64 co, .int .i64 num, .string name, .string tn, .bool ta, .slice ka kn kc, .string fn, .bool fa, .string ow] 29 (0, 0)) := (hSw.block _ (by omega)).trans (heap_al1 _ _); have p0 : w.cell? ⟨u.heap.size, 0, none⟩ = some (.int .i64 9) := cell_row r0 0 rfl; have p1 : w.cell? ⟨u.heap.size, 1, none⟩ = some (.int .i64 ln) := cell_row r0 1 rfl; have p2 : w.cell? ⟨u.heap.size, 2, none⟩ = some (.int .i64 co) := cell_row r0 2 rfl; have p3 : w.cell? ⟨u.heap.size, 3, none⟩ = some (.int .i64 num) := cell_row r0 3 rfl; have p4 : w.cell? ⟨u.heap.size, 4, none⟩ = some (.string name) := cell_row r0 4 rfl; have p5 : w.cell? ⟨u.heap.size, 5, none⟩ = some (.string tn) := cell_row r0 5 rfl; have p6 : w.cell? ⟨u.heap.size, 6, none⟩ = some (.bool ta) := cell_row r0 6 rfl; have p7 : w.cell? ⟨u.heap.size, 7, none⟩ = some (.slice ka kn kc) := cell_row r0 7 rfl; have p8 : w.cell? ⟨u.heap.size, 8, none⟩ = some (.string fn) := cell_row r0 8 rfl; have p9 : w.cell? ⟨u.heap.size, 9, none⟩ = some (.bool fa) := cell_row r0 9 rfl; have p10 : w.cell? ⟨u.heap.size, 10, none⟩ = some (.string ow) := cell_row r0 10 rfl; go_simp; first | done | with_reducible rfl)
  simp only [Act.put, List.getElem_toArray, List.getElem_cons_zero, List.getElem_cons_succ, List.setIfInBounds_toArray, List.set_cons_zero, List.set_cons_succ]
  refine wpAnyH_take (i := 8) (v := ?_) rfl (by kernel_rfl) (by kernel_rfl) (by kernel_rfl) (fun _ _ _ h => h) (Or.inl ⟨by rfl, ?_⟩) (by assumption) ?_
  rotate_left
  focus (intro w hSw; have r0 : w.heap[u.heap.size]? = some (.cells #[.int .i64 9, .int .i64 ln, .int .i64 co, .int .i64 num, .string name, .string tn, .bool ta, .slice ka kn kc, .string fn, .bool fa, .string ow] 29 (0, 0)) := (hSw.block _ (by omega)).trans (heap_al1 _ _); have p0 : w.cell? ⟨u.heap.size, 0, none⟩ = some (.int .i64 9) := cell_row r0 0 rfl; have p1 : w.cell? ⟨u.heap.size, 1, none⟩ = some (.int .i64 ln) := cell_row r0 1 rfl; have p2 : w.cell? ⟨u.heap.size, 2, none⟩ = some (.int .i64 co) := cell_row r0 2 rfl; have p3 : w.cell? ⟨u.heap.size, 3, none⟩ = some (.int .i64 num) := cell_row r0 3 rfl; have p4 : w.cell? ⟨u.heap.size, 4, none⟩ = some (.string name) := cell_row r0 4 rfl; have p5 : w.cell? ⟨u.heap.size, 5, none⟩ = some (.string tn) := cell_row r0 5 rfl; have p6 : w.cell? ⟨u.heap.size, 6, none⟩ = some (.bool ta) := cell_row r0 6 rfl; have p7 : w.cell? ⟨u.heap.size, 7, none⟩ = some (.slice ka kn kc) := cell_row r0 7 rfl; have p8 : w.cell? ⟨u.heap.size, 8, none⟩ = some (.string fn) := cell_row r0 8 rfl; have p9 : w.cell? ⟨u.heap.size, 9, none⟩ = some (.bool fa) := cell_row r0 9 rfl; have p10 : w.cell? ⟨u.heap.size, 10, none⟩ = some (.string ow) := cell_row r0 10 rfl; go_simp; first | done | with_reducible rfl)
  simp only [Act.put, List.getElem_toArray, List.getElem_cons_zero, List.getElem_cons_succ, List.setIfInBounds_toArray, List.set_cons_zero, List.set_cons_succ]
  refine wpAnyH_ready (rs := [9]) (by kernel_rfl) (by simp) ?_
  refine AllReadyH.cons (o := _) rfl (fun K hK => ?_) AllReadyH.nil
  go_simp
  with_reducible refine (HA0.out _ hHeld).mono ?_
  rintro e x9 ⟨rfl, hx9⟩
  go_simp
  refine hK.out _ _ (hHeld.trans (hx9.mono (Nat.le_trans (Nat.le_of_eq (by simp)) hHeld.size))) (fun hHeld => ?_)
  clear hK K
  try simp only [Act.put, List.getElem_toArray, List.getElem_cons_zero, List.getElem_cons_succ, List.setIfInBounds_toArray, List.set_cons_zero, List.set_cons_succ]
  refine wpAnyH_take (i := 10) (v := ?_) rfl (by kernel_rfl) (by kernel_rfl) (by kernel_rfl) (fun _ _ _ h => h) (Or.inl ⟨by rfl, ?_⟩) (by assumption) ?_
  rotate_left
  focus (intro w hSw; have r0 : w.heap[u.heap.size]? = some (.cells #[.int .i64 9, .int .i64 ln, .int .i64 co, .int .i64 num, .string name, .string tn, .bool ta, .slice ka kn kc, .string fn, .bool fa, .string ow] 29 (0, 0)) := (hSw.block _ (by omega)).trans (heap_al1 _ _); have p0 : w.cell? ⟨u.heap.size, 0, none⟩ = some (.int .i64 9) := cell_row r0 0 rfl; have p1 : w.cell? ⟨u.heap.size, 1, none⟩ = some (.int .i64 ln) := cell_row r0 1 rfl; have p2 : w.cell? ⟨u.heap.size, 2, none⟩ = some (.int .i64 co) := cell_row r0 2 rfl; have p3 : w.cell? ⟨u.heap.size, 3, none⟩ = some (.int .i64 num) := cell_row r0 3 rfl; have p4 : w.cell? ⟨u.heap.size, 4, none⟩ = some (.string name) := cell_row r0 4 rfl; have p5 : w.cell? ⟨u.heap.size, 5, none⟩ = some (.string tn) := cell_row r0 5 rfl; have p6 : w.cell? ⟨u.heap.size, 6, none⟩ = some (.bool ta) := cell_row r0 6 rfl; have p7 : w.cell? ⟨u.heap.size, 7, none⟩ = some (.slice ka kn kc) := cell_row r0 7 rfl; have p8 : w.cell? ⟨u.heap.size, 8, none⟩ = some (.string fn) := cell_row r0 8 rfl; have p9 : w.cell? ⟨u.heap.size, 9, none⟩ = some (.bool fa) := cell_row r0 9 rfl; have p10 : w.cell? ⟨u.heap.size, 10, none⟩ = some (.string ow) := cell_row r0 10 rfl; go_simp; first | done | with_reducible rfl)
  simp only [Act.put, List.getElem_toArray, List.getElem_cons_zero, List.getElem_cons_succ, List.setIfInBounds_toArray, List.set_cons_zero, List.set_cons_succ]
  refine wpAnyH_take (i := 11) (v := ?_) rfl (by kernel_rfl) (by kernel_rfl) (by kernel_rfl) (fun _ _ _ h => h) (Or.inl ⟨by rfl, ?_⟩) (by assumption) ?_
  rotate_left
  focus (intro w hSw; have r0 : w.heap[u.heap.size]? = some (.cells #[.int .i64 9, .int .i64 ln, .int .i64 co, .int .i64 num, .string name, .string tn, .bool ta, .slice ka kn kc, .string fn, .bool fa, .string ow] 29 (0, 0)) := (hSw.block _ (by omega)).trans (heap_al1 _ _); have p0 : w.cell? ⟨u.heap.size, 0, none⟩ = some (.int .i64 9) := cell_row r0 0 rfl; have p1 : w.cell? ⟨u.heap.size, 1, none⟩ = some (.int .i64 ln) := cell_row r0 1 rfl; have p2 : w.cell? ⟨u.heap.size, 2, none⟩ = some (.int .i64 co) := cell_row r0 2 rfl; have p3 : w.cell? ⟨u.heap.size, 3, none⟩ = some (.int .i64 num) := cell_row r0 3 rfl; have p4 : w.cell? ⟨u.heap.size, 4, none⟩ = some (.string name) := cell_row r0 4 rfl; have p5 : w.cell? ⟨u.heap.size, 5, none⟩ = some (.string tn) := cell_row r0 5 rfl; have p6 : w.cell? ⟨u.heap.size, 6, none⟩ = some (.bool ta) := cell_row r0 6 rfl; have p7 : w.cell? ⟨u.heap.size, 7, none⟩ = some (.slice ka kn kc) := cell_row r0 7 rfl; have p8 : w.cell? ⟨u.heap.size, 8, none⟩ = some (.string fn) := cell_row r0 8 rfl; have p9 : w.cell? ⟨u.heap.size, 9, none⟩ = some (.bool fa) := cell_row r0 9 rfl; have p10 : w.cell? ⟨u.heap.size, 10, none⟩ = some (.string ow) := cell_row r0 10 rfl; go_simp; first | done | with_reducible rfl)
  simp only [Act.put, List.getElem_toArray, List.getElem_cons_zero, List.getElem_cons_succ, List.setIfInBounds_toArray, List.set_cons_zero, List.set_cons_succ]
  refine wpAnyH_take (i := 12) (v := ?_) rfl (by kernel_rfl) (by kernel_rfl) (by kernel_rfl) (fun _ _ _ h => h) (Or.inl ⟨by rfl, ?_⟩) (by assumption) ?_
  rotate_left
  focus (intro w hSw; have r0 : w.heap[u.heap.size]? = some (.cells #[.int .i64 9, .int .i64 ln, .int .i64 co, .int .i64 num, .string name, .string tn, .bool ta, .slice ka kn kc, .string fn, .bool fa, .string ow] 29 (0, 0)) := (hSw.block _ (by omega)).trans (heap_al1 _ _); have p0 : w.cell? ⟨u.heap.size, 0, none⟩ = some (.int .i64 9) := cell_row r0 0 rfl; have p1 : w.cell? ⟨u.heap.size, 1, none⟩ = some (.int .i64 ln) := cell_row r0 1 rfl; have p2 : w.cell? ⟨u.heap.size, 2, none⟩ = some (.int .i64 co) := cell_row r0 2 rfl; have p3 : w.cell? ⟨u.heap.size, 3, none⟩ = some (.int .i64 num) := cell_row r0 3 rfl; have p4 : w.cell? ⟨u.heap.size, 4, none⟩ = some (.string name) := cell_row r0 4 rfl; have p5 : w.cell? ⟨u.heap.size, 5, none⟩ = some (.string tn) := cell_row r0 5 rfl; have p6 : w.cell? ⟨u.heap.size, 6, none⟩ = some (.bool ta) := cell_row r0 6 rfl; have p7 : w.cell? ⟨u.heap.size, 7, none⟩ = some (.slice ka kn kc) := cell_row r0 7 rfl; have p8 : w.cell? ⟨u.heap.size, 8, none⟩ = some (.string fn) := cell_row r0 8 rfl; have p9 : w.cell? ⟨u.heap.size, 9, none⟩ = some (.bool fa) := cell_row r0 9 rfl; have p10 : w.cell? ⟨u.heap.size, 10, none⟩ = some (.string ow) := cell_row r0 10 rfl; go_simp; first | done | with_reducible rfl)
  simp only [Act.put, List.getElem_toArray, List.getElem_cons_zero, List.getElem_cons_succ, List.setIfInBounds_toArray, List.set_cons_zero, List.set_cons_succ]
  refine wpAnyH_done (by kernel_rfl) ?_ _
  go_wp2
  go_ret
  exact ⟨rfl, (below1 u _).trans (hHeld.mono (by omega))⟩
set_option maxHeartbeats 2000000 in
set_option maxRecDepth 100000 in
theorem text_k10 (W : World) (Q : Tree → Value → Prop) (_hQ : ∀ t kk, t.ok → Q t kk → TextOK W t kk) (ln co num : Int) (name tn : ByteArray) (ta : Bool) (kids : List Tree) (fn : ByteArray) (fa : Bool) (ow : ByteArray) (ka : Option Addr) (kn kc : Nat) (_hk : Kids W Q kids (.slice ka kn kc)) : TextOK W (.mk 10 ln co num name tn ta kids fn fa ow) (.slice ka kn kc) := by
  intro u hw hlen
  have hB := hw.size
  have hE : (⟨(tx (.mk 10 ln co num name tn ta kids fn fa ow)).toArray⟩ : ByteArray) = ⟨#[40, 110, 101, 119, 32]⟩ ++ tn ++ ⟨#[41]⟩ := by
    rw [tx_mk]
    exact ba_eq (by simp [txk])
  have hsz : 5 + tn.size + 1 ≤ 140737488355328 := by
    have h := congrArg ByteArray.size hE
    simp only [ByteArray.size_append] at h
    have q0 : (⟨#[40, 110, 101, 119, 32]⟩ : ByteArray).size = 5 := rfl
    have q1 : (⟨#[41]⟩ : ByteArray).size = 1 := rfl
    have h2 : (⟨(tx (.mk 10 ln co num name tn ta kids fn fa ow)).toArray⟩ : ByteArray).size = (tx (.mk 10 ln co num name tn ta kids fn fa ow)).length := rfl
    omega
  rw [hE]
  have z2 : ¬ 9223372036854775807 < 5 + tn.size := by omega
  have z3 : ¬ 9223372036854775807 < 5 + tn.size + 1 := by omega
  clear hE hlen hsz 
  unfold exprV exprC
  go_enter Tryd.func11, Tryd.ntmps11
  go_wp2
  go_ret
  exact ⟨rfl, below1 u _⟩
set_option maxHeartbeats 2000000 in
set_option maxRecDepth 100000 in
theorem text_k11 (W : World) (Q : Tree → Value → Prop) (hQ : ∀ t kk, t.ok → Q t kk → TextOK W t kk) (ln co num : Int) (name tn : ByteArray) (ta : Bool) (kids : List Tree) (fn : ByteArray) (fa : Bool) (ow : ByteArray) (ka : Option Addr) (kn kc : Nat) (hk : Kids W Q kids (.slice ka kn kc)) : TextOK W (.mk 11 ln co num name tn ta kids fn fa ow) (.slice ka kn kc) := by
  intro u hw hlen
  have hB := hw.size
  obtain ⟨Z0, eZ0⟩ : ∃ Z : ByteArray, Z = ⟨(nt (kids.map tx) 0).toArray⟩ := ⟨_, rfl⟩
  have sZ0 : Z0.size = (nt (kids.map tx) 0).length := by rw [eZ0]; rfl
  have hE : (⟨(tx (.mk 11 ln co num name tn ta kids fn fa ow)).toArray⟩ : ByteArray) = ⟨#[110, 101, 119, 32]⟩ ++ tn ++ ⟨#[91]⟩ ++ Z0 ++ ⟨#[93]⟩ := by
    rw [tx_mk, eZ0]
    exact ba_eq (by simp [txk, Go.Proofs.YtojkagfbdpjckaaDoor.one])
  have hsz : 4 + tn.size + 1 + Z0.size + 1 ≤ 140737488355328 := by
    have h := congrArg ByteArray.size hE
    simp only [ByteArray.size_append] at h
    have q0 : (⟨#[91]⟩ : ByteArray).size = 1 := rfl
    have q1 : (⟨#[93]⟩ : ByteArray).size = 1 := rfl
    have q2 : (⟨#[110, 101, 119, 32]⟩ : ByteArray).size = 4 := rfl
    have h2 : (⟨(tx (.mk 11 ln co num name tn ta kids fn fa ow)).toArray⟩ : ByteArray).size = (tx (.mk 11 ln co num name tn ta kids fn fa ow)).length := rfl
    omega
  rw [hE]
  have HK0 : Hid (∀ x, Below (u.heap.size + 1) (u.alloc (.cells #[.int .i64 11, .int .i64 ln, .int .i64 co, .int .i64 num, .string name, .string tn, .bool ta, .slice ka kn kc, .string fn, .bool fa, .string ow] 29)) x → Calls Tryd.prog 30 #[.int .i64 0, .pointer (some ⟨u.heap.size, 0, none⟩)] x fun e w' => e = .returned (.string Z0) ∧ Below x.heap.size x w') := Lib.hid (fun x hx => by
    rw [eZ0]
    exact clos30 W Q hQ kids ka kn kc hk u.heap.size _ 0 (by omega) x ((hw.trans ((below1 u _).mono hB)).trans (hx.mono (by omega))) ((hx.block _ (by omega)).trans (heap_al1 _ _)) rfl (by omega))
  have z2 : ¬ 9223372036854775807 < 4 + tn.size := by omega
  have z3 : ¬ 9223372036854775807 < 4 + tn.size + 1 := by omega
  have z4 : ¬ 9223372036854775807 < 4 + tn.size + 1 + Z0.size := by omega
  have z5 : ¬ 9223372036854775807 < 4 + tn.size + 1 + Z0.size + 1 := by omega
  clear hE hlen hk hQ hsz eZ0 sZ0
  unfold exprV exprC
  go_enter Tryd.func11, Tryd.ntmps11
  go_wp2
  refine wp_region_held_drew (S := fun w' => Below (u.heap.size + 1) (u.alloc (.cells #[.int .i64 11, .int .i64 ln, .int .i64 co, .int .i64 num, .string name, .string tn, .bool ta, .slice ka kn kc, .string fn, .bool fa, .string ow] 29)) w') (by kernel_rfl) ?_ (fun hHeld => ?_)
  · exact Below.drew (Below.refl _ _)
  refine wpAnyH_take (i := 0) (v := ?_) rfl (by kernel_rfl) (by kernel_rfl) (by kernel_rfl) (fun _ _ _ h => h) (Or.inl ⟨by rfl, ?_⟩) (by assumption) ?_
  rotate_left
  focus (intro w hSw; have r0 : w.heap[u.heap.size]? = some (.cells #[.int .i64 11, .int .i64 ln, .int .i64 co, .int .i64 num, .string name, .string tn, .bool ta, .slice ka kn kc, .string fn, .bool fa, .string ow] 29 (0, 0)) := (hSw.block _ (by omega)).trans (heap_al1 _ _); have p0 : w.cell? ⟨u.heap.size, 0, none⟩ = some (.int .i64 11) := cell_row r0 0 rfl; have p1 : w.cell? ⟨u.heap.size, 1, none⟩ = some (.int .i64 ln) := cell_row r0 1 rfl; have p2 : w.cell? ⟨u.heap.size, 2, none⟩ = some (.int .i64 co) := cell_row r0 2 rfl; have p3 : w.cell? ⟨u.heap.size, 3, none⟩ = some (.int .i64 num) := cell_row r0 3 rfl; have p4 : w.cell? ⟨u.heap.size, 4, none⟩ = some (.string name) := cell_row r0 4 rfl; have p5 : w.cell? ⟨u.heap.size, 5, none⟩ = some (.string tn) := cell_row r0 5 rfl; have p6 : w.cell? ⟨u.heap.size, 6, none⟩ = some (.bool ta) := cell_row r0 6 rfl; have p7 : w.cell? ⟨u.heap.size, 7, none⟩ = some (.slice ka kn kc) := cell_row r0 7 rfl; have p8 : w.cell? ⟨u.heap.size, 8, none⟩ = some (.string fn) := cell_row r0 8 rfl; have p9 : w.cell? ⟨u.heap.size, 9, none⟩ = some (.bool fa) := cell_row r0 9 rfl; have p10 : w.cell? ⟨u.heap.size, 10, none⟩ = some (.string ow) := cell_row r0 10 rfl; go_simp; first | done | with_reducible rfl)
  simp only [Act.put, List.getElem_toArray, List.getElem_cons_zero, List.setIfInBounds_toArray, List.set_cons_zero, List.set_cons_succ]
  refine wpAnyH_take (i := 1) (v := ?_) rfl (by kernel_rfl) (by kernel_rfl) (by kernel_rfl) (fun _ _ _ h => h) (Or.inl ⟨by rfl, ?_⟩) (by assumption) ?_
  rotate_left
  focus (intro w hSw; have r0 : w.heap[u.heap.size]? = some (.cells #[.int .i64 11, .int .i64 ln, .int .i64 co, .int .i64 num, .string name, .string tn, .bool ta, .slice ka kn kc, .string fn, .bool fa, .string ow] 29 (0, 0)) := (hSw.block _ (by omega)).trans (heap_al1 _ _); have p0 : w.cell? ⟨u.heap.size, 0, none⟩ = some (.int .i64 11) := cell_row r0 0 rfl; have p1 : w.cell? ⟨u.heap.size, 1, none⟩ = some (.int .i64 ln) := cell_row r0 1 rfl; have p2 : w.cell? ⟨u.heap.size, 2, none⟩ = some (.int .i64 co) := cell_row r0 2 rfl; have p3 : w.cell? ⟨u.heap.size, 3, none⟩ = some (.int .i64 num) := cell_row r0 3 rfl; have p4 : w.cell? ⟨u.heap.size, 4, none⟩ = some (.string name) := cell_row r0 4 rfl; have p5 : w.cell? ⟨u.heap.size, 5, none⟩ = some (.string tn) := cell_row r0 5 rfl; have p6 : w.cell? ⟨u.heap.size, 6, none⟩ = some (.bool ta) := cell_row r0 6 rfl; have p7 : w.cell? ⟨u.heap.size, 7, none⟩ = some (.slice ka kn kc) := cell_row r0 7 rfl; have p8 : w.cell? ⟨u.heap.size, 8, none⟩ = some (.string fn) := cell_row r0 8 rfl; have p9 : w.cell? ⟨u.heap.size, 9, none⟩ = some (.bool fa) := cell_row r0 9 rfl; have p10 : w.cell? ⟨u.heap.size, 10, none⟩ = some (.string ow) := cell_row r0 10 rfl; go_simp; first | done | with_reducible rfl)
  simp only [Act.put, List.getElem_toArray, List.getElem_cons_zero, List.getElem_cons_succ, List.setIfInBounds_toArray, List.set_cons_zero, List.set_cons_succ]
  refine wpAnyH_take (i := 2) (v := ?_) rfl (by kernel_rfl) (by kernel_rfl) (by kernel_rfl) (fun _ _ _ h => h) (Or.inl ⟨by rfl, ?_⟩) (by assumption) ?_
  rotate_left
  focus (intro w hSw; have r0 : w.heap[u.heap.size]? = some (.cells #[.int .i64 11, .int .i64 ln, .int .i64 co, .int .i64 num, .string name, .string tn, .bool ta, .slice ka kn kc, .string fn, .bool fa, .string ow] 29 (0, 0)) := (hSw.block _ (by omega)).trans (heap_al1 _ _); have p0 : w.cell? ⟨u.heap.size, 0, none⟩ = some (.int .i64 11) := cell_row r0 0 rfl; have p1 : w.cell? ⟨u.heap.size, 1, none⟩ = some (.int .i64 ln) := cell_row r0 1 rfl; have p2 : w.cell? ⟨u.heap.size, 2, none⟩ = some (.int .i64 co) := cell_row r0 2 rfl; have p3 : w.cell? ⟨u.heap.size, 3, none⟩ = some (.int .i64 num) := cell_row r0 3 rfl; have p4 : w.cell? ⟨u.heap.size, 4, none⟩ = some (.string name) := cell_row r0 4 rfl; have p5 : w.cell? ⟨u.heap.size, 5, none⟩ = some (.string tn) := cell_row r0 5 rfl; have p6 : w.cell? ⟨u.heap.size, 6, none⟩ = some (.bool ta) := cell_row r0 6 rfl; have p7 : w.cell? ⟨u.heap.size, 7, none⟩ = some (.slice ka kn kc) := cell_row r0 7 rfl; have p8 : w.cell? ⟨u.heap.size, 8, none⟩ = some (.string fn) := cell_row r0 8 rfl; have p9 : w.cell? ⟨u.heap.size, 9, none⟩ = some (.bool fa) := cell_row r0 9 rfl; have p10 : w.cell? ⟨u.heap.size, 10, none⟩ = some (.string ow) := cell_row r0 10 rfl; go_simp; first | done | with_reducible rfl)
  simp only [Act.put, List.getElem_toArray, List.getElem_cons_zero, List.getElem_cons_succ, List.setIfInBounds_toArray, List.set_cons_zero, List.set_cons_succ]
  refine wpAnyH_take (i := 3) (v := ?_) rfl (by kernel_rfl) (by kernel_rfl) (by kernel_rfl) (fun _ _ _ h => h) (Or.inl ⟨by rfl, ?_⟩) (by assumption) ?_
  rotate_left
  focus (intro w hSw; have r0 : w.heap[u.heap.size]? = some (.cells #[.int .i64 11, .int .i64 ln, .int .i64 co, .int .i64 num, .string name, .string tn, .bool ta, .slice ka kn kc, .string fn, .bool fa, .string ow] 29 (0, 0)) := (hSw.block _ (by omega)).trans (heap_al1 _ _); have p0 : w.cell? ⟨u.heap.size, 0, none⟩ = some (.int .i64 11) := cell_row r0 0 rfl; have p1 : w.cell? ⟨u.heap.size, 1, none⟩ = some (.int .i64 ln) := cell_row r0 1 rfl; have p2 : w.cell? ⟨u.heap.size, 2, none⟩ = some (.int .i64 co) := cell_row r0 2 rfl; have p3 : w.cell? ⟨u.heap.size, 3, none⟩ = some (.int .i64 num) := cell_row r0 3 rfl; have p4 : w.cell? ⟨u.heap.size, 4, none⟩ = some (.string name) := cell_row r0 4 rfl; have p5 : w.cell? ⟨u.heap.size, 5, none⟩ = some (.string tn) := cell_row r0 5 rfl; have p6 : w.cell? ⟨u.heap.size, 6, none⟩ = some (.bool ta) := cell_row r0 6 rfl; have p7 : w.cell? ⟨u.heap.size, 7, none⟩ = some (.slice ka kn kc) := cell_row r0 7 rfl; have p8 : w.cell? ⟨u.heap.size, 8, none⟩ = some (.string fn) := cell_row r0 8 rfl; have p9 : w.cell? ⟨u.heap.size, 9, none⟩ = some (.bool fa) := cell_row r0 9 rfl; have p10 : w.cell? ⟨u.heap.size, 10, none⟩ = some (.string ow) := cell_row r0 10 rfl; go_simp; first | done | with_reducible rfl)
  simp only [Act.put, List.getElem_toArray, List.getElem_cons_zero, List.getElem_cons_succ, List.setIfInBounds_toArray, List.set_cons_zero, List.set_cons_succ]
  refine wpAnyH_take (i := 4) (v := ?_) rfl (by kernel_rfl) (by kernel_rfl) (by kernel_rfl) (fun _ _ _ h => h) (Or.inl ⟨by rfl, ?_⟩) (by assumption) ?_
  rotate_left
  focus (intro w hSw; have r0 : w.heap[u.heap.size]? = some (.cells #[.int .i64 11, .int .i64 ln, .int .i64 co, .int .i64 num, .string name, .string tn, .bool ta, .slice ka kn kc, .string fn, .bool fa, .string ow] 29 (0, 0)) := (hSw.block _ (by omega)).trans (heap_al1 _ _); have p0 : w.cell? ⟨u.heap.size, 0, none⟩ = some (.int .i64 11) := cell_row r0 0 rfl; have p1 : w.cell? ⟨u.heap.size, 1, none⟩ = some (.int .i64 ln) := cell_row r0 1 rfl; have p2 : w.cell? ⟨u.heap.size, 2, none⟩ = some (.int .i64 co) := cell_row r0 2 rfl; have p3 : w.cell? ⟨u.heap.size, 3, none⟩ = some (.int .i64 num) := cell_row r0 3 rfl; have p4 : w.cell? ⟨u.heap.size, 4, none⟩ = some (.string name) := cell_row r0 4 rfl; have p5 : w.cell? ⟨u.heap.size, 5, none⟩ = some (.string tn) := cell_row r0 5 rfl; have p6 : w.cell? ⟨u.heap.size, 6, none⟩ = some (.bool ta) := cell_row r0 6 rfl; have p7 : w.cell? ⟨u.heap.size, 7, none⟩ = some (.slice ka kn kc) := cell_row r0 7 rfl; have p8 : w.cell? ⟨u.heap.size, 8, none⟩ = some (.string fn) := cell_row r0 8 rfl; have p9 : w.cell? ⟨u.heap.size, 9, none⟩ = some (.bool fa) := cell_row r0 9 rfl; have p10 : w.cell? ⟨u.heap.size, 10, none⟩ = some (.string ow) := cell_row r0 10 rfl; go_simp; first | done | with_reducible rfl)
  simp only [Act.put, List.getElem_toArray, List.getElem_cons_zero, List.getElem_cons_succ, List.setIfInBounds_toArray, List.set_cons_zero, List.set_cons_succ]
  refine wpAnyH_take (i := 5) (v := ?_) rfl (by kernel_rfl) (by kernel_rfl) (by kernel_rfl) (fun _ _ _ h => h) (Or.inl ⟨by rfl, ?_⟩) (by assumption) ?_
  rotate_left
  focus (intro w hSw; have r0 : w.heap[u.heap.size]? = some (.cells #[.int .i64 11, .int .i64 ln, .int .i64 co, .int .i64 num, .string name, .string tn, .bool ta, .slice ka kn kc, .string fn, .bool fa, .string ow] 29 (0, 0)) := (hSw.block _ (by omega)).trans (heap_al1 _ _); have p0 : w.cell? ⟨u.heap.size, 0, none⟩ = some (.int .i64 11) := cell_row r0 0 rfl; have p1 : w.cell? ⟨u.heap.size, 1, none⟩ = some (.int .i64 ln) := cell_row r0 1 rfl; have p2 : w.cell? ⟨u.heap.size, 2, none⟩ = some (.int .i64 co) := cell_row r0 2 rfl; have p3 : w.cell? ⟨u.heap.size, 3, none⟩ = some (.int .i64 num) := cell_row r0 3 rfl; have p4 : w.cell? ⟨u.heap.size, 4, none⟩ = some (.string name) := cell_row r0 4 rfl; have p5 : w.cell? ⟨u.heap.size, 5, none⟩ = some (.string tn) := cell_row r0 5 rfl; have p6 : w.cell? ⟨u.heap.size, 6, none⟩ = some (.bool ta) := cell_row r0 6 rfl; have p7 : w.cell? ⟨u.heap.size, 7, none⟩ = some (.slice ka kn kc) := cell_row r0 7 rfl; have p8 : w.cell? ⟨u.heap.size, 8, none⟩ = some (.string fn) := cell_row r0 8 rfl; have p9 : w.cell? ⟨u.heap.size, 9, none⟩ = some (.bool fa) := cell_row r0 9 rfl; have p10 : w.cell? ⟨u.heap.size, 10, none⟩ = some (.string ow) := cell_row r0 10 rfl; go_simp; first | done | with_reducible rfl)
  simp only [Act.put, List.getElem_toArray, List.getElem_cons_zero, List.getElem_cons_succ, List.setIfInBounds_toArray, List.set_cons_zero, List.set_cons_succ]
  refine wpAnyH_ready (rs := [6]) (by kernel_rfl) (by simp) ?_
  refine AllReadyH.cons (o := _) rfl (fun K hK => ?_) AllReadyH.nil
  go_simp
  with_reducible refine (HK0.out _ hHeld).mono ?_
  rintro e x6 ⟨rfl, hx6⟩
  go_simp
  refine hK.out _ _ (hHeld.trans (hx6.mono (Nat.le_trans (Nat.le_of_eq (by simp)) hHeld.size))) (fun hHeld => ?_)
  clear hK K
  try simp only [Act.put, List.getElem_toArray, List.getElem_cons_zero, List.getElem_cons_succ, List.setIfInBounds_toArray, List.set_cons_zero, List.set_cons_succ]
  refine wpAnyH_take (i := 7) (v := ?_) rfl (by kernel_rfl) (by kernel_rfl) (by kernel_rfl) (fun _ _ _ h => h) (Or.inl ⟨by rfl, ?_⟩) (by assumption) ?_
  rotate_left
  focus (intro w hSw; have r0 : w.heap[u.heap.size]? = some (.cells #[.int .i64 11, .int .i64 ln, .int .i64 co, .int .i64 num, .string name, .string tn, .bool ta, .slice ka kn kc, .string fn, .bool fa, .string ow] 29 (0, 0)) := (hSw.block _ (by omega)).trans (heap_al1 _ _); have p0 : w.cell? ⟨u.heap.size, 0, none⟩ = some (.int .i64 11) := cell_row r0 0 rfl; have p1 : w.cell? ⟨u.heap.size, 1, none⟩ = some (.int .i64 ln) := cell_row r0 1 rfl; have p2 : w.cell? ⟨u.heap.size, 2, none⟩ = some (.int .i64 co) := cell_row r0 2 rfl; have p3 : w.cell? ⟨u.heap.size, 3, none⟩ = some (.int .i64 num) := cell_row r0 3 rfl; have p4 : w.cell? ⟨u.heap.size, 4, none⟩ = some (.string name) := cell_row r0 4 rfl; have p5 : w.cell? ⟨u.heap.size, 5, none⟩ = some (.string tn) := cell_row r0 5 rfl; have p6 : w.cell? ⟨u.heap.size, 6, none⟩ = some (.bool ta) := cell_row r0 6 rfl; have p7 : w.cell? ⟨u.heap.size, 7, none⟩ = some (.slice ka kn kc) := cell_row r0 7 rfl; have p8 : w.cell? ⟨u.heap.size, 8, none⟩ = some (.string fn) := cell_row r0 8 rfl; have p9 : w.cell? ⟨u.heap.size, 9, none⟩ = some (.bool fa) := cell_row r0 9 rfl; have p10 : w.cell? ⟨u.heap.size, 10, none⟩ = some (.string ow) := cell_row r0 10 rfl; go_simp; first | done | with_reducible rfl)
  simp only [Act.put, List.getElem_toArray, List.getElem_cons_zero, List.getElem_cons_succ, List.setIfInBounds_toArray, List.set_cons_zero, List.set_cons_succ]
  refine wpAnyH_take (i := 8) (v := ?_) rfl (by kernel_rfl) (by kernel_rfl) (by kernel_rfl) (fun _ _ _ h => h) (Or.inl ⟨by rfl, ?_⟩) (by assumption) ?_
  rotate_left
  focus (intro w hSw; have r0 : w.heap[u.heap.size]? = some (.cells #[.int .i64 11, .int .i64 ln, .int .i64 co, .int .i64 num, .string name, .string tn, .bool ta, .slice ka kn kc, .string fn, .bool fa, .string ow] 29 (0, 0)) := (hSw.block _ (by omega)).trans (heap_al1 _ _); have p0 : w.cell? ⟨u.heap.size, 0, none⟩ = some (.int .i64 11) := cell_row r0 0 rfl; have p1 : w.cell? ⟨u.heap.size, 1, none⟩ = some (.int .i64 ln) := cell_row r0 1 rfl; have p2 : w.cell? ⟨u.heap.size, 2, none⟩ = some (.int .i64 co) := cell_row r0 2 rfl; have p3 : w.cell? ⟨u.heap.size, 3, none⟩ = some (.int .i64 num) := cell_row r0 3 rfl; have p4 : w.cell? ⟨u.heap.size, 4, none⟩ = some (.string name) := cell_row r0 4 rfl; have p5 : w.cell? ⟨u.heap.size, 5, none⟩ = some (.string tn) := cell_row r0 5 rfl; have p6 : w.cell? ⟨u.heap.size, 6, none⟩ = some (.bool ta) := cell_row r0 6 rfl; have p7 : w.cell? ⟨u.heap.size, 7, none⟩ = some (.slice ka kn kc) := cell_row r0 7 rfl; have p8 : w.cell? ⟨u.heap.size, 8, none⟩ = some (.string fn) := cell_row r0 8 rfl; have p9 : w.cell? ⟨u.heap.size, 9, none⟩ = some (.bool fa) := cell_row r0 9 rfl; have p10 : w.cell? ⟨u.heap.size, 10, none⟩ = some (.string ow) := cell_row r0 10 rfl; go_simp; first | done | with_reducible rfl)
  simp only [Act.put, List.getElem_toArray, List.getElem_cons_zero, List.getElem_cons_succ, List.setIfInBounds_toArray, List.set_cons_zero, List.set_cons_succ]
  refine wpAnyH_take (i := 9) (v := ?_) rfl (by kernel_rfl) (by kernel_rfl) (by kernel_rfl) (fun _ _ _ h => h) (Or.inl ⟨by rfl, ?_⟩) (by assumption) ?_
  rotate_left
  focus (intro w hSw; have r0 : w.heap[u.heap.size]? = some (.cells #[.int .i64 11, .int .i64 ln, .int .i64 co, .int .i64 num, .string name, .string tn, .bool ta, .slice ka kn kc, .string fn, .bool fa, .string ow] 29 (0, 0)) := (hSw.block _ (by omega)).trans (heap_al1 _ _); have p0 : w.cell? ⟨u.heap.size, 0, none⟩ = some (.int .i64 11) := cell_row r0 0 rfl; have p1 : w.cell? ⟨u.heap.size, 1, none⟩ = some (.int .i64 ln) := cell_row r0 1 rfl; have p2 : w.cell? ⟨u.heap.size, 2, none⟩ = some (.int .i64 co) := cell_row r0 2 rfl; have p3 : w.cell? ⟨u.heap.size, 3, none⟩ = some (.int .i64 num) := cell_row r0 3 rfl; have p4 : w.cell? ⟨u.heap.size, 4, none⟩ = some (.string name) := cell_row r0 4 rfl; have p5 : w.cell? ⟨u.heap.size, 5, none⟩ = some (.string tn) := cell_row r0 5 rfl; have p6 : w.cell? ⟨u.heap.size, 6, none⟩ = some (.bool ta) := cell_row r0 6 rfl; have p7 : w.cell? ⟨u.heap.size, 7, none⟩ = some (.slice ka kn kc) := cell_row r0 7 rfl; have p8 : w.cell? ⟨u.heap.size, 8, none⟩ = some (.string fn) := cell_row r0 8 rfl; have p9 : w.cell? ⟨u.heap.size, 9, none⟩ = some (.bool fa) := cell_row r0 9 rfl; have p10 : w.cell? ⟨u.heap.size, 10, none⟩ = some (.string ow) := cell_row r0 10 rfl; go_simp; first | done | with_reducible rfl)
  simp only [Act.put, List.getElem_toArray, List.getElem_cons_zero, List.getElem_cons_succ, List.setIfInBounds_toArray, List.set_cons_zero, List.set_cons_succ]
  refine wpAnyH_done (by kernel_rfl) ?_ _
  go_wp2
  go_ret
  exact ⟨rfl, (below1 u _).trans (hHeld.mono (by omega))⟩
end Go.Proofs.YtojkagfbdpjckaaDoor
