/-
  A field, or a parameter, that is laid on a page.
-/
import Derived.Test.YtojkagfbdpjckaaDoorLnA
import Derived.Deep.RegionHeld3
namespace Go.Proofs.YtojkagfbdpjckaaDoor
open Go.RowKit

def vrV (v : Vr) : Value := .agg #[.string v.name, .string v.tn, .bool v.ta]
set_option maxHeartbeats 4000000 in
set_option maxRecDepth 100000 in
theorem var40 (B b : Nat) (l : Bs) (v : Vr) (w : World) (hp : Pg B b (Lib.byteCells l) w) (hlen : l.length + (vx v).length ≤ 140737488355328) (hB : B ≤ w.heap.size) :
    Calls Tryd.prog 40 #[vrV v, .pointer (some ⟨b, 0, none⟩)] w fun e w' => e = .returned (.tuple #[]) ∧ Lays B b (l ++ vx v) w w' := by
  have hlt := hp.lt
  have HTS := Lib.hid (tyS_bytes v.tn v.ta)
  have hl2 : l.length + ((tyB v.tn v.ta).length + (1 + v.name.data.toList.length)) ≤ 140737488355328 ∧ v.tn.size ≤ 140737488355328 := by
    have h := hlen
    simp only [vx, List.length_append, List.length_cons, List.length_nil] at h
    have h2 : v.tn.size ≤ (tyB v.tn v.ta).length := by simp only [tyB, List.length_append]; show v.tn.data.toList.length ≤ _; omega
    omega
  have HL := Lib.hid hl2
  clear hl2 hlen
  unfold vrV
  go_enter Tryd.func40, Tryd.ntmps40
  go_wp2_with fail
  refine wp_region_held_drew (S := fun w' => w'.heap[w.heap.size]? = some (.cells #[.string v.name, .string v.tn, .bool v.ta] 45 (0, 0))) (by kernel_rfl) ?_ (fun hHeld => ?_)
  · exact heap_al1 w _
  refine wpAnyH_take (i := 0) (v := ?_) rfl (by kernel_rfl) (by kernel_rfl) (by kernel_rfl) (fun _ _ _ h => h) (Or.inl ⟨by rfl, ?_⟩) (by assumption) ?_
  rotate_left
  focus (intro w hSw; have p0 := cell_row hSw 0 rfl; have p1 := cell_row hSw 1 rfl; have p2 := cell_row hSw 2 rfl; go_simp; first | done | with_reducible rfl)
  simp only [Act.put, List.getElem_toArray, List.getElem_cons_zero, List.setIfInBounds_toArray, List.set_cons_zero, List.set_cons_succ]
  refine wpAnyH_take (i := 1) (v := ?_) rfl (by kernel_rfl) (by kernel_rfl) (by kernel_rfl) (fun _ _ _ h => h) (Or.inl ⟨by rfl, ?_⟩) (by assumption) ?_
  rotate_left
  focus (intro w hSw; have p0 := cell_row hSw 0 rfl; have p1 := cell_row hSw 1 rfl; have p2 := cell_row hSw 2 rfl; go_simp; first | done | with_reducible rfl)
  simp only [Act.put, List.getElem_toArray, List.getElem_cons_zero, List.getElem_cons_succ, List.setIfInBounds_toArray, List.set_cons_zero, List.set_cons_succ]
  refine wpAnyH_take (i := 2) (v := ?_) rfl (by kernel_rfl) (by kernel_rfl) (by kernel_rfl) (fun _ _ _ h => h) (Or.inl ⟨by rfl, ?_⟩) (by assumption) ?_
  rotate_left
  focus (intro w hSw; have p0 := cell_row hSw 0 rfl; have p1 := cell_row hSw 1 rfl; have p2 := cell_row hSw 2 rfl; go_simp; first | done | with_reducible rfl)
  simp only [Act.put, List.getElem_toArray, List.getElem_cons_zero, List.getElem_cons_succ, List.setIfInBounds_toArray, List.set_cons_zero, List.set_cons_succ]
  refine wpAnyH_take (i := 4) (v := ?_) rfl (by kernel_rfl) (by kernel_rfl) (by kernel_rfl) (fun _ _ _ h => h) (Or.inl ⟨by rfl, ?_⟩) (by assumption) ?_
  rotate_left
  focus (intro w hSw; have p0 := cell_row hSw 0 rfl; have p1 := cell_row hSw 1 rfl; have p2 := cell_row hSw 2 rfl; go_simp; first | done | with_reducible rfl)
  simp only [Act.put, List.getElem_toArray, List.getElem_cons_zero, List.getElem_cons_succ, List.setIfInBounds_toArray, List.set_cons_zero, List.set_cons_succ]
  refine wpAnyH_take (i := 5) (v := ?_) rfl (by kernel_rfl) (by kernel_rfl) (by kernel_rfl) (fun _ _ _ h => h) (Or.inl ⟨by rfl, ?_⟩) (by assumption) ?_
  rotate_left
  focus (intro w hSw; have p0 := cell_row hSw 0 rfl; have p1 := cell_row hSw 1 rfl; have p2 := cell_row hSw 2 rfl; go_simp; first | done | with_reducible rfl)
  simp only [Act.put, List.getElem_toArray, List.getElem_cons_zero, List.getElem_cons_succ, List.setIfInBounds_toArray, List.set_cons_zero, List.set_cons_succ]
  refine wpAnyH_ready (rs := [3]) (by kernel_rfl) (by simp) ?_
  refine AllReadyH.cons (o := _) rfl (fun K hK => ?_) AllReadyH.nil
  go_simp
  with_reducible refine (type50 v.tn v.ta _ (by have := HL.out; omega)).mono ?_
  rintro e w1 ⟨rfl, hb1⟩
  have hbx : Below w.heap.size w w1 := (below1 w (.cells #[.string v.name, .string v.tn, .bool v.ta] 45)).trans (Below.trans (Below.drew (Below.refl _ _)) (hb1.mono (by simp)))
  have hs1 : w.heap.size + 1 ≤ w1.heap.size := by have := hb1.size; simpa using this
  have hr1 : w1.heap[w.heap.size]? = some (.cells #[.string v.name, .string v.tn, .bool v.ta] 45 (0, 0)) := (hb1.block _ (by simp)).trans hHeld
  clear hb1 hHeld
  go_simp
  refine hK.out _ _ hr1 (fun hHeld => ?_)
  clear hK K
  try simp only [Act.put, List.getElem_toArray, List.getElem_cons_zero, List.getElem_cons_succ, List.setIfInBounds_toArray, List.set_cons_zero, List.set_cons_succ]
  refine wpAnyH_ready (rs := [6]) (by kernel_rfl) (by simp) ?_
  refine AllReadyH.cons (o := _) rfl (fun K hK => ?_) AllReadyH.nil
  go_simp
  refine hK.out _ _ ((((below1 w1 (.cells #[.string (tyS v.tn v.ta), .string ⟨#[32]⟩, .string v.name] 9)).block _ (by omega)).trans hr1)) (fun hHeld => ?_)
  clear hK K
  try simp only [Act.put, List.getElem_toArray, List.getElem_cons_zero, List.getElem_cons_succ, List.setIfInBounds_toArray, List.set_cons_zero, List.set_cons_succ]
  refine wpAnyH_ready (rs := [7]) (by kernel_rfl) (by simp) ?_
  refine AllReadyH.cons (o := _) rfl (fun K hK => ?_) AllReadyH.nil
  go_simp
  have hp1 := hp.below hbx
  have hlt1 := hp1.lt
  refine (put3 B b w1.heap.size l _ _ _ _ (hp1.alloc _) (heap_al1 _ _) (by omega) (by have h1 := HL.out; have h2 := HTS.out; simp only [List.length_append, h2] at h1 ⊢; simp; simp at h1; omega) (by simp; omega)).mono ?_
  rintro e w2 ⟨rfl, hL2⟩
  have hfin := Lays.new hB hbx (Lays.new (by omega) (below1 w1 _) hL2)
  have hr2 := hL2.row hHeld (by omega) (by decide)
  rw [HTS.out] at hfin
  go_simp
  refine hK.out _ _ hr2 (fun hHeld => ?_)
  clear hK K
  try simp only [Act.put, List.getElem_toArray, List.getElem_cons_zero, List.getElem_cons_succ, List.setIfInBounds_toArray, List.set_cons_zero, List.set_cons_succ]
  refine wpAnyH_done (by kernel_rfl) ?_ _
  go_wp2
  go_end0
  refine ⟨rfl, ?_⟩
  simpa only [vx, List.append_assoc] using hfin
end Go.Proofs.YtojkagfbdpjckaaDoor
