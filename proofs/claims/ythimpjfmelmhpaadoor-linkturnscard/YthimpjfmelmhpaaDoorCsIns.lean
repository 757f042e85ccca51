/-
  Whether an instruction is right.
-/
import Derived.Test.YthimpjfmelmhpaaDoorCsOp
import Derived.Deep.RegionHeld3
namespace Go.Proofs.YthimpjfmelmhpaaDoor.Fc
open Go.RowKit
set_option linter.unusedVariables false

/-- whether an instruction is right, where there are M of what its number is -/
def rightB (k : Nat) (a M : Int) : Bool := decide (k ≠ 0) && (if poolN k = 0 then decide (a = 0) else (decide (0 ≤ a) && decide (a < M)))

set_option maxHeartbeats 1000000 in
set_option maxRecDepth 100000 in
theorem right17_61 (c a M : Int) (q1 q2 : Option Addr) (u : World) (hT : TabR u)
    (hF : ∀ x, Below u.heap.size u x → Calls Tryd.prog 75 #[.int .i32 (poolN (kd c)), .pointer q1, .pointer q2] x fun e w' => e = .returned (.int .i64 M) ∧ Below x.heap.size x w') :
    Calls Tryd.prog 77 #[.agg #[.int .i64 c, .int .i64 a], .func (.func 75) #[] #[.pointer q1, .pointer q2]] u fun e w' => e = .returned (.bool (rightB (kd c) a M)) ∧ Below u.heap.size u w' := by
  have hT1 : TabR (u.alloc (.cells #[.int .i64 c, .int .i64 a] 95)) := hT.below (below1 u _)
  have HO : Hid (Calls Tryd.prog 90 #[.int .i64 c] (u.alloc (.cells #[.int .i64 c, .int .i64 a] 95)) fun e w' => e = .returned (.int .i32 (poolN (kd c))) ∧ u.alloc (.cells #[.int .i64 c, .int .i64 a] 95) = w') := Lib.hid (pool10 c _ hT1)
  have HF : Hid (∀ x, Below (u.heap.size + 1) (u.alloc (.cells #[.int .i64 c, .int .i64 a] 95)) x → Calls Tryd.prog 75 #[.int .i32 (poolN (kd c)), .pointer q1, .pointer q2] x fun e w' => e = .returned (.int .i64 M) ∧ Below x.heap.size x w') := Lib.hid (fun x hx => hF x ((below1 u _).trans (hx.mono (by omega))))
  clear hF hT hT1
  by_cases hk : 1 ≤ c ∧ c ≤ 32
  · have HK : Hid (Calls Tryd.prog 89 #[.int .i64 c] (u.alloc (.cells #[.int .i64 c, .int .i64 a] 95)) fun e w' => e = .returned (.bool true) ∧ u.alloc (.cells #[.int .i64 c, .int .i64 a] 95) = w') := Lib.hid (by have := known_in c.toNat (by omega) (by omega) (u.alloc (.cells #[.int .i64 c, .int .i64 a] 95)); rwa [show ((c.toNat : Nat) : Int) = c by omega] at this)
    have hk0 : kd c ≠ 0 := by have := kd_in hk.1 hk.2; omega
    have HR : Hid (rightB (kd c) a M = if poolN (kd c) = 0 then decide (a = 0) else (decide (0 ≤ a) && decide (a < M))) := Lib.hid (by unfold rightB; rw [decide_eq_true hk0, Bool.true_and])
    clear hk hk0
    generalize poolN (kd c) = P at *
    by_cases hp : P = 0
    · subst hp
      have HR2 : Hid (rightB (kd c) a M = (a == 0)) := Lib.hid (by rw [HR.out, if_pos rfl, Bool.eq_iff_iff]; simp)
      rw [HR2.out]
      clear HR HR2
      go_enter Tryd.func77, Tryd.ntmps77
      go_wp2_with (first
      | (go_at_call 89; (with_reducible refine (HK.out).mono ?_); rintro e w' ⟨rfl, rfl⟩)
      | (go_at_call 90; (with_reducible refine (HO.out).mono ?_); rintro e w' ⟨rfl, rfl⟩))
      go_ret
      exact ⟨rfl, below1 u _⟩
    · have hpp : (P == 0) = false := by simpa using hp
      by_cases h0 : 0 ≤ a
      · have HR2 : Hid (rightB (kd c) a M = decide (a < M)) := Lib.hid (by rw [HR.out, if_neg hp, decide_eq_true h0, Bool.true_and])
        have hd0 : decide (0 ≤ a) = true := decide_eq_true h0
        rw [HR2.out]
        clear HR HR2 hp
        go_enter Tryd.func77, Tryd.ntmps77
        go_wp2_with (first
      | (go_at_call 89; (with_reducible refine (HK.out).mono ?_); rintro e w' ⟨rfl, rfl⟩)
      | (go_at_call 90; (with_reducible refine (HO.out).mono ?_); rintro e w' ⟨rfl, rfl⟩))
        refine wp_region_held_drew (S := fun w' => Below (u.heap.size + 1) (u.alloc (.cells #[.int .i64 c, .int .i64 a] 95)) w') (by kernel_rfl) ?_ (fun hHeld => ?_)
        · exact Below.drew (Below.refl _ _)
        refine wpAnyH_take (i := 0) (v := ?_) rfl (by kernel_rfl) (by kernel_rfl) (by kernel_rfl) (fun _ _ _ h => h) (Or.inl ⟨by rfl, ?_⟩) (by assumption) ?_
        rotate_left
        focus (intro w hSw; have r0 : w.heap[u.heap.size]? = some (.cells #[.int .i64 c, .int .i64 a] 95 (0, 0)) := (hSw.block _ (by simp)).trans (MapKept.heap_alloc u _).1; have p0 : w.cell? ⟨u.heap.size, 0, none⟩ = some (.int .i64 c) := (by simp [World.cell?, r0]); have p1 : w.cell? ⟨u.heap.size, 1, none⟩ = some (.int .i64 a) := (by simp [World.cell?, r0]); go_simp; first | done | with_reducible rfl)
        simp only [Act.put, List.getElem_toArray, List.getElem_cons_zero, List.setIfInBounds_toArray, List.set_cons_zero, List.set_cons_succ]
        refine wpAnyH_take (i := 1) (v := ?_) rfl (by kernel_rfl) (by kernel_rfl) (by kernel_rfl) (fun _ _ _ h => h) (Or.inl ⟨by rfl, ?_⟩) (by assumption) ?_
        rotate_left
        focus (intro w hSw; have r0 : w.heap[u.heap.size]? = some (.cells #[.int .i64 c, .int .i64 a] 95 (0, 0)) := (hSw.block _ (by simp)).trans (MapKept.heap_alloc u _).1; have p0 : w.cell? ⟨u.heap.size, 0, none⟩ = some (.int .i64 c) := (by simp [World.cell?, r0]); have p1 : w.cell? ⟨u.heap.size, 1, none⟩ = some (.int .i64 a) := (by simp [World.cell?, r0]); go_simp; first | done | with_reducible rfl)
        simp only [Act.put, List.getElem_toArray, List.getElem_cons_zero, List.getElem_cons_succ, List.setIfInBounds_toArray, List.set_cons_zero, List.set_cons_succ]
        refine wpAnyH_take (i := 2) (v := ?_) rfl (by kernel_rfl) (by kernel_rfl) (by kernel_rfl) (fun _ _ _ h => h) (Or.inl ⟨by rfl, ?_⟩) (by assumption) ?_
        rotate_left
        focus (intro w hSw; have r0 : w.heap[u.heap.size]? = some (.cells #[.int .i64 c, .int .i64 a] 95 (0, 0)) := (hSw.block _ (by simp)).trans (MapKept.heap_alloc u _).1; have p0 : w.cell? ⟨u.heap.size, 0, none⟩ = some (.int .i64 c) := (by simp [World.cell?, r0]); have p1 : w.cell? ⟨u.heap.size, 1, none⟩ = some (.int .i64 a) := (by simp [World.cell?, r0]); go_simp; first | done | with_reducible rfl)
        simp only [Act.put, List.getElem_toArray, List.getElem_cons_zero, List.getElem_cons_succ, List.setIfInBounds_toArray, List.set_cons_zero, List.set_cons_succ]
        refine wpAnyH_take (i := 3) (v := ?_) rfl (by kernel_rfl) (by kernel_rfl) (by kernel_rfl) (fun _ _ _ h => h) (Or.inl ⟨by rfl, ?_⟩) (by assumption) ?_
        rotate_left
        focus (intro w hSw; have r0 : w.heap[u.heap.size]? = some (.cells #[.int .i64 c, .int .i64 a] 95 (0, 0)) := (hSw.block _ (by simp)).trans (MapKept.heap_alloc u _).1; have p0 : w.cell? ⟨u.heap.size, 0, none⟩ = some (.int .i64 c) := (by simp [World.cell?, r0]); have p1 : w.cell? ⟨u.heap.size, 1, none⟩ = some (.int .i64 a) := (by simp [World.cell?, r0]); go_simp; first | done | with_reducible rfl)
        simp only [Act.put, List.getElem_toArray, List.getElem_cons_zero, List.getElem_cons_succ, List.setIfInBounds_toArray, List.set_cons_zero, List.set_cons_succ]
        refine wpAnyH_take (i := 4) (v := ?_) rfl (by kernel_rfl) (by kernel_rfl) (by kernel_rfl) (fun _ _ _ h => h) (Or.inl ⟨by rfl, ?_⟩) (by assumption) ?_
        rotate_left
        focus (intro w hSw; have r0 : w.heap[u.heap.size]? = some (.cells #[.int .i64 c, .int .i64 a] 95 (0, 0)) := (hSw.block _ (by simp)).trans (MapKept.heap_alloc u _).1; have p0 : w.cell? ⟨u.heap.size, 0, none⟩ = some (.int .i64 c) := (by simp [World.cell?, r0]); have p1 : w.cell? ⟨u.heap.size, 1, none⟩ = some (.int .i64 a) := (by simp [World.cell?, r0]); go_simp; first | done | with_reducible rfl)
        simp only [Act.put, List.getElem_toArray, List.getElem_cons_zero, List.getElem_cons_succ, List.setIfInBounds_toArray, List.set_cons_zero, List.set_cons_succ]
        refine wpAnyH_take (i := 5) (v := ?_) rfl (by kernel_rfl) (by kernel_rfl) (by kernel_rfl) (fun _ _ _ h => h) (Or.inl ⟨by rfl, ?_⟩) (by assumption) ?_
        rotate_left
        focus (intro w hSw; have r0 : w.heap[u.heap.size]? = some (.cells #[.int .i64 c, .int .i64 a] 95 (0, 0)) := (hSw.block _ (by simp)).trans (MapKept.heap_alloc u _).1; have p0 : w.cell? ⟨u.heap.size, 0, none⟩ = some (.int .i64 c) := (by simp [World.cell?, r0]); have p1 : w.cell? ⟨u.heap.size, 1, none⟩ = some (.int .i64 a) := (by simp [World.cell?, r0]); go_simp; first | done | with_reducible rfl)
        simp only [Act.put, List.getElem_toArray, List.getElem_cons_zero, List.getElem_cons_succ, List.setIfInBounds_toArray, List.set_cons_zero, List.set_cons_succ]
        refine wpAnyH_take (i := 6) (v := ?_) rfl (by kernel_rfl) (by kernel_rfl) (by kernel_rfl) (fun _ _ _ h => h) (Or.inl ⟨by rfl, ?_⟩) (by assumption) ?_
        rotate_left
        focus (intro w hSw; have r0 : w.heap[u.heap.size]? = some (.cells #[.int .i64 c, .int .i64 a] 95 (0, 0)) := (hSw.block _ (by simp)).trans (MapKept.heap_alloc u _).1; have p0 : w.cell? ⟨u.heap.size, 0, none⟩ = some (.int .i64 c) := (by simp [World.cell?, r0]); have p1 : w.cell? ⟨u.heap.size, 1, none⟩ = some (.int .i64 a) := (by simp [World.cell?, r0]); go_simp; first | done | with_reducible rfl)
        simp only [Act.put, List.getElem_toArray, List.getElem_cons_zero, List.getElem_cons_succ, List.setIfInBounds_toArray, List.set_cons_zero, List.set_cons_succ]
        refine wpAnyH_take (i := 7) (v := ?_) rfl (by kernel_rfl) (by kernel_rfl) (by kernel_rfl) (fun _ _ _ h => h) (Or.inl ⟨by rfl, ?_⟩) (by assumption) ?_
        rotate_left
        focus (intro w hSw; have r0 : w.heap[u.heap.size]? = some (.cells #[.int .i64 c, .int .i64 a] 95 (0, 0)) := (hSw.block _ (by simp)).trans (MapKept.heap_alloc u _).1; have p0 : w.cell? ⟨u.heap.size, 0, none⟩ = some (.int .i64 c) := (by simp [World.cell?, r0]); have p1 : w.cell? ⟨u.heap.size, 1, none⟩ = some (.int .i64 a) := (by simp [World.cell?, r0]); go_simp; first | done | with_reducible rfl)
        simp only [Act.put, List.getElem_toArray, List.getElem_cons_zero, List.getElem_cons_succ, List.setIfInBounds_toArray, List.set_cons_zero, List.set_cons_succ]
        refine wpAnyH_ready (rs := [8]) (by kernel_rfl) (by simp) ?_
        refine AllReadyH.cons (o := _) rfl (fun K hK => ?_) AllReadyH.nil
        go_simp
        with_reducible refine (HF.out _ hHeld).mono ?_
        rintro e x1 ⟨rfl, hx1⟩
        go_simp
        refine hK.out _ _ (hHeld.trans (hx1.mono (Nat.le_trans (Nat.le_of_eq (by simp)) hHeld.size))) (fun hHeld => ?_)
        clear hK K
        try simp only [Act.put, List.getElem_toArray, List.getElem_cons_zero, List.getElem_cons_succ, List.setIfInBounds_toArray, List.set_cons_zero, List.set_cons_succ]
        refine wpAnyH_take (i := 9) (v := ?_) rfl (by kernel_rfl) (by kernel_rfl) (by kernel_rfl) (fun _ _ _ h => h) (Or.inl ⟨by rfl, ?_⟩) (by assumption) ?_
        rotate_left
        focus (intro w hSw; have r0 : w.heap[u.heap.size]? = some (.cells #[.int .i64 c, .int .i64 a] 95 (0, 0)) := (hSw.block _ (by simp)).trans (MapKept.heap_alloc u _).1; have p0 : w.cell? ⟨u.heap.size, 0, none⟩ = some (.int .i64 c) := (by simp [World.cell?, r0]); have p1 : w.cell? ⟨u.heap.size, 1, none⟩ = some (.int .i64 a) := (by simp [World.cell?, r0]); go_simp; first | done | with_reducible rfl)
        simp only [Act.put, List.getElem_toArray, List.getElem_cons_zero, List.getElem_cons_succ, List.setIfInBounds_toArray, List.set_cons_zero, List.set_cons_succ]
        refine wpAnyH_take (i := 10) (v := ?_) rfl (by kernel_rfl) (by kernel_rfl) (by kernel_rfl) (fun _ _ _ h => h) (Or.inl ⟨by rfl, ?_⟩) (by assumption) ?_
        rotate_left
        focus (intro w hSw; have r0 : w.heap[u.heap.size]? = some (.cells #[.int .i64 c, .int .i64 a] 95 (0, 0)) := (hSw.block _ (by simp)).trans (MapKept.heap_alloc u _).1; have p0 : w.cell? ⟨u.heap.size, 0, none⟩ = some (.int .i64 c) := (by simp [World.cell?, r0]); have p1 : w.cell? ⟨u.heap.size, 1, none⟩ = some (.int .i64 a) := (by simp [World.cell?, r0]); go_simp; first | done | with_reducible rfl)
        simp only [Act.put, List.getElem_toArray, List.getElem_cons_zero, List.getElem_cons_succ, List.setIfInBounds_toArray, List.set_cons_zero, List.set_cons_succ]
        refine wpAnyH_take (i := 11) (v := ?_) rfl (by kernel_rfl) (by kernel_rfl) (by kernel_rfl) (fun _ _ _ h => h) (Or.inl ⟨by rfl, ?_⟩) (by assumption) ?_
        rotate_left
        focus (intro w hSw; have r0 : w.heap[u.heap.size]? = some (.cells #[.int .i64 c, .int .i64 a] 95 (0, 0)) := (hSw.block _ (by simp)).trans (MapKept.heap_alloc u _).1; have p0 : w.cell? ⟨u.heap.size, 0, none⟩ = some (.int .i64 c) := (by simp [World.cell?, r0]); have p1 : w.cell? ⟨u.heap.size, 1, none⟩ = some (.int .i64 a) := (by simp [World.cell?, r0]); go_simp; first | done | with_reducible rfl)
        simp only [Act.put, List.getElem_toArray, List.getElem_cons_zero, List.getElem_cons_succ, List.setIfInBounds_toArray, List.set_cons_zero, List.set_cons_succ]
        refine wpAnyH_done (by kernel_rfl) ?_ _
        go_wp2
        go_ret
        exact ⟨rfl, (below1 u _).trans (hHeld.mono (by omega))⟩
      · have HR2 : Hid (rightB (kd c) a M = false) := Lib.hid (by rw [HR.out, if_neg hp, decide_eq_false h0, Bool.false_and])
        have hd0 : decide (0 ≤ a) = false := decide_eq_false h0
        rw [HR2.out]
        clear HR HR2 hp
        go_enter Tryd.func77, Tryd.ntmps77
        go_wp2_with (first
      | (go_at_call 89; (with_reducible refine (HK.out).mono ?_); rintro e w' ⟨rfl, rfl⟩)
      | (go_at_call 90; (with_reducible refine (HO.out).mono ?_); rintro e w' ⟨rfl, rfl⟩))
        refine wp_region_held_drew (S := fun w' => Below (u.heap.size + 1) (u.alloc (.cells #[.int .i64 c, .int .i64 a] 95)) w') (by kernel_rfl) ?_ (fun hHeld => ?_)
        · exact Below.drew (Below.refl _ _)
        refine wpAnyH_take (i := 0) (v := ?_) rfl (by kernel_rfl) (by kernel_rfl) (by kernel_rfl) (fun _ _ _ h => h) (Or.inl ⟨by rfl, ?_⟩) (by assumption) ?_
        rotate_left
        focus (intro w hSw; have r0 : w.heap[u.heap.size]? = some (.cells #[.int .i64 c, .int .i64 a] 95 (0, 0)) := (hSw.block _ (by simp)).trans (MapKept.heap_alloc u _).1; have p0 : w.cell? ⟨u.heap.size, 0, none⟩ = some (.int .i64 c) := (by simp [World.cell?, r0]); have p1 : w.cell? ⟨u.heap.size, 1, none⟩ = some (.int .i64 a) := (by simp [World.cell?, r0]); go_simp; first | done | with_reducible rfl)
        simp only [Act.put, List.getElem_toArray, List.getElem_cons_zero, List.setIfInBounds_toArray, List.set_cons_zero, List.set_cons_succ]
        refine wpAnyH_take (i := 1) (v := ?_) rfl (by kernel_rfl) (by kernel_rfl) (by kernel_rfl) (fun _ _ _ h => h) (Or.inl ⟨by rfl, ?_⟩) (by assumption) ?_
        rotate_left
        focus (intro w hSw; have r0 : w.heap[u.heap.size]? = some (.cells #[.int .i64 c, .int .i64 a] 95 (0, 0)) := (hSw.block _ (by simp)).trans (MapKept.heap_alloc u _).1; have p0 : w.cell? ⟨u.heap.size, 0, none⟩ = some (.int .i64 c) := (by simp [World.cell?, r0]); have p1 : w.cell? ⟨u.heap.size, 1, none⟩ = some (.int .i64 a) := (by simp [World.cell?, r0]); go_simp; first | done | with_reducible rfl)
        simp only [Act.put, List.getElem_toArray, List.getElem_cons_zero, List.getElem_cons_succ, List.setIfInBounds_toArray, List.set_cons_zero, List.set_cons_succ]
        refine wpAnyH_take (i := 2) (v := ?_) rfl (by kernel_rfl) (by kernel_rfl) (by kernel_rfl) (fun _ _ _ h => h) (Or.inl ⟨by rfl, ?_⟩) (by assumption) ?_
        rotate_left
        focus (intro w hSw; have r0 : w.heap[u.heap.size]? = some (.cells #[.int .i64 c, .int .i64 a] 95 (0, 0)) := (hSw.block _ (by simp)).trans (MapKept.heap_alloc u _).1; have p0 : w.cell? ⟨u.heap.size, 0, none⟩ = some (.int .i64 c) := (by simp [World.cell?, r0]); have p1 : w.cell? ⟨u.heap.size, 1, none⟩ = some (.int .i64 a) := (by simp [World.cell?, r0]); go_simp; first | done | with_reducible rfl)
        simp only [Act.put, List.getElem_toArray, List.getElem_cons_zero, List.getElem_cons_succ, List.setIfInBounds_toArray, List.set_cons_zero, List.set_cons_succ]
        refine wpAnyH_take (i := 3) (v := ?_) rfl (by kernel_rfl) (by kernel_rfl) (by kernel_rfl) (fun _ _ _ h => h) (Or.inl ⟨by rfl, ?_⟩) (by assumption) ?_
        rotate_left
        focus (intro w hSw; have r0 : w.heap[u.heap.size]? = some (.cells #[.int .i64 c, .int .i64 a] 95 (0, 0)) := (hSw.block _ (by simp)).trans (MapKept.heap_alloc u _).1; have p0 : w.cell? ⟨u.heap.size, 0, none⟩ = some (.int .i64 c) := (by simp [World.cell?, r0]); have p1 : w.cell? ⟨u.heap.size, 1, none⟩ = some (.int .i64 a) := (by simp [World.cell?, r0]); go_simp; first | done | with_reducible rfl)
        simp only [Act.put, List.getElem_toArray, List.getElem_cons_zero, List.getElem_cons_succ, List.setIfInBounds_toArray, List.set_cons_zero, List.set_cons_succ]
        refine wpAnyH_take (i := 4) (v := undef) rfl (by kernel_rfl) (by kernel_rfl) (by kernel_rfl) (fun _ _ _ h => h) (Or.inr ⟨by rfl, rfl⟩) (by assumption) ?_
        try simp only [Act.put, List.getElem_toArray, List.getElem_cons_zero, List.getElem_cons_succ, List.setIfInBounds_toArray, List.set_cons_zero, List.set_cons_succ]
        refine wpAnyH_take (i := 5) (v := undef) rfl (by kernel_rfl) (by kernel_rfl) (by kernel_rfl) (fun _ _ _ h => h) (Or.inr ⟨by rfl, rfl⟩) (by assumption) ?_
        try simp only [Act.put, List.getElem_toArray, List.getElem_cons_zero, List.getElem_cons_succ, List.setIfInBounds_toArray, List.set_cons_zero, List.set_cons_succ]
        refine wpAnyH_take (i := 6) (v := undef) rfl (by kernel_rfl) (by kernel_rfl) (by kernel_rfl) (fun _ _ _ h => h) (Or.inr ⟨by rfl, rfl⟩) (by assumption) ?_
        try simp only [Act.put, List.getElem_toArray, List.getElem_cons_zero, List.getElem_cons_succ, List.setIfInBounds_toArray, List.set_cons_zero, List.set_cons_succ]
        refine wpAnyH_take (i := 7) (v := undef) rfl (by kernel_rfl) (by kernel_rfl) (by kernel_rfl) (fun _ _ _ h => h) (Or.inr ⟨by rfl, rfl⟩) (by assumption) ?_
        try simp only [Act.put, List.getElem_toArray, List.getElem_cons_zero, List.getElem_cons_succ, List.setIfInBounds_toArray, List.set_cons_zero, List.set_cons_succ]
        refine wpAnyH_take (i := 8) (v := undef) rfl (by kernel_rfl) (by kernel_rfl) (by kernel_rfl) (fun _ _ _ h => h) (Or.inr ⟨by rfl, rfl⟩) (by assumption) ?_
        try simp only [Act.put, List.getElem_toArray, List.getElem_cons_zero, List.getElem_cons_succ, List.setIfInBounds_toArray, List.set_cons_zero, List.set_cons_succ]
        refine wpAnyH_take (i := 9) (v := undef) rfl (by kernel_rfl) (by kernel_rfl) (by kernel_rfl) (fun _ _ _ h => h) (Or.inr ⟨by rfl, rfl⟩) (by assumption) ?_
        try simp only [Act.put, List.getElem_toArray, List.getElem_cons_zero, List.getElem_cons_succ, List.setIfInBounds_toArray, List.set_cons_zero, List.set_cons_succ]
        refine wpAnyH_take (i := 10) (v := ?_) rfl (by kernel_rfl) (by kernel_rfl) (by kernel_rfl) (fun _ _ _ h => h) (Or.inl ⟨by rfl, ?_⟩) (by assumption) ?_
        rotate_left
        focus (intro w hSw; have r0 : w.heap[u.heap.size]? = some (.cells #[.int .i64 c, .int .i64 a] 95 (0, 0)) := (hSw.block _ (by simp)).trans (MapKept.heap_alloc u _).1; have p0 : w.cell? ⟨u.heap.size, 0, none⟩ = some (.int .i64 c) := (by simp [World.cell?, r0]); have p1 : w.cell? ⟨u.heap.size, 1, none⟩ = some (.int .i64 a) := (by simp [World.cell?, r0]); go_simp; first | done | with_reducible rfl)
        simp only [Act.put, List.getElem_toArray, List.getElem_cons_zero, List.getElem_cons_succ, List.setIfInBounds_toArray, List.set_cons_zero, List.set_cons_succ]
        refine wpAnyH_take (i := 11) (v := ?_) rfl (by kernel_rfl) (by kernel_rfl) (by kernel_rfl) (fun _ _ _ h => h) (Or.inl ⟨by rfl, ?_⟩) (by assumption) ?_
        rotate_left
        focus (intro w hSw; have r0 : w.heap[u.heap.size]? = some (.cells #[.int .i64 c, .int .i64 a] 95 (0, 0)) := (hSw.block _ (by simp)).trans (MapKept.heap_alloc u _).1; have p0 : w.cell? ⟨u.heap.size, 0, none⟩ = some (.int .i64 c) := (by simp [World.cell?, r0]); have p1 : w.cell? ⟨u.heap.size, 1, none⟩ = some (.int .i64 a) := (by simp [World.cell?, r0]); go_simp; first | done | with_reducible rfl)
        simp only [Act.put, List.getElem_toArray, List.getElem_cons_zero, List.getElem_cons_succ, List.setIfInBounds_toArray, List.set_cons_zero, List.set_cons_succ]
        refine wpAnyH_done (by kernel_rfl) ?_ _
        go_wp2
        go_ret
        exact ⟨rfl, (below1 u _).trans (hHeld.mono (by omega))⟩
  · have HK : Hid (Calls Tryd.prog 89 #[.int .i64 c] (u.alloc (.cells #[.int .i64 c, .int .i64 a] 95)) fun e w' => e = .returned (.bool false) ∧ u.alloc (.cells #[.int .i64 c, .int .i64 a] 95) = w') := Lib.hid (known_out c hk _)
    have HR : Hid (rightB (kd c) a M = false) := Lib.hid (by unfold rightB; rw [kd_out hk]; rfl)
    rw [HR.out]
    clear HR hk
    go_enter Tryd.func77, Tryd.ntmps77
    go_wp2_with (first
      | (go_at_call 89; (with_reducible refine (HK.out).mono ?_); rintro e w' ⟨rfl, rfl⟩)
      | (go_at_call 90; (with_reducible refine (HO.out).mono ?_); rintro e w' ⟨rfl, rfl⟩))
    go_ret
    exact ⟨rfl, below1 u _⟩
end Go.Proofs.YthimpjfmelmhpaaDoor.Fc
