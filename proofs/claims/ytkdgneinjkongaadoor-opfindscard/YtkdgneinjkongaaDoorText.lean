/-
  An instruction as text.
-/
import Derived.Test.YtkdgneinjkongaaDoorMem
import Derived.Deep.RegionHeld3
import Derived.Lib.ItoaLen
namespace Go.Proofs.YtkdgneinjkongaaDoor
open Go.RowKit Go.Lib Go.Sort

/-- an instruction's text: a code's place, and a number -/
def textN (k : Nat) (a : Int) : Bs := if poolN k = 0 then nameN k else nameN k ++ 32 :: Lib.itoa a
theorem name_len (k : Nat) (h : k ≤ 32) : (nameN k).length ≤ 6 := by
  have : ∀ j ∈ List.range 33, (nameN j).length ≤ 6 := by decide +kernel
  exact this k (List.mem_range.2 (by omega))
theorem str_app (l r : Bs) : str l ++ ⟨#[32]⟩ ++ str r = str (l ++ 32 :: r) := by
  apply ByteArray.ext; simp [str, ByteArray.data_append]

set_option maxHeartbeats 1000000 in
set_option maxRecDepth 100000 in
theorem text18 (c a : Int) (ha0 : -9223372036854775808 ≤ a) (ha1 : a ≤ 9223372036854775807) (u : World) (hT : TabR u) (hP : Pow u) :
    Calls Tryd.prog 18 #[.agg #[.int .i64 c, .int .i64 a]] u fun e w' => e = .returned (S8 (textN (kd c) a)) ∧ Below u.heap.size u w' := by
  have hTx : ∀ x, Below (u.heap.size + 1) (u.alloc (.cells #[.int .i64 c, .int .i64 a] 34)) x → TabR x := fun x hx => hT.below ((below1 u _).trans (hx.mono (by omega)))
  have hPx : ∀ x, Below (u.heap.size + 1) (u.alloc (.cells #[.int .i64 c, .int .i64 a] 34)) x → Pow x := fun x hx => hP.below ((below1 u _).trans (hx.mono (by omega)))
  have HN : Hid (∀ x, Below (u.heap.size + 1) (u.alloc (.cells #[.int .i64 c, .int .i64 a] 34)) x → Calls Tryd.prog 9 #[.int .i64 c] x fun e w' => e = .returned (.string (str (nameN (kd c)))) ∧ x = w') := Lib.hid (fun x hx => name9 c x (hTx x hx))
  have HO : Hid (Calls Tryd.prog 10 #[.int .i64 c] (u.alloc (.cells #[.int .i64 c, .int .i64 a] 34)) fun e w' => e = .returned (.int .i32 (poolN (kd c))) ∧ u.alloc (.cells #[.int .i64 c, .int .i64 a] 34) = w') := Lib.hid (pool10 c _ (hTx _ (Below.refl _ _)))
  have HI : Hid (∀ x, Below (u.heap.size + 1) (u.alloc (.cells #[.int .i64 c, .int .i64 a] 34)) x → Calls Tryd.prog 16 #[.int .i64 a] x fun e w' => e = .returned (.string (str (Lib.itoa a))) ∧ Below x.heap.size x w') := Lib.hid (fun x hx => (Tryd.strconv_Itoa a ha0 ha1 x (hPx x hx)).mono fun e w' ⟨he, k, os, hw⟩ => ⟨he, by rw [hw]; exact grow_below x k os⟩)
  have hl1 := name_len (kd c) (kd_le c)
  have hl2 := Lib.itoa_length_le a ha0 ha1
  by_cases hp : poolN (kd c) = 0
  · have HX : Hid (textN (kd c) a = nameN (kd c)) := Lib.hid (by unfold textN; rw [if_pos hp])
    rw [hp] at HO
    clear hTx hPx hT hP hp HI ha0 ha1 hl1 hl2
    go_enter Tryd.func18, Tryd.ntmps18
    go_wp2_with (first
      | (go_at_call 10; (with_reducible refine (HO.out).mono ?_); rintro e w' ⟨rfl, rfl⟩)
      | (go_at_call 9; (with_reducible refine (HN.out _ (Below.refl _ _)).mono ?_); rintro e w' ⟨rfl, rfl⟩))
    go_ret
    exact ⟨by rw [HX.out]; rfl, below1 u _⟩
  · have HX : Hid (textN (kd c) a = nameN (kd c) ++ 32 :: Lib.itoa a) := Lib.hid (by unfold textN; rw [if_neg hp])
    obtain ⟨X, hX⟩ : ∃ X, X = str (nameN (kd c)) := ⟨_, rfl⟩
    obtain ⟨Y, hY⟩ : ∃ Y, Y = str (Lib.itoa a) := ⟨_, rfl⟩
    have x1 : X.size ≤ 6 := by rw [hX]; exact hl1
    have y1 : Y.size ≤ 21 := by rw [hY]; exact hl2
    rw [← hX] at HN
    rw [← hY] at HI
    have HXY : Hid (str (textN (kd c) a) = X ++ ⟨#[32]⟩ ++ Y) := Lib.hid (by rw [HX.out, hX, hY, str_app])
    have z1 : ¬ 9223372036854775807 < X.size + 1 := by omega
    have z2 : ¬ 9223372036854775807 < X.size + 1 + Y.size := by omega
    generalize poolN (kd c) = P at *
    have hpp : (P == 0) = false := by simpa using hp
    unfold S8
    rw [HXY.out]
    clear hTx hPx hT hP hp ha0 ha1 hl1 hl2 hX hY HX HXY x1 y1
    go_enter Tryd.func18, Tryd.ntmps18
    go_wp2_with (go_at_call 10; (with_reducible refine (HO.out).mono ?_); rintro e w' ⟨rfl, rfl⟩)
    refine wp_region_held_drew (S := fun w' => Below (u.heap.size + 1) (u.alloc (.cells #[.int .i64 c, .int .i64 a] 34)) w') (by kernel_rfl) ?_ (fun hHeld => ?_)
    · exact Below.drew (Below.refl _ _)
    refine wpAnyH_take (i := 0) (v := ?_) rfl (by kernel_rfl) (by kernel_rfl) (by kernel_rfl) (fun _ _ _ h => h) (Or.inl ⟨by rfl, ?_⟩) (by assumption) ?_
    rotate_left
    focus (intro w hSw; have r0 : w.heap[u.heap.size]? = some (.cells #[.int .i64 c, .int .i64 a] 34 (0, 0)) := (hSw.block _ (by simp)).trans (MapKept.heap_alloc u _).1; have p0 : w.cell? ⟨u.heap.size, 0, none⟩ = some (.int .i64 c) := (by simp [World.cell?, r0]); have p1 : w.cell? ⟨u.heap.size, 1, none⟩ = some (.int .i64 a) := (by simp [World.cell?, r0]); go_simp; first | done | with_reducible rfl)
    simp only [Act.put, List.getElem_toArray, List.getElem_cons_zero, List.setIfInBounds_toArray, List.set_cons_zero, List.set_cons_succ]
    refine wpAnyH_take (i := 1) (v := ?_) rfl (by kernel_rfl) (by kernel_rfl) (by kernel_rfl) (fun _ _ _ h => h) (Or.inl ⟨by rfl, ?_⟩) (by assumption) ?_
    rotate_left
    focus (intro w hSw; have r0 : w.heap[u.heap.size]? = some (.cells #[.int .i64 c, .int .i64 a] 34 (0, 0)) := (hSw.block _ (by simp)).trans (MapKept.heap_alloc u _).1; have p0 : w.cell? ⟨u.heap.size, 0, none⟩ = some (.int .i64 c) := (by simp [World.cell?, r0]); have p1 : w.cell? ⟨u.heap.size, 1, none⟩ = some (.int .i64 a) := (by simp [World.cell?, r0]); go_simp; first | done | with_reducible rfl)
    simp only [Act.put, List.getElem_toArray, List.getElem_cons_zero, List.getElem_cons_succ, List.setIfInBounds_toArray, List.set_cons_zero, List.set_cons_succ]
    refine wpAnyH_take (i := 4) (v := ?_) rfl (by kernel_rfl) (by kernel_rfl) (by kernel_rfl) (fun _ _ _ h => h) (Or.inl ⟨by rfl, ?_⟩) (by assumption) ?_
    rotate_left
    focus (intro w hSw; have r0 : w.heap[u.heap.size]? = some (.cells #[.int .i64 c, .int .i64 a] 34 (0, 0)) := (hSw.block _ (by simp)).trans (MapKept.heap_alloc u _).1; have p0 : w.cell? ⟨u.heap.size, 0, none⟩ = some (.int .i64 c) := (by simp [World.cell?, r0]); have p1 : w.cell? ⟨u.heap.size, 1, none⟩ = some (.int .i64 a) := (by simp [World.cell?, r0]); go_simp; first | done | with_reducible rfl)
    simp only [Act.put, List.getElem_toArray, List.getElem_cons_zero, List.getElem_cons_succ, List.setIfInBounds_toArray, List.set_cons_zero, List.set_cons_succ]
    refine wpAnyH_take (i := 5) (v := ?_) rfl (by kernel_rfl) (by kernel_rfl) (by kernel_rfl) (fun _ _ _ h => h) (Or.inl ⟨by rfl, ?_⟩) (by assumption) ?_
    rotate_left
    focus (intro w hSw; have r0 : w.heap[u.heap.size]? = some (.cells #[.int .i64 c, .int .i64 a] 34 (0, 0)) := (hSw.block _ (by simp)).trans (MapKept.heap_alloc u _).1; have p0 : w.cell? ⟨u.heap.size, 0, none⟩ = some (.int .i64 c) := (by simp [World.cell?, r0]); have p1 : w.cell? ⟨u.heap.size, 1, none⟩ = some (.int .i64 a) := (by simp [World.cell?, r0]); go_simp; first | done | with_reducible rfl)
    simp only [Act.put, List.getElem_toArray, List.getElem_cons_zero, List.getElem_cons_succ, List.setIfInBounds_toArray, List.set_cons_zero, List.set_cons_succ]
    refine wpAnyH_ready (rs := [2]) (by kernel_rfl) (by simp) ?_
    refine AllReadyH.cons (o := _) rfl (fun K hK => ?_) AllReadyH.nil
    go_simp
    with_reducible refine (HN.out _ hHeld).mono ?_
    rintro e x1 ⟨rfl, rfl⟩
    go_simp
    refine hK.out _ _ hHeld (fun hHeld => ?_)
    clear hK K
    try simp only [Act.put, List.getElem_toArray, List.getElem_cons_zero, List.getElem_cons_succ, List.setIfInBounds_toArray, List.set_cons_zero, List.set_cons_succ]
    refine wpAnyH_take (i := 3) (v := ?_) rfl (by kernel_rfl) (by kernel_rfl) (by kernel_rfl) (fun _ _ _ h => h) (Or.inl ⟨by rfl, ?_⟩) (by assumption) ?_
    rotate_left
    focus (intro w hSw; have r0 : w.heap[u.heap.size]? = some (.cells #[.int .i64 c, .int .i64 a] 34 (0, 0)) := (hSw.block _ (by simp)).trans (MapKept.heap_alloc u _).1; have p0 : w.cell? ⟨u.heap.size, 0, none⟩ = some (.int .i64 c) := (by simp [World.cell?, r0]); have p1 : w.cell? ⟨u.heap.size, 1, none⟩ = some (.int .i64 a) := (by simp [World.cell?, r0]); go_simp; first | done | with_reducible rfl)
    simp only [Act.put, List.getElem_toArray, List.getElem_cons_zero, List.getElem_cons_succ, List.setIfInBounds_toArray, List.set_cons_zero, List.set_cons_succ]
    refine wpAnyH_ready (rs := [6]) (by kernel_rfl) (by simp) ?_
    refine AllReadyH.cons (o := _) rfl (fun K hK => ?_) AllReadyH.nil
    go_simp
    with_reducible refine (HI.out _ hHeld).mono ?_
    rintro e x1 ⟨rfl, hx1⟩
    go_simp
    refine hK.out _ _ (hHeld.trans (hx1.mono (Nat.le_trans (Nat.le_of_eq (by simp)) hHeld.size))) (fun hHeld => ?_)
    clear hK K
    try simp only [Act.put, List.getElem_toArray, List.getElem_cons_zero, List.getElem_cons_succ, List.setIfInBounds_toArray, List.set_cons_zero, List.set_cons_succ]
    refine wpAnyH_take (i := 7) (v := ?_) rfl (by kernel_rfl) (by kernel_rfl) (by kernel_rfl) (fun _ _ _ h => h) (Or.inl ⟨by rfl, ?_⟩) (by assumption) ?_
    rotate_left
    focus (intro w hSw; have r0 : w.heap[u.heap.size]? = some (.cells #[.int .i64 c, .int .i64 a] 34 (0, 0)) := (hSw.block _ (by simp)).trans (MapKept.heap_alloc u _).1; have p0 : w.cell? ⟨u.heap.size, 0, none⟩ = some (.int .i64 c) := (by simp [World.cell?, r0]); have p1 : w.cell? ⟨u.heap.size, 1, none⟩ = some (.int .i64 a) := (by simp [World.cell?, r0]); go_simp; first | done | with_reducible rfl)
    simp only [Act.put, List.getElem_toArray, List.getElem_cons_zero, List.getElem_cons_succ, List.setIfInBounds_toArray, List.set_cons_zero, List.set_cons_succ]
    refine wpAnyH_take (i := 8) (v := ?_) rfl (by kernel_rfl) (by kernel_rfl) (by kernel_rfl) (fun _ _ _ h => h) (Or.inl ⟨by rfl, ?_⟩) (by assumption) ?_
    rotate_left
    focus (intro w hSw; have r0 : w.heap[u.heap.size]? = some (.cells #[.int .i64 c, .int .i64 a] 34 (0, 0)) := (hSw.block _ (by simp)).trans (MapKept.heap_alloc u _).1; have p0 : w.cell? ⟨u.heap.size, 0, none⟩ = some (.int .i64 c) := (by simp [World.cell?, r0]); have p1 : w.cell? ⟨u.heap.size, 1, none⟩ = some (.int .i64 a) := (by simp [World.cell?, r0]); go_simp; first | done | with_reducible rfl)
    simp only [Act.put, List.getElem_toArray, List.getElem_cons_zero, List.getElem_cons_succ, List.setIfInBounds_toArray, List.set_cons_zero, List.set_cons_succ]
    refine wpAnyH_done (by kernel_rfl) ?_ _
    go_wp2
    go_ret
    exact ⟨rfl, (below1 u _).trans (hHeld.mono (by omega))⟩
end Go.Proofs.YtkdgneinjkongaaDoor
