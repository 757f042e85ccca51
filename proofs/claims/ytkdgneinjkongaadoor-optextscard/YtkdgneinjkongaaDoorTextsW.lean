/-
  The walk of OpTexts.
-/
import Derived.Test.YtkdgneinjkongaaDoorTextsR
import Derived.IntWalk
import Derived.Deep.RegionHeld3
namespace Go.Proofs.YtkdgneinjkongaaDoor
open Go.RowKit

theorem i64_and8 (n : Int) : ∃ m : Nat, m < 256 ∧ bits .and .i64 n 255 = (m : Int) := by
  have h1 : (BitVec.ofInt 64 255).toNat = 2 ^ 8 - 1 := by decide
  have key : (BitVec.ofInt 64 n &&& BitVec.ofInt 64 255).toNat = (n % ((2 ^ 64 : Nat) : Int)).toNat % 2 ^ 8 := by
    rw [BitVec.toNat_and, BitVec.toNat_ofInt, h1, Nat.and_two_pow_sub_one_eq_mod]
  refine ⟨(n % ((2 ^ 64 : Nat) : Int)).toNat % 2 ^ 8, by omega, ?_⟩
  show IntKind.i64.wrap ((BitVec.ofInt 64 n &&& BitVec.ofInt 64 255).toNat : Nat) = _
  rw [key, IntKind.wrap_i64]
  omega
theorem u64_mod32 (n : Int) : ∃ m : Nat, m < 32 ∧ (IntKind.u64.wrap n).tmod 32 = (m : Int) := by
  have h : 0 ≤ IntKind.u64.wrap n := by rw [IntKind.wrap_u64]; omega
  refine ⟨((IntKind.u64.wrap n) % 32).toNat, by omega, ?_⟩
  rw [Int.tmod_eq_emod_of_nonneg h]; omega

set_option maxHeartbeats 2000000 in
set_option maxRecDepth 100000 in
theorem texts6 (a b x y : Int) (w : World) (hT : TabR w) (hP : Pow w) :
    Calls Tryd.prog 6 #[.int .i64 a, .int .i64 b, .int .i64 x, .int .i64 y] w fun e w' => e = .returned (.bool true) ∧ Below w.heap.size w w' := by
  obtain ⟨x', hx, ex⟩ := i64_and8 x
  obtain ⟨y', hy, ey⟩ := i64_and8 y
  obtain ⟨m, hm, em⟩ := u64_mod32 a
  obtain ⟨n, hn, en⟩ := u64_mod32 b
  have km : kd (1 + (m : Int)) = m + 1 := by have := kd_nat (k := m + 1) (by omega) (by omega); rw [Int.natCast_add] at this; rw [Int.add_comm]; exact this
  have kn : kd (1 + (n : Int)) = n + 1 := by have := kd_nat (k := n + 1) (by omega) (by omega); rw [Int.natCast_add] at this; rw [Int.add_comm]; exact this
  have HT : Hid (∀ z, Below w.heap.size w z → TabR z) := Lib.hid (fun z hz => hT.below hz)
  have HP : Hid (∀ z, Below w.heap.size w z → Pow z) := Lib.hid (fun z hz => hP.below hz)
  have HO1 : Hid (∀ z, TabR z → Calls Tryd.prog 10 #[.int .i64 (1 + (m : Int))] z fun e w' => e = .returned (.int .i32 (poolN (m + 1))) ∧ z = w') := Lib.hid (fun z hz => (pool10 _ z hz).mono fun e w' ⟨p, q⟩ => ⟨by rw [p, km], q⟩)
  have HO2 : Hid (∀ z, TabR z → Calls Tryd.prog 10 #[.int .i64 (1 + (n : Int))] z fun e w' => e = .returned (.int .i32 (poolN (n + 1))) ∧ z = w') := Lib.hid (fun z hz => (pool10 _ z hz).mono fun e w' ⟨p, q⟩ => ⟨by rw [p, kn], q⟩)
  obtain ⟨T1, hT1⟩ : ∃ T, T = str (textN (m + 1) (numF (m + 1) x' : Nat)) := ⟨_, rfl⟩
  obtain ⟨T2, hT2⟩ : ∃ T, T = str (textN (n + 1) (numF (n + 1) y' : Nat)) := ⟨_, rfl⟩
  have hbb : (T1.toList == T2.toList) = ((1 + (m : Int) == 1 + (n : Int)) && (((numF (m + 1) x' : Nat) : Int) == ((numF (n + 1) y' : Nat) : Int))) := by
    rw [hT1, hT2, str_beq, Bool.eq_iff_iff, decide_eq_true_eq, text_inj _ _ _ _ (by omega) (by omega) hx hy]
    simp; omega
  have bx : numF (m + 1) x' < 256 := by unfold numF; split <;> omega
  have bY : numF (n + 1) y' < 256 := by unfold numF; split <;> omega
  obtain ⟨A, hA⟩ : ∃ A : World → Nat, A = fun z => z.heap.size := ⟨_, rfl⟩
  have HC1 : Hid (∀ A z, TxS w A (1 + (m : Int)) (numF (m + 1) x' : Nat) (1 + (n : Int)) (numF (n + 1) y' : Nat) z → Calls Tryd.prog 18 #[.agg #[.int .i64 (1 + (m : Int)), .int .i64 ((numF (m + 1) x' : Nat) : Int)]] z fun e w' => e = .returned (.string T1) ∧ TxS w A (1 + (m : Int)) (numF (m + 1) x' : Nat) (1 + (n : Int)) (numF (n + 1) y' : Nat) w') := Lib.hid (fun A z hz => (text18 _ _ (by omega) (by omega) z (HT.out _ hz.below) (HP.out _ hz.below)).mono fun e w' ⟨p, q⟩ => ⟨by rw [p, km, hT1]; rfl, hz.next q⟩)
  have HC2 : Hid (∀ A z, TxS w A (1 + (m : Int)) (numF (m + 1) x' : Nat) (1 + (n : Int)) (numF (n + 1) y' : Nat) z → Calls Tryd.prog 18 #[.agg #[.int .i64 (1 + (n : Int)), .int .i64 ((numF (n + 1) y' : Nat) : Int)]] z fun e w' => e = .returned (.string T2) ∧ TxS w A (1 + (m : Int)) (numF (m + 1) x' : Nat) (1 + (n : Int)) (numF (n + 1) y' : Nat) w') := Lib.hid (fun A z hz => (text18 _ _ (by omega) (by omega) z (HT.out _ hz.below) (HP.out _ hz.below)).mono fun e w' ⟨p, q⟩ => ⟨by rw [p, kn, hT2]; rfl, hz.next q⟩)
  have HB := Lib.hid hbb
  have hx0 : numF (m + 1) x' = if poolN (m + 1) = 0 then 0 else x' := rfl
  have hy0 : numF (n + 1) y' = if poolN (n + 1) = 0 then 0 else y' := rfl
  generalize numF (m + 1) x' = X at *
  generalize numF (n + 1) y' = Y at *
  generalize poolN (m + 1) = P1 at *
  generalize poolN (n + 1) = P2 at *
  have HXY : Hid (X = (if P1 = 0 then 0 else x') ∧ Y = (if P2 = 0 then 0 else y')) := Lib.hid ⟨hx0, hy0⟩
  clear hT hP hT1 hT2 hbb hA km kn hx0 hy0
  by_cases q1 : (P1 == 0) = true <;> by_cases q2 : (P2 == 0) = true
  · have e1 : (X : Int) = 0 := by rw [HXY.out.1, if_pos (by simpa using q1)]; rfl
    have e2 : (Y : Int) = 0 := by rw [HXY.out.2, if_pos (by simpa using q2)]; rfl
    have E1 := Lib.hid e1
    have E2 := Lib.hid e2
    clear e1 e2
    go_enter Tryd.func6, Tryd.ntmps6
    go_wp2_with fail
    refine (head7 w (HT.out _ (Below.refl _ _)) (HP.out _ (Below.refl _ _))).mono ?_
    rintro e w1 ⟨rfl, hb⟩
    have HT2 : Hid (∀ o o', TabR ((w1.alloc o).alloc o')) := Lib.hid (fun o o' => (HT.out _ hb).below ((below1 w1 o).trans ((below1 _ o').mono (by simp))))
    go_wp2_with (first
      | (go_at_call 10; (with_reducible refine (HO1.out _ ?_).mono ?_); exact (HT2.out _ _); rintro e w' ⟨rfl, rfl⟩)
      | (go_at_call 10; (with_reducible refine (HO2.out _ ?_).mono ?_); exact (HT2.out _ _); rintro e w' ⟨rfl, rfl⟩))
    obtain ⟨Z, HZ⟩ : ∃ Z, Hid (Z = (w1.alloc (.cells #[.int .i64 (1 + (m : Int)), .int .i64 0] 34)).alloc (.cells #[.int .i64 (1 + (n : Int)), .int .i64 0] 34)) := ⟨_, Lib.hid rfl⟩
    have HS : Hid (TxS w w1.heap.size (1 + (m : Int)) (X : Int) (1 + (n : Int)) (Y : Int) Z.drew) := Lib.hid (by
      rw [E1.out, E2.out, HZ.out]
      exact TxS.drew ⟨(Blk.new w1 [.int .i64 (1 + (m : Int)), .int .i64 0] 34).below (below1 _ _), by have := Blk.new (w1.alloc (.cells #[.int .i64 (1 + (m : Int)), .int .i64 0] 34)) [.int .i64 (1 + (n : Int)), .int .i64 0] 34; simpa using this, (hb.alloc hb.size _).alloc (by have := hb.size; simp; omega) _⟩)
    rw [← HZ.out]
    have HD1 := Lib.hid (HC1.out w1.heap.size)
    have HD2 := Lib.hid (HC2.out w1.heap.size)
    clear HZ hb HT2 HO1 HO2 E1 E2 HXY HT HP em en ex ey
    generalize w1.heap.size = A1 at *
    have Q0 := HB.out
    clear HB HC1 HC2
    have hcase : (m = n ∧ X = Y) ∨ (m = n ∧ ¬ ((X : Int) = (Y : Int))) ∨ ¬ ((m : Int) = (n : Int)) := by omega
    rcases hcase with ⟨rfl, rfl⟩ | ⟨rfl, hxy⟩ | hmn
    · have Q1 : (T1.toList == T2.toList) = true := by rw [Q0]; simp
      clear Q0
      refine wp_region_held_drew (S := fun z => TxS w A1 (1 + (m : Int)) (X : Int) (1 + (m : Int)) (X : Int) z) (by kernel_rfl) ?_ (fun hHeld => ?_)
      · exact HS.out
      refine wpAnyH_take (i := 0) (v := ?_) rfl (by kernel_rfl) (by kernel_rfl) (by kernel_rfl) (fun _ _ _ h => h) (Or.inl ⟨by rfl, ?_⟩) (by assumption) ?_
      rotate_left
      focus (intro w hSw; have p0 : w.cell? ⟨A1, 0, none⟩ = some (.int .i64 (1 + (m : Int))) := hSw.a.cell 0; have p1 : w.cell? ⟨A1, 1, none⟩ = some (.int .i64 (X : Int)) := hSw.a.cell 1; have p2 : w.cell? ⟨A1 + 1, 0, none⟩ = some (.int .i64 (1 + (m : Int))) := hSw.b.cell 0; have p3 : w.cell? ⟨A1 + 1, 1, none⟩ = some (.int .i64 (X : Int)) := hSw.b.cell 1; go_simp; first | done | with_reducible rfl)
      simp only [Act.put, List.getElem_toArray, List.getElem_cons_zero, List.setIfInBounds_toArray, List.set_cons_zero, List.set_cons_succ]
      refine wpAnyH_take (i := 2) (v := ?_) rfl (by kernel_rfl) (by kernel_rfl) (by kernel_rfl) (fun _ _ _ h => h) (Or.inl ⟨by rfl, ?_⟩) (by assumption) ?_
      rotate_left
      focus (intro w hSw; have p0 : w.cell? ⟨A1, 0, none⟩ = some (.int .i64 (1 + (m : Int))) := hSw.a.cell 0; have p1 : w.cell? ⟨A1, 1, none⟩ = some (.int .i64 (X : Int)) := hSw.a.cell 1; have p2 : w.cell? ⟨A1 + 1, 0, none⟩ = some (.int .i64 (1 + (m : Int))) := hSw.b.cell 0; have p3 : w.cell? ⟨A1 + 1, 1, none⟩ = some (.int .i64 (X : Int)) := hSw.b.cell 1; go_simp; first | done | with_reducible rfl)
      simp only [Act.put, List.getElem_toArray, List.getElem_cons_zero, List.getElem_cons_succ, List.setIfInBounds_toArray, List.set_cons_zero, List.set_cons_succ]
      refine wpAnyH_take (i := 5) (v := ?_) rfl (by kernel_rfl) (by kernel_rfl) (by kernel_rfl) (fun _ _ _ h => h) (Or.inl ⟨by rfl, ?_⟩) (by assumption) ?_
      rotate_left
      focus (intro w hSw; have p0 : w.cell? ⟨A1, 0, none⟩ = some (.int .i64 (1 + (m : Int))) := hSw.a.cell 0; have p1 : w.cell? ⟨A1, 1, none⟩ = some (.int .i64 (X : Int)) := hSw.a.cell 1; have p2 : w.cell? ⟨A1 + 1, 0, none⟩ = some (.int .i64 (1 + (m : Int))) := hSw.b.cell 0; have p3 : w.cell? ⟨A1 + 1, 1, none⟩ = some (.int .i64 (X : Int)) := hSw.b.cell 1; go_simp; first | done | with_reducible rfl)
      simp only [Act.put, List.getElem_toArray, List.getElem_cons_zero, List.getElem_cons_succ, List.setIfInBounds_toArray, List.set_cons_zero, List.set_cons_succ]
      refine wpAnyH_take (i := 6) (v := ?_) rfl (by kernel_rfl) (by kernel_rfl) (by kernel_rfl) (fun _ _ _ h => h) (Or.inl ⟨by rfl, ?_⟩) (by assumption) ?_
      rotate_left
      focus (intro w hSw; have p0 : w.cell? ⟨A1, 0, none⟩ = some (.int .i64 (1 + (m : Int))) := hSw.a.cell 0; have p1 : w.cell? ⟨A1, 1, none⟩ = some (.int .i64 (X : Int)) := hSw.a.cell 1; have p2 : w.cell? ⟨A1 + 1, 0, none⟩ = some (.int .i64 (1 + (m : Int))) := hSw.b.cell 0; have p3 : w.cell? ⟨A1 + 1, 1, none⟩ = some (.int .i64 (X : Int)) := hSw.b.cell 1; go_simp; first | done | with_reducible rfl)
      simp only [Act.put, List.getElem_toArray, List.getElem_cons_zero, List.getElem_cons_succ, List.setIfInBounds_toArray, List.set_cons_zero, List.set_cons_succ]
      refine wpAnyH_take (i := 7) (v := ?_) rfl (by kernel_rfl) (by kernel_rfl) (by kernel_rfl) (fun _ _ _ h => h) (Or.inl ⟨by rfl, ?_⟩) (by assumption) ?_
      rotate_left
      focus (intro w hSw; have p0 : w.cell? ⟨A1, 0, none⟩ = some (.int .i64 (1 + (m : Int))) := hSw.a.cell 0; have p1 : w.cell? ⟨A1, 1, none⟩ = some (.int .i64 (X : Int)) := hSw.a.cell 1; have p2 : w.cell? ⟨A1 + 1, 0, none⟩ = some (.int .i64 (1 + (m : Int))) := hSw.b.cell 0; have p3 : w.cell? ⟨A1 + 1, 1, none⟩ = some (.int .i64 (X : Int)) := hSw.b.cell 1; go_simp; first | done | with_reducible rfl)
      simp only [Act.put, List.getElem_toArray, List.getElem_cons_zero, List.getElem_cons_succ, List.setIfInBounds_toArray, List.set_cons_zero, List.set_cons_succ]
      refine wpAnyH_ready (rs := [1]) (by kernel_rfl) (by simp) ?_
      refine AllReadyH.cons (o := _) rfl (fun K hK => ?_) AllReadyH.nil
      go_simp
      with_reducible refine (HD1.out _ hHeld).mono ?_
      rintro e z1 ⟨rfl, hz1⟩
      go_simp
      refine hK.out _ _ hz1 (fun hHeld => ?_)
      clear hK K
      try simp only [Act.put, List.getElem_toArray, List.getElem_cons_zero, List.getElem_cons_succ, List.setIfInBounds_toArray, List.set_cons_zero, List.set_cons_succ]
      refine wpAnyH_ready (rs := [3]) (by kernel_rfl) (by simp) ?_
      refine AllReadyH.cons (o := _) rfl (fun K hK => ?_) AllReadyH.nil
      go_simp
      with_reducible refine (HD2.out _ hHeld).mono ?_
      rintro e z1 ⟨rfl, hz1⟩
      go_simp
      refine hK.out _ _ hz1 (fun hHeld => ?_)
      clear hK K
      try simp only [Act.put, List.getElem_toArray, List.getElem_cons_zero, List.getElem_cons_succ, List.setIfInBounds_toArray, List.set_cons_zero, List.set_cons_succ]
      refine wpAnyH_take (i := 4) (v := ?_) rfl (by kernel_rfl) (by kernel_rfl) (by kernel_rfl) (fun _ _ _ h => h) (Or.inl ⟨by rfl, ?_⟩) (by assumption) ?_
      rotate_left
      focus (intro w hSw; have p0 : w.cell? ⟨A1, 0, none⟩ = some (.int .i64 (1 + (m : Int))) := hSw.a.cell 0; have p1 : w.cell? ⟨A1, 1, none⟩ = some (.int .i64 (X : Int)) := hSw.a.cell 1; have p2 : w.cell? ⟨A1 + 1, 0, none⟩ = some (.int .i64 (1 + (m : Int))) := hSw.b.cell 0; have p3 : w.cell? ⟨A1 + 1, 1, none⟩ = some (.int .i64 (X : Int)) := hSw.b.cell 1; go_simp; first | done | with_reducible rfl)
      simp only [Act.put, List.getElem_toArray, List.getElem_cons_zero, List.getElem_cons_succ, List.setIfInBounds_toArray, List.set_cons_zero, List.set_cons_succ]
      refine wpAnyH_take (i := 8) (v := ?_) rfl (by kernel_rfl) (by kernel_rfl) (by kernel_rfl) (fun _ _ _ h => h) (Or.inl ⟨by rfl, ?_⟩) (by assumption) ?_
      rotate_left
      focus (intro w hSw; have p0 : w.cell? ⟨A1, 0, none⟩ = some (.int .i64 (1 + (m : Int))) := hSw.a.cell 0; have p1 : w.cell? ⟨A1, 1, none⟩ = some (.int .i64 (X : Int)) := hSw.a.cell 1; have p2 : w.cell? ⟨A1 + 1, 0, none⟩ = some (.int .i64 (1 + (m : Int))) := hSw.b.cell 0; have p3 : w.cell? ⟨A1 + 1, 1, none⟩ = some (.int .i64 (X : Int)) := hSw.b.cell 1; go_simp; first | done | with_reducible rfl)
      simp only [Act.put, List.getElem_toArray, List.getElem_cons_zero, List.getElem_cons_succ, List.setIfInBounds_toArray, List.set_cons_zero, List.set_cons_succ]
      refine wpAnyH_take (i := 9) (v := ?_) rfl (by kernel_rfl) (by kernel_rfl) (by kernel_rfl) (fun _ _ _ h => h) (Or.inl ⟨by rfl, ?_⟩) (by assumption) ?_
      rotate_left
      focus (intro w hSw; have p0 : w.cell? ⟨A1, 0, none⟩ = some (.int .i64 (1 + (m : Int))) := hSw.a.cell 0; have p1 : w.cell? ⟨A1, 1, none⟩ = some (.int .i64 (X : Int)) := hSw.a.cell 1; have p2 : w.cell? ⟨A1 + 1, 0, none⟩ = some (.int .i64 (1 + (m : Int))) := hSw.b.cell 0; have p3 : w.cell? ⟨A1 + 1, 1, none⟩ = some (.int .i64 (X : Int)) := hSw.b.cell 1; go_simp; first | done | with_reducible rfl)
      simp only [Act.put, List.getElem_toArray, List.getElem_cons_zero, List.getElem_cons_succ, List.setIfInBounds_toArray, List.set_cons_zero, List.set_cons_succ]
      refine wpAnyH_done (by kernel_rfl) ?_ _
      go_wp2
      go_ret
      exact ⟨rfl, hHeld.below⟩
    · have Q1 : (T1.toList == T2.toList) = false := by rw [Q0]; simp [hxy]
      clear Q0
      refine wp_region_held_drew (S := fun z => TxS w A1 (1 + (m : Int)) (X : Int) (1 + (m : Int)) (Y : Int) z) (by kernel_rfl) ?_ (fun hHeld => ?_)
      · exact HS.out
      refine wpAnyH_take (i := 0) (v := ?_) rfl (by kernel_rfl) (by kernel_rfl) (by kernel_rfl) (fun _ _ _ h => h) (Or.inl ⟨by rfl, ?_⟩) (by assumption) ?_
      rotate_left
      focus (intro w hSw; have p0 : w.cell? ⟨A1, 0, none⟩ = some (.int .i64 (1 + (m : Int))) := hSw.a.cell 0; have p1 : w.cell? ⟨A1, 1, none⟩ = some (.int .i64 (X : Int)) := hSw.a.cell 1; have p2 : w.cell? ⟨A1 + 1, 0, none⟩ = some (.int .i64 (1 + (m : Int))) := hSw.b.cell 0; have p3 : w.cell? ⟨A1 + 1, 1, none⟩ = some (.int .i64 (Y : Int)) := hSw.b.cell 1; go_simp; first | done | with_reducible rfl)
      simp only [Act.put, List.getElem_toArray, List.getElem_cons_zero, List.setIfInBounds_toArray, List.set_cons_zero, List.set_cons_succ]
      refine wpAnyH_take (i := 2) (v := ?_) rfl (by kernel_rfl) (by kernel_rfl) (by kernel_rfl) (fun _ _ _ h => h) (Or.inl ⟨by rfl, ?_⟩) (by assumption) ?_
      rotate_left
      focus (intro w hSw; have p0 : w.cell? ⟨A1, 0, none⟩ = some (.int .i64 (1 + (m : Int))) := hSw.a.cell 0; have p1 : w.cell? ⟨A1, 1, none⟩ = some (.int .i64 (X : Int)) := hSw.a.cell 1; have p2 : w.cell? ⟨A1 + 1, 0, none⟩ = some (.int .i64 (1 + (m : Int))) := hSw.b.cell 0; have p3 : w.cell? ⟨A1 + 1, 1, none⟩ = some (.int .i64 (Y : Int)) := hSw.b.cell 1; go_simp; first | done | with_reducible rfl)
      simp only [Act.put, List.getElem_toArray, List.getElem_cons_zero, List.getElem_cons_succ, List.setIfInBounds_toArray, List.set_cons_zero, List.set_cons_succ]
      refine wpAnyH_take (i := 5) (v := ?_) rfl (by kernel_rfl) (by kernel_rfl) (by kernel_rfl) (fun _ _ _ h => h) (Or.inl ⟨by rfl, ?_⟩) (by assumption) ?_
      rotate_left
      focus (intro w hSw; have p0 : w.cell? ⟨A1, 0, none⟩ = some (.int .i64 (1 + (m : Int))) := hSw.a.cell 0; have p1 : w.cell? ⟨A1, 1, none⟩ = some (.int .i64 (X : Int)) := hSw.a.cell 1; have p2 : w.cell? ⟨A1 + 1, 0, none⟩ = some (.int .i64 (1 + (m : Int))) := hSw.b.cell 0; have p3 : w.cell? ⟨A1 + 1, 1, none⟩ = some (.int .i64 (Y : Int)) := hSw.b.cell 1; go_simp; first | done | with_reducible rfl)
      simp only [Act.put, List.getElem_toArray, List.getElem_cons_zero, List.getElem_cons_succ, List.setIfInBounds_toArray, List.set_cons_zero, List.set_cons_succ]
      refine wpAnyH_take (i := 6) (v := ?_) rfl (by kernel_rfl) (by kernel_rfl) (by kernel_rfl) (fun _ _ _ h => h) (Or.inl ⟨by rfl, ?_⟩) (by assumption) ?_
      rotate_left
      focus (intro w hSw; have p0 : w.cell? ⟨A1, 0, none⟩ = some (.int .i64 (1 + (m : Int))) := hSw.a.cell 0; have p1 : w.cell? ⟨A1, 1, none⟩ = some (.int .i64 (X : Int)) := hSw.a.cell 1; have p2 : w.cell? ⟨A1 + 1, 0, none⟩ = some (.int .i64 (1 + (m : Int))) := hSw.b.cell 0; have p3 : w.cell? ⟨A1 + 1, 1, none⟩ = some (.int .i64 (Y : Int)) := hSw.b.cell 1; go_simp; first | done | with_reducible rfl)
      simp only [Act.put, List.getElem_toArray, List.getElem_cons_zero, List.getElem_cons_succ, List.setIfInBounds_toArray, List.set_cons_zero, List.set_cons_succ]
      refine wpAnyH_take (i := 7) (v := ?_) rfl (by kernel_rfl) (by kernel_rfl) (by kernel_rfl) (fun _ _ _ h => h) (Or.inl ⟨by rfl, ?_⟩) (by assumption) ?_
      rotate_left
      focus (intro w hSw; have p0 : w.cell? ⟨A1, 0, none⟩ = some (.int .i64 (1 + (m : Int))) := hSw.a.cell 0; have p1 : w.cell? ⟨A1, 1, none⟩ = some (.int .i64 (X : Int)) := hSw.a.cell 1; have p2 : w.cell? ⟨A1 + 1, 0, none⟩ = some (.int .i64 (1 + (m : Int))) := hSw.b.cell 0; have p3 : w.cell? ⟨A1 + 1, 1, none⟩ = some (.int .i64 (Y : Int)) := hSw.b.cell 1; go_simp; first | done | with_reducible rfl)
      simp only [Act.put, List.getElem_toArray, List.getElem_cons_zero, List.getElem_cons_succ, List.setIfInBounds_toArray, List.set_cons_zero, List.set_cons_succ]
      refine wpAnyH_ready (rs := [1]) (by kernel_rfl) (by simp) ?_
      refine AllReadyH.cons (o := _) rfl (fun K hK => ?_) AllReadyH.nil
      go_simp
      with_reducible refine (HD1.out _ hHeld).mono ?_
      rintro e z1 ⟨rfl, hz1⟩
      go_simp
      refine hK.out _ _ hz1 (fun hHeld => ?_)
      clear hK K
      try simp only [Act.put, List.getElem_toArray, List.getElem_cons_zero, List.getElem_cons_succ, List.setIfInBounds_toArray, List.set_cons_zero, List.set_cons_succ]
      refine wpAnyH_ready (rs := [3]) (by kernel_rfl) (by simp) ?_
      refine AllReadyH.cons (o := _) rfl (fun K hK => ?_) AllReadyH.nil
      go_simp
      with_reducible refine (HD2.out _ hHeld).mono ?_
      rintro e z1 ⟨rfl, hz1⟩
      go_simp
      refine hK.out _ _ hz1 (fun hHeld => ?_)
      clear hK K
      try simp only [Act.put, List.getElem_toArray, List.getElem_cons_zero, List.getElem_cons_succ, List.setIfInBounds_toArray, List.set_cons_zero, List.set_cons_succ]
      refine wpAnyH_take (i := 4) (v := ?_) rfl (by kernel_rfl) (by kernel_rfl) (by kernel_rfl) (fun _ _ _ h => h) (Or.inl ⟨by rfl, ?_⟩) (by assumption) ?_
      rotate_left
      focus (intro w hSw; have p0 : w.cell? ⟨A1, 0, none⟩ = some (.int .i64 (1 + (m : Int))) := hSw.a.cell 0; have p1 : w.cell? ⟨A1, 1, none⟩ = some (.int .i64 (X : Int)) := hSw.a.cell 1; have p2 : w.cell? ⟨A1 + 1, 0, none⟩ = some (.int .i64 (1 + (m : Int))) := hSw.b.cell 0; have p3 : w.cell? ⟨A1 + 1, 1, none⟩ = some (.int .i64 (Y : Int)) := hSw.b.cell 1; go_simp; first | done | with_reducible rfl)
      simp only [Act.put, List.getElem_toArray, List.getElem_cons_zero, List.getElem_cons_succ, List.setIfInBounds_toArray, List.set_cons_zero, List.set_cons_succ]
      refine wpAnyH_take (i := 8) (v := ?_) rfl (by kernel_rfl) (by kernel_rfl) (by kernel_rfl) (fun _ _ _ h => h) (Or.inl ⟨by rfl, ?_⟩) (by assumption) ?_
      rotate_left
      focus (intro w hSw; have p0 : w.cell? ⟨A1, 0, none⟩ = some (.int .i64 (1 + (m : Int))) := hSw.a.cell 0; have p1 : w.cell? ⟨A1, 1, none⟩ = some (.int .i64 (X : Int)) := hSw.a.cell 1; have p2 : w.cell? ⟨A1 + 1, 0, none⟩ = some (.int .i64 (1 + (m : Int))) := hSw.b.cell 0; have p3 : w.cell? ⟨A1 + 1, 1, none⟩ = some (.int .i64 (Y : Int)) := hSw.b.cell 1; go_simp; first | done | with_reducible rfl)
      simp only [Act.put, List.getElem_toArray, List.getElem_cons_zero, List.getElem_cons_succ, List.setIfInBounds_toArray, List.set_cons_zero, List.set_cons_succ]
      refine wpAnyH_take (i := 9) (v := ?_) rfl (by kernel_rfl) (by kernel_rfl) (by kernel_rfl) (fun _ _ _ h => h) (Or.inl ⟨by rfl, ?_⟩) (by assumption) ?_
      rotate_left
      focus (intro w hSw; have p0 : w.cell? ⟨A1, 0, none⟩ = some (.int .i64 (1 + (m : Int))) := hSw.a.cell 0; have p1 : w.cell? ⟨A1, 1, none⟩ = some (.int .i64 (X : Int)) := hSw.a.cell 1; have p2 : w.cell? ⟨A1 + 1, 0, none⟩ = some (.int .i64 (1 + (m : Int))) := hSw.b.cell 0; have p3 : w.cell? ⟨A1 + 1, 1, none⟩ = some (.int .i64 (Y : Int)) := hSw.b.cell 1; go_simp; first | done | with_reducible rfl)
      simp only [Act.put, List.getElem_toArray, List.getElem_cons_zero, List.getElem_cons_succ, List.setIfInBounds_toArray, List.set_cons_zero, List.set_cons_succ]
      refine wpAnyH_done (by kernel_rfl) ?_ _
      go_wp2
      go_ret
      exact ⟨rfl, hHeld.below⟩
    · have Q1 : (T1.toList == T2.toList) = false := by rw [Q0]; simp [hmn]
      clear Q0
      refine wp_region_held_drew (S := fun z => TxS w A1 (1 + (m : Int)) (X : Int) (1 + (n : Int)) (Y : Int) z) (by kernel_rfl) ?_ (fun hHeld => ?_)
      · exact HS.out
      refine wpAnyH_take (i := 0) (v := ?_) rfl (by kernel_rfl) (by kernel_rfl) (by kernel_rfl) (fun _ _ _ h => h) (Or.inl ⟨by rfl, ?_⟩) (by assumption) ?_
      rotate_left
      focus (intro w hSw; have p0 : w.cell? ⟨A1, 0, none⟩ = some (.int .i64 (1 + (m : Int))) := hSw.a.cell 0; have p1 : w.cell? ⟨A1, 1, none⟩ = some (.int .i64 (X : Int)) := hSw.a.cell 1; have p2 : w.cell? ⟨A1 + 1, 0, none⟩ = some (.int .i64 (1 + (n : Int))) := hSw.b.cell 0; have p3 : w.cell? ⟨A1 + 1, 1, none⟩ = some (.int .i64 (Y : Int)) := hSw.b.cell 1; go_simp; first | done | with_reducible rfl)
      simp only [Act.put, List.getElem_toArray, List.getElem_cons_zero, List.setIfInBounds_toArray, List.set_cons_zero, List.set_cons_succ]
      refine wpAnyH_take (i := 2) (v := ?_) rfl (by kernel_rfl) (by kernel_rfl) (by kernel_rfl) (fun _ _ _ h => h) (Or.inl ⟨by rfl, ?_⟩) (by assumption) ?_
      rotate_left
      focus (intro w hSw; have p0 : w.cell? ⟨A1, 0, none⟩ = some (.int .i64 (1 + (m : Int))) := hSw.a.cell 0; have p1 : w.cell? ⟨A1, 1, none⟩ = some (.int .i64 (X : Int)) := hSw.a.cell 1; have p2 : w.cell? ⟨A1 + 1, 0, none⟩ = some (.int .i64 (1 + (n : Int))) := hSw.b.cell 0; have p3 : w.cell? ⟨A1 + 1, 1, none⟩ = some (.int .i64 (Y : Int)) := hSw.b.cell 1; go_simp; first | done | with_reducible rfl)
      simp only [Act.put, List.getElem_toArray, List.getElem_cons_zero, List.getElem_cons_succ, List.setIfInBounds_toArray, List.set_cons_zero, List.set_cons_succ]
      refine wpAnyH_take (i := 5) (v := ?_) rfl (by kernel_rfl) (by kernel_rfl) (by kernel_rfl) (fun _ _ _ h => h) (Or.inl ⟨by rfl, ?_⟩) (by assumption) ?_
      rotate_left
      focus (intro w hSw; have p0 : w.cell? ⟨A1, 0, none⟩ = some (.int .i64 (1 + (m : Int))) := hSw.a.cell 0; have p1 : w.cell? ⟨A1, 1, none⟩ = some (.int .i64 (X : Int)) := hSw.a.cell 1; have p2 : w.cell? ⟨A1 + 1, 0, none⟩ = some (.int .i64 (1 + (n : Int))) := hSw.b.cell 0; have p3 : w.cell? ⟨A1 + 1, 1, none⟩ = some (.int .i64 (Y : Int)) := hSw.b.cell 1; go_simp; first | done | with_reducible rfl)
      simp only [Act.put, List.getElem_toArray, List.getElem_cons_zero, List.getElem_cons_succ, List.setIfInBounds_toArray, List.set_cons_zero, List.set_cons_succ]
      refine wpAnyH_take (i := 6) (v := ?_) rfl (by kernel_rfl) (by kernel_rfl) (by kernel_rfl) (fun _ _ _ h => h) (Or.inl ⟨by rfl, ?_⟩) (by assumption) ?_
      rotate_left
      focus (intro w hSw; have p0 : w.cell? ⟨A1, 0, none⟩ = some (.int .i64 (1 + (m : Int))) := hSw.a.cell 0; have p1 : w.cell? ⟨A1, 1, none⟩ = some (.int .i64 (X : Int)) := hSw.a.cell 1; have p2 : w.cell? ⟨A1 + 1, 0, none⟩ = some (.int .i64 (1 + (n : Int))) := hSw.b.cell 0; have p3 : w.cell? ⟨A1 + 1, 1, none⟩ = some (.int .i64 (Y : Int)) := hSw.b.cell 1; go_simp; first | done | with_reducible rfl)
      simp only [Act.put, List.getElem_toArray, List.getElem_cons_zero, List.getElem_cons_succ, List.setIfInBounds_toArray, List.set_cons_zero, List.set_cons_succ]
      refine wpAnyH_take (i := 7) (v := ?_) rfl (by kernel_rfl) (by kernel_rfl) (by kernel_rfl) (fun _ _ _ h => h) (Or.inl ⟨by rfl, ?_⟩) (by assumption) ?_
      rotate_left
      focus (intro w hSw; have p0 : w.cell? ⟨A1, 0, none⟩ = some (.int .i64 (1 + (m : Int))) := hSw.a.cell 0; have p1 : w.cell? ⟨A1, 1, none⟩ = some (.int .i64 (X : Int)) := hSw.a.cell 1; have p2 : w.cell? ⟨A1 + 1, 0, none⟩ = some (.int .i64 (1 + (n : Int))) := hSw.b.cell 0; have p3 : w.cell? ⟨A1 + 1, 1, none⟩ = some (.int .i64 (Y : Int)) := hSw.b.cell 1; go_simp; first | done | with_reducible rfl)
      simp only [Act.put, List.getElem_toArray, List.getElem_cons_zero, List.getElem_cons_succ, List.setIfInBounds_toArray, List.set_cons_zero, List.set_cons_succ]
      refine wpAnyH_ready (rs := [1]) (by kernel_rfl) (by simp) ?_
      refine AllReadyH.cons (o := _) rfl (fun K hK => ?_) AllReadyH.nil
      go_simp
      with_reducible refine (HD1.out _ hHeld).mono ?_
      rintro e z1 ⟨rfl, hz1⟩
      go_simp
      refine hK.out _ _ hz1 (fun hHeld => ?_)
      clear hK K
      try simp only [Act.put, List.getElem_toArray, List.getElem_cons_zero, List.getElem_cons_succ, List.setIfInBounds_toArray, List.set_cons_zero, List.set_cons_succ]
      refine wpAnyH_ready (rs := [3]) (by kernel_rfl) (by simp) ?_
      refine AllReadyH.cons (o := _) rfl (fun K hK => ?_) AllReadyH.nil
      go_simp
      with_reducible refine (HD2.out _ hHeld).mono ?_
      rintro e z1 ⟨rfl, hz1⟩
      go_simp
      refine hK.out _ _ hz1 (fun hHeld => ?_)
      clear hK K
      try simp only [Act.put, List.getElem_toArray, List.getElem_cons_zero, List.getElem_cons_succ, List.setIfInBounds_toArray, List.set_cons_zero, List.set_cons_succ]
      refine wpAnyH_take (i := 4) (v := ?_) rfl (by kernel_rfl) (by kernel_rfl) (by kernel_rfl) (fun _ _ _ h => h) (Or.inl ⟨by rfl, ?_⟩) (by assumption) ?_
      rotate_left
      focus (intro w hSw; have p0 : w.cell? ⟨A1, 0, none⟩ = some (.int .i64 (1 + (m : Int))) := hSw.a.cell 0; have p1 : w.cell? ⟨A1, 1, none⟩ = some (.int .i64 (X : Int)) := hSw.a.cell 1; have p2 : w.cell? ⟨A1 + 1, 0, none⟩ = some (.int .i64 (1 + (n : Int))) := hSw.b.cell 0; have p3 : w.cell? ⟨A1 + 1, 1, none⟩ = some (.int .i64 (Y : Int)) := hSw.b.cell 1; go_simp; first | done | with_reducible rfl)
      simp only [Act.put, List.getElem_toArray, List.getElem_cons_zero, List.getElem_cons_succ, List.setIfInBounds_toArray, List.set_cons_zero, List.set_cons_succ]
      refine wpAnyH_take (i := 8) (v := ?_) rfl (by kernel_rfl) (by kernel_rfl) (by kernel_rfl) (fun _ _ _ h => h) (Or.inl ⟨by rfl, ?_⟩) (by assumption) ?_
      rotate_left
      focus (intro w hSw; have p0 : w.cell? ⟨A1, 0, none⟩ = some (.int .i64 (1 + (m : Int))) := hSw.a.cell 0; have p1 : w.cell? ⟨A1, 1, none⟩ = some (.int .i64 (X : Int)) := hSw.a.cell 1; have p2 : w.cell? ⟨A1 + 1, 0, none⟩ = some (.int .i64 (1 + (n : Int))) := hSw.b.cell 0; have p3 : w.cell? ⟨A1 + 1, 1, none⟩ = some (.int .i64 (Y : Int)) := hSw.b.cell 1; go_simp; first | done | with_reducible rfl)
      simp only [Act.put, List.getElem_toArray, List.getElem_cons_zero, List.getElem_cons_succ, List.setIfInBounds_toArray, List.set_cons_zero, List.set_cons_succ]
      refine wpAnyH_take (i := 9) (v := ?_) rfl (by kernel_rfl) (by kernel_rfl) (by kernel_rfl) (fun _ _ _ h => h) (Or.inl ⟨by rfl, ?_⟩) (by assumption) ?_
      rotate_left
      focus (intro w hSw; have p0 : w.cell? ⟨A1, 0, none⟩ = some (.int .i64 (1 + (m : Int))) := hSw.a.cell 0; have p1 : w.cell? ⟨A1, 1, none⟩ = some (.int .i64 (X : Int)) := hSw.a.cell 1; have p2 : w.cell? ⟨A1 + 1, 0, none⟩ = some (.int .i64 (1 + (n : Int))) := hSw.b.cell 0; have p3 : w.cell? ⟨A1 + 1, 1, none⟩ = some (.int .i64 (Y : Int)) := hSw.b.cell 1; go_simp; first | done | with_reducible rfl)
      simp only [Act.put, List.getElem_toArray, List.getElem_cons_zero, List.getElem_cons_succ, List.setIfInBounds_toArray, List.set_cons_zero, List.set_cons_succ]
      refine wpAnyH_done (by kernel_rfl) ?_ _
      go_wp2
      go_ret
      exact ⟨rfl, hHeld.below⟩
  · have e1 : (X : Int) = 0 := by rw [HXY.out.1, if_pos (by simpa using q1)]; rfl
    have e2 : (Y : Int) = (y' : Int) := by rw [HXY.out.2, if_neg (by simpa using q2)]
    have E1 := Lib.hid e1
    have E2 := Lib.hid e2
    clear e1 e2
    have r2 : (P2 == 0) = false := by simpa using q2
    clear q2
    go_enter Tryd.func6, Tryd.ntmps6
    go_wp2_with fail
    refine (head7 w (HT.out _ (Below.refl _ _)) (HP.out _ (Below.refl _ _))).mono ?_
    rintro e w1 ⟨rfl, hb⟩
    have HT2 : Hid (∀ o o', TabR ((w1.alloc o).alloc o')) := Lib.hid (fun o o' => (HT.out _ hb).below ((below1 w1 o).trans ((below1 _ o').mono (by simp))))
    go_wp2_with (first
      | (go_at_call 10; (with_reducible refine (HO1.out _ ?_).mono ?_); exact (HT2.out _ _); rintro e w' ⟨rfl, rfl⟩)
      | (go_at_call 10; (with_reducible refine (HO2.out _ ?_).mono ?_); exact (HT2.out _ _); rintro e w' ⟨rfl, rfl⟩))
    obtain ⟨Z, HZ⟩ : ∃ Z, Hid (Z = (w1.alloc (.cells #[.int .i64 (1 + (m : Int)), .int .i64 0] 34)).alloc (.cells #[.int .i64 (1 + (n : Int)), .int .i64 (y' : Int)] 34)) := ⟨_, Lib.hid rfl⟩
    have HS : Hid (TxS w w1.heap.size (1 + (m : Int)) (X : Int) (1 + (n : Int)) (Y : Int) Z.drew) := Lib.hid (by
      rw [E1.out, E2.out, HZ.out]
      exact TxS.drew ⟨(Blk.new w1 [.int .i64 (1 + (m : Int)), .int .i64 0] 34).below (below1 _ _), by have := Blk.new (w1.alloc (.cells #[.int .i64 (1 + (m : Int)), .int .i64 0] 34)) [.int .i64 (1 + (n : Int)), .int .i64 (y' : Int)] 34; simpa using this, (hb.alloc hb.size _).alloc (by have := hb.size; simp; omega) _⟩)
    rw [← HZ.out]
    have HD1 := Lib.hid (HC1.out w1.heap.size)
    have HD2 := Lib.hid (HC2.out w1.heap.size)
    clear HZ hb HT2 HO1 HO2 E1 E2 HXY HT HP em en ex ey
    generalize w1.heap.size = A1 at *
    have Q0 := HB.out
    clear HB HC1 HC2
    have hcase : (m = n ∧ X = Y) ∨ (m = n ∧ ¬ ((X : Int) = (Y : Int))) ∨ ¬ ((m : Int) = (n : Int)) := by omega
    rcases hcase with ⟨rfl, rfl⟩ | ⟨rfl, hxy⟩ | hmn
    · have Q1 : (T1.toList == T2.toList) = true := by rw [Q0]; simp
      clear Q0
      refine wp_region_held_drew (S := fun z => TxS w A1 (1 + (m : Int)) (X : Int) (1 + (m : Int)) (X : Int) z) (by kernel_rfl) ?_ (fun hHeld => ?_)
      · exact HS.out
      refine wpAnyH_take (i := 0) (v := ?_) rfl (by kernel_rfl) (by kernel_rfl) (by kernel_rfl) (fun _ _ _ h => h) (Or.inl ⟨by rfl, ?_⟩) (by assumption) ?_
      rotate_left
      focus (intro w hSw; have p0 : w.cell? ⟨A1, 0, none⟩ = some (.int .i64 (1 + (m : Int))) := hSw.a.cell 0; have p1 : w.cell? ⟨A1, 1, none⟩ = some (.int .i64 (X : Int)) := hSw.a.cell 1; have p2 : w.cell? ⟨A1 + 1, 0, none⟩ = some (.int .i64 (1 + (m : Int))) := hSw.b.cell 0; have p3 : w.cell? ⟨A1 + 1, 1, none⟩ = some (.int .i64 (X : Int)) := hSw.b.cell 1; go_simp; first | done | with_reducible rfl)
      simp only [Act.put, List.getElem_toArray, List.getElem_cons_zero, List.setIfInBounds_toArray, List.set_cons_zero, List.set_cons_succ]
      refine wpAnyH_take (i := 2) (v := ?_) rfl (by kernel_rfl) (by kernel_rfl) (by kernel_rfl) (fun _ _ _ h => h) (Or.inl ⟨by rfl, ?_⟩) (by assumption) ?_
      rotate_left
      focus (intro w hSw; have p0 : w.cell? ⟨A1, 0, none⟩ = some (.int .i64 (1 + (m : Int))) := hSw.a.cell 0; have p1 : w.cell? ⟨A1, 1, none⟩ = some (.int .i64 (X : Int)) := hSw.a.cell 1; have p2 : w.cell? ⟨A1 + 1, 0, none⟩ = some (.int .i64 (1 + (m : Int))) := hSw.b.cell 0; have p3 : w.cell? ⟨A1 + 1, 1, none⟩ = some (.int .i64 (X : Int)) := hSw.b.cell 1; go_simp; first | done | with_reducible rfl)
      simp only [Act.put, List.getElem_toArray, List.getElem_cons_zero, List.getElem_cons_succ, List.setIfInBounds_toArray, List.set_cons_zero, List.set_cons_succ]
      refine wpAnyH_take (i := 5) (v := ?_) rfl (by kernel_rfl) (by kernel_rfl) (by kernel_rfl) (fun _ _ _ h => h) (Or.inl ⟨by rfl, ?_⟩) (by assumption) ?_
      rotate_left
      focus (intro w hSw; have p0 : w.cell? ⟨A1, 0, none⟩ = some (.int .i64 (1 + (m : Int))) := hSw.a.cell 0; have p1 : w.cell? ⟨A1, 1, none⟩ = some (.int .i64 (X : Int)) := hSw.a.cell 1; have p2 : w.cell? ⟨A1 + 1, 0, none⟩ = some (.int .i64 (1 + (m : Int))) := hSw.b.cell 0; have p3 : w.cell? ⟨A1 + 1, 1, none⟩ = some (.int .i64 (X : Int)) := hSw.b.cell 1; go_simp; first | done | with_reducible rfl)
      simp only [Act.put, List.getElem_toArray, List.getElem_cons_zero, List.getElem_cons_succ, List.setIfInBounds_toArray, List.set_cons_zero, List.set_cons_succ]
      refine wpAnyH_take (i := 6) (v := ?_) rfl (by kernel_rfl) (by kernel_rfl) (by kernel_rfl) (fun _ _ _ h => h) (Or.inl ⟨by rfl, ?_⟩) (by assumption) ?_
      rotate_left
      focus (intro w hSw; have p0 : w.cell? ⟨A1, 0, none⟩ = some (.int .i64 (1 + (m : Int))) := hSw.a.cell 0; have p1 : w.cell? ⟨A1, 1, none⟩ = some (.int .i64 (X : Int)) := hSw.a.cell 1; have p2 : w.cell? ⟨A1 + 1, 0, none⟩ = some (.int .i64 (1 + (m : Int))) := hSw.b.cell 0; have p3 : w.cell? ⟨A1 + 1, 1, none⟩ = some (.int .i64 (X : Int)) := hSw.b.cell 1; go_simp; first | done | with_reducible rfl)
      simp only [Act.put, List.getElem_toArray, List.getElem_cons_zero, List.getElem_cons_succ, List.setIfInBounds_toArray, List.set_cons_zero, List.set_cons_succ]
      refine wpAnyH_take (i := 7) (v := ?_) rfl (by kernel_rfl) (by kernel_rfl) (by kernel_rfl) (fun _ _ _ h => h) (Or.inl ⟨by rfl, ?_⟩) (by assumption) ?_
      rotate_left
      focus (intro w hSw; have p0 : w.cell? ⟨A1, 0, none⟩ = some (.int .i64 (1 + (m : Int))) := hSw.a.cell 0; have p1 : w.cell? ⟨A1, 1, none⟩ = some (.int .i64 (X : Int)) := hSw.a.cell 1; have p2 : w.cell? ⟨A1 + 1, 0, none⟩ = some (.int .i64 (1 + (m : Int))) := hSw.b.cell 0; have p3 : w.cell? ⟨A1 + 1, 1, none⟩ = some (.int .i64 (X : Int)) := hSw.b.cell 1; go_simp; first | done | with_reducible rfl)
      simp only [Act.put, List.getElem_toArray, List.getElem_cons_zero, List.getElem_cons_succ, List.setIfInBounds_toArray, List.set_cons_zero, List.set_cons_succ]
      refine wpAnyH_ready (rs := [1]) (by kernel_rfl) (by simp) ?_
      refine AllReadyH.cons (o := _) rfl (fun K hK => ?_) AllReadyH.nil
      go_simp
      with_reducible refine (HD1.out _ hHeld).mono ?_
      rintro e z1 ⟨rfl, hz1⟩
      go_simp
      refine hK.out _ _ hz1 (fun hHeld => ?_)
      clear hK K
      try simp only [Act.put, List.getElem_toArray, List.getElem_cons_zero, List.getElem_cons_succ, List.setIfInBounds_toArray, List.set_cons_zero, List.set_cons_succ]
      refine wpAnyH_ready (rs := [3]) (by kernel_rfl) (by simp) ?_
      refine AllReadyH.cons (o := _) rfl (fun K hK => ?_) AllReadyH.nil
      go_simp
      with_reducible refine (HD2.out _ hHeld).mono ?_
      rintro e z1 ⟨rfl, hz1⟩
      go_simp
      refine hK.out _ _ hz1 (fun hHeld => ?_)
      clear hK K
      try simp only [Act.put, List.getElem_toArray, List.getElem_cons_zero, List.getElem_cons_succ, List.setIfInBounds_toArray, List.set_cons_zero, List.set_cons_succ]
      refine wpAnyH_take (i := 4) (v := ?_) rfl (by kernel_rfl) (by kernel_rfl) (by kernel_rfl) (fun _ _ _ h => h) (Or.inl ⟨by rfl, ?_⟩) (by assumption) ?_
      rotate_left
      focus (intro w hSw; have p0 : w.cell? ⟨A1, 0, none⟩ = some (.int .i64 (1 + (m : Int))) := hSw.a.cell 0; have p1 : w.cell? ⟨A1, 1, none⟩ = some (.int .i64 (X : Int)) := hSw.a.cell 1; have p2 : w.cell? ⟨A1 + 1, 0, none⟩ = some (.int .i64 (1 + (m : Int))) := hSw.b.cell 0; have p3 : w.cell? ⟨A1 + 1, 1, none⟩ = some (.int .i64 (X : Int)) := hSw.b.cell 1; go_simp; first | done | with_reducible rfl)
      simp only [Act.put, List.getElem_toArray, List.getElem_cons_zero, List.getElem_cons_succ, List.setIfInBounds_toArray, List.set_cons_zero, List.set_cons_succ]
      refine wpAnyH_take (i := 8) (v := ?_) rfl (by kernel_rfl) (by kernel_rfl) (by kernel_rfl) (fun _ _ _ h => h) (Or.inl ⟨by rfl, ?_⟩) (by assumption) ?_
      rotate_left
      focus (intro w hSw; have p0 : w.cell? ⟨A1, 0, none⟩ = some (.int .i64 (1 + (m : Int))) := hSw.a.cell 0; have p1 : w.cell? ⟨A1, 1, none⟩ = some (.int .i64 (X : Int)) := hSw.a.cell 1; have p2 : w.cell? ⟨A1 + 1, 0, none⟩ = some (.int .i64 (1 + (m : Int))) := hSw.b.cell 0; have p3 : w.cell? ⟨A1 + 1, 1, none⟩ = some (.int .i64 (X : Int)) := hSw.b.cell 1; go_simp; first | done | with_reducible rfl)
      simp only [Act.put, List.getElem_toArray, List.getElem_cons_zero, List.getElem_cons_succ, List.setIfInBounds_toArray, List.set_cons_zero, List.set_cons_succ]
      refine wpAnyH_take (i := 9) (v := ?_) rfl (by kernel_rfl) (by kernel_rfl) (by kernel_rfl) (fun _ _ _ h => h) (Or.inl ⟨by rfl, ?_⟩) (by assumption) ?_
      rotate_left
      focus (intro w hSw; have p0 : w.cell? ⟨A1, 0, none⟩ = some (.int .i64 (1 + (m : Int))) := hSw.a.cell 0; have p1 : w.cell? ⟨A1, 1, none⟩ = some (.int .i64 (X : Int)) := hSw.a.cell 1; have p2 : w.cell? ⟨A1 + 1, 0, none⟩ = some (.int .i64 (1 + (m : Int))) := hSw.b.cell 0; have p3 : w.cell? ⟨A1 + 1, 1, none⟩ = some (.int .i64 (X : Int)) := hSw.b.cell 1; go_simp; first | done | with_reducible rfl)
      simp only [Act.put, List.getElem_toArray, List.getElem_cons_zero, List.getElem_cons_succ, List.setIfInBounds_toArray, List.set_cons_zero, List.set_cons_succ]
      refine wpAnyH_done (by kernel_rfl) ?_ _
      go_wp2
      go_ret
      exact ⟨rfl, hHeld.below⟩
    · have Q1 : (T1.toList == T2.toList) = false := by rw [Q0]; simp [hxy]
      clear Q0
      refine wp_region_held_drew (S := fun z => TxS w A1 (1 + (m : Int)) (X : Int) (1 + (m : Int)) (Y : Int) z) (by kernel_rfl) ?_ (fun hHeld => ?_)
      · exact HS.out
      refine wpAnyH_take (i := 0) (v := ?_) rfl (by kernel_rfl) (by kernel_rfl) (by kernel_rfl) (fun _ _ _ h => h) (Or.inl ⟨by rfl, ?_⟩) (by assumption) ?_
      rotate_left
      focus (intro w hSw; have p0 : w.cell? ⟨A1, 0, none⟩ = some (.int .i64 (1 + (m : Int))) := hSw.a.cell 0; have p1 : w.cell? ⟨A1, 1, none⟩ = some (.int .i64 (X : Int)) := hSw.a.cell 1; have p2 : w.cell? ⟨A1 + 1, 0, none⟩ = some (.int .i64 (1 + (m : Int))) := hSw.b.cell 0; have p3 : w.cell? ⟨A1 + 1, 1, none⟩ = some (.int .i64 (Y : Int)) := hSw.b.cell 1; go_simp; first | done | with_reducible rfl)
      simp only [Act.put, List.getElem_toArray, List.getElem_cons_zero, List.setIfInBounds_toArray, List.set_cons_zero, List.set_cons_succ]
      refine wpAnyH_take (i := 2) (v := ?_) rfl (by kernel_rfl) (by kernel_rfl) (by kernel_rfl) (fun _ _ _ h => h) (Or.inl ⟨by rfl, ?_⟩) (by assumption) ?_
      rotate_left
      focus (intro w hSw; have p0 : w.cell? ⟨A1, 0, none⟩ = some (.int .i64 (1 + (m : Int))) := hSw.a.cell 0; have p1 : w.cell? ⟨A1, 1, none⟩ = some (.int .i64 (X : Int)) := hSw.a.cell 1; have p2 : w.cell? ⟨A1 + 1, 0, none⟩ = some (.int .i64 (1 + (m : Int))) := hSw.b.cell 0; have p3 : w.cell? ⟨A1 + 1, 1, none⟩ = some (.int .i64 (Y : Int)) := hSw.b.cell 1; go_simp; first | done | with_reducible rfl)
      simp only [Act.put, List.getElem_toArray, List.getElem_cons_zero, List.getElem_cons_succ, List.setIfInBounds_toArray, List.set_cons_zero, List.set_cons_succ]
      refine wpAnyH_take (i := 5) (v := ?_) rfl (by kernel_rfl) (by kernel_rfl) (by kernel_rfl) (fun _ _ _ h => h) (Or.inl ⟨by rfl, ?_⟩) (by assumption) ?_
      rotate_left
      focus (intro w hSw; have p0 : w.cell? ⟨A1, 0, none⟩ = some (.int .i64 (1 + (m : Int))) := hSw.a.cell 0; have p1 : w.cell? ⟨A1, 1, none⟩ = some (.int .i64 (X : Int)) := hSw.a.cell 1; have p2 : w.cell? ⟨A1 + 1, 0, none⟩ = some (.int .i64 (1 + (m : Int))) := hSw.b.cell 0; have p3 : w.cell? ⟨A1 + 1, 1, none⟩ = some (.int .i64 (Y : Int)) := hSw.b.cell 1; go_simp; first | done | with_reducible rfl)
      simp only [Act.put, List.getElem_toArray, List.getElem_cons_zero, List.getElem_cons_succ, List.setIfInBounds_toArray, List.set_cons_zero, List.set_cons_succ]
      refine wpAnyH_take (i := 6) (v := ?_) rfl (by kernel_rfl) (by kernel_rfl) (by kernel_rfl) (fun _ _ _ h => h) (Or.inl ⟨by rfl, ?_⟩) (by assumption) ?_
      rotate_left
      focus (intro w hSw; have p0 : w.cell? ⟨A1, 0, none⟩ = some (.int .i64 (1 + (m : Int))) := hSw.a.cell 0; have p1 : w.cell? ⟨A1, 1, none⟩ = some (.int .i64 (X : Int)) := hSw.a.cell 1; have p2 : w.cell? ⟨A1 + 1, 0, none⟩ = some (.int .i64 (1 + (m : Int))) := hSw.b.cell 0; have p3 : w.cell? ⟨A1 + 1, 1, none⟩ = some (.int .i64 (Y : Int)) := hSw.b.cell 1; go_simp; first | done | with_reducible rfl)
      simp only [Act.put, List.getElem_toArray, List.getElem_cons_zero, List.getElem_cons_succ, List.setIfInBounds_toArray, List.set_cons_zero, List.set_cons_succ]
      refine wpAnyH_take (i := 7) (v := ?_) rfl (by kernel_rfl) (by kernel_rfl) (by kernel_rfl) (fun _ _ _ h => h) (Or.inl ⟨by rfl, ?_⟩) (by assumption) ?_
      rotate_left
      focus (intro w hSw; have p0 : w.cell? ⟨A1, 0, none⟩ = some (.int .i64 (1 + (m : Int))) := hSw.a.cell 0; have p1 : w.cell? ⟨A1, 1, none⟩ = some (.int .i64 (X : Int)) := hSw.a.cell 1; have p2 : w.cell? ⟨A1 + 1, 0, none⟩ = some (.int .i64 (1 + (m : Int))) := hSw.b.cell 0; have p3 : w.cell? ⟨A1 + 1, 1, none⟩ = some (.int .i64 (Y : Int)) := hSw.b.cell 1; go_simp; first | done | with_reducible rfl)
      simp only [Act.put, List.getElem_toArray, List.getElem_cons_zero, List.getElem_cons_succ, List.setIfInBounds_toArray, List.set_cons_zero, List.set_cons_succ]
      refine wpAnyH_ready (rs := [1]) (by kernel_rfl) (by simp) ?_
      refine AllReadyH.cons (o := _) rfl (fun K hK => ?_) AllReadyH.nil
      go_simp
      with_reducible refine (HD1.out _ hHeld).mono ?_
      rintro e z1 ⟨rfl, hz1⟩
      go_simp
      refine hK.out _ _ hz1 (fun hHeld => ?_)
      clear hK K
      try simp only [Act.put, List.getElem_toArray, List.getElem_cons_zero, List.getElem_cons_succ, List.setIfInBounds_toArray, List.set_cons_zero, List.set_cons_succ]
      refine wpAnyH_ready (rs := [3]) (by kernel_rfl) (by simp) ?_
      refine AllReadyH.cons (o := _) rfl (fun K hK => ?_) AllReadyH.nil
      go_simp
      with_reducible refine (HD2.out _ hHeld).mono ?_
      rintro e z1 ⟨rfl, hz1⟩
      go_simp
      refine hK.out _ _ hz1 (fun hHeld => ?_)
      clear hK K
      try simp only [Act.put, List.getElem_toArray, List.getElem_cons_zero, List.getElem_cons_succ, List.setIfInBounds_toArray, List.set_cons_zero, List.set_cons_succ]
      refine wpAnyH_take (i := 4) (v := ?_) rfl (by kernel_rfl) (by kernel_rfl) (by kernel_rfl) (fun _ _ _ h => h) (Or.inl ⟨by rfl, ?_⟩) (by assumption) ?_
      rotate_left
      focus (intro w hSw; have p0 : w.cell? ⟨A1, 0, none⟩ = some (.int .i64 (1 + (m : Int))) := hSw.a.cell 0; have p1 : w.cell? ⟨A1, 1, none⟩ = some (.int .i64 (X : Int)) := hSw.a.cell 1; have p2 : w.cell? ⟨A1 + 1, 0, none⟩ = some (.int .i64 (1 + (m : Int))) := hSw.b.cell 0; have p3 : w.cell? ⟨A1 + 1, 1, none⟩ = some (.int .i64 (Y : Int)) := hSw.b.cell 1; go_simp; first | done | with_reducible rfl)
      simp only [Act.put, List.getElem_toArray, List.getElem_cons_zero, List.getElem_cons_succ, List.setIfInBounds_toArray, List.set_cons_zero, List.set_cons_succ]
      refine wpAnyH_take (i := 8) (v := ?_) rfl (by kernel_rfl) (by kernel_rfl) (by kernel_rfl) (fun _ _ _ h => h) (Or.inl ⟨by rfl, ?_⟩) (by assumption) ?_
      rotate_left
      focus (intro w hSw; have p0 : w.cell? ⟨A1, 0, none⟩ = some (.int .i64 (1 + (m : Int))) := hSw.a.cell 0; have p1 : w.cell? ⟨A1, 1, none⟩ = some (.int .i64 (X : Int)) := hSw.a.cell 1; have p2 : w.cell? ⟨A1 + 1, 0, none⟩ = some (.int .i64 (1 + (m : Int))) := hSw.b.cell 0; have p3 : w.cell? ⟨A1 + 1, 1, none⟩ = some (.int .i64 (Y : Int)) := hSw.b.cell 1; go_simp; first | done | with_reducible rfl)
      simp only [Act.put, List.getElem_toArray, List.getElem_cons_zero, List.getElem_cons_succ, List.setIfInBounds_toArray, List.set_cons_zero, List.set_cons_succ]
      refine wpAnyH_take (i := 9) (v := ?_) rfl (by kernel_rfl) (by kernel_rfl) (by kernel_rfl) (fun _ _ _ h => h) (Or.inl ⟨by rfl, ?_⟩) (by assumption) ?_
      rotate_left
      focus (intro w hSw; have p0 : w.cell? ⟨A1, 0, none⟩ = some (.int .i64 (1 + (m : Int))) := hSw.a.cell 0; have p1 : w.cell? ⟨A1, 1, none⟩ = some (.int .i64 (X : Int)) := hSw.a.cell 1; have p2 : w.cell? ⟨A1 + 1, 0, none⟩ = some (.int .i64 (1 + (m : Int))) := hSw.b.cell 0; have p3 : w.cell? ⟨A1 + 1, 1, none⟩ = some (.int .i64 (Y : Int)) := hSw.b.cell 1; go_simp; first | done | with_reducible rfl)
      simp only [Act.put, List.getElem_toArray, List.getElem_cons_zero, List.getElem_cons_succ, List.setIfInBounds_toArray, List.set_cons_zero, List.set_cons_succ]
      refine wpAnyH_done (by kernel_rfl) ?_ _
      go_wp2
      go_ret
      exact ⟨rfl, hHeld.below⟩
    · have Q1 : (T1.toList == T2.toList) = false := by rw [Q0]; simp [hmn]
      clear Q0
      refine wp_region_held_drew (S := fun z => TxS w A1 (1 + (m : Int)) (X : Int) (1 + (n : Int)) (Y : Int) z) (by kernel_rfl) ?_ (fun hHeld => ?_)
      · exact HS.out
      refine wpAnyH_take (i := 0) (v := ?_) rfl (by kernel_rfl) (by kernel_rfl) (by kernel_rfl) (fun _ _ _ h => h) (Or.inl ⟨by rfl, ?_⟩) (by assumption) ?_
      rotate_left
      focus (intro w hSw; have p0 : w.cell? ⟨A1, 0, none⟩ = some (.int .i64 (1 + (m : Int))) := hSw.a.cell 0; have p1 : w.cell? ⟨A1, 1, none⟩ = some (.int .i64 (X : Int)) := hSw.a.cell 1; have p2 : w.cell? ⟨A1 + 1, 0, none⟩ = some (.int .i64 (1 + (n : Int))) := hSw.b.cell 0; have p3 : w.cell? ⟨A1 + 1, 1, none⟩ = some (.int .i64 (Y : Int)) := hSw.b.cell 1; go_simp; first | done | with_reducible rfl)
      simp only [Act.put, List.getElem_toArray, List.getElem_cons_zero, List.setIfInBounds_toArray, List.set_cons_zero, List.set_cons_succ]
      refine wpAnyH_take (i := 2) (v := ?_) rfl (by kernel_rfl) (by kernel_rfl) (by kernel_rfl) (fun _ _ _ h => h) (Or.inl ⟨by rfl, ?_⟩) (by assumption) ?_
      rotate_left
      focus (intro w hSw; have p0 : w.cell? ⟨A1, 0, none⟩ = some (.int .i64 (1 + (m : Int))) := hSw.a.cell 0; have p1 : w.cell? ⟨A1, 1, none⟩ = some (.int .i64 (X : Int)) := hSw.a.cell 1; have p2 : w.cell? ⟨A1 + 1, 0, none⟩ = some (.int .i64 (1 + (n : Int))) := hSw.b.cell 0; have p3 : w.cell? ⟨A1 + 1, 1, none⟩ = some (.int .i64 (Y : Int)) := hSw.b.cell 1; go_simp; first | done | with_reducible rfl)
      simp only [Act.put, List.getElem_toArray, List.getElem_cons_zero, List.getElem_cons_succ, List.setIfInBounds_toArray, List.set_cons_zero, List.set_cons_succ]
      refine wpAnyH_take (i := 5) (v := ?_) rfl (by kernel_rfl) (by kernel_rfl) (by kernel_rfl) (fun _ _ _ h => h) (Or.inl ⟨by rfl, ?_⟩) (by assumption) ?_
      rotate_left
      focus (intro w hSw; have p0 : w.cell? ⟨A1, 0, none⟩ = some (.int .i64 (1 + (m : Int))) := hSw.a.cell 0; have p1 : w.cell? ⟨A1, 1, none⟩ = some (.int .i64 (X : Int)) := hSw.a.cell 1; have p2 : w.cell? ⟨A1 + 1, 0, none⟩ = some (.int .i64 (1 + (n : Int))) := hSw.b.cell 0; have p3 : w.cell? ⟨A1 + 1, 1, none⟩ = some (.int .i64 (Y : Int)) := hSw.b.cell 1; go_simp; first | done | with_reducible rfl)
      simp only [Act.put, List.getElem_toArray, List.getElem_cons_zero, List.getElem_cons_succ, List.setIfInBounds_toArray, List.set_cons_zero, List.set_cons_succ]
      refine wpAnyH_take (i := 6) (v := ?_) rfl (by kernel_rfl) (by kernel_rfl) (by kernel_rfl) (fun _ _ _ h => h) (Or.inl ⟨by rfl, ?_⟩) (by assumption) ?_
      rotate_left
      focus (intro w hSw; have p0 : w.cell? ⟨A1, 0, none⟩ = some (.int .i64 (1 + (m : Int))) := hSw.a.cell 0; have p1 : w.cell? ⟨A1, 1, none⟩ = some (.int .i64 (X : Int)) := hSw.a.cell 1; have p2 : w.cell? ⟨A1 + 1, 0, none⟩ = some (.int .i64 (1 + (n : Int))) := hSw.b.cell 0; have p3 : w.cell? ⟨A1 + 1, 1, none⟩ = some (.int .i64 (Y : Int)) := hSw.b.cell 1; go_simp; first | done | with_reducible rfl)
      simp only [Act.put, List.getElem_toArray, List.getElem_cons_zero, List.getElem_cons_succ, List.setIfInBounds_toArray, List.set_cons_zero, List.set_cons_succ]
      refine wpAnyH_take (i := 7) (v := ?_) rfl (by kernel_rfl) (by kernel_rfl) (by kernel_rfl) (fun _ _ _ h => h) (Or.inl ⟨by rfl, ?_⟩) (by assumption) ?_
      rotate_left
      focus (intro w hSw; have p0 : w.cell? ⟨A1, 0, none⟩ = some (.int .i64 (1 + (m : Int))) := hSw.a.cell 0; have p1 : w.cell? ⟨A1, 1, none⟩ = some (.int .i64 (X : Int)) := hSw.a.cell 1; have p2 : w.cell? ⟨A1 + 1, 0, none⟩ = some (.int .i64 (1 + (n : Int))) := hSw.b.cell 0; have p3 : w.cell? ⟨A1 + 1, 1, none⟩ = some (.int .i64 (Y : Int)) := hSw.b.cell 1; go_simp; first | done | with_reducible rfl)
      simp only [Act.put, List.getElem_toArray, List.getElem_cons_zero, List.getElem_cons_succ, List.setIfInBounds_toArray, List.set_cons_zero, List.set_cons_succ]
      refine wpAnyH_ready (rs := [1]) (by kernel_rfl) (by simp) ?_
      refine AllReadyH.cons (o := _) rfl (fun K hK => ?_) AllReadyH.nil
      go_simp
      with_reducible refine (HD1.out _ hHeld).mono ?_
      rintro e z1 ⟨rfl, hz1⟩
      go_simp
      refine hK.out _ _ hz1 (fun hHeld => ?_)
      clear hK K
      try simp only [Act.put, List.getElem_toArray, List.getElem_cons_zero, List.getElem_cons_succ, List.setIfInBounds_toArray, List.set_cons_zero, List.set_cons_succ]
      refine wpAnyH_ready (rs := [3]) (by kernel_rfl) (by simp) ?_
      refine AllReadyH.cons (o := _) rfl (fun K hK => ?_) AllReadyH.nil
      go_simp
      with_reducible refine (HD2.out _ hHeld).mono ?_
      rintro e z1 ⟨rfl, hz1⟩
      go_simp
      refine hK.out _ _ hz1 (fun hHeld => ?_)
      clear hK K
      try simp only [Act.put, List.getElem_toArray, List.getElem_cons_zero, List.getElem_cons_succ, List.setIfInBounds_toArray, List.set_cons_zero, List.set_cons_succ]
      refine wpAnyH_take (i := 4) (v := ?_) rfl (by kernel_rfl) (by kernel_rfl) (by kernel_rfl) (fun _ _ _ h => h) (Or.inl ⟨by rfl, ?_⟩) (by assumption) ?_
      rotate_left
      focus (intro w hSw; have p0 : w.cell? ⟨A1, 0, none⟩ = some (.int .i64 (1 + (m : Int))) := hSw.a.cell 0; have p1 : w.cell? ⟨A1, 1, none⟩ = some (.int .i64 (X : Int)) := hSw.a.cell 1; have p2 : w.cell? ⟨A1 + 1, 0, none⟩ = some (.int .i64 (1 + (n : Int))) := hSw.b.cell 0; have p3 : w.cell? ⟨A1 + 1, 1, none⟩ = some (.int .i64 (Y : Int)) := hSw.b.cell 1; go_simp; first | done | with_reducible rfl)
      simp only [Act.put, List.getElem_toArray, List.getElem_cons_zero, List.getElem_cons_succ, List.setIfInBounds_toArray, List.set_cons_zero, List.set_cons_succ]
      refine wpAnyH_take (i := 8) (v := ?_) rfl (by kernel_rfl) (by kernel_rfl) (by kernel_rfl) (fun _ _ _ h => h) (Or.inl ⟨by rfl, ?_⟩) (by assumption) ?_
      rotate_left
      focus (intro w hSw; have p0 : w.cell? ⟨A1, 0, none⟩ = some (.int .i64 (1 + (m : Int))) := hSw.a.cell 0; have p1 : w.cell? ⟨A1, 1, none⟩ = some (.int .i64 (X : Int)) := hSw.a.cell 1; have p2 : w.cell? ⟨A1 + 1, 0, none⟩ = some (.int .i64 (1 + (n : Int))) := hSw.b.cell 0; have p3 : w.cell? ⟨A1 + 1, 1, none⟩ = some (.int .i64 (Y : Int)) := hSw.b.cell 1; go_simp; first | done | with_reducible rfl)
      simp only [Act.put, List.getElem_toArray, List.getElem_cons_zero, List.getElem_cons_succ, List.setIfInBounds_toArray, List.set_cons_zero, List.set_cons_succ]
      refine wpAnyH_take (i := 9) (v := ?_) rfl (by kernel_rfl) (by kernel_rfl) (by kernel_rfl) (fun _ _ _ h => h) (Or.inl ⟨by rfl, ?_⟩) (by assumption) ?_
      rotate_left
      focus (intro w hSw; have p0 : w.cell? ⟨A1, 0, none⟩ = some (.int .i64 (1 + (m : Int))) := hSw.a.cell 0; have p1 : w.cell? ⟨A1, 1, none⟩ = some (.int .i64 (X : Int)) := hSw.a.cell 1; have p2 : w.cell? ⟨A1 + 1, 0, none⟩ = some (.int .i64 (1 + (n : Int))) := hSw.b.cell 0; have p3 : w.cell? ⟨A1 + 1, 1, none⟩ = some (.int .i64 (Y : Int)) := hSw.b.cell 1; go_simp; first | done | with_reducible rfl)
      simp only [Act.put, List.getElem_toArray, List.getElem_cons_zero, List.getElem_cons_succ, List.setIfInBounds_toArray, List.set_cons_zero, List.set_cons_succ]
      refine wpAnyH_done (by kernel_rfl) ?_ _
      go_wp2
      go_ret
      exact ⟨rfl, hHeld.below⟩
  · have e1 : (X : Int) = (x' : Int) := by rw [HXY.out.1, if_neg (by simpa using q1)]
    have e2 : (Y : Int) = 0 := by rw [HXY.out.2, if_pos (by simpa using q2)]; rfl
    have E1 := Lib.hid e1
    have E2 := Lib.hid e2
    clear e1 e2
    have r1 : (P1 == 0) = false := by simpa using q1
    clear q1
    go_enter Tryd.func6, Tryd.ntmps6
    go_wp2_with fail
    refine (head7 w (HT.out _ (Below.refl _ _)) (HP.out _ (Below.refl _ _))).mono ?_
    rintro e w1 ⟨rfl, hb⟩
    have HT2 : Hid (∀ o o', TabR ((w1.alloc o).alloc o')) := Lib.hid (fun o o' => (HT.out _ hb).below ((below1 w1 o).trans ((below1 _ o').mono (by simp))))
    go_wp2_with (first
      | (go_at_call 10; (with_reducible refine (HO1.out _ ?_).mono ?_); exact (HT2.out _ _); rintro e w' ⟨rfl, rfl⟩)
      | (go_at_call 10; (with_reducible refine (HO2.out _ ?_).mono ?_); exact (HT2.out _ _); rintro e w' ⟨rfl, rfl⟩))
    obtain ⟨Z, HZ⟩ : ∃ Z, Hid (Z = (w1.alloc (.cells #[.int .i64 (1 + (m : Int)), .int .i64 (x' : Int)] 34)).alloc (.cells #[.int .i64 (1 + (n : Int)), .int .i64 0] 34)) := ⟨_, Lib.hid rfl⟩
    have HS : Hid (TxS w w1.heap.size (1 + (m : Int)) (X : Int) (1 + (n : Int)) (Y : Int) Z.drew) := Lib.hid (by
      rw [E1.out, E2.out, HZ.out]
      exact TxS.drew ⟨(Blk.new w1 [.int .i64 (1 + (m : Int)), .int .i64 (x' : Int)] 34).below (below1 _ _), by have := Blk.new (w1.alloc (.cells #[.int .i64 (1 + (m : Int)), .int .i64 (x' : Int)] 34)) [.int .i64 (1 + (n : Int)), .int .i64 0] 34; simpa using this, (hb.alloc hb.size _).alloc (by have := hb.size; simp; omega) _⟩)
    rw [← HZ.out]
    have HD1 := Lib.hid (HC1.out w1.heap.size)
    have HD2 := Lib.hid (HC2.out w1.heap.size)
    clear HZ hb HT2 HO1 HO2 E1 E2 HXY HT HP em en ex ey
    generalize w1.heap.size = A1 at *
    have Q0 := HB.out
    clear HB HC1 HC2
    have hcase : (m = n ∧ X = Y) ∨ (m = n ∧ ¬ ((X : Int) = (Y : Int))) ∨ ¬ ((m : Int) = (n : Int)) := by omega
    rcases hcase with ⟨rfl, rfl⟩ | ⟨rfl, hxy⟩ | hmn
    · have Q1 : (T1.toList == T2.toList) = true := by rw [Q0]; simp
      clear Q0
      refine wp_region_held_drew (S := fun z => TxS w A1 (1 + (m : Int)) (X : Int) (1 + (m : Int)) (X : Int) z) (by kernel_rfl) ?_ (fun hHeld => ?_)
      · exact HS.out
      refine wpAnyH_take (i := 0) (v := ?_) rfl (by kernel_rfl) (by kernel_rfl) (by kernel_rfl) (fun _ _ _ h => h) (Or.inl ⟨by rfl, ?_⟩) (by assumption) ?_
      rotate_left
      focus (intro w hSw; have p0 : w.cell? ⟨A1, 0, none⟩ = some (.int .i64 (1 + (m : Int))) := hSw.a.cell 0; have p1 : w.cell? ⟨A1, 1, none⟩ = some (.int .i64 (X : Int)) := hSw.a.cell 1; have p2 : w.cell? ⟨A1 + 1, 0, none⟩ = some (.int .i64 (1 + (m : Int))) := hSw.b.cell 0; have p3 : w.cell? ⟨A1 + 1, 1, none⟩ = some (.int .i64 (X : Int)) := hSw.b.cell 1; go_simp; first | done | with_reducible rfl)
      simp only [Act.put, List.getElem_toArray, List.getElem_cons_zero, List.setIfInBounds_toArray, List.set_cons_zero, List.set_cons_succ]
      refine wpAnyH_take (i := 2) (v := ?_) rfl (by kernel_rfl) (by kernel_rfl) (by kernel_rfl) (fun _ _ _ h => h) (Or.inl ⟨by rfl, ?_⟩) (by assumption) ?_
      rotate_left
      focus (intro w hSw; have p0 : w.cell? ⟨A1, 0, none⟩ = some (.int .i64 (1 + (m : Int))) := hSw.a.cell 0; have p1 : w.cell? ⟨A1, 1, none⟩ = some (.int .i64 (X : Int)) := hSw.a.cell 1; have p2 : w.cell? ⟨A1 + 1, 0, none⟩ = some (.int .i64 (1 + (m : Int))) := hSw.b.cell 0; have p3 : w.cell? ⟨A1 + 1, 1, none⟩ = some (.int .i64 (X : Int)) := hSw.b.cell 1; go_simp; first | done | with_reducible rfl)
      simp only [Act.put, List.getElem_toArray, List.getElem_cons_zero, List.getElem_cons_succ, List.setIfInBounds_toArray, List.set_cons_zero, List.set_cons_succ]
      refine wpAnyH_take (i := 5) (v := ?_) rfl (by kernel_rfl) (by kernel_rfl) (by kernel_rfl) (fun _ _ _ h => h) (Or.inl ⟨by rfl, ?_⟩) (by assumption) ?_
      rotate_left
      focus (intro w hSw; have p0 : w.cell? ⟨A1, 0, none⟩ = some (.int .i64 (1 + (m : Int))) := hSw.a.cell 0; have p1 : w.cell? ⟨A1, 1, none⟩ = some (.int .i64 (X : Int)) := hSw.a.cell 1; have p2 : w.cell? ⟨A1 + 1, 0, none⟩ = some (.int .i64 (1 + (m : Int))) := hSw.b.cell 0; have p3 : w.cell? ⟨A1 + 1, 1, none⟩ = some (.int .i64 (X : Int)) := hSw.b.cell 1; go_simp; first | done | with_reducible rfl)
      simp only [Act.put, List.getElem_toArray, List.getElem_cons_zero, List.getElem_cons_succ, List.setIfInBounds_toArray, List.set_cons_zero, List.set_cons_succ]
      refine wpAnyH_take (i := 6) (v := ?_) rfl (by kernel_rfl) (by kernel_rfl) (by kernel_rfl) (fun _ _ _ h => h) (Or.inl ⟨by rfl, ?_⟩) (by assumption) ?_
      rotate_left
      focus (intro w hSw; have p0 : w.cell? ⟨A1, 0, none⟩ = some (.int .i64 (1 + (m : Int))) := hSw.a.cell 0; have p1 : w.cell? ⟨A1, 1, none⟩ = some (.int .i64 (X : Int)) := hSw.a.cell 1; have p2 : w.cell? ⟨A1 + 1, 0, none⟩ = some (.int .i64 (1 + (m : Int))) := hSw.b.cell 0; have p3 : w.cell? ⟨A1 + 1, 1, none⟩ = some (.int .i64 (X : Int)) := hSw.b.cell 1; go_simp; first | done | with_reducible rfl)
      simp only [Act.put, List.getElem_toArray, List.getElem_cons_zero, List.getElem_cons_succ, List.setIfInBounds_toArray, List.set_cons_zero, List.set_cons_succ]
      refine wpAnyH_take (i := 7) (v := ?_) rfl (by kernel_rfl) (by kernel_rfl) (by kernel_rfl) (fun _ _ _ h => h) (Or.inl ⟨by rfl, ?_⟩) (by assumption) ?_
      rotate_left
      focus (intro w hSw; have p0 : w.cell? ⟨A1, 0, none⟩ = some (.int .i64 (1 + (m : Int))) := hSw.a.cell 0; have p1 : w.cell? ⟨A1, 1, none⟩ = some (.int .i64 (X : Int)) := hSw.a.cell 1; have p2 : w.cell? ⟨A1 + 1, 0, none⟩ = some (.int .i64 (1 + (m : Int))) := hSw.b.cell 0; have p3 : w.cell? ⟨A1 + 1, 1, none⟩ = some (.int .i64 (X : Int)) := hSw.b.cell 1; go_simp; first | done | with_reducible rfl)
      simp only [Act.put, List.getElem_toArray, List.getElem_cons_zero, List.getElem_cons_succ, List.setIfInBounds_toArray, List.set_cons_zero, List.set_cons_succ]
      refine wpAnyH_ready (rs := [1]) (by kernel_rfl) (by simp) ?_
      refine AllReadyH.cons (o := _) rfl (fun K hK => ?_) AllReadyH.nil
      go_simp
      with_reducible refine (HD1.out _ hHeld).mono ?_
      rintro e z1 ⟨rfl, hz1⟩
      go_simp
      refine hK.out _ _ hz1 (fun hHeld => ?_)
      clear hK K
      try simp only [Act.put, List.getElem_toArray, List.getElem_cons_zero, List.getElem_cons_succ, List.setIfInBounds_toArray, List.set_cons_zero, List.set_cons_succ]
      refine wpAnyH_ready (rs := [3]) (by kernel_rfl) (by simp) ?_
      refine AllReadyH.cons (o := _) rfl (fun K hK => ?_) AllReadyH.nil
      go_simp
      with_reducible refine (HD2.out _ hHeld).mono ?_
      rintro e z1 ⟨rfl, hz1⟩
      go_simp
      refine hK.out _ _ hz1 (fun hHeld => ?_)
      clear hK K
      try simp only [Act.put, List.getElem_toArray, List.getElem_cons_zero, List.getElem_cons_succ, List.setIfInBounds_toArray, List.set_cons_zero, List.set_cons_succ]
      refine wpAnyH_take (i := 4) (v := ?_) rfl (by kernel_rfl) (by kernel_rfl) (by kernel_rfl) (fun _ _ _ h => h) (Or.inl ⟨by rfl, ?_⟩) (by assumption) ?_
      rotate_left
      focus (intro w hSw; have p0 : w.cell? ⟨A1, 0, none⟩ = some (.int .i64 (1 + (m : Int))) := hSw.a.cell 0; have p1 : w.cell? ⟨A1, 1, none⟩ = some (.int .i64 (X : Int)) := hSw.a.cell 1; have p2 : w.cell? ⟨A1 + 1, 0, none⟩ = some (.int .i64 (1 + (m : Int))) := hSw.b.cell 0; have p3 : w.cell? ⟨A1 + 1, 1, none⟩ = some (.int .i64 (X : Int)) := hSw.b.cell 1; go_simp; first | done | with_reducible rfl)
      simp only [Act.put, List.getElem_toArray, List.getElem_cons_zero, List.getElem_cons_succ, List.setIfInBounds_toArray, List.set_cons_zero, List.set_cons_succ]
      refine wpAnyH_take (i := 8) (v := ?_) rfl (by kernel_rfl) (by kernel_rfl) (by kernel_rfl) (fun _ _ _ h => h) (Or.inl ⟨by rfl, ?_⟩) (by assumption) ?_
      rotate_left
      focus (intro w hSw; have p0 : w.cell? ⟨A1, 0, none⟩ = some (.int .i64 (1 + (m : Int))) := hSw.a.cell 0; have p1 : w.cell? ⟨A1, 1, none⟩ = some (.int .i64 (X : Int)) := hSw.a.cell 1; have p2 : w.cell? ⟨A1 + 1, 0, none⟩ = some (.int .i64 (1 + (m : Int))) := hSw.b.cell 0; have p3 : w.cell? ⟨A1 + 1, 1, none⟩ = some (.int .i64 (X : Int)) := hSw.b.cell 1; go_simp; first | done | with_reducible rfl)
      simp only [Act.put, List.getElem_toArray, List.getElem_cons_zero, List.getElem_cons_succ, List.setIfInBounds_toArray, List.set_cons_zero, List.set_cons_succ]
      refine wpAnyH_take (i := 9) (v := ?_) rfl (by kernel_rfl) (by kernel_rfl) (by kernel_rfl) (fun _ _ _ h => h) (Or.inl ⟨by rfl, ?_⟩) (by assumption) ?_
      rotate_left
      focus (intro w hSw; have p0 : w.cell? ⟨A1, 0, none⟩ = some (.int .i64 (1 + (m : Int))) := hSw.a.cell 0; have p1 : w.cell? ⟨A1, 1, none⟩ = some (.int .i64 (X : Int)) := hSw.a.cell 1; have p2 : w.cell? ⟨A1 + 1, 0, none⟩ = some (.int .i64 (1 + (m : Int))) := hSw.b.cell 0; have p3 : w.cell? ⟨A1 + 1, 1, none⟩ = some (.int .i64 (X : Int)) := hSw.b.cell 1; go_simp; first | done | with_reducible rfl)
      simp only [Act.put, List.getElem_toArray, List.getElem_cons_zero, List.getElem_cons_succ, List.setIfInBounds_toArray, List.set_cons_zero, List.set_cons_succ]
      refine wpAnyH_done (by kernel_rfl) ?_ _
      go_wp2
      go_ret
      exact ⟨rfl, hHeld.below⟩
    · have Q1 : (T1.toList == T2.toList) = false := by rw [Q0]; simp [hxy]
      clear Q0
      refine wp_region_held_drew (S := fun z => TxS w A1 (1 + (m : Int)) (X : Int) (1 + (m : Int)) (Y : Int) z) (by kernel_rfl) ?_ (fun hHeld => ?_)
      · exact HS.out
      refine wpAnyH_take (i := 0) (v := ?_) rfl (by kernel_rfl) (by kernel_rfl) (by kernel_rfl) (fun _ _ _ h => h) (Or.inl ⟨by rfl, ?_⟩) (by assumption) ?_
      rotate_left
      focus (intro w hSw; have p0 : w.cell? ⟨A1, 0, none⟩ = some (.int .i64 (1 + (m : Int))) := hSw.a.cell 0; have p1 : w.cell? ⟨A1, 1, none⟩ = some (.int .i64 (X : Int)) := hSw.a.cell 1; have p2 : w.cell? ⟨A1 + 1, 0, none⟩ = some (.int .i64 (1 + (m : Int))) := hSw.b.cell 0; have p3 : w.cell? ⟨A1 + 1, 1, none⟩ = some (.int .i64 (Y : Int)) := hSw.b.cell 1; go_simp; first | done | with_reducible rfl)
      simp only [Act.put, List.getElem_toArray, List.getElem_cons_zero, List.setIfInBounds_toArray, List.set_cons_zero, List.set_cons_succ]
      refine wpAnyH_take (i := 2) (v := ?_) rfl (by kernel_rfl) (by kernel_rfl) (by kernel_rfl) (fun _ _ _ h => h) (Or.inl ⟨by rfl, ?_⟩) (by assumption) ?_
      rotate_left
      focus (intro w hSw; have p0 : w.cell? ⟨A1, 0, none⟩ = some (.int .i64 (1 + (m : Int))) := hSw.a.cell 0; have p1 : w.cell? ⟨A1, 1, none⟩ = some (.int .i64 (X : Int)) := hSw.a.cell 1; have p2 : w.cell? ⟨A1 + 1, 0, none⟩ = some (.int .i64 (1 + (m : Int))) := hSw.b.cell 0; have p3 : w.cell? ⟨A1 + 1, 1, none⟩ = some (.int .i64 (Y : Int)) := hSw.b.cell 1; go_simp; first | done | with_reducible rfl)
      simp only [Act.put, List.getElem_toArray, List.getElem_cons_zero, List.getElem_cons_succ, List.setIfInBounds_toArray, List.set_cons_zero, List.set_cons_succ]
      refine wpAnyH_take (i := 5) (v := ?_) rfl (by kernel_rfl) (by kernel_rfl) (by kernel_rfl) (fun _ _ _ h => h) (Or.inl ⟨by rfl, ?_⟩) (by assumption) ?_
      rotate_left
      focus (intro w hSw; have p0 : w.cell? ⟨A1, 0, none⟩ = some (.int .i64 (1 + (m : Int))) := hSw.a.cell 0; have p1 : w.cell? ⟨A1, 1, none⟩ = some (.int .i64 (X : Int)) := hSw.a.cell 1; have p2 : w.cell? ⟨A1 + 1, 0, none⟩ = some (.int .i64 (1 + (m : Int))) := hSw.b.cell 0; have p3 : w.cell? ⟨A1 + 1, 1, none⟩ = some (.int .i64 (Y : Int)) := hSw.b.cell 1; go_simp; first | done | with_reducible rfl)
      simp only [Act.put, List.getElem_toArray, List.getElem_cons_zero, List.getElem_cons_succ, List.setIfInBounds_toArray, List.set_cons_zero, List.set_cons_succ]
      refine wpAnyH_take (i := 6) (v := ?_) rfl (by kernel_rfl) (by kernel_rfl) (by kernel_rfl) (fun _ _ _ h => h) (Or.inl ⟨by rfl, ?_⟩) (by assumption) ?_
      rotate_left
      focus (intro w hSw; have p0 : w.cell? ⟨A1, 0, none⟩ = some (.int .i64 (1 + (m : Int))) := hSw.a.cell 0; have p1 : w.cell? ⟨A1, 1, none⟩ = some (.int .i64 (X : Int)) := hSw.a.cell 1; have p2 : w.cell? ⟨A1 + 1, 0, none⟩ = some (.int .i64 (1 + (m : Int))) := hSw.b.cell 0; have p3 : w.cell? ⟨A1 + 1, 1, none⟩ = some (.int .i64 (Y : Int)) := hSw.b.cell 1; go_simp; first | done | with_reducible rfl)
      simp only [Act.put, List.getElem_toArray, List.getElem_cons_zero, List.getElem_cons_succ, List.setIfInBounds_toArray, List.set_cons_zero, List.set_cons_succ]
      refine wpAnyH_take (i := 7) (v := ?_) rfl (by kernel_rfl) (by kernel_rfl) (by kernel_rfl) (fun _ _ _ h => h) (Or.inl ⟨by rfl, ?_⟩) (by assumption) ?_
      rotate_left
      focus (intro w hSw; have p0 : w.cell? ⟨A1, 0, none⟩ = some (.int .i64 (1 + (m : Int))) := hSw.a.cell 0; have p1 : w.cell? ⟨A1, 1, none⟩ = some (.int .i64 (X : Int)) := hSw.a.cell 1; have p2 : w.cell? ⟨A1 + 1, 0, none⟩ = some (.int .i64 (1 + (m : Int))) := hSw.b.cell 0; have p3 : w.cell? ⟨A1 + 1, 1, none⟩ = some (.int .i64 (Y : Int)) := hSw.b.cell 1; go_simp; first | done | with_reducible rfl)
      simp only [Act.put, List.getElem_toArray, List.getElem_cons_zero, List.getElem_cons_succ, List.setIfInBounds_toArray, List.set_cons_zero, List.set_cons_succ]
      refine wpAnyH_ready (rs := [1]) (by kernel_rfl) (by simp) ?_
      refine AllReadyH.cons (o := _) rfl (fun K hK => ?_) AllReadyH.nil
      go_simp
      with_reducible refine (HD1.out _ hHeld).mono ?_
      rintro e z1 ⟨rfl, hz1⟩
      go_simp
      refine hK.out _ _ hz1 (fun hHeld => ?_)
      clear hK K
      try simp only [Act.put, List.getElem_toArray, List.getElem_cons_zero, List.getElem_cons_succ, List.setIfInBounds_toArray, List.set_cons_zero, List.set_cons_succ]
      refine wpAnyH_ready (rs := [3]) (by kernel_rfl) (by simp) ?_
      refine AllReadyH.cons (o := _) rfl (fun K hK => ?_) AllReadyH.nil
      go_simp
      with_reducible refine (HD2.out _ hHeld).mono ?_
      rintro e z1 ⟨rfl, hz1⟩
      go_simp
      refine hK.out _ _ hz1 (fun hHeld => ?_)
      clear hK K
      try simp only [Act.put, List.getElem_toArray, List.getElem_cons_zero, List.getElem_cons_succ, List.setIfInBounds_toArray, List.set_cons_zero, List.set_cons_succ]
      refine wpAnyH_take (i := 4) (v := ?_) rfl (by kernel_rfl) (by kernel_rfl) (by kernel_rfl) (fun _ _ _ h => h) (Or.inl ⟨by rfl, ?_⟩) (by assumption) ?_
      rotate_left
      focus (intro w hSw; have p0 : w.cell? ⟨A1, 0, none⟩ = some (.int .i64 (1 + (m : Int))) := hSw.a.cell 0; have p1 : w.cell? ⟨A1, 1, none⟩ = some (.int .i64 (X : Int)) := hSw.a.cell 1; have p2 : w.cell? ⟨A1 + 1, 0, none⟩ = some (.int .i64 (1 + (m : Int))) := hSw.b.cell 0; have p3 : w.cell? ⟨A1 + 1, 1, none⟩ = some (.int .i64 (Y : Int)) := hSw.b.cell 1; go_simp; first | done | with_reducible rfl)
      simp only [Act.put, List.getElem_toArray, List.getElem_cons_zero, List.getElem_cons_succ, List.setIfInBounds_toArray, List.set_cons_zero, List.set_cons_succ]
      refine wpAnyH_take (i := 8) (v := ?_) rfl (by kernel_rfl) (by kernel_rfl) (by kernel_rfl) (fun _ _ _ h => h) (Or.inl ⟨by rfl, ?_⟩) (by assumption) ?_
      rotate_left
      focus (intro w hSw; have p0 : w.cell? ⟨A1, 0, none⟩ = some (.int .i64 (1 + (m : Int))) := hSw.a.cell 0; have p1 : w.cell? ⟨A1, 1, none⟩ = some (.int .i64 (X : Int)) := hSw.a.cell 1; have p2 : w.cell? ⟨A1 + 1, 0, none⟩ = some (.int .i64 (1 + (m : Int))) := hSw.b.cell 0; have p3 : w.cell? ⟨A1 + 1, 1, none⟩ = some (.int .i64 (Y : Int)) := hSw.b.cell 1; go_simp; first | done | with_reducible rfl)
      simp only [Act.put, List.getElem_toArray, List.getElem_cons_zero, List.getElem_cons_succ, List.setIfInBounds_toArray, List.set_cons_zero, List.set_cons_succ]
      refine wpAnyH_take (i := 9) (v := ?_) rfl (by kernel_rfl) (by kernel_rfl) (by kernel_rfl) (fun _ _ _ h => h) (Or.inl ⟨by rfl, ?_⟩) (by assumption) ?_
      rotate_left
      focus (intro w hSw; have p0 : w.cell? ⟨A1, 0, none⟩ = some (.int .i64 (1 + (m : Int))) := hSw.a.cell 0; have p1 : w.cell? ⟨A1, 1, none⟩ = some (.int .i64 (X : Int)) := hSw.a.cell 1; have p2 : w.cell? ⟨A1 + 1, 0, none⟩ = some (.int .i64 (1 + (m : Int))) := hSw.b.cell 0; have p3 : w.cell? ⟨A1 + 1, 1, none⟩ = some (.int .i64 (Y : Int)) := hSw.b.cell 1; go_simp; first | done | with_reducible rfl)
      simp only [Act.put, List.getElem_toArray, List.getElem_cons_zero, List.getElem_cons_succ, List.setIfInBounds_toArray, List.set_cons_zero, List.set_cons_succ]
      refine wpAnyH_done (by kernel_rfl) ?_ _
      go_wp2
      go_ret
      exact ⟨rfl, hHeld.below⟩
    · have Q1 : (T1.toList == T2.toList) = false := by rw [Q0]; simp [hmn]
      clear Q0
      refine wp_region_held_drew (S := fun z => TxS w A1 (1 + (m : Int)) (X : Int) (1 + (n : Int)) (Y : Int) z) (by kernel_rfl) ?_ (fun hHeld => ?_)
      · exact HS.out
      refine wpAnyH_take (i := 0) (v := ?_) rfl (by kernel_rfl) (by kernel_rfl) (by kernel_rfl) (fun _ _ _ h => h) (Or.inl ⟨by rfl, ?_⟩) (by assumption) ?_
      rotate_left
      focus (intro w hSw; have p0 : w.cell? ⟨A1, 0, none⟩ = some (.int .i64 (1 + (m : Int))) := hSw.a.cell 0; have p1 : w.cell? ⟨A1, 1, none⟩ = some (.int .i64 (X : Int)) := hSw.a.cell 1; have p2 : w.cell? ⟨A1 + 1, 0, none⟩ = some (.int .i64 (1 + (n : Int))) := hSw.b.cell 0; have p3 : w.cell? ⟨A1 + 1, 1, none⟩ = some (.int .i64 (Y : Int)) := hSw.b.cell 1; go_simp; first | done | with_reducible rfl)
      simp only [Act.put, List.getElem_toArray, List.getElem_cons_zero, List.setIfInBounds_toArray, List.set_cons_zero, List.set_cons_succ]
      refine wpAnyH_take (i := 2) (v := ?_) rfl (by kernel_rfl) (by kernel_rfl) (by kernel_rfl) (fun _ _ _ h => h) (Or.inl ⟨by rfl, ?_⟩) (by assumption) ?_
      rotate_left
      focus (intro w hSw; have p0 : w.cell? ⟨A1, 0, none⟩ = some (.int .i64 (1 + (m : Int))) := hSw.a.cell 0; have p1 : w.cell? ⟨A1, 1, none⟩ = some (.int .i64 (X : Int)) := hSw.a.cell 1; have p2 : w.cell? ⟨A1 + 1, 0, none⟩ = some (.int .i64 (1 + (n : Int))) := hSw.b.cell 0; have p3 : w.cell? ⟨A1 + 1, 1, none⟩ = some (.int .i64 (Y : Int)) := hSw.b.cell 1; go_simp; first | done | with_reducible rfl)
      simp only [Act.put, List.getElem_toArray, List.getElem_cons_zero, List.getElem_cons_succ, List.setIfInBounds_toArray, List.set_cons_zero, List.set_cons_succ]
      refine wpAnyH_take (i := 5) (v := ?_) rfl (by kernel_rfl) (by kernel_rfl) (by kernel_rfl) (fun _ _ _ h => h) (Or.inl ⟨by rfl, ?_⟩) (by assumption) ?_
      rotate_left
      focus (intro w hSw; have p0 : w.cell? ⟨A1, 0, none⟩ = some (.int .i64 (1 + (m : Int))) := hSw.a.cell 0; have p1 : w.cell? ⟨A1, 1, none⟩ = some (.int .i64 (X : Int)) := hSw.a.cell 1; have p2 : w.cell? ⟨A1 + 1, 0, none⟩ = some (.int .i64 (1 + (n : Int))) := hSw.b.cell 0; have p3 : w.cell? ⟨A1 + 1, 1, none⟩ = some (.int .i64 (Y : Int)) := hSw.b.cell 1; go_simp; first | done | with_reducible rfl)
      simp only [Act.put, List.getElem_toArray, List.getElem_cons_zero, List.getElem_cons_succ, List.setIfInBounds_toArray, List.set_cons_zero, List.set_cons_succ]
      refine wpAnyH_take (i := 6) (v := ?_) rfl (by kernel_rfl) (by kernel_rfl) (by kernel_rfl) (fun _ _ _ h => h) (Or.inl ⟨by rfl, ?_⟩) (by assumption) ?_
      rotate_left
      focus (intro w hSw; have p0 : w.cell? ⟨A1, 0, none⟩ = some (.int .i64 (1 + (m : Int))) := hSw.a.cell 0; have p1 : w.cell? ⟨A1, 1, none⟩ = some (.int .i64 (X : Int)) := hSw.a.cell 1; have p2 : w.cell? ⟨A1 + 1, 0, none⟩ = some (.int .i64 (1 + (n : Int))) := hSw.b.cell 0; have p3 : w.cell? ⟨A1 + 1, 1, none⟩ = some (.int .i64 (Y : Int)) := hSw.b.cell 1; go_simp; first | done | with_reducible rfl)
      simp only [Act.put, List.getElem_toArray, List.getElem_cons_zero, List.getElem_cons_succ, List.setIfInBounds_toArray, List.set_cons_zero, List.set_cons_succ]
      refine wpAnyH_take (i := 7) (v := ?_) rfl (by kernel_rfl) (by kernel_rfl) (by kernel_rfl) (fun _ _ _ h => h) (Or.inl ⟨by rfl, ?_⟩) (by assumption) ?_
      rotate_left
      focus (intro w hSw; have p0 : w.cell? ⟨A1, 0, none⟩ = some (.int .i64 (1 + (m : Int))) := hSw.a.cell 0; have p1 : w.cell? ⟨A1, 1, none⟩ = some (.int .i64 (X : Int)) := hSw.a.cell 1; have p2 : w.cell? ⟨A1 + 1, 0, none⟩ = some (.int .i64 (1 + (n : Int))) := hSw.b.cell 0; have p3 : w.cell? ⟨A1 + 1, 1, none⟩ = some (.int .i64 (Y : Int)) := hSw.b.cell 1; go_simp; first | done | with_reducible rfl)
      simp only [Act.put, List.getElem_toArray, List.getElem_cons_zero, List.getElem_cons_succ, List.setIfInBounds_toArray, List.set_cons_zero, List.set_cons_succ]
      refine wpAnyH_ready (rs := [1]) (by kernel_rfl) (by simp) ?_
      refine AllReadyH.cons (o := _) rfl (fun K hK => ?_) AllReadyH.nil
      go_simp
      with_reducible refine (HD1.out _ hHeld).mono ?_
      rintro e z1 ⟨rfl, hz1⟩
      go_simp
      refine hK.out _ _ hz1 (fun hHeld => ?_)
      clear hK K
      try simp only [Act.put, List.getElem_toArray, List.getElem_cons_zero, List.getElem_cons_succ, List.setIfInBounds_toArray, List.set_cons_zero, List.set_cons_succ]
      refine wpAnyH_ready (rs := [3]) (by kernel_rfl) (by simp) ?_
      refine AllReadyH.cons (o := _) rfl (fun K hK => ?_) AllReadyH.nil
      go_simp
      with_reducible refine (HD2.out _ hHeld).mono ?_
      rintro e z1 ⟨rfl, hz1⟩
      go_simp
      refine hK.out _ _ hz1 (fun hHeld => ?_)
      clear hK K
      try simp only [Act.put, List.getElem_toArray, List.getElem_cons_zero, List.getElem_cons_succ, List.setIfInBounds_toArray, List.set_cons_zero, List.set_cons_succ]
      refine wpAnyH_take (i := 4) (v := ?_) rfl (by kernel_rfl) (by kernel_rfl) (by kernel_rfl) (fun _ _ _ h => h) (Or.inl ⟨by rfl, ?_⟩) (by assumption) ?_
      rotate_left
      focus (intro w hSw; have p0 : w.cell? ⟨A1, 0, none⟩ = some (.int .i64 (1 + (m : Int))) := hSw.a.cell 0; have p1 : w.cell? ⟨A1, 1, none⟩ = some (.int .i64 (X : Int)) := hSw.a.cell 1; have p2 : w.cell? ⟨A1 + 1, 0, none⟩ = some (.int .i64 (1 + (n : Int))) := hSw.b.cell 0; have p3 : w.cell? ⟨A1 + 1, 1, none⟩ = some (.int .i64 (Y : Int)) := hSw.b.cell 1; go_simp; first | done | with_reducible rfl)
      simp only [Act.put, List.getElem_toArray, List.getElem_cons_zero, List.getElem_cons_succ, List.setIfInBounds_toArray, List.set_cons_zero, List.set_cons_succ]
      refine wpAnyH_take (i := 8) (v := ?_) rfl (by kernel_rfl) (by kernel_rfl) (by kernel_rfl) (fun _ _ _ h => h) (Or.inl ⟨by rfl, ?_⟩) (by assumption) ?_
      rotate_left
      focus (intro w hSw; have p0 : w.cell? ⟨A1, 0, none⟩ = some (.int .i64 (1 + (m : Int))) := hSw.a.cell 0; have p1 : w.cell? ⟨A1, 1, none⟩ = some (.int .i64 (X : Int)) := hSw.a.cell 1; have p2 : w.cell? ⟨A1 + 1, 0, none⟩ = some (.int .i64 (1 + (n : Int))) := hSw.b.cell 0; have p3 : w.cell? ⟨A1 + 1, 1, none⟩ = some (.int .i64 (Y : Int)) := hSw.b.cell 1; go_simp; first | done | with_reducible rfl)
      simp only [Act.put, List.getElem_toArray, List.getElem_cons_zero, List.getElem_cons_succ, List.setIfInBounds_toArray, List.set_cons_zero, List.set_cons_succ]
      refine wpAnyH_take (i := 9) (v := ?_) rfl (by kernel_rfl) (by kernel_rfl) (by kernel_rfl) (fun _ _ _ h => h) (Or.inl ⟨by rfl, ?_⟩) (by assumption) ?_
      rotate_left
      focus (intro w hSw; have p0 : w.cell? ⟨A1, 0, none⟩ = some (.int .i64 (1 + (m : Int))) := hSw.a.cell 0; have p1 : w.cell? ⟨A1, 1, none⟩ = some (.int .i64 (X : Int)) := hSw.a.cell 1; have p2 : w.cell? ⟨A1 + 1, 0, none⟩ = some (.int .i64 (1 + (n : Int))) := hSw.b.cell 0; have p3 : w.cell? ⟨A1 + 1, 1, none⟩ = some (.int .i64 (Y : Int)) := hSw.b.cell 1; go_simp; first | done | with_reducible rfl)
      simp only [Act.put, List.getElem_toArray, List.getElem_cons_zero, List.getElem_cons_succ, List.setIfInBounds_toArray, List.set_cons_zero, List.set_cons_succ]
      refine wpAnyH_done (by kernel_rfl) ?_ _
      go_wp2
      go_ret
      exact ⟨rfl, hHeld.below⟩
  · have e1 : (X : Int) = (x' : Int) := by rw [HXY.out.1, if_neg (by simpa using q1)]
    have e2 : (Y : Int) = (y' : Int) := by rw [HXY.out.2, if_neg (by simpa using q2)]
    have E1 := Lib.hid e1
    have E2 := Lib.hid e2
    clear e1 e2
    have r1 : (P1 == 0) = false := by simpa using q1
    clear q1
    have r2 : (P2 == 0) = false := by simpa using q2
    clear q2
    go_enter Tryd.func6, Tryd.ntmps6
    go_wp2_with fail
    refine (head7 w (HT.out _ (Below.refl _ _)) (HP.out _ (Below.refl _ _))).mono ?_
    rintro e w1 ⟨rfl, hb⟩
    have HT2 : Hid (∀ o o', TabR ((w1.alloc o).alloc o')) := Lib.hid (fun o o' => (HT.out _ hb).below ((below1 w1 o).trans ((below1 _ o').mono (by simp))))
    go_wp2_with (first
      | (go_at_call 10; (with_reducible refine (HO1.out _ ?_).mono ?_); exact (HT2.out _ _); rintro e w' ⟨rfl, rfl⟩)
      | (go_at_call 10; (with_reducible refine (HO2.out _ ?_).mono ?_); exact (HT2.out _ _); rintro e w' ⟨rfl, rfl⟩))
    obtain ⟨Z, HZ⟩ : ∃ Z, Hid (Z = (w1.alloc (.cells #[.int .i64 (1 + (m : Int)), .int .i64 (x' : Int)] 34)).alloc (.cells #[.int .i64 (1 + (n : Int)), .int .i64 (y' : Int)] 34)) := ⟨_, Lib.hid rfl⟩
    have HS : Hid (TxS w w1.heap.size (1 + (m : Int)) (X : Int) (1 + (n : Int)) (Y : Int) Z.drew) := Lib.hid (by
      rw [E1.out, E2.out, HZ.out]
      exact TxS.drew ⟨(Blk.new w1 [.int .i64 (1 + (m : Int)), .int .i64 (x' : Int)] 34).below (below1 _ _), by have := Blk.new (w1.alloc (.cells #[.int .i64 (1 + (m : Int)), .int .i64 (x' : Int)] 34)) [.int .i64 (1 + (n : Int)), .int .i64 (y' : Int)] 34; simpa using this, (hb.alloc hb.size _).alloc (by have := hb.size; simp; omega) _⟩)
    rw [← HZ.out]
    have HD1 := Lib.hid (HC1.out w1.heap.size)
    have HD2 := Lib.hid (HC2.out w1.heap.size)
    clear HZ hb HT2 HO1 HO2 E1 E2 HXY HT HP em en ex ey
    generalize w1.heap.size = A1 at *
    have Q0 := HB.out
    clear HB HC1 HC2
    have hcase : (m = n ∧ X = Y) ∨ (m = n ∧ ¬ ((X : Int) = (Y : Int))) ∨ ¬ ((m : Int) = (n : Int)) := by omega
    rcases hcase with ⟨rfl, rfl⟩ | ⟨rfl, hxy⟩ | hmn
    · have Q1 : (T1.toList == T2.toList) = true := by rw [Q0]; simp
      clear Q0
      refine wp_region_held_drew (S := fun z => TxS w A1 (1 + (m : Int)) (X : Int) (1 + (m : Int)) (X : Int) z) (by kernel_rfl) ?_ (fun hHeld => ?_)
      · exact HS.out
      refine wpAnyH_take (i := 0) (v := ?_) rfl (by kernel_rfl) (by kernel_rfl) (by kernel_rfl) (fun _ _ _ h => h) (Or.inl ⟨by rfl, ?_⟩) (by assumption) ?_
      rotate_left
      focus (intro w hSw; have p0 : w.cell? ⟨A1, 0, none⟩ = some (.int .i64 (1 + (m : Int))) := hSw.a.cell 0; have p1 : w.cell? ⟨A1, 1, none⟩ = some (.int .i64 (X : Int)) := hSw.a.cell 1; have p2 : w.cell? ⟨A1 + 1, 0, none⟩ = some (.int .i64 (1 + (m : Int))) := hSw.b.cell 0; have p3 : w.cell? ⟨A1 + 1, 1, none⟩ = some (.int .i64 (X : Int)) := hSw.b.cell 1; go_simp; first | done | with_reducible rfl)
      simp only [Act.put, List.getElem_toArray, List.getElem_cons_zero, List.setIfInBounds_toArray, List.set_cons_zero, List.set_cons_succ]
      refine wpAnyH_take (i := 2) (v := ?_) rfl (by kernel_rfl) (by kernel_rfl) (by kernel_rfl) (fun _ _ _ h => h) (Or.inl ⟨by rfl, ?_⟩) (by assumption) ?_
      rotate_left
      focus (intro w hSw; have p0 : w.cell? ⟨A1, 0, none⟩ = some (.int .i64 (1 + (m : Int))) := hSw.a.cell 0; have p1 : w.cell? ⟨A1, 1, none⟩ = some (.int .i64 (X : Int)) := hSw.a.cell 1; have p2 : w.cell? ⟨A1 + 1, 0, none⟩ = some (.int .i64 (1 + (m : Int))) := hSw.b.cell 0; have p3 : w.cell? ⟨A1 + 1, 1, none⟩ = some (.int .i64 (X : Int)) := hSw.b.cell 1; go_simp; first | done | with_reducible rfl)
      simp only [Act.put, List.getElem_toArray, List.getElem_cons_zero, List.getElem_cons_succ, List.setIfInBounds_toArray, List.set_cons_zero, List.set_cons_succ]
      refine wpAnyH_take (i := 5) (v := ?_) rfl (by kernel_rfl) (by kernel_rfl) (by kernel_rfl) (fun _ _ _ h => h) (Or.inl ⟨by rfl, ?_⟩) (by assumption) ?_
      rotate_left
      focus (intro w hSw; have p0 : w.cell? ⟨A1, 0, none⟩ = some (.int .i64 (1 + (m : Int))) := hSw.a.cell 0; have p1 : w.cell? ⟨A1, 1, none⟩ = some (.int .i64 (X : Int)) := hSw.a.cell 1; have p2 : w.cell? ⟨A1 + 1, 0, none⟩ = some (.int .i64 (1 + (m : Int))) := hSw.b.cell 0; have p3 : w.cell? ⟨A1 + 1, 1, none⟩ = some (.int .i64 (X : Int)) := hSw.b.cell 1; go_simp; first | done | with_reducible rfl)
      simp only [Act.put, List.getElem_toArray, List.getElem_cons_zero, List.getElem_cons_succ, List.setIfInBounds_toArray, List.set_cons_zero, List.set_cons_succ]
      refine wpAnyH_take (i := 6) (v := ?_) rfl (by kernel_rfl) (by kernel_rfl) (by kernel_rfl) (fun _ _ _ h => h) (Or.inl ⟨by rfl, ?_⟩) (by assumption) ?_
      rotate_left
      focus (intro w hSw; have p0 : w.cell? ⟨A1, 0, none⟩ = some (.int .i64 (1 + (m : Int))) := hSw.a.cell 0; have p1 : w.cell? ⟨A1, 1, none⟩ = some (.int .i64 (X : Int)) := hSw.a.cell 1; have p2 : w.cell? ⟨A1 + 1, 0, none⟩ = some (.int .i64 (1 + (m : Int))) := hSw.b.cell 0; have p3 : w.cell? ⟨A1 + 1, 1, none⟩ = some (.int .i64 (X : Int)) := hSw.b.cell 1; go_simp; first | done | with_reducible rfl)
      simp only [Act.put, List.getElem_toArray, List.getElem_cons_zero, List.getElem_cons_succ, List.setIfInBounds_toArray, List.set_cons_zero, List.set_cons_succ]
      refine wpAnyH_take (i := 7) (v := ?_) rfl (by kernel_rfl) (by kernel_rfl) (by kernel_rfl) (fun _ _ _ h => h) (Or.inl ⟨by rfl, ?_⟩) (by assumption) ?_
      rotate_left
      focus (intro w hSw; have p0 : w.cell? ⟨A1, 0, none⟩ = some (.int .i64 (1 + (m : Int))) := hSw.a.cell 0; have p1 : w.cell? ⟨A1, 1, none⟩ = some (.int .i64 (X : Int)) := hSw.a.cell 1; have p2 : w.cell? ⟨A1 + 1, 0, none⟩ = some (.int .i64 (1 + (m : Int))) := hSw.b.cell 0; have p3 : w.cell? ⟨A1 + 1, 1, none⟩ = some (.int .i64 (X : Int)) := hSw.b.cell 1; go_simp; first | done | with_reducible rfl)
      simp only [Act.put, List.getElem_toArray, List.getElem_cons_zero, List.getElem_cons_succ, List.setIfInBounds_toArray, List.set_cons_zero, List.set_cons_succ]
      refine wpAnyH_ready (rs := [1]) (by kernel_rfl) (by simp) ?_
      refine AllReadyH.cons (o := _) rfl (fun K hK => ?_) AllReadyH.nil
      go_simp
      with_reducible refine (HD1.out _ hHeld).mono ?_
      rintro e z1 ⟨rfl, hz1⟩
      go_simp
      refine hK.out _ _ hz1 (fun hHeld => ?_)
      clear hK K
      try simp only [Act.put, List.getElem_toArray, List.getElem_cons_zero, List.getElem_cons_succ, List.setIfInBounds_toArray, List.set_cons_zero, List.set_cons_succ]
      refine wpAnyH_ready (rs := [3]) (by kernel_rfl) (by simp) ?_
      refine AllReadyH.cons (o := _) rfl (fun K hK => ?_) AllReadyH.nil
      go_simp
      with_reducible refine (HD2.out _ hHeld).mono ?_
      rintro e z1 ⟨rfl, hz1⟩
      go_simp
      refine hK.out _ _ hz1 (fun hHeld => ?_)
      clear hK K
      try simp only [Act.put, List.getElem_toArray, List.getElem_cons_zero, List.getElem_cons_succ, List.setIfInBounds_toArray, List.set_cons_zero, List.set_cons_succ]
      refine wpAnyH_take (i := 4) (v := ?_) rfl (by kernel_rfl) (by kernel_rfl) (by kernel_rfl) (fun _ _ _ h => h) (Or.inl ⟨by rfl, ?_⟩) (by assumption) ?_
      rotate_left
      focus (intro w hSw; have p0 : w.cell? ⟨A1, 0, none⟩ = some (.int .i64 (1 + (m : Int))) := hSw.a.cell 0; have p1 : w.cell? ⟨A1, 1, none⟩ = some (.int .i64 (X : Int)) := hSw.a.cell 1; have p2 : w.cell? ⟨A1 + 1, 0, none⟩ = some (.int .i64 (1 + (m : Int))) := hSw.b.cell 0; have p3 : w.cell? ⟨A1 + 1, 1, none⟩ = some (.int .i64 (X : Int)) := hSw.b.cell 1; go_simp; first | done | with_reducible rfl)
      simp only [Act.put, List.getElem_toArray, List.getElem_cons_zero, List.getElem_cons_succ, List.setIfInBounds_toArray, List.set_cons_zero, List.set_cons_succ]
      refine wpAnyH_take (i := 8) (v := ?_) rfl (by kernel_rfl) (by kernel_rfl) (by kernel_rfl) (fun _ _ _ h => h) (Or.inl ⟨by rfl, ?_⟩) (by assumption) ?_
      rotate_left
      focus (intro w hSw; have p0 : w.cell? ⟨A1, 0, none⟩ = some (.int .i64 (1 + (m : Int))) := hSw.a.cell 0; have p1 : w.cell? ⟨A1, 1, none⟩ = some (.int .i64 (X : Int)) := hSw.a.cell 1; have p2 : w.cell? ⟨A1 + 1, 0, none⟩ = some (.int .i64 (1 + (m : Int))) := hSw.b.cell 0; have p3 : w.cell? ⟨A1 + 1, 1, none⟩ = some (.int .i64 (X : Int)) := hSw.b.cell 1; go_simp; first | done | with_reducible rfl)
      simp only [Act.put, List.getElem_toArray, List.getElem_cons_zero, List.getElem_cons_succ, List.setIfInBounds_toArray, List.set_cons_zero, List.set_cons_succ]
      refine wpAnyH_take (i := 9) (v := ?_) rfl (by kernel_rfl) (by kernel_rfl) (by kernel_rfl) (fun _ _ _ h => h) (Or.inl ⟨by rfl, ?_⟩) (by assumption) ?_
      rotate_left
      focus (intro w hSw; have p0 : w.cell? ⟨A1, 0, none⟩ = some (.int .i64 (1 + (m : Int))) := hSw.a.cell 0; have p1 : w.cell? ⟨A1, 1, none⟩ = some (.int .i64 (X : Int)) := hSw.a.cell 1; have p2 : w.cell? ⟨A1 + 1, 0, none⟩ = some (.int .i64 (1 + (m : Int))) := hSw.b.cell 0; have p3 : w.cell? ⟨A1 + 1, 1, none⟩ = some (.int .i64 (X : Int)) := hSw.b.cell 1; go_simp; first | done | with_reducible rfl)
      simp only [Act.put, List.getElem_toArray, List.getElem_cons_zero, List.getElem_cons_succ, List.setIfInBounds_toArray, List.set_cons_zero, List.set_cons_succ]
      refine wpAnyH_done (by kernel_rfl) ?_ _
      go_wp2
      go_ret
      exact ⟨rfl, hHeld.below⟩
    · have Q1 : (T1.toList == T2.toList) = false := by rw [Q0]; simp [hxy]
      clear Q0
      refine wp_region_held_drew (S := fun z => TxS w A1 (1 + (m : Int)) (X : Int) (1 + (m : Int)) (Y : Int) z) (by kernel_rfl) ?_ (fun hHeld => ?_)
      · exact HS.out
      refine wpAnyH_take (i := 0) (v := ?_) rfl (by kernel_rfl) (by kernel_rfl) (by kernel_rfl) (fun _ _ _ h => h) (Or.inl ⟨by rfl, ?_⟩) (by assumption) ?_
      rotate_left
      focus (intro w hSw; have p0 : w.cell? ⟨A1, 0, none⟩ = some (.int .i64 (1 + (m : Int))) := hSw.a.cell 0; have p1 : w.cell? ⟨A1, 1, none⟩ = some (.int .i64 (X : Int)) := hSw.a.cell 1; have p2 : w.cell? ⟨A1 + 1, 0, none⟩ = some (.int .i64 (1 + (m : Int))) := hSw.b.cell 0; have p3 : w.cell? ⟨A1 + 1, 1, none⟩ = some (.int .i64 (Y : Int)) := hSw.b.cell 1; go_simp; first | done | with_reducible rfl)
      simp only [Act.put, List.getElem_toArray, List.getElem_cons_zero, List.setIfInBounds_toArray, List.set_cons_zero, List.set_cons_succ]
      refine wpAnyH_take (i := 2) (v := ?_) rfl (by kernel_rfl) (by kernel_rfl) (by kernel_rfl) (fun _ _ _ h => h) (Or.inl ⟨by rfl, ?_⟩) (by assumption) ?_
      rotate_left
      focus (intro w hSw; have p0 : w.cell? ⟨A1, 0, none⟩ = some (.int .i64 (1 + (m : Int))) := hSw.a.cell 0; have p1 : w.cell? ⟨A1, 1, none⟩ = some (.int .i64 (X : Int)) := hSw.a.cell 1; have p2 : w.cell? ⟨A1 + 1, 0, none⟩ = some (.int .i64 (1 + (m : Int))) := hSw.b.cell 0; have p3 : w.cell? ⟨A1 + 1, 1, none⟩ = some (.int .i64 (Y : Int)) := hSw.b.cell 1; go_simp; first | done | with_reducible rfl)
      simp only [Act.put, List.getElem_toArray, List.getElem_cons_zero, List.getElem_cons_succ, List.setIfInBounds_toArray, List.set_cons_zero, List.set_cons_succ]
      refine wpAnyH_take (i := 5) (v := ?_) rfl (by kernel_rfl) (by kernel_rfl) (by kernel_rfl) (fun _ _ _ h => h) (Or.inl ⟨by rfl, ?_⟩) (by assumption) ?_
      rotate_left
      focus (intro w hSw; have p0 : w.cell? ⟨A1, 0, none⟩ = some (.int .i64 (1 + (m : Int))) := hSw.a.cell 0; have p1 : w.cell? ⟨A1, 1, none⟩ = some (.int .i64 (X : Int)) := hSw.a.cell 1; have p2 : w.cell? ⟨A1 + 1, 0, none⟩ = some (.int .i64 (1 + (m : Int))) := hSw.b.cell 0; have p3 : w.cell? ⟨A1 + 1, 1, none⟩ = some (.int .i64 (Y : Int)) := hSw.b.cell 1; go_simp; first | done | with_reducible rfl)
      simp only [Act.put, List.getElem_toArray, List.getElem_cons_zero, List.getElem_cons_succ, List.setIfInBounds_toArray, List.set_cons_zero, List.set_cons_succ]
      refine wpAnyH_take (i := 6) (v := ?_) rfl (by kernel_rfl) (by kernel_rfl) (by kernel_rfl) (fun _ _ _ h => h) (Or.inl ⟨by rfl, ?_⟩) (by assumption) ?_
      rotate_left
      focus (intro w hSw; have p0 : w.cell? ⟨A1, 0, none⟩ = some (.int .i64 (1 + (m : Int))) := hSw.a.cell 0; have p1 : w.cell? ⟨A1, 1, none⟩ = some (.int .i64 (X : Int)) := hSw.a.cell 1; have p2 : w.cell? ⟨A1 + 1, 0, none⟩ = some (.int .i64 (1 + (m : Int))) := hSw.b.cell 0; have p3 : w.cell? ⟨A1 + 1, 1, none⟩ = some (.int .i64 (Y : Int)) := hSw.b.cell 1; go_simp; first | done | with_reducible rfl)
      simp only [Act.put, List.getElem_toArray, List.getElem_cons_zero, List.getElem_cons_succ, List.setIfInBounds_toArray, List.set_cons_zero, List.set_cons_succ]
      refine wpAnyH_take (i := 7) (v := ?_) rfl (by kernel_rfl) (by kernel_rfl) (by kernel_rfl) (fun _ _ _ h => h) (Or.inl ⟨by rfl, ?_⟩) (by assumption) ?_
      rotate_left
      focus (intro w hSw; have p0 : w.cell? ⟨A1, 0, none⟩ = some (.int .i64 (1 + (m : Int))) := hSw.a.cell 0; have p1 : w.cell? ⟨A1, 1, none⟩ = some (.int .i64 (X : Int)) := hSw.a.cell 1; have p2 : w.cell? ⟨A1 + 1, 0, none⟩ = some (.int .i64 (1 + (m : Int))) := hSw.b.cell 0; have p3 : w.cell? ⟨A1 + 1, 1, none⟩ = some (.int .i64 (Y : Int)) := hSw.b.cell 1; go_simp; first | done | with_reducible rfl)
      simp only [Act.put, List.getElem_toArray, List.getElem_cons_zero, List.getElem_cons_succ, List.setIfInBounds_toArray, List.set_cons_zero, List.set_cons_succ]
      refine wpAnyH_ready (rs := [1]) (by kernel_rfl) (by simp) ?_
      refine AllReadyH.cons (o := _) rfl (fun K hK => ?_) AllReadyH.nil
      go_simp
      with_reducible refine (HD1.out _ hHeld).mono ?_
      rintro e z1 ⟨rfl, hz1⟩
      go_simp
      refine hK.out _ _ hz1 (fun hHeld => ?_)
      clear hK K
      try simp only [Act.put, List.getElem_toArray, List.getElem_cons_zero, List.getElem_cons_succ, List.setIfInBounds_toArray, List.set_cons_zero, List.set_cons_succ]
      refine wpAnyH_ready (rs := [3]) (by kernel_rfl) (by simp) ?_
      refine AllReadyH.cons (o := _) rfl (fun K hK => ?_) AllReadyH.nil
      go_simp
      with_reducible refine (HD2.out _ hHeld).mono ?_
      rintro e z1 ⟨rfl, hz1⟩
      go_simp
      refine hK.out _ _ hz1 (fun hHeld => ?_)
      clear hK K
      try simp only [Act.put, List.getElem_toArray, List.getElem_cons_zero, List.getElem_cons_succ, List.setIfInBounds_toArray, List.set_cons_zero, List.set_cons_succ]
      refine wpAnyH_take (i := 4) (v := ?_) rfl (by kernel_rfl) (by kernel_rfl) (by kernel_rfl) (fun _ _ _ h => h) (Or.inl ⟨by rfl, ?_⟩) (by assumption) ?_
      rotate_left
      focus (intro w hSw; have p0 : w.cell? ⟨A1, 0, none⟩ = some (.int .i64 (1 + (m : Int))) := hSw.a.cell 0; have p1 : w.cell? ⟨A1, 1, none⟩ = some (.int .i64 (X : Int)) := hSw.a.cell 1; have p2 : w.cell? ⟨A1 + 1, 0, none⟩ = some (.int .i64 (1 + (m : Int))) := hSw.b.cell 0; have p3 : w.cell? ⟨A1 + 1, 1, none⟩ = some (.int .i64 (Y : Int)) := hSw.b.cell 1; go_simp; first | done | with_reducible rfl)
      simp only [Act.put, List.getElem_toArray, List.getElem_cons_zero, List.getElem_cons_succ, List.setIfInBounds_toArray, List.set_cons_zero, List.set_cons_succ]
      refine wpAnyH_take (i := 8) (v := ?_) rfl (by kernel_rfl) (by kernel_rfl) (by kernel_rfl) (fun _ _ _ h => h) (Or.inl ⟨by rfl, ?_⟩) (by assumption) ?_
      rotate_left
      focus (intro w hSw; have p0 : w.cell? ⟨A1, 0, none⟩ = some (.int .i64 (1 + (m : Int))) := hSw.a.cell 0; have p1 : w.cell? ⟨A1, 1, none⟩ = some (.int .i64 (X : Int)) := hSw.a.cell 1; have p2 : w.cell? ⟨A1 + 1, 0, none⟩ = some (.int .i64 (1 + (m : Int))) := hSw.b.cell 0; have p3 : w.cell? ⟨A1 + 1, 1, none⟩ = some (.int .i64 (Y : Int)) := hSw.b.cell 1; go_simp; first | done | with_reducible rfl)
      simp only [Act.put, List.getElem_toArray, List.getElem_cons_zero, List.getElem_cons_succ, List.setIfInBounds_toArray, List.set_cons_zero, List.set_cons_succ]
      refine wpAnyH_take (i := 9) (v := ?_) rfl (by kernel_rfl) (by kernel_rfl) (by kernel_rfl) (fun _ _ _ h => h) (Or.inl ⟨by rfl, ?_⟩) (by assumption) ?_
      rotate_left
      focus (intro w hSw; have p0 : w.cell? ⟨A1, 0, none⟩ = some (.int .i64 (1 + (m : Int))) := hSw.a.cell 0; have p1 : w.cell? ⟨A1, 1, none⟩ = some (.int .i64 (X : Int)) := hSw.a.cell 1; have p2 : w.cell? ⟨A1 + 1, 0, none⟩ = some (.int .i64 (1 + (m : Int))) := hSw.b.cell 0; have p3 : w.cell? ⟨A1 + 1, 1, none⟩ = some (.int .i64 (Y : Int)) := hSw.b.cell 1; go_simp; first | done | with_reducible rfl)
      simp only [Act.put, List.getElem_toArray, List.getElem_cons_zero, List.getElem_cons_succ, List.setIfInBounds_toArray, List.set_cons_zero, List.set_cons_succ]
      refine wpAnyH_done (by kernel_rfl) ?_ _
      go_wp2
      go_ret
      exact ⟨rfl, hHeld.below⟩
    · have Q1 : (T1.toList == T2.toList) = false := by rw [Q0]; simp [hmn]
      clear Q0
      refine wp_region_held_drew (S := fun z => TxS w A1 (1 + (m : Int)) (X : Int) (1 + (n : Int)) (Y : Int) z) (by kernel_rfl) ?_ (fun hHeld => ?_)
      · exact HS.out
      refine wpAnyH_take (i := 0) (v := ?_) rfl (by kernel_rfl) (by kernel_rfl) (by kernel_rfl) (fun _ _ _ h => h) (Or.inl ⟨by rfl, ?_⟩) (by assumption) ?_
      rotate_left
      focus (intro w hSw; have p0 : w.cell? ⟨A1, 0, none⟩ = some (.int .i64 (1 + (m : Int))) := hSw.a.cell 0; have p1 : w.cell? ⟨A1, 1, none⟩ = some (.int .i64 (X : Int)) := hSw.a.cell 1; have p2 : w.cell? ⟨A1 + 1, 0, none⟩ = some (.int .i64 (1 + (n : Int))) := hSw.b.cell 0; have p3 : w.cell? ⟨A1 + 1, 1, none⟩ = some (.int .i64 (Y : Int)) := hSw.b.cell 1; go_simp; first | done | with_reducible rfl)
      simp only [Act.put, List.getElem_toArray, List.getElem_cons_zero, List.setIfInBounds_toArray, List.set_cons_zero, List.set_cons_succ]
      refine wpAnyH_take (i := 2) (v := ?_) rfl (by kernel_rfl) (by kernel_rfl) (by kernel_rfl) (fun _ _ _ h => h) (Or.inl ⟨by rfl, ?_⟩) (by assumption) ?_
      rotate_left
      focus (intro w hSw; have p0 : w.cell? ⟨A1, 0, none⟩ = some (.int .i64 (1 + (m : Int))) := hSw.a.cell 0; have p1 : w.cell? ⟨A1, 1, none⟩ = some (.int .i64 (X : Int)) := hSw.a.cell 1; have p2 : w.cell? ⟨A1 + 1, 0, none⟩ = some (.int .i64 (1 + (n : Int))) := hSw.b.cell 0; have p3 : w.cell? ⟨A1 + 1, 1, none⟩ = some (.int .i64 (Y : Int)) := hSw.b.cell 1; go_simp; first | done | with_reducible rfl)
      simp only [Act.put, List.getElem_toArray, List.getElem_cons_zero, List.getElem_cons_succ, List.setIfInBounds_toArray, List.set_cons_zero, List.set_cons_succ]
      refine wpAnyH_take (i := 5) (v := ?_) rfl (by kernel_rfl) (by kernel_rfl) (by kernel_rfl) (fun _ _ _ h => h) (Or.inl ⟨by rfl, ?_⟩) (by assumption) ?_
      rotate_left
      focus (intro w hSw; have p0 : w.cell? ⟨A1, 0, none⟩ = some (.int .i64 (1 + (m : Int))) := hSw.a.cell 0; have p1 : w.cell? ⟨A1, 1, none⟩ = some (.int .i64 (X : Int)) := hSw.a.cell 1; have p2 : w.cell? ⟨A1 + 1, 0, none⟩ = some (.int .i64 (1 + (n : Int))) := hSw.b.cell 0; have p3 : w.cell? ⟨A1 + 1, 1, none⟩ = some (.int .i64 (Y : Int)) := hSw.b.cell 1; go_simp; first | done | with_reducible rfl)
      simp only [Act.put, List.getElem_toArray, List.getElem_cons_zero, List.getElem_cons_succ, List.setIfInBounds_toArray, List.set_cons_zero, List.set_cons_succ]
      refine wpAnyH_take (i := 6) (v := ?_) rfl (by kernel_rfl) (by kernel_rfl) (by kernel_rfl) (fun _ _ _ h => h) (Or.inl ⟨by rfl, ?_⟩) (by assumption) ?_
      rotate_left
      focus (intro w hSw; have p0 : w.cell? ⟨A1, 0, none⟩ = some (.int .i64 (1 + (m : Int))) := hSw.a.cell 0; have p1 : w.cell? ⟨A1, 1, none⟩ = some (.int .i64 (X : Int)) := hSw.a.cell 1; have p2 : w.cell? ⟨A1 + 1, 0, none⟩ = some (.int .i64 (1 + (n : Int))) := hSw.b.cell 0; have p3 : w.cell? ⟨A1 + 1, 1, none⟩ = some (.int .i64 (Y : Int)) := hSw.b.cell 1; go_simp; first | done | with_reducible rfl)
      simp only [Act.put, List.getElem_toArray, List.getElem_cons_zero, List.getElem_cons_succ, List.setIfInBounds_toArray, List.set_cons_zero, List.set_cons_succ]
      refine wpAnyH_take (i := 7) (v := ?_) rfl (by kernel_rfl) (by kernel_rfl) (by kernel_rfl) (fun _ _ _ h => h) (Or.inl ⟨by rfl, ?_⟩) (by assumption) ?_
      rotate_left
      focus (intro w hSw; have p0 : w.cell? ⟨A1, 0, none⟩ = some (.int .i64 (1 + (m : Int))) := hSw.a.cell 0; have p1 : w.cell? ⟨A1, 1, none⟩ = some (.int .i64 (X : Int)) := hSw.a.cell 1; have p2 : w.cell? ⟨A1 + 1, 0, none⟩ = some (.int .i64 (1 + (n : Int))) := hSw.b.cell 0; have p3 : w.cell? ⟨A1 + 1, 1, none⟩ = some (.int .i64 (Y : Int)) := hSw.b.cell 1; go_simp; first | done | with_reducible rfl)
      simp only [Act.put, List.getElem_toArray, List.getElem_cons_zero, List.getElem_cons_succ, List.setIfInBounds_toArray, List.set_cons_zero, List.set_cons_succ]
      refine wpAnyH_ready (rs := [1]) (by kernel_rfl) (by simp) ?_
      refine AllReadyH.cons (o := _) rfl (fun K hK => ?_) AllReadyH.nil
      go_simp
      with_reducible refine (HD1.out _ hHeld).mono ?_
      rintro e z1 ⟨rfl, hz1⟩
      go_simp
      refine hK.out _ _ hz1 (fun hHeld => ?_)
      clear hK K
      try simp only [Act.put, List.getElem_toArray, List.getElem_cons_zero, List.getElem_cons_succ, List.setIfInBounds_toArray, List.set_cons_zero, List.set_cons_succ]
      refine wpAnyH_ready (rs := [3]) (by kernel_rfl) (by simp) ?_
      refine AllReadyH.cons (o := _) rfl (fun K hK => ?_) AllReadyH.nil
      go_simp
      with_reducible refine (HD2.out _ hHeld).mono ?_
      rintro e z1 ⟨rfl, hz1⟩
      go_simp
      refine hK.out _ _ hz1 (fun hHeld => ?_)
      clear hK K
      try simp only [Act.put, List.getElem_toArray, List.getElem_cons_zero, List.getElem_cons_succ, List.setIfInBounds_toArray, List.set_cons_zero, List.set_cons_succ]
      refine wpAnyH_take (i := 4) (v := ?_) rfl (by kernel_rfl) (by kernel_rfl) (by kernel_rfl) (fun _ _ _ h => h) (Or.inl ⟨by rfl, ?_⟩) (by assumption) ?_
      rotate_left
      focus (intro w hSw; have p0 : w.cell? ⟨A1, 0, none⟩ = some (.int .i64 (1 + (m : Int))) := hSw.a.cell 0; have p1 : w.cell? ⟨A1, 1, none⟩ = some (.int .i64 (X : Int)) := hSw.a.cell 1; have p2 : w.cell? ⟨A1 + 1, 0, none⟩ = some (.int .i64 (1 + (n : Int))) := hSw.b.cell 0; have p3 : w.cell? ⟨A1 + 1, 1, none⟩ = some (.int .i64 (Y : Int)) := hSw.b.cell 1; go_simp; first | done | with_reducible rfl)
      simp only [Act.put, List.getElem_toArray, List.getElem_cons_zero, List.getElem_cons_succ, List.setIfInBounds_toArray, List.set_cons_zero, List.set_cons_succ]
      refine wpAnyH_take (i := 8) (v := ?_) rfl (by kernel_rfl) (by kernel_rfl) (by kernel_rfl) (fun _ _ _ h => h) (Or.inl ⟨by rfl, ?_⟩) (by assumption) ?_
      rotate_left
      focus (intro w hSw; have p0 : w.cell? ⟨A1, 0, none⟩ = some (.int .i64 (1 + (m : Int))) := hSw.a.cell 0; have p1 : w.cell? ⟨A1, 1, none⟩ = some (.int .i64 (X : Int)) := hSw.a.cell 1; have p2 : w.cell? ⟨A1 + 1, 0, none⟩ = some (.int .i64 (1 + (n : Int))) := hSw.b.cell 0; have p3 : w.cell? ⟨A1 + 1, 1, none⟩ = some (.int .i64 (Y : Int)) := hSw.b.cell 1; go_simp; first | done | with_reducible rfl)
      simp only [Act.put, List.getElem_toArray, List.getElem_cons_zero, List.getElem_cons_succ, List.setIfInBounds_toArray, List.set_cons_zero, List.set_cons_succ]
      refine wpAnyH_take (i := 9) (v := ?_) rfl (by kernel_rfl) (by kernel_rfl) (by kernel_rfl) (fun _ _ _ h => h) (Or.inl ⟨by rfl, ?_⟩) (by assumption) ?_
      rotate_left
      focus (intro w hSw; have p0 : w.cell? ⟨A1, 0, none⟩ = some (.int .i64 (1 + (m : Int))) := hSw.a.cell 0; have p1 : w.cell? ⟨A1, 1, none⟩ = some (.int .i64 (X : Int)) := hSw.a.cell 1; have p2 : w.cell? ⟨A1 + 1, 0, none⟩ = some (.int .i64 (1 + (n : Int))) := hSw.b.cell 0; have p3 : w.cell? ⟨A1 + 1, 1, none⟩ = some (.int .i64 (Y : Int)) := hSw.b.cell 1; go_simp; first | done | with_reducible rfl)
      simp only [Act.put, List.getElem_toArray, List.getElem_cons_zero, List.getElem_cons_succ, List.setIfInBounds_toArray, List.set_cons_zero, List.set_cons_succ]
      refine wpAnyH_done (by kernel_rfl) ?_ _
      go_wp2
      go_ret
      exact ⟨rfl, hHeld.below⟩

end Go.Proofs.YtkdgneinjkongaaDoor
