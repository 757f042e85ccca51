/-
  The walk of DiskSwaps.
-/
import Derived.Test.YtecegjdnodcamaaSwapsPlain
namespace Go.Proofs.Ytecegjdnodcamaa
open Go.RowKit Go.Maps Go.Sort

theorem rd_of (r : Nat) (D : Dt) (k s : ByteArray) (h : get D k = s ∧ hasF D k = true) : rdS ⟨r, D, [], false, 0, false⟩ k = (s, 0) := by
  unfold rdS DS.now
  simp only [apps, List.foldl_nil, h.1, h.2, Bool.false_eq_true, if_false, if_true]
theorem nm_of (r : Nat) (D : Dt) (n : Nat) (h : Maps.size D = n) : (nmS ⟨r, D, [], false, 0, false⟩).length = n := by
  unfold nmS DS.now
  simp only [apps, List.foldl_nil, Bool.false_eq_true, if_false, sk_len, h]
theorem cr0 (a b : ByteArray) : crS (z6 a b) [false, false, false] = ⟨1000, q2 a b, [], false, 0, false⟩ := rfl
theorem cr1 (a b : ByteArray) : crS (z6 a b) [true, false, false] = ⟨1000, q3 a b, [], false, 0, false⟩ := by
  show (⟨1000, app (q2 a b) c1, [], false, 0, false⟩ : DS) = _
  rw [a3]
theorem cr2 (a b : ByteArray) : crS (z6 a b) [true, true, false] = ⟨1000, q4 a b, [], false, 0, false⟩ := by
  show (⟨1000, app (app (q2 a b) c1) c2, [], false, 0, false⟩ : DS) = _
  rw [a3, a4]
theorem cr3 (a b : ByteArray) : crS (z6 a b) [true, true, true] = ⟨1000, q5 a b, [], false, 0, false⟩ := by
  show (⟨1000, app (app (app (q2 a b) c1) c2) c3, [], false, 0, false⟩ : DS) = _
  rw [a3, a4, a5]

set_option maxHeartbeats 800000 in
set_option maxRecDepth 100000 in
theorem diskSwaps_long (w : World) (a b : ByteArray) (n : Int) (ha : a.size ≤ maxLen) (hb : b.size ≤ maxLen) (h : 100 < a.size ∨ 100 < b.size) :
    Calls Try.prog 10 #[.string a, .string b, .int .i64 n] w fun e w' => e = .returned (.bool true) ∧ Below w.heap.size w w' := by
  unfold maxLen at ha hb
  by_cases h1 : 100 < a.size
  · go_enter Try.func10, Try.ntmps10
    go_wp2_with fail
    refine (head_any w).mono ?_
    rintro e w1 ⟨rfl, hb1⟩
    go_wp2
    go_ret
    exact ⟨rfl, hb1⟩
  · have h2 : 100 < b.size := by omega
    have d1 : decide ((100 : Int) < (a.size : Int)) = false := decide_eq_false (by omega)
    go_enter Try.func10, Try.ntmps10
    go_wp2_with fail
    refine (head_any w).mono ?_
    rintro e w1 ⟨rfl, hb1⟩
    go_wp2
    go_ret
    exact ⟨rfl, hb1⟩

set_option maxHeartbeats 3200000 in
set_option maxRecDepth 100000 in
theorem diskSwaps_0 (w : World) (a b : ByteArray) (n : Int) (hn : n % 4 = 0) (ha : a.size ≤ 100) (hb : b.size ≤ 100) :
    Calls Try.prog 10 #[.string a, .string b, .int .i64 n] w fun e w' => e = .returned (.bool true) ∧ Below w.heap.size w w' := by
  have hbits : bits .and .i64 n 3 = 0 := (i64_and3 n).trans hn
  have d1 : decide ((100 : Int) < (a.size : Int)) = false := decide_eq_false (by omega)
  have d2 : decide ((100 : Int) < (b.size : Int)) = false := decide_eq_false (by omega)
  have nof : ∀ (u : World) k, (fun _ : Nat => False) k → k < u.heap.size := fun _ _ e => e.elim
  have hma : a.size ≤ maxLen := by unfold maxLen; omega
  have hmb : b.size ≤ maxLen := by unfold maxLen; omega
  have HX := Lib.hid (rd_of 1000 (q2 a b) tA a (q2A a b))
  have HY := Lib.hid (rd_of 1000 (q2 a b) tB b (q2B a b))
  have HN := Lib.hid (nm_of 1000 (q2 a b) 2 (s2 a b))
  have HB : Hid ((z1 a).wt ≤ 100 ∧ (z2 a b).wt ≤ 200 ∧ (z3 a b).wt ≤ 200 ∧ (z4 a b).wt ≤ 201 ∧ (z5 a b).wt ≤ 202) := Lib.hid (by
    have e1 : tot (q2 a b) ≤ 200 := by
      have h1 := tot_put (g1 a) tB b
      have h2 := tot_del_le (g1 a) tB
      have h3 := tot_put good_empty tA a
      have h4 : tot (delF (.map []) tA) = 0 := rfl
      unfold q2
      unfold q1 at *
      omega
    refine ⟨?_, ?_, ?_, ?_, ?_⟩
    · show 0 + (a.size + 0) ≤ _; omega
    · show 0 + (a.size + (b.size + 0)) ≤ _; omega
    · show tot (q2 a b) + 0 ≤ _; omega
    · show tot (q2 a b) + (1 + 0) ≤ _; omega
    · show tot (q2 a b) + (1 + (1 + 0)) ≤ _; omega)
  have HCt : Hid ((z1 a).cnt = 1 ∧ (z3 a b).cnt = 2 ∧ (z4 a b).cnt = 3 ∧ (z5 a b).cnt = 4) := Lib.hid (by
    have e1 := s2 a b
    refine ⟨rfl, ?_, ?_, ?_⟩
    · show Maps.size (q2 a b) + 0 = _; omega
    · show Maps.size (q2 a b) + 1 = _; omega
    · show Maps.size (q2 a b) + 2 = _; omega)
  have W1 := Lib.hid (w1 (a := a) ha)
  have W2 := Lib.hid (w2 ha hb)
  have W3 := Lib.hid (w3 (a := a) (b := b))
  have W4 := Lib.hid (w4 (a := a) (b := b))
  have W5 := Lib.hid (w5 (a := a) (b := b))
  have W6 := Lib.hid (w6 (a := a) (b := b))
  clear hn
  go_enter Try.func10, Try.ntmps10
  go_wp2_with fail
  refine (head_any w).mono ?_
  rintro e u0 ⟨rfl, hb0⟩
  go_wp2_with fail
  refine (new_own 1000 u0 (fun _ => False) (nof u0)).mono ?_
  rintro e u1 ⟨rfl, o1, hb1, hz1⟩
  have HZ1 := Lib.hid hz1
  have hs1 := hb1.size
  clear hz1
  go_wp2_with fail
  refine (write_own u1 u0.heap.size u0.heap.size _ z0 o1 hs1 (nof u1) tA a (of_decide_eq_true (by kernel_rfl)) hma (by have : z0.wt = 0 := rfl; omega) (of_decide_eq_true (by kernel_rfl))).mono ?_
  rintro e u2 ⟨rfl, o2, m2⟩
  rw [W1.out] at o2 ⊢
  have hs2 := m2.size
  go_wp2_with fail
  refine (write_own u2 u0.heap.size u0.heap.size _ (z1 a) o2 (by omega) (nof u2) tB b (of_decide_eq_true (by kernel_rfl)) hmb (by have := HB.out.1; omega) (by have := HCt.out.1; omega)).mono ?_
  rintro e u3 ⟨rfl, o3, m3⟩
  rw [W2.out] at o3 ⊢
  have hs3 := m3.size
  go_wp2_with fail
  refine (sync_own u3 u0.heap.size u0.heap.size _ (z2 a b) o3 (by omega) (nof u3)).mono ?_
  rintro e u4 ⟨rfl, o4, m4⟩
  rw [W3.out] at o4 ⊢
  have hs4 := m4.size
  go_wp2_with fail
  refine (rename_own u4 u0.heap.size u0.heap.size _ (z3 a b) o4 (by omega) (nof u4) tA tT (of_decide_eq_true (by kernel_rfl)) (of_decide_eq_true (by kernel_rfl)) (by have := HB.out.2.2.1; have : tT.size = 1 := rfl; omega) (by have := HCt.out.2.1; omega)).mono ?_
  rintro e u5 ⟨rfl, o5, m5⟩
  rw [W4.out] at o5 ⊢
  have hs5 := m5.size
  go_wp2_with fail
  refine (rename_own u5 u0.heap.size u0.heap.size _ (z4 a b) o5 (by omega) (nof u5) tB tA (of_decide_eq_true (by kernel_rfl)) (of_decide_eq_true (by kernel_rfl)) (by have := HB.out.2.2.2.1; have : tA.size = 1 := rfl; omega) (by have := HCt.out.2.2.1; omega)).mono ?_
  rintro e u6 ⟨rfl, o6, m6⟩
  rw [W5.out] at o6 ⊢
  have hs6 := m6.size
  go_wp2_with fail
  refine (rename_own u6 u0.heap.size u0.heap.size _ (z5 a b) o6 (by omega) (nof u6) tT tB (of_decide_eq_true (by kernel_rfl)) (of_decide_eq_true (by kernel_rfl)) (by have := HB.out.2.2.2.2; have : tB.size = 1 := rfl; omega) (by have := HCt.out.2.2.2; omega)).mono ?_
  rintro e u7 ⟨rfl, o7, m7⟩
  rw [W6.out] at o7 ⊢
  have hs7 := m7.size
  have hbel : Below w.heap.size w u7 := (hb0.trans (hb1.mono hb0.size)).trans (May.below (May.trans (May.trans (May.trans (May.trans (May.trans m2 m3) m4) m5) m6) m7) hb0.size hs1)
  have HBE := Lib.hid hbel
  clear m2 m3 m4 m5 m6 m7 o1 o2 o3 o4 o5 o6 hbel
  go_wp2_with fail
  refine (crash_own (u7.alloc (.cells #[.bool false, .bool false, .bool false] 4)) u0.heap.size u0.heap.size _ (z6 a b) (o7.alloc _) (nof _) (some ⟨u7.heap.size, 0, none⟩) 3 [false, false, false] (barg_lit u7 [false, false, false] 4) (by simp [maxLen])).mono ?_
  rintro e u8 ⟨b', rfl, o8, hb8⟩
  rw [cr0] at o8
  have HB8 := Lib.hid (((HBE.out.alloc HBE.out.size (.cells #[.bool false, .bool false, .bool false] 4))).trans (hb8.mono (by have := HBE.out.size; simp; omega)))
  have O8 := Lib.hid o8
  clear o8 o7
  go_wp2_with fail
  rw [show (⟨#[97, 32, 98]⟩ : ByteArray).extract 0 1 = tA by decide +kernel]
  refine (read_own (O8.out.alloc _) tA (of_decide_eq_true (by kernel_rfl))).mono ?_
  rintro e u9 ⟨rfl, hb9⟩
  rw [HX.out]
  have O9 := Lib.hid ((O8.out.alloc (.cells #[.string ⟨#[97, 32, 98]⟩, .string ⟨#[98, 32, 116]⟩, .string ⟨#[97, 32, 116]⟩, .string ⟨#[97, 32, 98]⟩] 9)).below hb9)
  have HB9 := Lib.hid ((HB8.out.alloc HB8.out.size (.cells #[.string ⟨#[97, 32, 98]⟩, .string ⟨#[98, 32, 116]⟩, .string ⟨#[97, 32, 116]⟩, .string ⟨#[97, 32, 98]⟩] 9)).trans (hb9.mono (by have := HB8.out.size; simp; omega)))
  clear hb9 hb8
  go_wp2_with fail
  rw [show (⟨#[97, 32, 98]⟩ : ByteArray).extract 2 3 = tB by decide +kernel]
  refine (read_own O9.out tB (of_decide_eq_true (by kernel_rfl))).mono ?_
  rintro e uA ⟨rfl, hbA⟩
  rw [HY.out]
  have OA := Lib.hid (O9.out.below hbA)
  have HBA := Lib.hid (HB9.out.trans (hbA.mono HB9.out.size))
  clear hbA
  go_wp2_with fail
  refine (names_own (((((OA.out.alloc _).alloc _).alloc _).alloc _).alloc _)).mono ?_
  rintro e uB ⟨A, cap, rfl, hrow, hbB⟩
  rw [HN.out]
  have k0 : uB.cell? ⟨uA.heap.size, 0, none⟩ = some (.string a) := (hbB.cell (p := ⟨uA.heap.size, 0, none⟩) (by simp <;> omega)).trans (by go_simp)
  have k1 : uB.cell? ⟨uA.heap.size, 1, none⟩ = some (.string b) := (hbB.cell (p := ⟨uA.heap.size, 1, none⟩) (by simp <;> omega)).trans (by go_simp)
  have HBB : Hid (Below w.heap.size w uB) := Lib.hid ((((((HBA.out.alloc HBA.out.size _).alloc (by have := HBA.out.size; simp; omega) _).alloc (by have := HBA.out.size; simp; omega) _).alloc (by have := HBA.out.size; simp; omega) _).alloc (by have := HBA.out.size; simp; omega) _).trans (hbB.mono (by have := HBA.out.size; simp; omega)))
  clear hrow hbB
  go_wp2
  go_ret
  exact ⟨by simp, HBB.out⟩

set_option maxHeartbeats 3200000 in
set_option maxRecDepth 100000 in
theorem diskSwaps_1 (w : World) (a b : ByteArray) (n : Int) (hn : n % 4 = 1) (ha : a.size ≤ 100) (hb : b.size ≤ 100) :
    Calls Try.prog 10 #[.string a, .string b, .int .i64 n] w fun e w' => e = .returned (.bool true) ∧ Below w.heap.size w w' := by
  have hbits : bits .and .i64 n 3 = 1 := (i64_and3 n).trans hn
  have d1 : decide ((100 : Int) < (a.size : Int)) = false := decide_eq_false (by omega)
  have d2 : decide ((100 : Int) < (b.size : Int)) = false := decide_eq_false (by omega)
  have nof : ∀ (u : World) k, (fun _ : Nat => False) k → k < u.heap.size := fun _ _ e => e.elim
  have hma : a.size ≤ maxLen := by unfold maxLen; omega
  have hmb : b.size ≤ maxLen := by unfold maxLen; omega
  have HX := Lib.hid (rd_of 1000 (q3 a b) tB b (q3B a b))
  have HY := Lib.hid (rd_of 1000 (q3 a b) tT a (q3T a b))
  have HN := Lib.hid (nm_of 1000 (q3 a b) 2 (s3 a b))
  have HB : Hid ((z1 a).wt ≤ 100 ∧ (z2 a b).wt ≤ 200 ∧ (z3 a b).wt ≤ 200 ∧ (z4 a b).wt ≤ 201 ∧ (z5 a b).wt ≤ 202) := Lib.hid (by
    have e1 : tot (q2 a b) ≤ 200 := by
      have h1 := tot_put (g1 a) tB b
      have h2 := tot_del_le (g1 a) tB
      have h3 := tot_put good_empty tA a
      have h4 : tot (delF (.map []) tA) = 0 := rfl
      unfold q2
      unfold q1 at *
      omega
    refine ⟨?_, ?_, ?_, ?_, ?_⟩
    · show 0 + (a.size + 0) ≤ _; omega
    · show 0 + (a.size + (b.size + 0)) ≤ _; omega
    · show tot (q2 a b) + 0 ≤ _; omega
    · show tot (q2 a b) + (1 + 0) ≤ _; omega
    · show tot (q2 a b) + (1 + (1 + 0)) ≤ _; omega)
  have HCt : Hid ((z1 a).cnt = 1 ∧ (z3 a b).cnt = 2 ∧ (z4 a b).cnt = 3 ∧ (z5 a b).cnt = 4) := Lib.hid (by
    have e1 := s2 a b
    refine ⟨rfl, ?_, ?_, ?_⟩
    · show Maps.size (q2 a b) + 0 = _; omega
    · show Maps.size (q2 a b) + 1 = _; omega
    · show Maps.size (q2 a b) + 2 = _; omega)
  have W1 := Lib.hid (w1 (a := a) ha)
  have W2 := Lib.hid (w2 ha hb)
  have W3 := Lib.hid (w3 (a := a) (b := b))
  have W4 := Lib.hid (w4 (a := a) (b := b))
  have W5 := Lib.hid (w5 (a := a) (b := b))
  have W6 := Lib.hid (w6 (a := a) (b := b))
  clear hn
  go_enter Try.func10, Try.ntmps10
  go_wp2_with fail
  refine (head_any w).mono ?_
  rintro e u0 ⟨rfl, hb0⟩
  go_wp2_with fail
  refine (new_own 1000 u0 (fun _ => False) (nof u0)).mono ?_
  rintro e u1 ⟨rfl, o1, hb1, hz1⟩
  have HZ1 := Lib.hid hz1
  have hs1 := hb1.size
  clear hz1
  go_wp2_with fail
  refine (write_own u1 u0.heap.size u0.heap.size _ z0 o1 hs1 (nof u1) tA a (of_decide_eq_true (by kernel_rfl)) hma (by have : z0.wt = 0 := rfl; omega) (of_decide_eq_true (by kernel_rfl))).mono ?_
  rintro e u2 ⟨rfl, o2, m2⟩
  rw [W1.out] at o2 ⊢
  have hs2 := m2.size
  go_wp2_with fail
  refine (write_own u2 u0.heap.size u0.heap.size _ (z1 a) o2 (by omega) (nof u2) tB b (of_decide_eq_true (by kernel_rfl)) hmb (by have := HB.out.1; omega) (by have := HCt.out.1; omega)).mono ?_
  rintro e u3 ⟨rfl, o3, m3⟩
  rw [W2.out] at o3 ⊢
  have hs3 := m3.size
  go_wp2_with fail
  refine (sync_own u3 u0.heap.size u0.heap.size _ (z2 a b) o3 (by omega) (nof u3)).mono ?_
  rintro e u4 ⟨rfl, o4, m4⟩
  rw [W3.out] at o4 ⊢
  have hs4 := m4.size
  go_wp2_with fail
  refine (rename_own u4 u0.heap.size u0.heap.size _ (z3 a b) o4 (by omega) (nof u4) tA tT (of_decide_eq_true (by kernel_rfl)) (of_decide_eq_true (by kernel_rfl)) (by have := HB.out.2.2.1; have : tT.size = 1 := rfl; omega) (by have := HCt.out.2.1; omega)).mono ?_
  rintro e u5 ⟨rfl, o5, m5⟩
  rw [W4.out] at o5 ⊢
  have hs5 := m5.size
  go_wp2_with fail
  refine (rename_own u5 u0.heap.size u0.heap.size _ (z4 a b) o5 (by omega) (nof u5) tB tA (of_decide_eq_true (by kernel_rfl)) (of_decide_eq_true (by kernel_rfl)) (by have := HB.out.2.2.2.1; have : tA.size = 1 := rfl; omega) (by have := HCt.out.2.2.1; omega)).mono ?_
  rintro e u6 ⟨rfl, o6, m6⟩
  rw [W5.out] at o6 ⊢
  have hs6 := m6.size
  go_wp2_with fail
  refine (rename_own u6 u0.heap.size u0.heap.size _ (z5 a b) o6 (by omega) (nof u6) tT tB (of_decide_eq_true (by kernel_rfl)) (of_decide_eq_true (by kernel_rfl)) (by have := HB.out.2.2.2.2; have : tB.size = 1 := rfl; omega) (by have := HCt.out.2.2.2; omega)).mono ?_
  rintro e u7 ⟨rfl, o7, m7⟩
  rw [W6.out] at o7 ⊢
  have hs7 := m7.size
  have hbel : Below w.heap.size w u7 := (hb0.trans (hb1.mono hb0.size)).trans (May.below (May.trans (May.trans (May.trans (May.trans (May.trans m2 m3) m4) m5) m6) m7) hb0.size hs1)
  have HBE := Lib.hid hbel
  clear m2 m3 m4 m5 m6 m7 o1 o2 o3 o4 o5 o6 hbel
  go_wp2_with fail
  refine (crash_own (u7.alloc (.cells #[.bool true, .bool false, .bool false] 4)) u0.heap.size u0.heap.size _ (z6 a b) (o7.alloc _) (nof _) (some ⟨u7.heap.size, 0, none⟩) 3 [true, false, false] (barg_lit u7 [true, false, false] 4) (by simp [maxLen])).mono ?_
  rintro e u8 ⟨b', rfl, o8, hb8⟩
  rw [cr1] at o8
  have HB8 := Lib.hid (((HBE.out.alloc HBE.out.size (.cells #[.bool true, .bool false, .bool false] 4))).trans (hb8.mono (by have := HBE.out.size; simp; omega)))
  have O8 := Lib.hid o8
  clear o8 o7
  go_wp2_with fail
  rw [show (⟨#[98, 32, 116]⟩ : ByteArray).extract 0 1 = tB by decide +kernel]
  refine (read_own (O8.out.alloc _) tB (of_decide_eq_true (by kernel_rfl))).mono ?_
  rintro e u9 ⟨rfl, hb9⟩
  rw [HX.out]
  have O9 := Lib.hid ((O8.out.alloc (.cells #[.string ⟨#[97, 32, 98]⟩, .string ⟨#[98, 32, 116]⟩, .string ⟨#[97, 32, 116]⟩, .string ⟨#[97, 32, 98]⟩] 9)).below hb9)
  have HB9 := Lib.hid ((HB8.out.alloc HB8.out.size (.cells #[.string ⟨#[97, 32, 98]⟩, .string ⟨#[98, 32, 116]⟩, .string ⟨#[97, 32, 116]⟩, .string ⟨#[97, 32, 98]⟩] 9)).trans (hb9.mono (by have := HB8.out.size; simp; omega)))
  clear hb9 hb8
  go_wp2_with fail
  rw [show (⟨#[98, 32, 116]⟩ : ByteArray).extract 2 3 = tT by decide +kernel]
  refine (read_own O9.out tT (of_decide_eq_true (by kernel_rfl))).mono ?_
  rintro e uA ⟨rfl, hbA⟩
  rw [HY.out]
  have OA := Lib.hid (O9.out.below hbA)
  have HBA := Lib.hid (HB9.out.trans (hbA.mono HB9.out.size))
  clear hbA
  go_wp2_with fail
  refine (names_own (((((OA.out.alloc _).alloc _).alloc _).alloc _).alloc _)).mono ?_
  rintro e uB ⟨A, cap, rfl, hrow, hbB⟩
  rw [HN.out]
  have k0 : uB.cell? ⟨uA.heap.size + 1, 0, none⟩ = some (.string b) := (hbB.cell (p := ⟨uA.heap.size + 1, 0, none⟩) (by simp <;> omega)).trans (by go_simp)
  have k1 : uB.cell? ⟨uA.heap.size + 1, 1, none⟩ = some (.string a) := (hbB.cell (p := ⟨uA.heap.size + 1, 1, none⟩) (by simp <;> omega)).trans (by go_simp)
  have HBB : Hid (Below w.heap.size w uB) := Lib.hid ((((((HBA.out.alloc HBA.out.size _).alloc (by have := HBA.out.size; simp; omega) _).alloc (by have := HBA.out.size; simp; omega) _).alloc (by have := HBA.out.size; simp; omega) _).alloc (by have := HBA.out.size; simp; omega) _).trans (hbB.mono (by have := HBA.out.size; simp; omega)))
  clear hrow hbB
  go_wp2
  go_ret
  exact ⟨by simp, HBB.out⟩

set_option maxHeartbeats 3200000 in
set_option maxRecDepth 100000 in
theorem diskSwaps_2 (w : World) (a b : ByteArray) (n : Int) (hn : n % 4 = 2) (ha : a.size ≤ 100) (hb : b.size ≤ 100) :
    Calls Try.prog 10 #[.string a, .string b, .int .i64 n] w fun e w' => e = .returned (.bool true) ∧ Below w.heap.size w w' := by
  have hbits : bits .and .i64 n 3 = 2 := (i64_and3 n).trans hn
  have d1 : decide ((100 : Int) < (a.size : Int)) = false := decide_eq_false (by omega)
  have d2 : decide ((100 : Int) < (b.size : Int)) = false := decide_eq_false (by omega)
  have nof : ∀ (u : World) k, (fun _ : Nat => False) k → k < u.heap.size := fun _ _ e => e.elim
  have hma : a.size ≤ maxLen := by unfold maxLen; omega
  have hmb : b.size ≤ maxLen := by unfold maxLen; omega
  have HX := Lib.hid (rd_of 1000 (q4 a b) tA b (q4A a b))
  have HY := Lib.hid (rd_of 1000 (q4 a b) tT a (q4T a b))
  have HN := Lib.hid (nm_of 1000 (q4 a b) 2 (s4 a b))
  have HB : Hid ((z1 a).wt ≤ 100 ∧ (z2 a b).wt ≤ 200 ∧ (z3 a b).wt ≤ 200 ∧ (z4 a b).wt ≤ 201 ∧ (z5 a b).wt ≤ 202) := Lib.hid (by
    have e1 : tot (q2 a b) ≤ 200 := by
      have h1 := tot_put (g1 a) tB b
      have h2 := tot_del_le (g1 a) tB
      have h3 := tot_put good_empty tA a
      have h4 : tot (delF (.map []) tA) = 0 := rfl
      unfold q2
      unfold q1 at *
      omega
    refine ⟨?_, ?_, ?_, ?_, ?_⟩
    · show 0 + (a.size + 0) ≤ _; omega
    · show 0 + (a.size + (b.size + 0)) ≤ _; omega
    · show tot (q2 a b) + 0 ≤ _; omega
    · show tot (q2 a b) + (1 + 0) ≤ _; omega
    · show tot (q2 a b) + (1 + (1 + 0)) ≤ _; omega)
  have HCt : Hid ((z1 a).cnt = 1 ∧ (z3 a b).cnt = 2 ∧ (z4 a b).cnt = 3 ∧ (z5 a b).cnt = 4) := Lib.hid (by
    have e1 := s2 a b
    refine ⟨rfl, ?_, ?_, ?_⟩
    · show Maps.size (q2 a b) + 0 = _; omega
    · show Maps.size (q2 a b) + 1 = _; omega
    · show Maps.size (q2 a b) + 2 = _; omega)
  have W1 := Lib.hid (w1 (a := a) ha)
  have W2 := Lib.hid (w2 ha hb)
  have W3 := Lib.hid (w3 (a := a) (b := b))
  have W4 := Lib.hid (w4 (a := a) (b := b))
  have W5 := Lib.hid (w5 (a := a) (b := b))
  have W6 := Lib.hid (w6 (a := a) (b := b))
  clear hn
  go_enter Try.func10, Try.ntmps10
  go_wp2_with fail
  refine (head_any w).mono ?_
  rintro e u0 ⟨rfl, hb0⟩
  go_wp2_with fail
  refine (new_own 1000 u0 (fun _ => False) (nof u0)).mono ?_
  rintro e u1 ⟨rfl, o1, hb1, hz1⟩
  have HZ1 := Lib.hid hz1
  have hs1 := hb1.size
  clear hz1
  go_wp2_with fail
  refine (write_own u1 u0.heap.size u0.heap.size _ z0 o1 hs1 (nof u1) tA a (of_decide_eq_true (by kernel_rfl)) hma (by have : z0.wt = 0 := rfl; omega) (of_decide_eq_true (by kernel_rfl))).mono ?_
  rintro e u2 ⟨rfl, o2, m2⟩
  rw [W1.out] at o2 ⊢
  have hs2 := m2.size
  go_wp2_with fail
  refine (write_own u2 u0.heap.size u0.heap.size _ (z1 a) o2 (by omega) (nof u2) tB b (of_decide_eq_true (by kernel_rfl)) hmb (by have := HB.out.1; omega) (by have := HCt.out.1; omega)).mono ?_
  rintro e u3 ⟨rfl, o3, m3⟩
  rw [W2.out] at o3 ⊢
  have hs3 := m3.size
  go_wp2_with fail
  refine (sync_own u3 u0.heap.size u0.heap.size _ (z2 a b) o3 (by omega) (nof u3)).mono ?_
  rintro e u4 ⟨rfl, o4, m4⟩
  rw [W3.out] at o4 ⊢
  have hs4 := m4.size
  go_wp2_with fail
  refine (rename_own u4 u0.heap.size u0.heap.size _ (z3 a b) o4 (by omega) (nof u4) tA tT (of_decide_eq_true (by kernel_rfl)) (of_decide_eq_true (by kernel_rfl)) (by have := HB.out.2.2.1; have : tT.size = 1 := rfl; omega) (by have := HCt.out.2.1; omega)).mono ?_
  rintro e u5 ⟨rfl, o5, m5⟩
  rw [W4.out] at o5 ⊢
  have hs5 := m5.size
  go_wp2_with fail
  refine (rename_own u5 u0.heap.size u0.heap.size _ (z4 a b) o5 (by omega) (nof u5) tB tA (of_decide_eq_true (by kernel_rfl)) (of_decide_eq_true (by kernel_rfl)) (by have := HB.out.2.2.2.1; have : tA.size = 1 := rfl; omega) (by have := HCt.out.2.2.1; omega)).mono ?_
  rintro e u6 ⟨rfl, o6, m6⟩
  rw [W5.out] at o6 ⊢
  have hs6 := m6.size
  go_wp2_with fail
  refine (rename_own u6 u0.heap.size u0.heap.size _ (z5 a b) o6 (by omega) (nof u6) tT tB (of_decide_eq_true (by kernel_rfl)) (of_decide_eq_true (by kernel_rfl)) (by have := HB.out.2.2.2.2; have : tB.size = 1 := rfl; omega) (by have := HCt.out.2.2.2; omega)).mono ?_
  rintro e u7 ⟨rfl, o7, m7⟩
  rw [W6.out] at o7 ⊢
  have hs7 := m7.size
  have hbel : Below w.heap.size w u7 := (hb0.trans (hb1.mono hb0.size)).trans (May.below (May.trans (May.trans (May.trans (May.trans (May.trans m2 m3) m4) m5) m6) m7) hb0.size hs1)
  have HBE := Lib.hid hbel
  clear m2 m3 m4 m5 m6 m7 o1 o2 o3 o4 o5 o6 hbel
  go_wp2_with fail
  refine (crash_own (u7.alloc (.cells #[.bool true, .bool true, .bool false] 4)) u0.heap.size u0.heap.size _ (z6 a b) (o7.alloc _) (nof _) (some ⟨u7.heap.size, 0, none⟩) 3 [true, true, false] (barg_lit u7 [true, true, false] 4) (by simp [maxLen])).mono ?_
  rintro e u8 ⟨b', rfl, o8, hb8⟩
  rw [cr2] at o8
  have HB8 := Lib.hid (((HBE.out.alloc HBE.out.size (.cells #[.bool true, .bool true, .bool false] 4))).trans (hb8.mono (by have := HBE.out.size; simp; omega)))
  have O8 := Lib.hid o8
  clear o8 o7
  go_wp2_with fail
  rw [show (⟨#[97, 32, 116]⟩ : ByteArray).extract 0 1 = tA by decide +kernel]
  refine (read_own (O8.out.alloc _) tA (of_decide_eq_true (by kernel_rfl))).mono ?_
  rintro e u9 ⟨rfl, hb9⟩
  rw [HX.out]
  have O9 := Lib.hid ((O8.out.alloc (.cells #[.string ⟨#[97, 32, 98]⟩, .string ⟨#[98, 32, 116]⟩, .string ⟨#[97, 32, 116]⟩, .string ⟨#[97, 32, 98]⟩] 9)).below hb9)
  have HB9 := Lib.hid ((HB8.out.alloc HB8.out.size (.cells #[.string ⟨#[97, 32, 98]⟩, .string ⟨#[98, 32, 116]⟩, .string ⟨#[97, 32, 116]⟩, .string ⟨#[97, 32, 98]⟩] 9)).trans (hb9.mono (by have := HB8.out.size; simp; omega)))
  clear hb9 hb8
  go_wp2_with fail
  rw [show (⟨#[97, 32, 116]⟩ : ByteArray).extract 2 3 = tT by decide +kernel]
  refine (read_own O9.out tT (of_decide_eq_true (by kernel_rfl))).mono ?_
  rintro e uA ⟨rfl, hbA⟩
  rw [HY.out]
  have OA := Lib.hid (O9.out.below hbA)
  have HBA := Lib.hid (HB9.out.trans (hbA.mono HB9.out.size))
  clear hbA
  go_wp2_with fail
  refine (names_own (((((OA.out.alloc _).alloc _).alloc _).alloc _).alloc _)).mono ?_
  rintro e uB ⟨A, cap, rfl, hrow, hbB⟩
  rw [HN.out]
  have k0 : uB.cell? ⟨uA.heap.size + 2, 0, none⟩ = some (.string b) := (hbB.cell (p := ⟨uA.heap.size + 2, 0, none⟩) (by simp <;> omega)).trans (by go_simp)
  have k1 : uB.cell? ⟨uA.heap.size + 2, 1, none⟩ = some (.string a) := (hbB.cell (p := ⟨uA.heap.size + 2, 1, none⟩) (by simp <;> omega)).trans (by go_simp)
  have HBB : Hid (Below w.heap.size w uB) := Lib.hid ((((((HBA.out.alloc HBA.out.size _).alloc (by have := HBA.out.size; simp; omega) _).alloc (by have := HBA.out.size; simp; omega) _).alloc (by have := HBA.out.size; simp; omega) _).alloc (by have := HBA.out.size; simp; omega) _).trans (hbB.mono (by have := HBA.out.size; simp; omega)))
  clear hrow hbB
  go_wp2
  go_ret
  exact ⟨by simp, HBB.out⟩

set_option maxHeartbeats 3200000 in
set_option maxRecDepth 100000 in
theorem diskSwaps_3 (w : World) (a b : ByteArray) (n : Int) (hn : n % 4 = 3) (ha : a.size ≤ 100) (hb : b.size ≤ 100) :
    Calls Try.prog 10 #[.string a, .string b, .int .i64 n] w fun e w' => e = .returned (.bool true) ∧ Below w.heap.size w w' := by
  have hbits : bits .and .i64 n 3 = 3 := (i64_and3 n).trans hn
  have d1 : decide ((100 : Int) < (a.size : Int)) = false := decide_eq_false (by omega)
  have d2 : decide ((100 : Int) < (b.size : Int)) = false := decide_eq_false (by omega)
  have nof : ∀ (u : World) k, (fun _ : Nat => False) k → k < u.heap.size := fun _ _ e => e.elim
  have hma : a.size ≤ maxLen := by unfold maxLen; omega
  have hmb : b.size ≤ maxLen := by unfold maxLen; omega
  have HX := Lib.hid (rd_of 1000 (q5 a b) tA b (q5A a b))
  have HY := Lib.hid (rd_of 1000 (q5 a b) tB a (q5B a b))
  have HN := Lib.hid (nm_of 1000 (q5 a b) 2 (s5 a b))
  have HB : Hid ((z1 a).wt ≤ 100 ∧ (z2 a b).wt ≤ 200 ∧ (z3 a b).wt ≤ 200 ∧ (z4 a b).wt ≤ 201 ∧ (z5 a b).wt ≤ 202) := Lib.hid (by
    have e1 : tot (q2 a b) ≤ 200 := by
      have h1 := tot_put (g1 a) tB b
      have h2 := tot_del_le (g1 a) tB
      have h3 := tot_put good_empty tA a
      have h4 : tot (delF (.map []) tA) = 0 := rfl
      unfold q2
      unfold q1 at *
      omega
    refine ⟨?_, ?_, ?_, ?_, ?_⟩
    · show 0 + (a.size + 0) ≤ _; omega
    · show 0 + (a.size + (b.size + 0)) ≤ _; omega
    · show tot (q2 a b) + 0 ≤ _; omega
    · show tot (q2 a b) + (1 + 0) ≤ _; omega
    · show tot (q2 a b) + (1 + (1 + 0)) ≤ _; omega)
  have HCt : Hid ((z1 a).cnt = 1 ∧ (z3 a b).cnt = 2 ∧ (z4 a b).cnt = 3 ∧ (z5 a b).cnt = 4) := Lib.hid (by
    have e1 := s2 a b
    refine ⟨rfl, ?_, ?_, ?_⟩
    · show Maps.size (q2 a b) + 0 = _; omega
    · show Maps.size (q2 a b) + 1 = _; omega
    · show Maps.size (q2 a b) + 2 = _; omega)
  have W1 := Lib.hid (w1 (a := a) ha)
  have W2 := Lib.hid (w2 ha hb)
  have W3 := Lib.hid (w3 (a := a) (b := b))
  have W4 := Lib.hid (w4 (a := a) (b := b))
  have W5 := Lib.hid (w5 (a := a) (b := b))
  have W6 := Lib.hid (w6 (a := a) (b := b))
  clear hn
  go_enter Try.func10, Try.ntmps10
  go_wp2_with fail
  refine (head_any w).mono ?_
  rintro e u0 ⟨rfl, hb0⟩
  go_wp2_with fail
  refine (new_own 1000 u0 (fun _ => False) (nof u0)).mono ?_
  rintro e u1 ⟨rfl, o1, hb1, hz1⟩
  have HZ1 := Lib.hid hz1
  have hs1 := hb1.size
  clear hz1
  go_wp2_with fail
  refine (write_own u1 u0.heap.size u0.heap.size _ z0 o1 hs1 (nof u1) tA a (of_decide_eq_true (by kernel_rfl)) hma (by have : z0.wt = 0 := rfl; omega) (of_decide_eq_true (by kernel_rfl))).mono ?_
  rintro e u2 ⟨rfl, o2, m2⟩
  rw [W1.out] at o2 ⊢
  have hs2 := m2.size
  go_wp2_with fail
  refine (write_own u2 u0.heap.size u0.heap.size _ (z1 a) o2 (by omega) (nof u2) tB b (of_decide_eq_true (by kernel_rfl)) hmb (by have := HB.out.1; omega) (by have := HCt.out.1; omega)).mono ?_
  rintro e u3 ⟨rfl, o3, m3⟩
  rw [W2.out] at o3 ⊢
  have hs3 := m3.size
  go_wp2_with fail
  refine (sync_own u3 u0.heap.size u0.heap.size _ (z2 a b) o3 (by omega) (nof u3)).mono ?_
  rintro e u4 ⟨rfl, o4, m4⟩
  rw [W3.out] at o4 ⊢
  have hs4 := m4.size
  go_wp2_with fail
  refine (rename_own u4 u0.heap.size u0.heap.size _ (z3 a b) o4 (by omega) (nof u4) tA tT (of_decide_eq_true (by kernel_rfl)) (of_decide_eq_true (by kernel_rfl)) (by have := HB.out.2.2.1; have : tT.size = 1 := rfl; omega) (by have := HCt.out.2.1; omega)).mono ?_
  rintro e u5 ⟨rfl, o5, m5⟩
  rw [W4.out] at o5 ⊢
  have hs5 := m5.size
  go_wp2_with fail
  refine (rename_own u5 u0.heap.size u0.heap.size _ (z4 a b) o5 (by omega) (nof u5) tB tA (of_decide_eq_true (by kernel_rfl)) (of_decide_eq_true (by kernel_rfl)) (by have := HB.out.2.2.2.1; have : tA.size = 1 := rfl; omega) (by have := HCt.out.2.2.1; omega)).mono ?_
  rintro e u6 ⟨rfl, o6, m6⟩
  rw [W5.out] at o6 ⊢
  have hs6 := m6.size
  go_wp2_with fail
  refine (rename_own u6 u0.heap.size u0.heap.size _ (z5 a b) o6 (by omega) (nof u6) tT tB (of_decide_eq_true (by kernel_rfl)) (of_decide_eq_true (by kernel_rfl)) (by have := HB.out.2.2.2.2; have : tB.size = 1 := rfl; omega) (by have := HCt.out.2.2.2; omega)).mono ?_
  rintro e u7 ⟨rfl, o7, m7⟩
  rw [W6.out] at o7 ⊢
  have hs7 := m7.size
  have hbel : Below w.heap.size w u7 := (hb0.trans (hb1.mono hb0.size)).trans (May.below (May.trans (May.trans (May.trans (May.trans (May.trans m2 m3) m4) m5) m6) m7) hb0.size hs1)
  have HBE := Lib.hid hbel
  clear m2 m3 m4 m5 m6 m7 o1 o2 o3 o4 o5 o6 hbel
  go_wp2_with fail
  refine (crash_own (u7.alloc (.cells #[.bool true, .bool true, .bool true] 4)) u0.heap.size u0.heap.size _ (z6 a b) (o7.alloc _) (nof _) (some ⟨u7.heap.size, 0, none⟩) 3 [true, true, true] (barg_lit u7 [true, true, true] 4) (by simp [maxLen])).mono ?_
  rintro e u8 ⟨b', rfl, o8, hb8⟩
  rw [cr3] at o8
  have HB8 := Lib.hid (((HBE.out.alloc HBE.out.size (.cells #[.bool true, .bool true, .bool true] 4))).trans (hb8.mono (by have := HBE.out.size; simp; omega)))
  have O8 := Lib.hid o8
  clear o8 o7
  go_wp2_with fail
  rw [show (⟨#[97, 32, 98]⟩ : ByteArray).extract 0 1 = tA by decide +kernel]
  refine (read_own (O8.out.alloc _) tA (of_decide_eq_true (by kernel_rfl))).mono ?_
  rintro e u9 ⟨rfl, hb9⟩
  rw [HX.out]
  have O9 := Lib.hid ((O8.out.alloc (.cells #[.string ⟨#[97, 32, 98]⟩, .string ⟨#[98, 32, 116]⟩, .string ⟨#[97, 32, 116]⟩, .string ⟨#[97, 32, 98]⟩] 9)).below hb9)
  have HB9 := Lib.hid ((HB8.out.alloc HB8.out.size (.cells #[.string ⟨#[97, 32, 98]⟩, .string ⟨#[98, 32, 116]⟩, .string ⟨#[97, 32, 116]⟩, .string ⟨#[97, 32, 98]⟩] 9)).trans (hb9.mono (by have := HB8.out.size; simp; omega)))
  clear hb9 hb8
  go_wp2_with fail
  rw [show (⟨#[97, 32, 98]⟩ : ByteArray).extract 2 3 = tB by decide +kernel]
  refine (read_own O9.out tB (of_decide_eq_true (by kernel_rfl))).mono ?_
  rintro e uA ⟨rfl, hbA⟩
  rw [HY.out]
  have OA := Lib.hid (O9.out.below hbA)
  have HBA := Lib.hid (HB9.out.trans (hbA.mono HB9.out.size))
  clear hbA
  go_wp2_with fail
  refine (names_own (((((OA.out.alloc _).alloc _).alloc _).alloc _).alloc _)).mono ?_
  rintro e uB ⟨A, cap, rfl, hrow, hbB⟩
  rw [HN.out]
  have k0 : uB.cell? ⟨uA.heap.size + 3, 0, none⟩ = some (.string b) := (hbB.cell (p := ⟨uA.heap.size + 3, 0, none⟩) (by simp <;> omega)).trans (by go_simp)
  have k1 : uB.cell? ⟨uA.heap.size + 3, 1, none⟩ = some (.string a) := (hbB.cell (p := ⟨uA.heap.size + 3, 1, none⟩) (by simp <;> omega)).trans (by go_simp)
  have HBB : Hid (Below w.heap.size w uB) := Lib.hid ((((((HBA.out.alloc HBA.out.size _).alloc (by have := HBA.out.size; simp; omega) _).alloc (by have := HBA.out.size; simp; omega) _).alloc (by have := HBA.out.size; simp; omega) _).alloc (by have := HBA.out.size; simp; omega) _).trans (hbB.mono (by have := HBA.out.size; simp; omega)))
  clear hrow hbB
  go_wp2
  go_ret
  exact ⟨by simp, HBB.out⟩

theorem diskSwaps_walk (w : World) (a b : ByteArray) (n : Int) (ha : a.size ≤ maxLen) (hb : b.size ≤ maxLen) :
    Calls Try.prog 10 #[.string a, .string b, .int .i64 n] w fun e w' => e = .returned (.bool true) ∧ Below w.heap.size w w' := by
  by_cases h : 100 < a.size ∨ 100 < b.size
  · exact diskSwaps_long w a b n ha hb h
  · have h1 : a.size ≤ 100 := by omega
    have h2 : b.size ≤ 100 := by omega
    have h3 : n % 4 = 0 ∨ n % 4 = 1 ∨ n % 4 = 2 ∨ n % 4 = 3 := by omega
    rcases h3 with h3 | h3 | h3 | h3
    · exact diskSwaps_0 w a b n h3 h1 h2
    · exact diskSwaps_1 w a b n h3 h1 h2
    · exact diskSwaps_2 w a b n h3 h1 h2
    · exact diskSwaps_3 w a b n h3 h1 h2

end Go.Proofs.Ytecegjdnodcamaa
