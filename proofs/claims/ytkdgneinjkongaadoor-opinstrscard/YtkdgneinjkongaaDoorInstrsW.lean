/-
  The walk of OpInstrs.
-/
import Derived.Test.YtkdgneinjkongaaDoorRight
import Derived.Test.YtkdgneinjkongaaDoorCodesW
namespace Go.Proofs.YtkdgneinjkongaaDoor
open Go.RowKit

/-- what lies in memory behind the first steps -/
structure InS (w0 : World) (B I A : Nat) (a : Option Addr) (n cap : Nat) (c x : Int) (z : World) : Prop where
  b : Blk z B [.slice a n cap] 32
  i : Blk z I [.int .i64 c, .int .i64 x] 34
  a : Blk z A [S8 kindsL] 9
  below : Below w0.heap.size w0 z
theorem InS.next {w0 : World} {B I A : Nat} {a : Option Addr} {n cap : Nat} {c x : Int} {z z' : World} (h : InS w0 B I A a n cap c x z) (hb : Below z.heap.size z z') : InS w0 B I A a n cap c x z' :=
  ⟨h.b.below hb, h.i.below hb, h.a.below hb, h.below.trans (hb.mono h.below.size)⟩

set_option maxHeartbeats 1000000 in
set_option maxRecDepth 100000 in
theorem instrs_long (c x : Int) (a : Option Addr) (n cap : Nat) (w : World) (hn : 10 < n) (hT : TabR w) (hP : Pow w) :
    Calls Tryd.prog 4 #[.int .i64 c, .int .i64 x, .slice a n cap] w fun e w' => e = .returned (.bool true) ∧ Below w.heap.size w w' := by
  have hn' : decide (10 < (n : Int)) = true := decide_eq_true (by omega)
  have hb0 := below1 w (.cells #[.slice a n cap] 32)
  have HC := Lib.hid (head7 _ (hT.below hb0) (hP.below hb0))
  have HB0 : Hid (Blk (w.alloc (.cells #[.slice a n cap] 32)) w.heap.size [.slice a n cap] 32) := Lib.hid (Blk.new w [.slice a n cap] 32)
  go_enter Tryd.func4, Tryd.ntmps4
  go_wp2_with fail
  refine HC.out.mono ?_
  rintro e w1 ⟨rfl, hb⟩
  have p0 := (HB0.out.below hb).cell 0
  simp only [List.getElem?_cons_zero] at p0
  have HB : Hid (Below w.heap.size w w1) := Lib.hid (hb0.trans (hb.mono hb0.size))
  clear hb hb0
  go_wp2
  go_ret
  exact ⟨rfl, HB.out⟩

set_option maxHeartbeats 2000000 in
set_option maxRecDepth 100000 in
theorem instrs_main (c x : Int) (ms : List Int) (a : Option Addr) (cap : Nat) (w : World) (hx0 : -9223372036854775808 ≤ x) (hx1 : x ≤ 9223372036854775807) (hA : Arg w a (ints ms)) (hn : ¬ 10 < ms.length) (hT : TabR w) (hP : Pow w) :
    Calls Tryd.prog 4 #[.int .i64 c, .int .i64 x, .slice a ms.length cap] w fun e w' => e = .returned (.bool true) ∧ Below w.heap.size w w' := by
  obtain ⟨M, hM⟩ : ∃ M, M = ofM kindsL ms (poolN (kd c)) := ⟨_, rfl⟩
  obtain ⟨X, hX⟩ : ∃ X, X = str (nameN (kd c)) := ⟨_, rfl⟩
  obtain ⟨Y, hY⟩ : ∃ X, X = str (Lib.itoa x) := ⟨_, rfl⟩
  obtain ⟨T, hTx⟩ : ∃ X, X = str (textN (kd c) x) := ⟨_, rfl⟩
  obtain ⟨r, hr⟩ : ∃ r, r = rightB (kd c) x M := ⟨_, rfl⟩
  obtain ⟨n, HN⟩ : ∃ n, Hid (n = ms.length) := ⟨_, Lib.hid rfl⟩
  have hbT : ∀ z, Below w.heap.size w z → TabR z := fun z hz => hT.below hz
  have hbP : ∀ z, Below w.heap.size w z → Pow z := fun z hz => hP.below hz
  have HN9 : Hid (∀ B I A z, InS w B I A a n cap c x z → Calls Tryd.prog 9 #[.int .i64 c] z fun e w' => e = .returned (.string X) ∧ z = w') := Lib.hid (fun _ _ _ z hz => (name9 c z (hbT z hz.below)).mono fun e w' ⟨p, q⟩ => ⟨by rw [p, hX]; rfl, q⟩)
  have HO10 : Hid (∀ B I A z, InS w B I A a n cap c x z → Calls Tryd.prog 10 #[.int .i64 c] z fun e w' => e = .returned (.int .i32 (poolN (kd c))) ∧ z = w') := Lib.hid (fun _ _ _ z hz => pool10 c z (hbT z hz.below))
  have HI16 : Hid (∀ B I A z, InS w B I A a n cap c x z → Calls Tryd.prog 16 #[.int .i64 x] z fun e w' => e = .returned (.string Y) ∧ InS w B I A a n cap c x w') := Lib.hid (fun _ _ _ z hz => (Tryd.strconv_Itoa x hx0 hx1 z (hbP z hz.below)).mono fun e w' ⟨he, k, os, hw⟩ => ⟨by rw [he, hY]; rfl, hz.next (by rw [hw]; exact grow_below z k os)⟩)
  have HT18 : Hid (∀ B I A z, InS w B I A a n cap c x z → Calls Tryd.prog 18 #[.agg #[.int .i64 c, .int .i64 x]] z fun e w' => e = .returned (.string T) ∧ InS w B I A a n cap c x w') := Lib.hid (fun _ _ _ z hz => (text18 c x hx0 hx1 z (hbT z hz.below) (hbP z hz.below)).mono fun e w' ⟨p, q⟩ => ⟨by rw [p, hTx]; rfl, hz.next q⟩)
  have hclo : ∀ B I A z, InS w B I A a n cap c x z → Calls Tryd.prog 15 #[.int .i32 (poolN (kd c)), .pointer (some ⟨A, 0, none⟩), .pointer (some ⟨B, 0, none⟩)] z fun e w' => e = .returned (.int .i64 M) ∧ z = w' := fun B I A z hz =>
    (clos15 (poolN (kd c)) ms a cap A B z (by rw [hz.a.cell]; rfl) (by rw [hz.b.cell, HN.out]; rfl) (hA.below hz.below)).mono fun e w' ⟨p, q⟩ => ⟨by rw [p, hM], q⟩
  have HC15 := Lib.hid hclo
  have HR17 : Hid (∀ B I A z, InS w B I A a n cap c x z → Calls Tryd.prog 17 #[.agg #[.int .i64 c, .int .i64 x], .func (.func 15) #[] #[.pointer (some ⟨A, 0, none⟩), .pointer (some ⟨B, 0, none⟩)]] z fun e w' => e = .returned (.bool r) ∧ InS w B I A a n cap c x w') := Lib.hid (fun B I A z hz => (right17 c x M _ _ z (hbT z hz.below) (fun y hy => (hclo B I A y (hz.next hy)).mono fun e w' ⟨p, q⟩ => ⟨p, by rw [← q]; exact Below.refl _ _⟩)).mono fun e w' ⟨p, q⟩ => ⟨by rw [p, hr], hz.next q⟩)
  have hK8 : ∀ z, Calls Tryd.prog 8 #[.int .i64 c] z fun e w' => e = .returned (.bool (decide (1 ≤ c) && decide (c ≤ 32))) ∧ z = w' := fun z => known8 c z
  have hn' : decide (10 < (n : Int)) = false := decide_eq_false (by have := HN.out; omega)
  have hb0 := below1 w (.cells #[.slice a n cap] 32)
  have HC := Lib.hid (head7 _ (hT.below hb0) (hP.below hb0))
  have HB0 : Hid (Blk (w.alloc (.cells #[.slice a n cap] 32)) w.heap.size [.slice a n cap] 32) := Lib.hid (Blk.new w [.slice a n cap] 32)
  have hs1 : X.size ≤ 6 := by rw [hX]; exact name_len (kd c) (kd_le c)
  have hs2 : Y.size ≤ 21 := by rw [hY]; exact Lib.itoa_length_le x hx0 hx1
  -- the cases
  have hcases : (∃ kb : Bool, (∀ z, Calls Tryd.prog 8 #[.int .i64 c] z fun e w' => e = .returned (.bool kb) ∧ z = w') ∧
      ((poolN (kd c) = 0 ∧ T = X ∧ ((kb = false ∧ r = false) ∨ (kb = true ∧ r = (x == 0)))) ∨
       ((poolN (kd c) == 0) = false ∧ T = X ++ ⟨#[32]⟩ ++ Y ∧ kb = true ∧ ((¬ 0 ≤ x ∧ r = false) ∨ (0 ≤ x ∧ r = decide (x < M)))))) := by
    refine ⟨_, hK8, ?_⟩
    by_cases hk : 1 ≤ c ∧ c ≤ 32
    · have hk0 : kd c ≠ 0 := by have := kd_in hk.1 hk.2; omega
      have hkb : (decide (1 ≤ c) && decide (c ≤ 32)) = true := by simp [hk.1, hk.2]
      by_cases hp : poolN (kd c) = 0
      · left
        refine ⟨hp, by rw [hTx, hX]; unfold textN; rw [if_pos hp], Or.inr ⟨hkb, ?_⟩⟩
        rw [hr]; unfold rightB; rw [decide_eq_true hk0, if_pos hp, Bool.true_and, Bool.eq_iff_iff]; simp
      · right
        refine ⟨by simpa using hp, by rw [hTx, hX, hY, str_app]; unfold textN; rw [if_neg hp], hkb, ?_⟩
        rw [hr]; unfold rightB; rw [decide_eq_true hk0, if_neg hp, Bool.true_and]
        by_cases h0 : 0 ≤ x
        · right; exact ⟨h0, by rw [decide_eq_true h0, Bool.true_and]⟩
        · left; exact ⟨h0, by rw [decide_eq_false h0, Bool.false_and]⟩
    · left
      have e0 := kd_out hk
      refine ⟨by rw [e0]; rfl, by rw [hTx, hX, e0]; rfl, Or.inl ⟨?_, by rw [hr, e0]; rfl⟩⟩
      rw [← Bool.decide_and]; exact decide_eq_false hk
  rw [← HN.out]
  generalize poolN (kd c) = P at *
  clear hM hX hY hTx hr hbT hbP hclo hK8 hT hP hA hx0 hx1 hn HN
  obtain ⟨kb, hk8, hcase⟩ := hcases
  have HK := Lib.hid hk8
  clear hk8
  have z1 : ¬ 9223372036854775807 < X.size + 1 := by omega
  have z2 : ¬ 9223372036854775807 < X.size + 1 + Y.size := by omega
  have htt : (T.toList == T.toList) = true := by simp
  rcases hcase with ⟨rfl, rfl, ⟨rfl, rfl⟩ | ⟨rfl, rfl⟩⟩ | ⟨hp, hTX, rfl, ⟨hx, rfl⟩ | ⟨hx, rfl⟩⟩
  · go_enter Tryd.func4, Tryd.ntmps4
    go_wp2_with fail
    refine HC.out.mono ?_
    rintro e w1 ⟨rfl, hb⟩
    have p0 := (HB0.out.below hb).cell 0
    simp only [List.getElem?_cons_zero] at p0
    obtain ⟨Z, HZ⟩ : ∃ Z, Hid (Z = (w1.alloc (.cells #[.int .i64 c, .int .i64 x] 34)).alloc (.cells #[S8 kindsL] 9)) := ⟨_, Lib.hid rfl⟩
    have HS : Hid (InS w w.heap.size w1.heap.size (w1.heap.size + 1) a n cap c x Z) := Lib.hid (by
      rw [HZ.out]
      have hb1 := below1 w1 (.cells #[.int .i64 c, .int .i64 x] 34)
      have hb2 := below1 (w1.alloc (.cells #[.int .i64 c, .int .i64 x] 34)) (.cells #[S8 kindsL] 9)
      exact ⟨((HB0.out.below hb).below hb1).below hb2, (Blk.new w1 [.int .i64 c, .int .i64 x] 34).below hb2, by have := Blk.new (w1.alloc (.cells #[.int .i64 c, .int .i64 x] 34)) [S8 kindsL] 9; simpa using this, (hb0.trans (hb.mono hb0.size)).trans ((hb1.trans (hb2.mono hb1.size)).mono (Nat.le_trans hb0.size hb.size))⟩)
    clear HC HB0 hb0 hb
    go_wp2_with fail
    rw [show (w1.alloc (.cells #[.int .i64 c, .int .i64 x] 34)).alloc (.cells #[.string ⟨#[110, 108, 102, 99, 116, 109, 106, 98]⟩] 9) = Z from HZ.out.symm]
    clear HZ p0
    generalize w1.heap.size = I at *
    generalize w.heap.size = B at *
    have p0 := HS.out.b.cell 0
    have p1 := HS.out.i.cell 0
    have p2 := HS.out.i.cell 1
    have p3 := HS.out.a.cell 0
    simp only [List.getElem?_cons_succ, List.getElem?_cons_zero] at p0 p1 p2 p3
    unfold S8 at p3
    refine (HK.out _).mono ?_
    rintro e w' ⟨rfl, rfl⟩
    go_wp2_with (first
      | (go_at_call 9; (with_reducible refine (HN9.out _ _ _ _ HS.out).mono ?_); rintro e w' ⟨rfl, rfl⟩)
      | (go_at_call 10; (with_reducible refine (HO10.out _ _ _ _ HS.out).mono ?_); rintro e w' ⟨rfl, rfl⟩)
      | (go_at_call 15; (with_reducible refine (HC15.out _ _ _ _ HS.out).mono ?_); rintro e w' ⟨rfl, rfl⟩))
    refine (HR17.out _ _ _ _ HS.out).mono ?_
    rintro e w4 ⟨rfl, hs4⟩
    have HS4 := Lib.hid hs4
    clear hs4 p0 p1 p2 p3
    have p0 := HS4.out.b.cell 0
    have p1 := HS4.out.i.cell 0
    have p2 := HS4.out.i.cell 1
    have p3 := HS4.out.a.cell 0
    simp only [List.getElem?_cons_succ, List.getElem?_cons_zero] at p0 p1 p2 p3
    unfold S8 at p3
    go_wp2_with fail
    refine (HT18.out _ _ _ _ HS4.out).mono ?_
    rintro e w5 ⟨rfl, hs5⟩
    clear p0 p1 p2 p3
    go_wp2
    go_ret
    exact ⟨rfl, hs5.below⟩
  · have hee : ((x == 0) == (x == 0)) = true := by simp
    go_enter Tryd.func4, Tryd.ntmps4
    go_wp2_with fail
    refine HC.out.mono ?_
    rintro e w1 ⟨rfl, hb⟩
    have p0 := (HB0.out.below hb).cell 0
    simp only [List.getElem?_cons_zero] at p0
    obtain ⟨Z, HZ⟩ : ∃ Z, Hid (Z = (w1.alloc (.cells #[.int .i64 c, .int .i64 x] 34)).alloc (.cells #[S8 kindsL] 9)) := ⟨_, Lib.hid rfl⟩
    have HS : Hid (InS w w.heap.size w1.heap.size (w1.heap.size + 1) a n cap c x Z) := Lib.hid (by
      rw [HZ.out]
      have hb1 := below1 w1 (.cells #[.int .i64 c, .int .i64 x] 34)
      have hb2 := below1 (w1.alloc (.cells #[.int .i64 c, .int .i64 x] 34)) (.cells #[S8 kindsL] 9)
      exact ⟨((HB0.out.below hb).below hb1).below hb2, (Blk.new w1 [.int .i64 c, .int .i64 x] 34).below hb2, by have := Blk.new (w1.alloc (.cells #[.int .i64 c, .int .i64 x] 34)) [S8 kindsL] 9; simpa using this, (hb0.trans (hb.mono hb0.size)).trans ((hb1.trans (hb2.mono hb1.size)).mono (Nat.le_trans hb0.size hb.size))⟩)
    clear HC HB0 hb0 hb
    go_wp2_with fail
    rw [show (w1.alloc (.cells #[.int .i64 c, .int .i64 x] 34)).alloc (.cells #[.string ⟨#[110, 108, 102, 99, 116, 109, 106, 98]⟩] 9) = Z from HZ.out.symm]
    clear HZ p0
    generalize w1.heap.size = I at *
    generalize w.heap.size = B at *
    have p0 := HS.out.b.cell 0
    have p1 := HS.out.i.cell 0
    have p2 := HS.out.i.cell 1
    have p3 := HS.out.a.cell 0
    simp only [List.getElem?_cons_succ, List.getElem?_cons_zero] at p0 p1 p2 p3
    unfold S8 at p3
    refine (HK.out _).mono ?_
    rintro e w' ⟨rfl, rfl⟩
    go_wp2_with (first
      | (go_at_call 9; (with_reducible refine (HN9.out _ _ _ _ HS.out).mono ?_); rintro e w' ⟨rfl, rfl⟩)
      | (go_at_call 10; (with_reducible refine (HO10.out _ _ _ _ HS.out).mono ?_); rintro e w' ⟨rfl, rfl⟩)
      | (go_at_call 15; (with_reducible refine (HC15.out _ _ _ _ HS.out).mono ?_); rintro e w' ⟨rfl, rfl⟩))
    refine (HR17.out _ _ _ _ HS.out).mono ?_
    rintro e w4 ⟨rfl, hs4⟩
    have HS4 := Lib.hid hs4
    clear hs4 p0 p1 p2 p3
    have p0 := HS4.out.b.cell 0
    have p1 := HS4.out.i.cell 0
    have p2 := HS4.out.i.cell 1
    have p3 := HS4.out.a.cell 0
    simp only [List.getElem?_cons_succ, List.getElem?_cons_zero] at p0 p1 p2 p3
    unfold S8 at p3
    go_wp2_with fail
    refine (HT18.out _ _ _ _ HS4.out).mono ?_
    rintro e w5 ⟨rfl, hs5⟩
    clear p0 p1 p2 p3
    go_wp2
    go_ret
    exact ⟨rfl, hs5.below⟩
  · have hgx : decide (0 ≤ x) = false := decide_eq_false hx
    subst hTX
    go_enter Tryd.func4, Tryd.ntmps4
    go_wp2_with fail
    refine HC.out.mono ?_
    rintro e w1 ⟨rfl, hb⟩
    have p0 := (HB0.out.below hb).cell 0
    simp only [List.getElem?_cons_zero] at p0
    obtain ⟨Z, HZ⟩ : ∃ Z, Hid (Z = (w1.alloc (.cells #[.int .i64 c, .int .i64 x] 34)).alloc (.cells #[S8 kindsL] 9)) := ⟨_, Lib.hid rfl⟩
    have HS : Hid (InS w w.heap.size w1.heap.size (w1.heap.size + 1) a n cap c x Z) := Lib.hid (by
      rw [HZ.out]
      have hb1 := below1 w1 (.cells #[.int .i64 c, .int .i64 x] 34)
      have hb2 := below1 (w1.alloc (.cells #[.int .i64 c, .int .i64 x] 34)) (.cells #[S8 kindsL] 9)
      exact ⟨((HB0.out.below hb).below hb1).below hb2, (Blk.new w1 [.int .i64 c, .int .i64 x] 34).below hb2, by have := Blk.new (w1.alloc (.cells #[.int .i64 c, .int .i64 x] 34)) [S8 kindsL] 9; simpa using this, (hb0.trans (hb.mono hb0.size)).trans ((hb1.trans (hb2.mono hb1.size)).mono (Nat.le_trans hb0.size hb.size))⟩)
    clear HC HB0 hb0 hb
    go_wp2_with fail
    rw [show (w1.alloc (.cells #[.int .i64 c, .int .i64 x] 34)).alloc (.cells #[.string ⟨#[110, 108, 102, 99, 116, 109, 106, 98]⟩] 9) = Z from HZ.out.symm]
    clear HZ p0
    generalize w1.heap.size = I at *
    generalize w.heap.size = B at *
    have p0 := HS.out.b.cell 0
    have p1 := HS.out.i.cell 0
    have p2 := HS.out.i.cell 1
    have p3 := HS.out.a.cell 0
    simp only [List.getElem?_cons_succ, List.getElem?_cons_zero] at p0 p1 p2 p3
    unfold S8 at p3
    refine (HK.out _).mono ?_
    rintro e w' ⟨rfl, rfl⟩
    go_wp2_with (first
      | (go_at_call 9; (with_reducible refine (HN9.out _ _ _ _ HS.out).mono ?_); rintro e w' ⟨rfl, rfl⟩)
      | (go_at_call 10; (with_reducible refine (HO10.out _ _ _ _ HS.out).mono ?_); rintro e w' ⟨rfl, rfl⟩)
      | (go_at_call 15; (with_reducible refine (HC15.out _ _ _ _ HS.out).mono ?_); rintro e w' ⟨rfl, rfl⟩))
    refine (HI16.out _ _ _ _ HS.out).mono ?_
    rintro e w3 ⟨rfl, hs3⟩
    have HS3 := Lib.hid hs3
    clear hs3 p0 p1 p2 p3 HS
    have p0 := HS3.out.b.cell 0
    have p1 := HS3.out.i.cell 0
    have p2 := HS3.out.i.cell 1
    have p3 := HS3.out.a.cell 0
    simp only [List.getElem?_cons_succ, List.getElem?_cons_zero] at p0 p1 p2 p3
    unfold S8 at p3
    go_wp2_with fail
    refine (HR17.out _ _ _ _ HS3.out).mono ?_
    rintro e w4 ⟨rfl, hs4⟩
    have HS4 := Lib.hid hs4
    clear hs4 p0 p1 p2 p3
    have p0 := HS4.out.b.cell 0
    have p1 := HS4.out.i.cell 0
    have p2 := HS4.out.i.cell 1
    have p3 := HS4.out.a.cell 0
    simp only [List.getElem?_cons_succ, List.getElem?_cons_zero] at p0 p1 p2 p3
    unfold S8 at p3
    go_wp2_with fail
    refine (HT18.out _ _ _ _ HS4.out).mono ?_
    rintro e w5 ⟨rfl, hs5⟩
    clear p0 p1 p2 p3
    go_wp2
    go_ret
    exact ⟨rfl, hs5.below⟩
  · have hgx : decide (0 ≤ x) = true := decide_eq_true hx
    have hee : (decide (x < M) == decide (x < M)) = true := by simp
    subst hTX
    go_enter Tryd.func4, Tryd.ntmps4
    go_wp2_with fail
    refine HC.out.mono ?_
    rintro e w1 ⟨rfl, hb⟩
    have p0 := (HB0.out.below hb).cell 0
    simp only [List.getElem?_cons_zero] at p0
    obtain ⟨Z, HZ⟩ : ∃ Z, Hid (Z = (w1.alloc (.cells #[.int .i64 c, .int .i64 x] 34)).alloc (.cells #[S8 kindsL] 9)) := ⟨_, Lib.hid rfl⟩
    have HS : Hid (InS w w.heap.size w1.heap.size (w1.heap.size + 1) a n cap c x Z) := Lib.hid (by
      rw [HZ.out]
      have hb1 := below1 w1 (.cells #[.int .i64 c, .int .i64 x] 34)
      have hb2 := below1 (w1.alloc (.cells #[.int .i64 c, .int .i64 x] 34)) (.cells #[S8 kindsL] 9)
      exact ⟨((HB0.out.below hb).below hb1).below hb2, (Blk.new w1 [.int .i64 c, .int .i64 x] 34).below hb2, by have := Blk.new (w1.alloc (.cells #[.int .i64 c, .int .i64 x] 34)) [S8 kindsL] 9; simpa using this, (hb0.trans (hb.mono hb0.size)).trans ((hb1.trans (hb2.mono hb1.size)).mono (Nat.le_trans hb0.size hb.size))⟩)
    clear HC HB0 hb0 hb
    go_wp2_with fail
    rw [show (w1.alloc (.cells #[.int .i64 c, .int .i64 x] 34)).alloc (.cells #[.string ⟨#[110, 108, 102, 99, 116, 109, 106, 98]⟩] 9) = Z from HZ.out.symm]
    clear HZ p0
    generalize w1.heap.size = I at *
    generalize w.heap.size = B at *
    have p0 := HS.out.b.cell 0
    have p1 := HS.out.i.cell 0
    have p2 := HS.out.i.cell 1
    have p3 := HS.out.a.cell 0
    simp only [List.getElem?_cons_succ, List.getElem?_cons_zero] at p0 p1 p2 p3
    unfold S8 at p3
    refine (HK.out _).mono ?_
    rintro e w' ⟨rfl, rfl⟩
    go_wp2_with (first
      | (go_at_call 9; (with_reducible refine (HN9.out _ _ _ _ HS.out).mono ?_); rintro e w' ⟨rfl, rfl⟩)
      | (go_at_call 10; (with_reducible refine (HO10.out _ _ _ _ HS.out).mono ?_); rintro e w' ⟨rfl, rfl⟩)
      | (go_at_call 15; (with_reducible refine (HC15.out _ _ _ _ HS.out).mono ?_); rintro e w' ⟨rfl, rfl⟩))
    refine (HI16.out _ _ _ _ HS.out).mono ?_
    rintro e w3 ⟨rfl, hs3⟩
    have HS3 := Lib.hid hs3
    clear hs3 p0 p1 p2 p3 HS
    have p0 := HS3.out.b.cell 0
    have p1 := HS3.out.i.cell 0
    have p2 := HS3.out.i.cell 1
    have p3 := HS3.out.a.cell 0
    simp only [List.getElem?_cons_succ, List.getElem?_cons_zero] at p0 p1 p2 p3
    unfold S8 at p3
    go_wp2_with fail
    refine (HR17.out _ _ _ _ HS3.out).mono ?_
    rintro e w4 ⟨rfl, hs4⟩
    have HS4 := Lib.hid hs4
    clear hs4 p0 p1 p2 p3
    have p0 := HS4.out.b.cell 0
    have p1 := HS4.out.i.cell 0
    have p2 := HS4.out.i.cell 1
    have p3 := HS4.out.a.cell 0
    simp only [List.getElem?_cons_succ, List.getElem?_cons_zero] at p0 p1 p2 p3
    unfold S8 at p3
    go_wp2_with fail
    refine (HT18.out _ _ _ _ HS4.out).mono ?_
    rintro e w5 ⟨rfl, hs5⟩
    clear p0 p1 p2 p3
    go_wp2
    go_ret
    exact ⟨rfl, hs5.below⟩
end Go.Proofs.YtkdgneinjkongaaDoor
