/-
  The walk of PackApart.
-/
import Derived.Test.YtbpdeehpeflbeaaPlain
import Derived.Test.YtbpdeehpeflbeaaFlagsWalk
import Derived.Deep.QuietTactic
import Derived.BigQuiet
import Derived.Deep.RegionHeld3
namespace Go.Proofs.Ytbpdeehpeflbeaa
open Go.RowKit

theorem numl_held (w : World) (ad bd : Addr) (u v : Value) (ha : ad.block < w.heap.size) (hb : bd.block < w.heap.size) (z : Int) (hz : z ≤ 9223372036854775807) (wc : World)
    (h : Below w.heap.size w wc ∧ wc.cell? ad = some u ∧ wc.cell? bd = some v) :
    Calls Try.prog 27 #[.int .i64 z] wc fun e w' => e = .returned (.string ⟨(encI z).toArray⟩) ∧ (Below w.heap.size w w' ∧ w'.cell? ad = some u ∧ w'.cell? bd = some v) := by
  refine (numl_any z hz wc).mono ?_
  rintro e w' ⟨rfl, hb'⟩
  have hs := h.1.size
  exact ⟨rfl, h.1.trans (hb'.mono hs), (hb'.cell (by omega)).trans h.2.1, (hb'.cell (by omega)).trans h.2.2⟩

set_option maxHeartbeats 1600000 in
set_option maxRecDepth 100000 in
theorem apart_main (a b : List Int) (A B : Option Addr) (ca cb : Nat) (w : World) (L : Nat) (hA : Arg w A (ints a)) (hB : Arg w B (ints b)) (HLa : Hid (a.length = L)) (HLb : Hid (b.length = L))
    (hza : ∀ z ∈ a, -9223372036854775808 ≤ z ∧ z ≤ 9223372036854775807) (hzb : ∀ z ∈ b, -9223372036854775808 ≤ z ∧ z ≤ 9223372036854775807) (h30 : L ≤ 30) (h0 : 0 < L) :
    Calls Try.prog 7 #[.slice A L ca, .slice B L cb] w fun e w' => e = .returned (.bool true) ∧ Below w.heap.size w w' := by
  have h00 : ((L : Int) == 0) = false := beq_eq_false_iff_ne.2 (by omega)
  have h31 : decide (30 < L) = false := decide_eq_false (by omega)
  go_enter Try.func7, Try.ntmps7
  go_wp2_with fail
  refine (head_any w).mono ?_
  rintro e w1 ⟨rfl, hb1⟩
  have hs1 := hb1.size
  obtain ⟨W, HW⟩ : ∃ W, Hid (W = (w1.alloc (.cells #[.slice none 0 0] 28)).alloc (.cells #[.slice none 0 0] 28)) := ⟨_, Lib.hid rfl⟩
  have hbW : Below w.heap.size w W := by rw [HW.out]; exact (hb1.alloc hs1 _).alloc (by simp; omega) _
  have hsW : W.heap.size = w1.heap.size + 2 := by rw [HW.out]; simp
  have hwa : WAt (w1.heap.size + 2) w1.heap.size W [] := by rw [HW.out]; exact (WAt.new _ w1).alloc _
  have hwb : W.heap[w1.heap.size + 1]? = some (.cells #[.slice none 0 0] 28 (0, 0)) := by
    rw [HW.out]
    have := heap_alloc_new (w1.alloc (.cells #[.slice none 0 0] 28)) (.cells #[.slice none 0 0] 28)
    simpa using this
  have HS := Lib.hid hsW
  have HA := Lib.hid hwa
  have HB := Lib.hid hwb
  clear hsW hwa hwb
  go_wp2_with fail
  rw [← HW.out]
  have C1 := num_any (w1.heap.size + 2) w1.heap.size a hza A ca [] W HA.out (by omega) (by rw [HS.out]; omega) (hA.vals hbW (by omega) hs1) (by rw [HLa.out]; simp; omega)
  rw [HLa.out] at C1
  refine C1.mono ?_
  rintro e w2 ⟨rfl, hw2, hk2⟩
  rw [List.nil_append] at hw2
  have hb2 : Below w.heap.size w w2 := hbW.trans (hk2.below (by omega) hs1)
  have HB2 : Hid (w2.heap[w1.heap.size + 1]? = some (.cells #[.slice none 0 0] 28 (0, 0))) := (hk2.block _ (by omega) (by omega)).trans HB.out
  have hs2 : w1.heap.size + 2 ≤ w2.heap.size := by have := hk2.size; rw [HS.out] at this; exact this
  clear hk2 HA HB HS HW hbW C1
  go_wp2_with fail
  refine (string_any _ _ _ w2 hw2).mono ?_
  rintro e w' ⟨rfl, rfl⟩
  clear hw2
  go_wp2_with fail
  have C2 := num_any w2.heap.size (w1.heap.size + 1) b hzb B cb [] w2 ⟨_, HB2.out, World.ownsRow_nil _ _ _ _⟩ (by omega) (Nat.le_refl _) (hB.vals hb2 hb2.size (by omega)) (by rw [HLb.out]; simp; omega)
  rw [HLb.out] at C2
  refine C2.mono ?_
  rintro e w3 ⟨rfl, hw3, hk3⟩
  rw [List.nil_append] at hw3
  have hb3 : Below w.heap.size w w3 := hb2.trans (hk3.below hb2.size (by omega))
  clear hk3 HB2 C2
  go_wp2_with fail
  refine (string_any _ _ _ w3 hw3).mono ?_
  rintro e w' ⟨rfl, rfl⟩
  clear hw3
  go_wp2
  go_loopw [9, 43] (fun t i wr => ∃ k : Nat, i = .int .i64 k ∧ k ≤ L ∧ t = .bool (sameTo a b k) ∧ Below w.heap.size w wr) (fun _ i _ => L - (intOf i).toNat)
  case atStart => exact ⟨0, rfl, by omega, by simp [sameTo], hb3⟩
  case round =>
    obtain ⟨k, rfl, hk, rfl, hbk⟩ := hrel
    clear hb3 hb2 hb1
    by_cases hkl : k < L
    · have hka : k < a.length := by rw [HLa.out]; exact hkl
      have hkb : k < b.length := by rw [HLb.out]; exact hkl
      obtain ⟨x, HX⟩ : ∃ x, Hid (x = a[k]) := ⟨a[k], Lib.hid rfl⟩
      obtain ⟨y, HY⟩ : ∃ y, Hid (y = b[k]) := ⟨b[k], Lib.hid rfl⟩
      obtain ⟨ad, rfl, hca⟩ : ∃ ad, A = some ad ∧ wr.cell? (ad.add k) = some (.int .i64 x) := by
        obtain ⟨ad, h1, h2⟩ := hA.at_ hbk k (by simpa [ints] using hka)
        exact ⟨ad, h1, by rw [HX.out]; simpa [ints] using h2⟩
      obtain ⟨bd, rfl, hcb⟩ : ∃ bd, B = some bd ∧ wr.cell? (bd.add k) = some (.int .i64 y) := by
        obtain ⟨bd, h1, h2⟩ := hB.at_ hbk k (by simpa [ints] using hkb)
        exact ⟨bd, h1, by rw [HY.out]; simpa [ints] using h2⟩
      have HSU : Hid (sameTo a b (k + 1) = (sameTo a b k && ((max x 0) == (max y 0)))) := by rw [HX.out, HY.out]; exact sameTo_succ a b k hka hkb
      generalize sameTo a b k = S at *
      obtain ⟨Mx, hMx, hmx⟩ : ∃ M : Int, Hid (M = max x 0) ∧ (if x < 0 then (0 : Int) else x) = M := ⟨_, by rw [max_form]; exact Lib.hid rfl, rfl⟩
      obtain ⟨My, hMy, hmy⟩ : ∃ M : Int, Hid (M = max y 0) ∧ (if y < 0 then (0 : Int) else y) = M := ⟨_, by rw [max_form]; exact Lib.hid rfl, rfl⟩
      clear hA hB HX HY hka hkb
      cases S
      · go_wp2
        go_quiet (fail)
        go_wp2
        go_roundw
        case rel => exact ⟨k + 1, by go_num, by omega, by rw [HSU.out]; rfl, ⟨hbk.os, hbk.tape, hbk.output, hbk.size, hbk.block⟩⟩
        case measure => simp [intOf]; omega
      · go_wp2
        go_region
        go_wp2
        go_roundw
        case rel => exact ⟨k + 1, by go_num, by omega, by rw [HSU.out, ← hMx.out, ← hMy.out]; rfl, hbk.drew⟩
        case measure => simp [intOf]; omega
    · obtain rfl : k = L := by omega
      have hka : 0 < a.length := by rw [HLa.out]; exact h0
      have hkb : 0 < b.length := by rw [HLb.out]; exact h0
      obtain ⟨x, HX⟩ : ∃ x, Hid (x = a[0]) := ⟨a[0], Lib.hid rfl⟩
      obtain ⟨y, HY⟩ : ∃ y, Hid (y = b[0]) := ⟨b[0], Lib.hid rfl⟩
      obtain ⟨ad, rfl, hlta, hca⟩ : ∃ ad, A = some ad ∧ ad.block < w.heap.size ∧ wr.cell? ad = some (.int .i64 x) := by
        rcases hA with h | ⟨ad, h1, h2, h3⟩
        · simp [ints] at h; subst h; simp at hka
        · have := h3 0 (by simpa [ints] using hka)
          exact ⟨ad, h1, h2, by rw [hbk.cell h2, HX.out]; simpa [ints, Addr.add] using this⟩
      obtain ⟨bd, rfl, hltb, hcb⟩ : ∃ bd, B = some bd ∧ bd.block < w.heap.size ∧ wr.cell? bd = some (.int .i64 y) := by
        rcases hB with h | ⟨bd, h1, h2, h3⟩
        · simp [ints] at h; subst h; simp at hkb
        · have := h3 0 (by simpa [ints] using hkb)
          exact ⟨bd, h1, h2, by rw [hbk.cell h2, HY.out]; simpa [ints, Addr.add] using this⟩
      have HSW : Hid (sameTo a b k = decide (encAll a = encAll b)) := by
        have := same_whole a b (HLa.out.trans HLb.out.symm) (fun z hz => (hza z hz).2) (fun z hz => (hzb z hz).2)
        rw [HLa.out] at this
        exact this
      have HSB := Lib.hid (same_begin a b (HLa.out.trans HLb.out.symm) (fun z hz => (hza z hz).2) (fun z hz => (hzb z hz).2) _ rfl)
      have hxz : -9223372036854775808 ≤ x ∧ x ≤ 9223372036854775807 := by rw [HX.out]; exact hza _ (List.getElem_mem hka)
      have hyz : -9223372036854775808 ≤ y ∧ y ≤ 9223372036854775807 := by rw [HY.out]; exact hzb _ (List.getElem_mem hkb)
      have hlx : (encAll a).length ≤ 270 := by have := encAll_len a (fun z hz => (hza z hz).2); rw [HLa.out] at this; omega
      have hly : (encAll b).length ≤ 270 := by have := encAll_len b (fun z hz => (hzb z hz).2); rw [HLb.out] at this; omega
      rw [HSW.out]
      clear HX HY HSW hA hB hka hkb hza hzb HLa HLb
      generalize encAll a = X at *
      generalize encAll b = Y at *
      by_cases hXY : X = Y
      · subst hXY
        rw [decide_eq_true rfl]
        obtain ⟨Mx, hMx, hmx, HMx⟩ : ∃ M : Int, M ≤ 9223372036854775807 ∧ (if y < x then y else x) = M ∧ Hid (M = min x y) := ⟨_, by split <;> omega, rfl, Lib.hid (by omega)⟩
        obtain ⟨My, hMy, hmy, HMy⟩ : ∃ M : Int, M ≤ 9223372036854775807 ∧ (if x < y then y else x) = M ∧ Hid (M = max x y) := ⟨_, by split <;> omega, rfl, Lib.hid (by omega)⟩
        have HLE : Hid ((encI Mx).length ≤ (encI My).length) := by
          show _ ≤ _
          rw [HMx.out, HMy.out]
          exact enc_mono _ _ (by omega)
        go_wp2
        go_region_held3 (fun w' => Below w.heap.size w w' ∧ w'.cell? ad = some (.int .i64 x) ∧ w'.cell? bd = some (.int .i64 y))
          (first | exact ⟨hbk.drew, hca, hcb⟩ | exact hN | assumption)
          (first | (go_at_call 27; refine (numl_held w ad bd _ _ hlta hltb _ (by assumption) _ (by assumption)).mono ?_; rintro e wN ⟨rfl, hN⟩))
        all_goals
          go_wp2
          go_ret
          exact ⟨by simp [HLE.out], hN.1⟩
      · have hq1 : (X == Y) = false := by simp [hXY]
        obtain ⟨n, hn1, hn2, hmn, hq2⟩ : ∃ n : Nat, n ≤ X.length ∧ n ≤ Y.length ∧ (if Y.length < X.length then (Y.length : Int) else (X.length : Int)) = (n : Int) ∧ (X.take n == Y.take n) = false := by
          refine ⟨min X.length Y.length, by omega, by omega, by split <;> omega, ?_⟩
          have := HSB.out
          rw [decide_eq_false hXY] at this
          simpa using this.symm
        have hex : (⟨X.toArray⟩ : ByteArray).extract 0 n = ⟨(X.take n).toArray⟩ := by rw [cut_bytes]; rfl
        have hey : (⟨Y.toArray⟩ : ByteArray).extract 0 n = ⟨(Y.take n).toArray⟩ := by rw [cut_bytes]; rfl
        rw [decide_eq_false hXY]
        clear hXY HSB
        obtain ⟨Mx, hMx, hmx, HMx⟩ : ∃ M : Int, M ≤ 9223372036854775807 ∧ (if y < x then y else x) = M ∧ Hid (M = min x y) := ⟨_, by split <;> omega, rfl, Lib.hid (by omega)⟩
        obtain ⟨My, hMy, hmy, HMy⟩ : ∃ M : Int, M ≤ 9223372036854775807 ∧ (if x < y then y else x) = M ∧ Hid (M = max x y) := ⟨_, by split <;> omega, rfl, Lib.hid (by omega)⟩
        have HLE : Hid ((encI Mx).length ≤ (encI My).length) := by
          show _ ≤ _
          rw [HMx.out, HMy.out]
          exact enc_mono _ _ (by omega)
        go_wp2
        go_region_held3 (fun w' => Below w.heap.size w w' ∧ w'.cell? ad = some (.int .i64 x) ∧ w'.cell? bd = some (.int .i64 y))
          (first | exact ⟨hbk.drew, hca, hcb⟩ | exact hN | assumption)
          (first | (go_at_call 27; refine (numl_held w ad bd _ _ hlta hltb _ (by assumption) _ (by assumption)).mono ?_; rintro e wN ⟨rfl, hN⟩))
        all_goals
          go_wp2
          go_ret
          exact ⟨by simp [HLE.out], hN.1⟩

end Go.Proofs.Ytbpdeehpeflbeaa
