/-
  LexLimits: the walk.
-/
import Derived.Test.YtaochdmbbbighaaDoorLimits
namespace Go.Proofs.YtaochdmbbbighaaDoor
open Go.RowKit

theorem szl (B : ByteArray) : B.size = B.data.toList.length := by simp
theorem gPow : Tryd.prog.globalNamed "internal/strconv.uint64pow10" = some 0 := by kernel_rfl
theorem Pow.below {w w' : World} (h : Pow w) (hT : Tabs w) (hb : Below w.heap.size w w') : Pow w' := by
  unfold Pow Lib.TabIs World.var? at *
  rw [gPow] at h ⊢
  have h0 : 0 < w.heap.size := by have := hT.2.2; omega
  have e := hb.block 0 h0
  simpa [e] using h

set_option maxHeartbeats 1000000 in
set_option maxRecDepth 100000 in
theorem limits_num (n : Int) (hn0 : 0 ≤ n) (hn1 : n ≤ 18446744073709551615) (long : Int) (w : World) (hT : Tabs w) (hP : Pow w) : Calls Tryd.prog 4 #[.int .u64 n, .int .i64 long, .bool true] w fun e w' => e = .returned (.bool true) ∧ Below w.heap.size w w' := by
  have h1 := u64_and60 n hn0 hn1
  have h2 := i64_and63 long
  obtain ⟨m, hm, hm1⟩ : ∃ m : Nat, n % 1152921504606846976 = (m : Int) ∧ m ≤ 1152921504606846975 := ⟨(n % 1152921504606846976).toNat, by omega, by omega⟩
  obtain ⟨j, hj, hj1⟩ : ∃ j : Nat, long % 64 = (j : Int) ∧ j < 64 := ⟨(long % 64).toNat, by omega, by omega⟩
  rw [hm] at h1
  rw [hj] at h2
  clear hm hj hn0 hn1
  by_cases hle : m ≤ 288230376151711744
  · have HL := Lib.hid (nums_ok m hle)
    go_enter Tryd.func4, Tryd.ntmps4
    go_wp2_with fail
    refine (head_any w hT).mono ?_
    rintro e w1 ⟨rfl, hb1⟩
    go_wp2_with fail
    refine (uint_any m (by omega) w1 (hP.below hT hb1)).mono ?_
    rintro e w2 ⟨rfl, hb2⟩
    obtain ⟨D, hD⟩ : ∃ D : ByteArray, D = ⟨(Lib.decDigits m).toArray⟩ := ⟨_, rfl⟩
    rw [← hD]
    have hDl : D.data.toList = Lib.decDigits m := by rw [hD]
    have hnd : (Lib.decDigits m).length ≤ 20 := by
      rw [Lib.decDigits_length]
      by_cases hm0 : m = 0
      · subst hm0; rw [Lib.nDigits_small (by omega)]; omega
      · have := Lib.numDigits_eq m (by omega) (by omega); split at this <;> omega
    have hDs : D.size ≤ 20 := by rw [szl, hDl]; exact hnd
    have HD := Lib.hid hDl
    have HND := Lib.hid hnd
    have hb02 := hb1.trans (hb2.mono hb1.size)
    clear hD hDl hnd
    go_wp2_with fail
    refine (all_of (l := 32 :: Lib.decDigits m) (by rw [ByteArray.data_append, Array.toList_append, HD.out]; rfl) (by have := HND.out; simp; omega) (hT.below hb02) HL.out).mono ?_
    rintro e w3 ⟨hb3, v3, rfl, row3⟩
    obtain ⟨s3, c3, rfl, _, l3, _, hc3⟩ := row_cells row3 (by show 0 < 2; decide)
    have p2 : w3.cell? ⟨s3, 2, none⟩ = some (.int .i64 (m : Int)) := hc3 2 _ rfl
    have e3 : (numsT m).length = 2 := rfl
    rw [e3]
    clear e3 hc3 row3
    go_wp2_with fail
    go_ret
    exact ⟨by simp, (hb02.trans (hb3.mono hb02.size)).alloc (Nat.le_trans hb02.size hb3.size) _⟩
  · have HL := Lib.hid (nums_bad m hle)
    go_enter Tryd.func4, Tryd.ntmps4
    go_wp2_with fail
    refine (head_any w hT).mono ?_
    rintro e w1 ⟨rfl, hb1⟩
    go_wp2_with fail
    refine (uint_any m (by omega) w1 (hP.below hT hb1)).mono ?_
    rintro e w2 ⟨rfl, hb2⟩
    obtain ⟨D, hD⟩ : ∃ D : ByteArray, D = ⟨(Lib.decDigits m).toArray⟩ := ⟨_, rfl⟩
    rw [← hD]
    have hDl : D.data.toList = Lib.decDigits m := by rw [hD]
    have hnd : (Lib.decDigits m).length ≤ 20 := by
      rw [Lib.decDigits_length]
      have := Lib.numDigits_eq m (by omega) (by omega)
      split at this <;> omega
    have hDs : D.size ≤ 20 := by rw [szl, hDl]; exact hnd
    have HD := Lib.hid hDl
    have HND := Lib.hid hnd
    have hb02 := hb1.trans (hb2.mono hb1.size)
    clear hD hDl hnd
    go_wp2_with fail
    refine (all_of (l := 32 :: Lib.decDigits m) (by rw [ByteArray.data_append, Array.toList_append, HD.out]; rfl) (by have := HND.out; simp; omega) (hT.below hb02) HL.out).mono ?_
    rintro e w3 ⟨hb3, rfl⟩
    have ep1 : (posL (32 :: Lib.decDigits m) 1 : Int) = 1 := rfl
    have ep2 : (posC (32 :: Lib.decDigits m) 1 : Int) = 2 := rfl
    rw [ep1, ep2]
    clear ep1 ep2
    go_wp2_with fail
    go_ret
    exact ⟨by simp, (hb02.trans (hb3.mono hb02.size)).alloc (Nat.le_trans hb02.size hb3.size) _⟩

set_option maxHeartbeats 1000000 in
set_option maxRecDepth 100000 in
theorem limits_name (n : Int) (long : Int) (w : World) (hT : Tabs w) : Calls Tryd.prog 4 #[.int .u64 n, .int .i64 long, .bool false] w fun e w' => e = .returned (.bool true) ∧ Below w.heap.size w w' := by
  have h2 := i64_and63 long
  obtain ⟨j, hj, hj1⟩ : ∃ j : Nat, long % 64 = (j : Int) ∧ j < 64 := ⟨(long % 64).toNat, by omega, by omega⟩
  rw [hj] at h2
  clear hj
  obtain ⟨x1, x2⟩ := xy_one j hj1
  have HX1 := Lib.hid x1
  have HX2 := Lib.hid x2
  clear x1 x2
  go_enter Tryd.func4, Tryd.ntmps4
  go_wp2_with fail
  refine (head_any w hT).mono ?_
  rintro e w1 ⟨rfl, hb1⟩
  go_wp2_with fail
  go_loop [9, 10] (fun t i => ∃ k : Nat, ∃ B : ByteArray, i = .int .i64 ((k : Int) + 1) ∧ k ≤ j ∧ t = .string B ∧ B.data.toList = xy k) (fun _ i => j + 1 - (intOf i).toNat)
  case atStart => exact ⟨0, ⟨#[120]⟩, rfl, by omega, rfl, rfl⟩
  case round =>
    obtain ⟨k, B, rfl, hk, rfl, hB⟩ := hrel
    have hBs : B.size ≤ 64 := by rw [szl, hB, xy_len]; omega
    have HB := Lib.hid hB
    clear hB
    by_cases hlt : k < j
    · go_wp2
      go_round
      case rel =>
        refine ⟨k + 1, B ++ ⟨#[121]⟩, by go_num, by omega, rfl, ?_⟩
        rw [ByteArray.data_append, Array.toList_append, HB.out]
        simp [xy, List.replicate_succ']
      case measure => simp [intOf]; omega
    · obtain rfl : k = j := by omega
      by_cases h40 : k < 40
      · go_wp2_with fail
        refine (all_of HB.out (by rw [xy_len]; omega) (hT.below hb1) (HX1.out h40)).mono ?_
        rintro e w3 ⟨hb3, v3, rfl, row3⟩
        obtain ⟨s3, c3, rfl, _, l3, _, hc3⟩ := row_cells row3 (by show 0 < 2; decide)
        have p1 : w3.cell? ⟨s3, 1, none⟩ = some (.string B) := by
          rw [hc3 1 _ rfl]
          show some (Value.string (str (xy k))) = _
          rw [← HB.out, str_data]
        have e3 : (oneT 3 (xy k)).length = 2 := rfl
        rw [e3]
        clear e3 hc3 row3
        go_wp2_with fail
        go_ret
        exact ⟨by simp, (hb1.trans (hb3.mono hb1.size)).alloc (Nat.le_trans hb1.size hb3.size) _⟩
      · go_wp2_with fail
        refine (all_of HB.out (by rw [xy_len]; omega) (hT.below hb1) (HX2.out h40)).mono ?_
        rintro e w3 ⟨hb3, rfl⟩
        have ep1 : (posL (xy k) 0 : Int) = 1 := rfl
        have ep2 : (posC (xy k) 0 : Int) = 1 := rfl
        rw [ep1, ep2]
        clear ep1 ep2
        go_wp2_with fail
        go_ret
        exact ⟨by simp, (hb1.trans (hb3.mono hb1.size)).alloc (Nat.le_trans hb1.size hb3.size) _⟩

theorem limits_walk (n : Int) (hn0 : 0 ≤ n) (hn1 : n ≤ 18446744073709551615) (long : Int) (which : Bool) (w : World) (hT : Tabs w) (hP : Pow w) : Calls Tryd.prog 4 #[.int .u64 n, .int .i64 long, .bool which] w fun e w' => e = .returned (.bool true) ∧ Below w.heap.size w w' := by
  cases which
  · exact limits_name n long w hT
  · exact limits_num n hn0 hn1 long w hT hP
end Go.Proofs.YtaochdmbbbighaaDoor
