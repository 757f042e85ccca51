/-
  The walk of DiskRooms.
-/
import Derived.Test.YtecegjdnodcamaaRoomsPlain
import Derived.Test.YtecegjdnodcamaaOpen
import Derived.OwnWalk
namespace Go.Proofs.Ytecegjdnodcamaa
open Go.RowKit Go.Maps Go.Sort

def RBlk (w : World) (bq : Nat) (hl : List Int) : Prop := Blk w bq (hl.map (Value.int .i64)) 3
theorem RBlk.at_ {w : World} {bq : Nat} {hl : List Int} (h : RBlk w bq hl) (hlen : hl.length = 4) {j : Nat} (hj : j < 4) : w.cell? ⟨bq, j, none⟩ = some (.int .i64 (hl.getD j 0)) := by
  have := Blk.cell h j
  rw [this]
  simp [List.getD, List.getElem?_eq_getElem (show j < hl.length by omega)]
theorem RBlk.set {w : World} {bq : Nat} {hl : List Int} (h : RBlk w bq hl) (j : Nat) (x : Int) : RBlk (w.setCell ⟨bq, j, none⟩ (.int .i64 x)) bq (hl.set j x) := by
  have := Blk.set h j (.int .i64 x)
  unfold RBlk
  rw [List.map_set]
  exact this
/-- what the loop knows -/
def RRel (w : World) (n bd bq k : Nat) (L : Int) (wr : World) : Prop :=
  ∃ (S : DS) (hl : List Int), Own n (fun k => k = bq) wr bd S ∧ RI S hl L ∧ S.wt ≤ 255 * k ∧ S.cnt ≤ 2 * k ∧ RBlk wr bq hl ∧ Below w.heap.size w wr ∧ n ≤ wr.heap.size ∧ n ≤ bq
theorem grown_mods {w w' : World} (h : w.grownBy w' none) (fp : Nat → Prop) : Mods fp w w' := ⟨h.os, h.tape, h.output, h.size, fun k hk _ => h.block k hk (by simp)⟩

set_option maxHeartbeats 12800000 in
set_option maxRecDepth 100000 in
theorem diskRooms_walk (w : World) (room0 : Int) (A : Option Addr) (c : Nat) (zs : List Int) (hA : IArg w A zs) (hl : zs.length ≤ maxLen) :
    Calls Try.prog 8 #[.int .i64 room0, .slice A zs.length c] w fun e w' => e = .returned (.bool true) ∧ Below w.heap.size w w' := by
  unfold maxLen at hl
  have HA := Lib.hid hA
  clear hA
  by_cases h40 : 40 < zs.length
  · have d1 : decide ((40 : Int) < (zs.length : Int)) = true := decide_eq_true (by omega)
    go_enter Try.func8, Try.ntmps8
    go_wp2_with fail
    refine (head_any w).mono ?_
    rintro e u0 ⟨rfl, hb0⟩
    go_wp2
    go_ret
    exact ⟨rfl, hb0⟩
  · have d1 : decide ((40 : Int) < (zs.length : Int)) = false := decide_eq_false (by omega)
    obtain ⟨room, hroom, hr0, hr1⟩ : ∃ room : Int, bits .and .i64 room0 1023 = room ∧ 0 ≤ room ∧ room ≤ 1023 := ⟨room0 % 1024, i64_and1023 room0, by omega, by omega⟩
    obtain ⟨i0, hi, hz0, hz1', hz2⟩ := info_parts info5
    have nof : ∀ (u : World) k, (fun _ : Nat => False) k → k < u.heap.size := fun _ _ e => e.elim
    have HNOF := Lib.hid nof
    clear nof
    go_enter Try.func8, Try.ntmps8
    go_wp2_with fail
    refine (head_any w).mono ?_
    rintro e u0 ⟨rfl, hb0⟩
    go_wp2_with fail
    refine (new_own room u0 (fun _ => False) (HNOF.out u0)).mono ?_
    rintro e u1 ⟨rfl, o1, hb1, hz1⟩
    have hs1 : u0.heap.size < u1.heap.size := by omega
    have hs0 : w.heap.size ≤ u0.heap.size := hb0.size
    have HB1 := Lib.hid (hb0.trans (hb1.mono hb0.size))
    have HR0 : Hid (RRel w u0.heap.size u0.heap.size u1.heap.size 0 room (u1.alloc (.cells #[.int .i64 (-1), .int .i64 (-1), .int .i64 (-1), .int .i64 (-1)] 3))) := Lib.hid
      ⟨newS room, [-1, -1, -1, -1], (by
        obtain ⟨fp, hd, hf⟩ := o1
        exact ⟨fp, hd.keep (fq := fun _ => False) ((Mods.refl _ u1).alloc _) (fun _ _ => id), fun k hk => ⟨(hf k hk).1, by have := (hf k hk).2.1; simp; omega, by have := (hf k hk).2.1; omega⟩⟩),
        RI.start room hr0 hr1, by show tot (.map []) + 0 ≤ _; exact Nat.le_refl _, by show 0 + 0 ≤ _; omega, (MapKept.heap_alloc u1 _).1, HB1.out.alloc HB1.out.size _, by simp; omega, by omega⟩
    clear o1 hb1 hz1
    go_wp2
    go_loopw [7, 27] (fun lv i wr => ∃ (k : Nat) (L : Int), i = .int .i64 k ∧ k ≤ zs.length ∧ lv = .int .i64 L ∧ RRel w u0.heap.size u0.heap.size u1.heap.size k L wr) (fun _ i _ => zs.length - (intOf i).toNat)
    case atStart => exact ⟨0, room, rfl, by omega, rfl, HR0.out⟩
    case round =>
      obtain ⟨k, L, rfl, hk, rfl, S, hs, hO, hI, hwt, hct, hQ, hbk, hnk, hnq⟩ := hrel
      have HO := Lib.hid hO
      have HI := Lib.hid hI
      have HQ := Lib.hid hQ
      have HK := Lib.hid hO.ok
      have HLen := Lib.hid hI.len
      clear hO hI hQ HR0
      by_cases hkl : k < zs.length
      · obtain ⟨ad, hade, hc⟩ := HA.out.at_ hbk k hkl
        subst hade
        obtain ⟨x, hx⟩ : ∃ x, x = zs[k] := ⟨_, rfl⟩
        rw [← hx] at hc
        clear hx
        obtain ⟨n, hn, hn255⟩ : ∃ n : Nat, bits .and .i64 x 255 = (n : Int) ∧ n ≤ 255 := ⟨(x % 256).toNat, by rw [i64_and255]; omega, by omega⟩
        obtain ⟨j, hj, hj4⟩ : ∃ j : Nat, bits .and .i64 (k : Int) 3 = (j : Int) ∧ j < 4 := ⟨k % 4, by rw [i64_and3]; omega, by omega⟩
        obtain ⟨H, HH⟩ : ∃ H : Int, Hid (hs.getD j 0 = H) := ⟨_, Lib.hid rfl⟩
        obtain ⟨hLa, hLb⟩ := HI.out.bounds HK.out
        obtain ⟨hHa, hHb⟩ := HI.out.hb HK.out hj4
        rw [HH.out] at hHa hHb
        obtain ⟨P, HP⟩ : ∃ P : Int, Hid (P0 H = P) := ⟨_, Lib.hid rfl⟩
        have hP0 : max H 0 = P := by have := HP.out; unfold P0 at this; split at this <;> omega
        have hPb : 0 ≤ P ∧ P ≤ 1099511627776 := by have := HP.out; unfold P0 at this; split at this <;> omega
        obtain ⟨hPb1, hPb2⟩ := hPb
        have hcv := conv_nk wr j
        have HW1 : Hid (S.wt + 255 ≤ 1099511627776) := Lib.hid (by omega)
        have HW2 : Hid (S.cnt + 2 ≤ 500000) := Lib.hid (by omega)
        by_cases hfit : (n : Int) ≤ L + P
        · obtain ⟨S1, h1e, h1i, h1w, h1c⟩ := write_fit HI.out HK.out hj4 (n := n) (by rw [HH.out, HP.out]; exact hfit)
          rw [HH.out, HP.out] at h1i
          have H1E := Lib.hid h1e
          have H1I := Lib.hid h1i
          have H1W := Lib.hid h1w
          have H1C := Lib.hid h1c
          have hfd : decide ((n : Int) ≤ L + P) = true := decide_eq_true hfit
          clear h1e h1i h1w h1c
          obtain ⟨w3, hmk, hrow3, hgrow3⟩ := run_make_full (P := Try.prog) (wr.alloc (.cells #[.int .u8 (97 + (j : Int))] 5)) 0 58 5 i0 (.int .u8 0) 1 Try.underlying58 hi hz0 hz1' .i64 .i64 n (by rw [hz2]; omega) (by unfold maxLen; omega) (Nat.zero_le _)
          have hcv3 := conv_zero hrow3
          rw [show (wr.alloc (.cells #[.int .u8 (97 + (j : Int))] 5)).heap.size = wr.heap.size + 1 by simp] at hcv3
          have HM3 : Hid (Mods (fun _ => False) wr w3) := Lib.hid (((Mods.refl _ wr).alloc _).trans (grown_mods hgrow3 (fun _ => False)) (fun _ _ e => e) (fun _ _ e => e))
          have HO3 := Lib.hid (HO.out.keep HM3.out (fun _ _ _ _ => id))
          have HQ3 : Hid (RBlk w3 u1.heap.size hs) := Lib.hid (Blk.keep HQ.out HM3.out id)
          have HB3 := Lib.hid (hbk.trans (HM3.out.below (B := w.heap.size) (fun _ e => e.elim) hbk.size))
          have hn3 : u0.heap.size ≤ w3.heap.size := Nat.le_trans hnk HM3.out.size
          clear hrow3 hgrow3
          go_wp2_with fail
          refine (write_own w3 u0.heap.size u0.heap.size _ S HO3.out hn3 (fun k e => by rw [e]; exact Blk.lt HQ3.out) (nk j) (zer n) (by rw [nk_size]; simp [maxLen]) (by rw [zer_size]; unfold maxLen; omega) (by rw [zer_size]; have := HW1.out; omega) (by have := HW2.out; omega)).mono ?_
          rintro e u5 ⟨rfl, o5, m5⟩
          rw [H1E.out] at o5 ⊢
          have HO5 := Lib.hid o5
          have HQ5 : Hid (RBlk u5 u1.heap.size hs) := Lib.hid (Blk.keep HQ3.out m5 (fun e => e.2 rfl))
          have HB5 := Lib.hid (HB3.out.trans (May.below m5 hs0 hn3))
          have hn5 : u0.heap.size ≤ u5.heap.size := Nat.le_trans hn3 m5.size
          clear o5 m5 hcv hcv3 hmk
          have q0 : u5.cell? ⟨u1.heap.size, j, none⟩ = some (.int .i64 H) := by rw [← HH.out]; exact HQ5.out.at_ HLen.out hj4
          have f0 : u5.frozen? ⟨u1.heap.size, j, none⟩ = false := Blk.frozen HQ5.out j
          obtain ⟨u6, HU6⟩ : ∃ u6, Hid (u6 = u5.setCell ⟨u1.heap.size, j, none⟩ (.int .i64 (n : Int))) := ⟨_, Lib.hid rfl⟩
          have HQ6 : Hid (RBlk u6 u1.heap.size (hs.set j (n : Int))) := Lib.hid (by rw [HU6.out]; exact HQ5.out.set j _)
          have hm6 : Mods (fun k => k = u1.heap.size) u5 u6 := by rw [HU6.out]; exact (Mods.refl (fun k => k = u1.heap.size) u5).setCell (p := ⟨u1.heap.size, j, none⟩) (.inl rfl) _
          have HO6 : Hid (Own u0.heap.size (fun k => k = u1.heap.size) u6 u0.heap.size S1) := Lib.hid (HO5.out.keep hm6 (fun k _ hk _ e => hk e))
          have HB6 := Lib.hid (HB5.out.trans (hm6.below (fun k e => by omega) HB5.out.size))
          have hn6 : u0.heap.size ≤ u6.heap.size := Nat.le_trans hn5 hm6.size
          have q6 : u6.cell? ⟨u1.heap.size, j, none⟩ = some (.int .i64 (n : Int)) := by
            have := HQ6.out.at_ (by rw [List.length_set]; exact HLen.out) hj4
            rw [getD_set _ _ _ _ (by rw [HLen.out]; exact hj4), if_pos rfl] at this
            exact this
          have q6' : (u5.setCell ⟨u1.heap.size, j, none⟩ (.int .i64 (n : Int))).cell? ⟨u1.heap.size, j, none⟩ = some (.int .i64 (n : Int)) := by rw [← HU6.out]; exact q6
          have f6 : u6.frozen? ⟨u1.heap.size, j, none⟩ = false := Blk.frozen HQ6.out j
          clear hm6
          by_cases hr5 : k % 5 = 4
          · have hr5' : ((k : Int).tmod 5 == 4) = true := by rw [beq_iff_eq, Int.tmod_eq_emod_of_nonneg (by omega)]; omega
            obtain ⟨S2, h2e, h2i, h2w, h2c⟩ := remove_fit H1I.out HO6.out.ok hj4 (by rw [getD_set _ _ _ _ (by rw [HLen.out]; exact hj4), if_pos rfl]; omega)
            rw [getD_set _ _ _ _ (by rw [HLen.out]; exact hj4), if_pos rfl] at h2i
            have H2E := Lib.hid h2e
            have H2I := Lib.hid h2i
            have H2W := Lib.hid h2w
            have H2C := Lib.hid h2c
            clear h2e h2i h2w h2c
            go_wp2_with fail
            rw [← HU6.out]
            refine (remove_own u6 u0.heap.size u0.heap.size _ S1 HO6.out hn6 (fun k e => by rw [e]; exact Blk.lt HQ6.out) (nk j) (by rw [nk_size]; simp [maxLen]) (by have := H1C.out; have := HW2.out; omega)).mono ?_
            rintro e u7 ⟨rfl, o7, m7⟩
            rw [H2E.out] at o7 ⊢
            have HO7 := Lib.hid o7
            have HQ7 : Hid (RBlk u7 u1.heap.size (hs.set j (n : Int))) := Lib.hid (Blk.keep HQ6.out m7 (fun e => e.2 rfl))
            have HB7 := Lib.hid (HB6.out.trans (May.below m7 hs0 hn6))
            have hn7 : u0.heap.size ≤ u7.heap.size := Nat.le_trans hn6 m7.size
            have q7 : u7.cell? ⟨u1.heap.size, j, none⟩ = some (.int .i64 (n : Int)) := by
              have := HQ7.out.at_ (by rw [List.length_set]; exact HLen.out) hj4
              rw [getD_set _ _ _ _ (by rw [HLen.out]; exact hj4), if_pos rfl] at this
              exact this
            have f7 : u7.frozen? ⟨u1.heap.size, j, none⟩ = false := Blk.frozen HQ7.out j
            obtain ⟨u8, HU8⟩ : ∃ u8, Hid (u8 = u7.setCell ⟨u1.heap.size, j, none⟩ (.int .i64 (-1))) := ⟨_, Lib.hid rfl⟩
            have HQ8 : Hid (RBlk u8 u1.heap.size (((hs.set j (n : Int))).set j (-1))) := Lib.hid (by rw [HU8.out]; exact HQ7.out.set j _)
            have hm8 : Mods (fun k => k = u1.heap.size) u7 u8 := by rw [HU8.out]; exact (Mods.refl (fun k => k = u1.heap.size) u7).setCell (p := ⟨u1.heap.size, j, none⟩) (.inl rfl) _
            have HO8 : Hid (Own u0.heap.size (fun k => k = u1.heap.size) u8 u0.heap.size S2) := Lib.hid (HO7.out.keep hm8 (fun k _ hk _ e => hk e))
            have HB8 := Lib.hid (HB7.out.trans (hm8.below (fun k e => by omega) HB7.out.size))
            have hn8 : u0.heap.size ≤ u8.heap.size := Nat.le_trans hn7 hm8.size
            clear hm8 o7 m7
            go_wp2_with fail
            rw [← HU8.out]
            refine (room_own HO8.out).mono ?_
            rintro e u9 ⟨rfl, nn, rfl⟩
            rw [← H2I.out.left]
            have HRn : Hid (RRel w u0.heap.size u0.heap.size u1.heap.size (k + 1) _ (u8.drewN nn)) := Lib.hid ⟨S2, _, HO8.out.drewN nn, H2I.out, by have := H1W.out; have := H2W.out; omega, by have := H1C.out; have := H2C.out; omega, Blk.drewN HQ8.out nn, ⟨HB8.out.os, HB8.out.tape, HB8.out.output, HB8.out.size, HB8.out.block⟩, hn8, hnq⟩
            go_wp2
            go_roundw
            case rel => exact ⟨k + 1, _, by go_num, by omega, rfl, HRn.out⟩
            case measure => simp [intOf]; omega
          · have hr5' : ((k : Int).tmod 5 == 4) = false := by rw [beq_eq_false_iff_ne, Int.tmod_eq_emod_of_nonneg (by omega)]; omega
            go_wp2_with fail
            rw [← HU6.out]
            refine (room_own HO6.out).mono ?_
            rintro e u9 ⟨rfl, nn, rfl⟩
            rw [← H1I.out.left]
            have HRn : Hid (RRel w u0.heap.size u0.heap.size u1.heap.size (k + 1) _ (u6.drewN nn)) := Lib.hid ⟨S1, _, HO6.out.drewN nn, H1I.out, by have := H1W.out; omega, by have := H1C.out; omega, Blk.drewN HQ6.out nn, ⟨HB6.out.os, HB6.out.tape, HB6.out.output, HB6.out.size, HB6.out.block⟩, hn6, hnq⟩
            go_wp2
            go_roundw
            case rel => exact ⟨k + 1, _, by go_num, by omega, rfl, HRn.out⟩
            case measure => simp [intOf]; omega
        · have H1E := Lib.hid (write_no HI.out hj4 (n := n) (by rw [HH.out, HP.out]; exact hfit))
          have hfd : decide ((n : Int) ≤ L + P) = false := decide_eq_false hfit
          obtain ⟨w3, hmk, hrow3, hgrow3⟩ := run_make_full (P := Try.prog) (wr.alloc (.cells #[.int .u8 (97 + (j : Int))] 5)) 0 58 5 i0 (.int .u8 0) 1 Try.underlying58 hi hz0 hz1' .i64 .i64 n (by rw [hz2]; omega) (by unfold maxLen; omega) (Nat.zero_le _)
          have hcv3 := conv_zero hrow3
          rw [show (wr.alloc (.cells #[.int .u8 (97 + (j : Int))] 5)).heap.size = wr.heap.size + 1 by simp] at hcv3
          have HM3 : Hid (Mods (fun _ => False) wr w3) := Lib.hid (((Mods.refl _ wr).alloc _).trans (grown_mods hgrow3 (fun _ => False)) (fun _ _ e => e) (fun _ _ e => e))
          have HO3 := Lib.hid (HO.out.keep HM3.out (fun _ _ _ _ => id))
          have HQ3 : Hid (RBlk w3 u1.heap.size hs) := Lib.hid (Blk.keep HQ.out HM3.out id)
          have HB3 := Lib.hid (hbk.trans (HM3.out.below (B := w.heap.size) (fun _ e => e.elim) hbk.size))
          have hn3 : u0.heap.size ≤ w3.heap.size := Nat.le_trans hnk HM3.out.size
          clear hrow3 hgrow3
          go_wp2_with fail
          refine (write_own w3 u0.heap.size u0.heap.size _ S HO3.out hn3 (fun k e => by rw [e]; exact Blk.lt HQ3.out) (nk j) (zer n) (by rw [nk_size]; simp [maxLen]) (by rw [zer_size]; unfold maxLen; omega) (by rw [zer_size]; have := HW1.out; omega) (by have := HW2.out; omega)).mono ?_
          rintro e u5 ⟨rfl, o5, m5⟩
          rw [H1E.out] at o5 ⊢
          have HO5 := Lib.hid o5
          have HQ5 : Hid (RBlk u5 u1.heap.size hs) := Lib.hid (Blk.keep HQ3.out m5 (fun e => e.2 rfl))
          have HB5 := Lib.hid (HB3.out.trans (May.below m5 hs0 hn3))
          have hn5 : u0.heap.size ≤ u5.heap.size := Nat.le_trans hn3 m5.size
          clear o5 m5 hcv hcv3 hmk
          have q0 : u5.cell? ⟨u1.heap.size, j, none⟩ = some (.int .i64 H) := by rw [← HH.out]; exact HQ5.out.at_ HLen.out hj4
          have f0 : u5.frozen? ⟨u1.heap.size, j, none⟩ = false := Blk.frozen HQ5.out j
          by_cases hr5 : k % 5 = 4
          · have hr5' : ((k : Int).tmod 5 == 4) = true := by rw [beq_iff_eq, Int.tmod_eq_emod_of_nonneg (by omega)]; omega
            by_cases hH : 0 ≤ H
            · obtain ⟨S2, h2e, h2i, h2w, h2c⟩ := remove_fit HI.out HK.out hj4 (by rw [HH.out]; exact hH)
              rw [HH.out] at h2i
              have hHd : decide ((0 : Int) ≤ H) = true := decide_eq_true hH
              have H2E := Lib.hid h2e
              have H2I := Lib.hid h2i
              have H2W := Lib.hid h2w
              have H2C := Lib.hid h2c
              clear h2e h2i h2w h2c
              go_wp2_with fail
              refine (remove_own u5 u0.heap.size u0.heap.size _ S HO5.out hn5 (fun k e => by rw [e]; exact Blk.lt HQ5.out) (nk j) (by rw [nk_size]; simp [maxLen]) (by have := HW2.out; omega)).mono ?_
              rintro e u7 ⟨rfl, o7, m7⟩
              rw [H2E.out] at o7 ⊢
              have HO7 := Lib.hid o7
              have HQ7 : Hid (RBlk u7 u1.heap.size hs) := Lib.hid (Blk.keep HQ5.out m7 (fun e => e.2 rfl))
              have HB7 := Lib.hid (HB5.out.trans (May.below m7 hs0 hn5))
              have hn7 : u0.heap.size ≤ u7.heap.size := Nat.le_trans hn5 m7.size
              have q7 : u7.cell? ⟨u1.heap.size, j, none⟩ = some (.int .i64 H) := by
                rw [← HH.out]
                exact HQ7.out.at_ HLen.out hj4
              have f7 : u7.frozen? ⟨u1.heap.size, j, none⟩ = false := Blk.frozen HQ7.out j
              obtain ⟨u8, HU8⟩ : ∃ u8, Hid (u8 = u7.setCell ⟨u1.heap.size, j, none⟩ (.int .i64 (-1))) := ⟨_, Lib.hid rfl⟩
              have HQ8 : Hid (RBlk u8 u1.heap.size ((hs).set j (-1))) := Lib.hid (by rw [HU8.out]; exact HQ7.out.set j _)
              have hm8 : Mods (fun k => k = u1.heap.size) u7 u8 := by rw [HU8.out]; exact (Mods.refl (fun k => k = u1.heap.size) u7).setCell (p := ⟨u1.heap.size, j, none⟩) (.inl rfl) _
              have HO8 : Hid (Own u0.heap.size (fun k => k = u1.heap.size) u8 u0.heap.size S2) := Lib.hid (HO7.out.keep hm8 (fun k _ hk _ e => hk e))
              have HB8 := Lib.hid (HB7.out.trans (hm8.below (fun k e => by omega) HB7.out.size))
              have hn8 : u0.heap.size ≤ u8.heap.size := Nat.le_trans hn7 hm8.size
              clear hm8 o7 m7
              go_wp2_with fail
              rw [← HU8.out]
              refine (room_own HO8.out).mono ?_
              rintro e u9 ⟨rfl, nn, rfl⟩
              rw [← H2I.out.left]
              have HRn : Hid (RRel w u0.heap.size u0.heap.size u1.heap.size (k + 1) _ (u8.drewN nn)) := Lib.hid ⟨S2, _, HO8.out.drewN nn, H2I.out, by have := H2W.out; omega, by have := H2C.out; omega, Blk.drewN HQ8.out nn, ⟨HB8.out.os, HB8.out.tape, HB8.out.output, HB8.out.size, HB8.out.block⟩, hn8, hnq⟩
              go_wp2
              go_roundw
              case rel => exact ⟨k + 1, _, by go_num, by omega, rfl, HRn.out⟩
              case measure => simp [intOf]; omega
            · have hHd : decide ((0 : Int) ≤ H) = false := decide_eq_false hH
              go_wp2_with fail
              refine (room_own HO5.out).mono ?_
              rintro e u9 ⟨rfl, nn, rfl⟩
              rw [← HI.out.left]
              have HRn : Hid (RRel w u0.heap.size u0.heap.size u1.heap.size (k + 1) _ (u5.drewN nn)) := Lib.hid ⟨S, _, HO5.out.drewN nn, HI.out, by omega, by omega, Blk.drewN HQ5.out nn, ⟨HB5.out.os, HB5.out.tape, HB5.out.output, HB5.out.size, HB5.out.block⟩, hn5, hnq⟩
              go_wp2
              go_roundw
              case rel => exact ⟨k + 1, _, by go_num, by omega, rfl, HRn.out⟩
              case measure => simp [intOf]; omega
          · have hr5' : ((k : Int).tmod 5 == 4) = false := by rw [beq_eq_false_iff_ne, Int.tmod_eq_emod_of_nonneg (by omega)]; omega
            go_wp2_with fail
            refine (room_own HO5.out).mono ?_
            rintro e u9 ⟨rfl, nn, rfl⟩
            rw [← HI.out.left]
            have HRn : Hid (RRel w u0.heap.size u0.heap.size u1.heap.size (k + 1) _ (u5.drewN nn)) := Lib.hid ⟨S, _, HO5.out.drewN nn, HI.out, by omega, by omega, Blk.drewN HQ5.out nn, ⟨HB5.out.os, HB5.out.tape, HB5.out.output, HB5.out.size, HB5.out.block⟩, hn5, hnq⟩
            go_wp2
            go_roundw
            case rel => exact ⟨k + 1, _, by go_num, by omega, rfl, HRn.out⟩
            case measure => simp [intOf]; omega
      · go_wp2
        go_ret
        exact ⟨rfl, hbk⟩

end Go.Proofs.Ytecegjdnodcamaa
