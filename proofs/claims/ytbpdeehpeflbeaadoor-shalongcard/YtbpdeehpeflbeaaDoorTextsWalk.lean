/-
  The walks of ShaTexts and ShaLong.
-/
import Derived.Test.YtbpdeehpeflbeaaDoorDig
import Derived.OpenShut
namespace Go.Proofs.YtbpdeehpeflbeaaDoor
open Go.RowKit

theorem sum_at (w : World) (b : Nat) (S : ByteArray) (hS : S.size < 1000000) (hc : w.cell? ⟨b, 0, none⟩ = some (.string S)) (hK : RdW 0 w K) :
    Calls Tryd.prog 9 #[.slice (some ⟨b, 0, none⟩) 1 1] w fun e w' => e = .returned (.agg ((shaOf (bsOf S)).map U8).toArray) ∧ Below w.heap.size w w' := by
  have h := sum_any w (some ⟨b, 0, none⟩) b 1 [S] (by rw [all1, bsOf_length]; exact hS) (by simp) (by
    intro i hi
    have hi0 : i = 0 := by simpa using hi
    subst hi0
    exact ⟨rfl, World.block_lt_of_cell? _ _ hc, hc⟩) hK
  rw [all1] at h
  exact h

set_option maxHeartbeats 800000 in
set_option maxRecDepth 100000 in
theorem texts_long (S : ByteArray) (w : World) (hK : RdW 0 w K) (hS : 400 < S.size) :
    Calls Tryd.prog 3 #[.string S] w fun e w' => e = .returned (.bool true) ∧ Below w.heap.size w w' := by
  have hS' : decide (400 < (S.size : Int)) = true := decide_eq_true (by omega)
  go_enter Tryd.func3, Tryd.ntmps3
  go_wp2_with fail
  refine (head_any w hK).mono ?_
  rintro e w1 ⟨rfl, hb1⟩
  go_wp2
  go_ret
  exact ⟨rfl, hb1⟩

set_option maxHeartbeats 800000 in
set_option maxRecDepth 100000 in
theorem texts_main (S : ByteArray) (w : World) (hK : RdW 0 w K) (hS : ¬ 400 < S.size) :
    Calls Tryd.prog 3 #[.string S] w fun e w' => e = .returned (.bool true) ∧ Below w.heap.size w w' := by
  have h0 : 0 < w.heap.size := block_lt_of_cell (hK 0 (by omega))
  have hS' : decide (400 < (S.size : Int)) = false := decide_eq_false (by omega)
  go_enter Tryd.func3, Tryd.ntmps3
  go_wp2_with fail
  refine (head_any w hK).mono ?_
  rintro e w1 ⟨rfl, hb1⟩
  have hK1 : RdW 0 w1 K := fun i hi => (hb1.cell (by exact h0)).trans (hK i hi)
  go_wp2_with fail
  refine (sum_one w1 S (by omega) hK1).mono ?_
  rintro e w2 ⟨rfl, hb2⟩
  have hb02 : Below w.heap.size w w2 := hb1.trans (hb2.mono hb1.size)
  obtain ⟨C, HC⟩ : ∃ C, Hid (C = ((shaOf (bsOf S)).map U8).toArray) := ⟨_, Lib.hid rfl⟩
  rw [← HC.out]
  go_wp2_with fail
  refine (dig_any S w2 (by omega)).mono ?_
  rintro e w3 ⟨rfl, hb3⟩
  have hb03 : Below w.heap.size w w3 := hb02.trans (hb3.mono hb02.size)
  rw [← HC.out]
  have hEq : ∀ w, (Op.equalIn 10000 24 (.agg C) (.agg C)).run Tryd.prog w = .ok true w := by rw [HC.out]; exact eq_same _ (shaOf_length _) (shaOf_lt _)
  go_wp2
  go_ret
  exact ⟨rfl, hb03⟩
theorem texts_any (S : ByteArray) (w : World) (hK : RdW 0 w K) : Calls Tryd.prog 3 #[.string S] w fun e w' => e = .returned (.bool true) ∧ Below w.heap.size w w' := by
  by_cases h : 400 < S.size
  · exact texts_long S w hK h
  · exact texts_main S w hK h

theorem i64_and8 (n : Int) : ∃ m : Nat, m < 256 ∧ bits .and .i64 n 255 = (m : Int) := by
  have h1 : (BitVec.ofInt 64 255).toNat = 2 ^ 8 - 1 := by decide
  have key : (BitVec.ofInt 64 n &&& BitVec.ofInt 64 255).toNat = (n % ((2 ^ 64 : Nat) : Int)).toNat % 2 ^ 8 := by
    rw [BitVec.toNat_and, BitVec.toNat_ofInt, h1, Nat.and_two_pow_sub_one_eq_mod]
  refine ⟨(n % ((2 ^ 64 : Nat) : Int)).toNat % 2 ^ 8, by omega, ?_⟩
  show IntKind.i64.wrap ((BitVec.ofInt 64 n &&& BitVec.ofInt 64 255).toNat : Nat) = _
  rw [key, IntKind.wrap_i64]
  omega
theorem made_bytes (m : Nat) : madeCells (Value.int .u8 0).cells (m * 1) = ((List.replicate m 0).map U8).toArray := by
  apply Array.ext
  · simp [size_madeCells]
  · intro i h1 h2
    simp [madeCells, U8, Value.cells, Nat.mod_one]
theorem mkbytes (w : World) (m : Nat) (hm : m < 256) : (Instr.makeSlice 35 (.int .i64 m) (.int .i64 m)).run Tryd.prog w = .ok (.slice (some ⟨w.heap.size, 0, none⟩) m m) (w.alloc (.cells ((List.replicate m 0).map U8).toArray 5)) := by
  have h : (Tryd.prog.info? 5).map (fun i => (i.size, i.bytes, i.zero)) = some (1, 1, some (.int .u8 0)) := by kernel_rfl
  cases hi : Tryd.prog.info? 5 with
  | none => simp [hi] at h
  | some i =>
    simp [hi] at h
    obtain ⟨h1, h2, h3⟩ := h
    have hr := run_make (P := Tryd.prog) w 35 5 i _ Tryd.underlying35 hi h3 .i64 .i64 m m (by omega) (Int.le_refl _) (by rw [h2]; omega) (by omega)
    rw [h1] at hr
    simp only [Int.toNat_natCast] at hr
    rw [hr, made_bytes]
/-- the first k bytes are c, the others 0 -/
def ck (c m k : Nat) : List Nat := List.replicate k c ++ List.replicate (m - k) 0
theorem ck_set (c m k : Nat) (hk : k < m) : (ck c m k).set k c = ck c m (k + 1) := by
  unfold ck
  rw [List.set_append_right _ _ (by simp), List.length_replicate, Nat.sub_self, show m - k = (m - (k + 1)) + 1 by omega, List.replicate_succ, List.set_cons_zero, List.replicate_succ', List.append_assoc]
  rfl

set_option maxHeartbeats 1600000 in
set_option maxRecDepth 100000 in
theorem long_any (z : Int) (c : Nat) (hc : c < 256) (w : World) (hK : RdW 0 w K) :
    Calls Tryd.prog 6 #[.int .i64 z, .int .u8 c] w fun e w' => e = .returned (.bool true) ∧ Below w.heap.size w w' := by
  have h0 : 0 < w.heap.size := block_lt_of_cell (hK 0 (by omega))
  obtain ⟨m, hm, hand⟩ := i64_and8 z
  go_enter Tryd.func6, Tryd.ntmps6
  go_wp2_with fail
  refine (head_any w hK).mono ?_
  rintro e w1 ⟨rfl, hb1⟩
  have HMK := mkbytes w1 m hm
  obtain ⟨Z, HZ⟩ : ∃ Z, Hid (Z = ((List.replicate m 0).map U8).toArray) := ⟨_, Lib.hid rfl⟩
  rw [← HZ.out] at HMK
  go_wp2
  clear HMK
  obtain ⟨bb, HBB⟩ : ∃ bb, Hid (bb = w1.heap.size) := ⟨_, Lib.hid rfl⟩
  rw [← HBB.out]
  have HR0 : Hid ((w1.alloc (.cells Z 5)).heap[bb]? = some (.cells ((ck c m 0).map U8).toArray 5 (0, 0))) := Lib.hid (by rw [HBB.out, heap_alloc_new, HZ.out]; simp [ck])
  have hb2 : Below w.heap.size w (w1.alloc (.cells Z 5)) := hb1.alloc hb1.size _
  have hbb : w.heap.size ≤ bb := by rw [HBB.out]; exact hb1.size
  go_loopw [15] (fun i wr => ∃ k : Nat, i = .int .i64 (k : Int) ∧ k ≤ m ∧ Hid (wr.heap[bb]? = some (.cells ((ck c m k).map U8).toArray 5 (0, 0))) ∧ Below w.heap.size w wr) (fun i _ => m - (intOf i).toNat)
  case atStart => exact ⟨0, rfl, Nat.zero_le _, HR0, hb2⟩
  case round =>
    clear HR0 hb2 HZ
    obtain ⟨k, rfl, hk, HR, hb⟩ := hrel
    by_cases hkl : k < m
    · have hl : (ck c m k).length = m := by simp [ck]; omega
      have cc := cell_of_map HR.out (k := k) (by rw [hl]; exact hkl)
      have ff := frozen_of HR.out k
      have HS := Lib.hid (set_map (k := k) HR.out c)
      rw [ck_set c m k hkl] at HS
      unfold U8 at cc
      go_wp2
      refine ⟨⟨k + 1, by go_num, by omega, HS, hb.setCell (by simp only; omega) _⟩, by simp [intOf]; omega⟩
    · obtain rfl : k = m := by omega
      obtain ⟨SS, HSS⟩ : ∃ SS : ByteArray, Hid (SS = ⟨(List.replicate k (UInt8.ofNat c)).toArray⟩) := ⟨_, Lib.hid rfl⟩
      have hSz : SS.size = k := by rw [HSS.out]; simp [ByteArray.size]
      have hSS : SS.size < 1000000 := by omega
      have hSS4 : SS.size ≤ 400 := by omega
      have hs0 := hb.size
      go_wp2
      obtain ⟨wq, HWQ⟩ : ∃ wq, Hid (wq = wr) := ⟨_, Lib.hid rfl⟩
      rw [← HWQ.out] at hb HR hs0 ⊢
      have hblt : bb < wq.heap.size := lt_of_block HR.out
      have HCV : Hid (∀ w', Below wq.heap.size wq w' → (convert 35 9 (.slice (some ⟨bb, 0, none⟩) k k)).run Tryd.prog w' = .ok (.string SS) w') := Lib.hid (by
        intro w' hw'
        have h1 := run_convert_bytes_back (P := Tryd.prog) w' 35 9 5 ⟨bb, 0, none⟩ k (List.replicate k (UInt8.ofNat c)) Tryd.underlying35 Tryd.underlying5 Tryd.underlying9 (by
          intro j hj
          have hj' : j < k := by simpa using hj
          rw [add_zero_off, hw'.cell (by exact hblt), cell_of_map HR.out (k := j) (by simp [ck]; omega)]
          simp [ck, U8, List.getD, hj', Nat.mod_eq_of_lt hc])
        simp only [List.length_replicate] at h1
        rw [h1, HSS.out])
      have hKK : ∀ w', Below wq.heap.size wq w' → RdW 0 w' K := fun w' hw' i hi => (hw'.cell (by exact Nat.lt_of_lt_of_le h0 hs0)).trans ((hb.cell (by exact h0)).trans (hK i hi))
      clear HR HSS hSz
      obtain ⟨C, HC⟩ : ∃ C, Hid (C = ((shaOf (bsOf SS)).map U8).toArray) := ⟨_, Lib.hid rfl⟩
      have hEq : ∀ w, (Op.equalIn 10000 24 (.agg C) (.agg C)).run Tryd.prog w = .ok true w := by rw [HC.out]; exact eq_same _ (shaOf_length _) (shaOf_lt _)
      refine wp_region_held_drew (S := fun w' => Below wq.heap.size wq w') (by kernel_rfl) ?_ (fun hHeld => ?_)
      · exact Below.drew (Below.refl _ _)
      refine wpAnyH_take (i := 0) (v := ?_) rfl (by kernel_rfl) (by kernel_rfl) (by kernel_rfl) (fun _ _ _ h => h) (Or.inl ⟨by rfl, ?_⟩) (by assumption) ?_
      rotate_left
      focus (intro w hSw; have hcv := HCV.out _ hSw; go_simp; first | done | with_reducible rfl)
      simp only [Act.put, List.getElem_toArray, List.getElem_cons_zero, List.setIfInBounds_toArray, List.set_cons_zero, List.set_cons_succ]
      refine wpAnyH_take (i := 1) (v := ?_) rfl (by kernel_rfl) (by kernel_rfl) (by kernel_rfl) (fun _ _ _ h => h) (Or.inl ⟨by rfl, ?_⟩) (by assumption) ?_
      rotate_left
      focus (intro w hSw; have hcv := HCV.out _ hSw; go_simp; first | done | with_reducible rfl)
      simp only [Act.put, List.getElem_toArray, List.getElem_cons_zero, List.getElem_cons_succ, List.setIfInBounds_toArray, List.set_cons_zero, List.set_cons_succ]
      refine wpAnyH_take (i := 4) (v := ?_) rfl (by kernel_rfl) (by kernel_rfl) (by kernel_rfl) (fun _ _ _ h => h) (Or.inl ⟨by rfl, ?_⟩) (by assumption) ?_
      rotate_left
      focus (intro w hSw; have hcv := HCV.out _ hSw; go_simp; first | done | with_reducible rfl)
      simp only [Act.put, List.getElem_toArray, List.getElem_cons_zero, List.getElem_cons_succ, List.setIfInBounds_toArray, List.set_cons_zero, List.set_cons_succ]
      refine wpAnyH_take (i := 5) (v := ?_) rfl (by kernel_rfl) (by kernel_rfl) (by kernel_rfl) (fun _ _ _ h => h) (Or.inl ⟨by rfl, ?_⟩) (by assumption) ?_
      rotate_left
      focus (intro w hSw; have hcv := HCV.out _ hSw; go_simp; first | done | with_reducible rfl)
      simp only [Act.put, List.getElem_toArray, List.getElem_cons_zero, List.getElem_cons_succ, List.setIfInBounds_toArray, List.set_cons_zero, List.set_cons_succ]
      refine wpAnyH_ready (rs := [2]) (by kernel_rfl) (by simp) ?_
      refine AllReadyH.cons (o := _) rfl (fun K hK => ?_) AllReadyH.nil
      go_simp
      refine hK.out _ _ (hHeld.alloc hHeld.size _) (fun hHeld => ?_)
      clear hK K
      try simp only [Act.put, List.getElem_toArray, List.getElem_cons_zero, List.getElem_cons_succ, List.setIfInBounds_toArray, List.set_cons_zero, List.set_cons_succ]
      refine wpAnyH_ready (rs := [3]) (by kernel_rfl) (by simp) ?_
      refine AllReadyH.cons (o := _) rfl (fun K hK => ?_) AllReadyH.nil
      go_simp
      refine (sum_at (wq.alloc (.cells #[.string SS] 9)).drew wq.heap.size SS hSS (World.cell?_alloc_new wq _ 9 0) (hKK _ hHeld)).mono ?_
      rintro e w7 ⟨rfl, hb7⟩
      rw [← HC.out]
      go_simp
      refine hK.out _ _ (hHeld.trans (hb7.mono hHeld.size)) (fun hHeld => ?_)
      clear hK K
      try simp only [Act.put, List.getElem_toArray, List.getElem_cons_zero, List.getElem_cons_succ, List.setIfInBounds_toArray, List.set_cons_zero, List.set_cons_succ]
      refine wpAnyH_ready (rs := [6]) (by kernel_rfl) (by simp) ?_
      refine AllReadyH.cons (o := _) rfl (fun K hK => ?_) AllReadyH.nil
      go_simp
      refine (dig_any SS _ hSS4).mono ?_
      rintro e w8 ⟨rfl, hb8⟩
      rw [← HC.out]
      go_simp
      refine hK.out _ _ (hHeld.trans (hb8.mono hHeld.size)) (fun hHeld => ?_)
      clear hK K
      try simp only [Act.put, List.getElem_toArray, List.getElem_cons_zero, List.getElem_cons_succ, List.setIfInBounds_toArray, List.set_cons_zero, List.set_cons_succ]
      refine wpAnyH_take (i := 7) (v := ?_) rfl (by kernel_rfl) (by kernel_rfl) (by kernel_rfl) (fun _ _ _ h => h) (Or.inl ⟨by rfl, ?_⟩) (by assumption) ?_
      rotate_left
      focus (intro w hSw; have hcv := HCV.out _ hSw; go_simp; first | done | with_reducible rfl)
      simp only [Act.put, List.getElem_toArray, List.getElem_cons_zero, List.getElem_cons_succ, List.setIfInBounds_toArray, List.set_cons_zero, List.set_cons_succ]
      refine wpAnyH_take (i := 8) (v := ?_) rfl (by kernel_rfl) (by kernel_rfl) (by kernel_rfl) (fun _ _ _ h => h) (Or.inl ⟨by rfl, ?_⟩) (by assumption) ?_
      rotate_left
      focus (intro w hSw; have hcv := HCV.out _ hSw; go_simp; first | done | with_reducible rfl)
      simp only [Act.put, List.getElem_toArray, List.getElem_cons_zero, List.getElem_cons_succ, List.setIfInBounds_toArray, List.set_cons_zero, List.set_cons_succ]
      refine wpAnyH_done (by kernel_rfl) ?_ _
      go_wp2
      go_ret
      exact ⟨rfl, hb.trans (hHeld.mono hs0)⟩
theorem long_u8 (z c : Int) (w : World) (hc : (Lit.int .u8 c).wf = true) (hK : RdW 0 w K) : Calls Tryd.prog 6 #[.int .i64 z, .int .u8 c] w fun e w' => e = .returned (.bool true) ∧ Below w.heap.size w w' := by
  have h := bounds_u8 hc
  obtain ⟨n, rfl⟩ : ∃ n : Nat, c = (n : Int) := ⟨c.toNat, by omega⟩
  exact long_any z n (by omega) w hK
end Go.Proofs.YtbpdeehpeflbeaaDoor
