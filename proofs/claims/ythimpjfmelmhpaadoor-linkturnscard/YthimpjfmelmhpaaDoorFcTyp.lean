/-
  Types: whose they are, and which are good.
-/
import Derived.Test.YthimpjfmelmhpaaDoorFcTab
import Derived.Deep.RegionHeld
namespace Go.Proofs.YthimpjfmelmhpaaDoor.Fc
open Go.RowKit
set_option linter.unusedVariables false
abbrev tv (n : ByteArray) (a : Bool) : Value := .agg #[.string n, .bool a]
/-- A name that begins with a great letter. -/
def greatB (n : ByteArray) : Bool := if h : 0 < n.size then decide ((65 : Int) ≤ n[0].toNat) && decide ((n[0].toNat : Int) ≤ 90) else false
/-- A type in a block of its own, and what stays as it was. -/
def TyS (W : World) (b : Nat) (n : ByteArray) (a : Bool) (w' : World) : Prop := w'.cell? ⟨b, 0, none⟩ = some (.string n) ∧ w'.cell? ⟨b, 1, none⟩ = some (.bool a) ∧ Below W.heap.size W w'
theorem TyS.lt {W : World} {b : Nat} {n : ByteArray} {a : Bool} {w : World} (h : TyS W b n a w) : b < w.heap.size := World.block_lt_of_cell? _ _ h.1

set_option maxHeartbeats 1000000 in
theorem class42 (n : ByteArray) (a : Bool) (w : World) : Calls Tryd.prog 50 #[tv n a] w fun e w' => e = .returned (.bool (!a && greatB n)) ∧ Below w.heap.size w w' := by
  cases a with
  | true =>
    go_enter Tryd.func50, Tryd.ntmps50
    go_wp2
    go_ret
    exact ⟨rfl, below1 w _⟩
  | false =>
    by_cases h0 : 0 < n.size
    · have hE : n.toList.isEmpty = false := by
        cases h : n.toList.isEmpty
        · rfl
        · rw [ByteArray.toList_eq, List.isEmpty_iff, ← List.length_eq_zero_iff] at h; exact absurd h (by show ¬ n.size = 0; omega)
      have hG : greatB n = (decide ((65 : Int) ≤ n[0].toNat) && decide ((n[0].toNat : Int) ≤ 90)) := by unfold greatB; rw [dif_pos h0]
      have HG := Lib.hid hG
      clear hG
      by_cases h65 : (65 : Int) ≤ n[0].toNat
      · go_enter Tryd.func50, Tryd.ntmps50
        go_wp2
        go_ret
        refine ⟨?_, below1 w _⟩
        rw [HG.out]; simp [h65]
      · go_enter Tryd.func50, Tryd.ntmps50
        go_wp2
        go_ret
        refine ⟨?_, below1 w _⟩
        rw [HG.out, decide_eq_false (by omega : ¬ (65 : Int) ≤ n[0].toNat)]; rfl
    · have hG : greatB n = false := by unfold greatB; rw [dif_neg h0]
      have hE : n.toList.isEmpty = true := by
        rw [ByteArray.toList_eq, List.isEmpty_iff, ← List.length_eq_zero_iff]; show n.size = 0; omega
      rw [hG]
      clear hG
      go_enter Tryd.func50, Tryd.ntmps50
      go_wp2
      go_ret
      exact ⟨rfl, below1 w _⟩
set_option maxHeartbeats 1000000 in
theorem elem44 (n : ByteArray) (a : Bool) (w : World) : Calls Tryd.prog 49 #[tv n a] w fun e w' => e = .returned (tv n false) ∧ Below w.heap.size w w' := by
  go_enter Tryd.func49, Tryd.ntmps49
  go_wp2
  refine bodyPost_ret (v := tv n false) (by simp [results, Tryd.results49, go_sem]) rfl ?_
  exact ⟨rfl, below2 w _ _⟩
theorem int55 (w : World) : Calls Tryd.prog 20 #[] w fun e w' => e = .returned (tv ⟨#[105, 110, 116]⟩ false) ∧ Below w.heap.size w w' := by
  go_enter Tryd.func20, Tryd.ntmps20
  go_wp2
  refine bodyPost_ret (v := tv ⟨#[105, 110, 116]⟩ false) (by simp [results, Tryd.results20, go_sem]) rfl ?_
  exact ⟨rfl, below1 w _⟩
theorem bool56 (w : World) : Calls Tryd.prog 81 #[] w fun e w' => e = .returned (tv ⟨#[98, 111, 111, 108]⟩ false) ∧ Below w.heap.size w w' := by
  go_enter Tryd.func81, Tryd.ntmps81
  go_wp2
  refine bodyPost_ret (v := tv ⟨#[98, 111, 111, 108]⟩ false) (by simp [results, Tryd.results81, go_sem]) rfl ?_
  exact ⟨rfl, below1 w _⟩
theorem of58 (s : ByteArray) (w : World) : Calls Tryd.prog 84 #[.string s] w fun e w' => e = .returned (tv s false) ∧ Below w.heap.size w w' := by
  go_enter Tryd.func84, Tryd.ntmps84
  go_wp2
  refine bodyPost_ret (v := tv s false) (by simp [results, Tryd.results84, go_sem]) rfl ?_
  exact ⟨rfl, below1 w _⟩

set_option maxHeartbeats 1000000 in
theorem name57 (n : ByteArray) (w : World) : Calls Tryd.prog 62 #[.string n] w fun e w' => e = .returned (.bool (greatB n && decide ((n.size : Int) ≤ 40))) ∧ Below w.heap.size w w' := by
  go_enter Tryd.func62, Tryd.ntmps62
  go_wp2_with fail
  refine (of58 n w).mono ?_
  rintro e w1 ⟨rfl, hb1⟩
  go_wp2_with fail
  refine (class42 n false w1).mono ?_
  rintro e w2 ⟨rfl, hb2⟩
  have hB : Below w.heap.size w w2 := hb1.trans (hb2.mono hb1.size)
  clear hb1 hb2
  simp only [Bool.not_false, Bool.true_and]
  obtain ⟨g, HG⟩ : ∃ g, Hid (greatB n = g) := ⟨_, Lib.hid rfl⟩
  rw [HG.out]
  cases g
  · go_wp2
    go_ret
    exact ⟨by rw [HG.out]; rfl, hB⟩
  · go_wp2
    go_ret
    exact ⟨by rw [HG.out]; simp, hB⟩
set_option maxHeartbeats 2000000 in
set_option maxRecDepth 100000 in
theorem good_int (n : ByteArray) (a : Bool) (w : World) (h1 : (n.toList == [105, 110, 116]) = true) : Calls Tryd.prog 48 #[tv n a] w fun e w' => e = .returned (.bool (true)) ∧ Below w.heap.size w w' := by
  go_enter Tryd.func48, Tryd.ntmps48
  go_wp2_with fail
  refine (elem44 n a _).mono ?_
  rintro e w2 ⟨rfl, hb2⟩
  have hB2 : Below w.heap.size w (w2.alloc (.cells #[.string n, .bool false] 49)) := ((below1 w _).trans (hb2.mono (by simp))).trans ((below1 w2 _).mono (by have := hb2.size; simp at this; omega))
  have k0 : (w2.alloc (.cells #[.string n, .bool false] 49)).cell? ⟨w2.heap.size, 0, none⟩ = some (.string n) := (Blk.new w2 [.string n, .bool false] 49).cell 0
  have k1 : (w2.alloc (.cells #[.string n, .bool false] 49)).cell? ⟨w2.heap.size, 1, none⟩ = some (.bool false) := (Blk.new w2 [.string n, .bool false] 49).cell 1
  have HB2 := Lib.hid hB2
  clear hb2 hB2
  go_wp2
  refine wp_region_held_drew (S := TyS w w2.heap.size n false) (by kernel_rfl) ?_ (fun hHeld => ?_)
  · exact ⟨k0, k1, ⟨HB2.out.os, HB2.out.tape, HB2.out.output, HB2.out.size, HB2.out.block⟩⟩
  refine wpAnyH_take (i := 0) (v := ?_) rfl (by kernel_rfl) (by kernel_rfl) (by kernel_rfl) (fun _ _ _ h => h) (Or.inl ⟨by rfl, ?_⟩) (by assumption) ?_
  rotate_left
  focus (intro w hSw; obtain ⟨hS0, hS1, _⟩ := hSw; go_simp; first | done | with_reducible rfl)
  simp only [Act.put, List.getElem_toArray, List.getElem_cons_zero, List.setIfInBounds_toArray, List.set_cons_zero, List.set_cons_succ]
  refine wpAnyH_ready (rs := [1]) (by kernel_rfl) (by simp) ?_
  refine AllReadyH.cons (o := _) rfl (fun K hK => ?_) AllReadyH.nil
  go_simp
  with_reducible refine (int55 _).mono ?_
  rintro e v1 ⟨rfl, hb1⟩
  go_simp
  refine hK.out _ _ ⟨(hb1.cell (p := ⟨w2.heap.size, 0, none⟩) (hHeld.lt)).trans hHeld.1, (hb1.cell (p := ⟨w2.heap.size, 1, none⟩) (hHeld.lt)).trans hHeld.2.1, hHeld.2.2.trans (hb1.mono hHeld.2.2.size)⟩ (fun hHeld => ?_)
  clear hK K
  try simp only [Act.put, List.getElem_toArray, List.getElem_cons_zero, List.getElem_cons_succ, List.setIfInBounds_toArray, List.set_cons_zero, List.set_cons_succ]
  refine wpAnyH_take (i := 2) (v := ?_) rfl (by kernel_rfl) (by kernel_rfl) (by kernel_rfl) (fun _ _ _ h => h) (Or.inl ⟨by rfl, ?_⟩) (by assumption) ?_
  rotate_left
  focus (intro w hSw; obtain ⟨hS0, hS1, _⟩ := hSw; go_simp; first | done | with_reducible rfl)
  simp only [Act.put, List.getElem_toArray, List.getElem_cons_zero, List.getElem_cons_succ, List.setIfInBounds_toArray, List.set_cons_zero, List.set_cons_succ]
  refine wpAnyH_take (i := 3) (v := ?_) rfl (by kernel_rfl) (by kernel_rfl) (by kernel_rfl) (fun _ _ _ h => h) (Or.inl ⟨by rfl, ?_⟩) (by assumption) ?_
  rotate_left
  focus (intro w hSw; obtain ⟨hS0, hS1, _⟩ := hSw; go_simp; first | done | with_reducible rfl)
  simp only [Act.put, List.getElem_toArray, List.getElem_cons_zero, List.getElem_cons_succ, List.setIfInBounds_toArray, List.set_cons_zero, List.set_cons_succ]
  refine wpAnyH_take (i := 4) (v := undef) rfl (by kernel_rfl) (by kernel_rfl) (by kernel_rfl) (fun _ _ _ h => h) (Or.inr ⟨by rfl, rfl⟩) (by assumption) ?_
  try simp only [Act.put, List.getElem_toArray, List.getElem_cons_zero, List.getElem_cons_succ, List.setIfInBounds_toArray, List.set_cons_zero, List.set_cons_succ]
  refine wpAnyH_take (i := 5) (v := undef) rfl (by kernel_rfl) (by kernel_rfl) (by kernel_rfl) (fun _ _ _ h => h) (Or.inr ⟨by rfl, rfl⟩) (by assumption) ?_
  try simp only [Act.put, List.getElem_toArray, List.getElem_cons_zero, List.getElem_cons_succ, List.setIfInBounds_toArray, List.set_cons_zero, List.set_cons_succ]
  refine wpAnyH_take (i := 6) (v := undef) rfl (by kernel_rfl) (by kernel_rfl) (by kernel_rfl) (fun _ _ _ h => h) (Or.inr ⟨by rfl, rfl⟩) (by assumption) ?_
  try simp only [Act.put, List.getElem_toArray, List.getElem_cons_zero, List.getElem_cons_succ, List.setIfInBounds_toArray, List.set_cons_zero, List.set_cons_succ]
  refine wpAnyH_take (i := 7) (v := ?_) rfl (by kernel_rfl) (by kernel_rfl) (by kernel_rfl) (fun _ _ _ h => h) (Or.inl ⟨by rfl, ?_⟩) (by assumption) ?_
  rotate_left
  focus (intro w hSw; obtain ⟨hS0, hS1, _⟩ := hSw; go_simp; first | done | with_reducible rfl)
  simp only [Act.put, List.getElem_toArray, List.getElem_cons_zero, List.getElem_cons_succ, List.setIfInBounds_toArray, List.set_cons_zero, List.set_cons_succ]
  refine wpAnyH_take (i := 8) (v := ?_) rfl (by kernel_rfl) (by kernel_rfl) (by kernel_rfl) (fun _ _ _ h => h) (Or.inl ⟨by rfl, ?_⟩) (by assumption) ?_
  rotate_left
  focus (intro w hSw; obtain ⟨hS0, hS1, _⟩ := hSw; go_simp; first | done | with_reducible rfl)
  simp only [Act.put, List.getElem_toArray, List.getElem_cons_zero, List.getElem_cons_succ, List.setIfInBounds_toArray, List.set_cons_zero, List.set_cons_succ]
  refine wpAnyH_take (i := 9) (v := undef) rfl (by kernel_rfl) (by kernel_rfl) (by kernel_rfl) (fun _ _ _ h => h) (Or.inr ⟨by rfl, rfl⟩) (by assumption) ?_
  try simp only [Act.put, List.getElem_toArray, List.getElem_cons_zero, List.getElem_cons_succ, List.setIfInBounds_toArray, List.set_cons_zero, List.set_cons_succ]
  refine wpAnyH_take (i := 10) (v := undef) rfl (by kernel_rfl) (by kernel_rfl) (by kernel_rfl) (fun _ _ _ h => h) (Or.inr ⟨by rfl, rfl⟩) (by assumption) ?_
  try simp only [Act.put, List.getElem_toArray, List.getElem_cons_zero, List.getElem_cons_succ, List.setIfInBounds_toArray, List.set_cons_zero, List.set_cons_succ]
  refine wpAnyH_take (i := 11) (v := undef) rfl (by kernel_rfl) (by kernel_rfl) (by kernel_rfl) (fun _ _ _ h => h) (Or.inr ⟨by rfl, rfl⟩) (by assumption) ?_
  try simp only [Act.put, List.getElem_toArray, List.getElem_cons_zero, List.getElem_cons_succ, List.setIfInBounds_toArray, List.set_cons_zero, List.set_cons_succ]
  refine wpAnyH_take (i := 12) (v := ?_) rfl (by kernel_rfl) (by kernel_rfl) (by kernel_rfl) (fun _ _ _ h => h) (Or.inl ⟨by rfl, ?_⟩) (by assumption) ?_
  rotate_left
  focus (intro w hSw; obtain ⟨hS0, hS1, _⟩ := hSw; go_simp; first | done | with_reducible rfl)
  simp only [Act.put, List.getElem_toArray, List.getElem_cons_zero, List.getElem_cons_succ, List.setIfInBounds_toArray, List.set_cons_zero, List.set_cons_succ]
  refine wpAnyH_take (i := 13) (v := ?_) rfl (by kernel_rfl) (by kernel_rfl) (by kernel_rfl) (fun _ _ _ h => h) (Or.inl ⟨by rfl, ?_⟩) (by assumption) ?_
  rotate_left
  focus (intro w hSw; obtain ⟨hS0, hS1, _⟩ := hSw; go_simp; first | done | with_reducible rfl)
  simp only [Act.put, List.getElem_toArray, List.getElem_cons_zero, List.getElem_cons_succ, List.setIfInBounds_toArray, List.set_cons_zero, List.set_cons_succ]
  refine wpAnyH_done (by kernel_rfl) ?_ _
  go_wp2
  go_ret
  exact ⟨rfl, hHeld.2.2⟩
set_option maxHeartbeats 2000000 in
set_option maxRecDepth 100000 in
theorem good_bool (n : ByteArray) (a : Bool) (w : World) (h1 : (n.toList == [105, 110, 116]) = false) (h2 : (n.toList == [98, 111, 111, 108]) = true) : Calls Tryd.prog 48 #[tv n a] w fun e w' => e = .returned (.bool (true)) ∧ Below w.heap.size w w' := by
  go_enter Tryd.func48, Tryd.ntmps48
  go_wp2_with fail
  refine (elem44 n a _).mono ?_
  rintro e w2 ⟨rfl, hb2⟩
  have hB2 : Below w.heap.size w (w2.alloc (.cells #[.string n, .bool false] 49)) := ((below1 w _).trans (hb2.mono (by simp))).trans ((below1 w2 _).mono (by have := hb2.size; simp at this; omega))
  have k0 : (w2.alloc (.cells #[.string n, .bool false] 49)).cell? ⟨w2.heap.size, 0, none⟩ = some (.string n) := (Blk.new w2 [.string n, .bool false] 49).cell 0
  have k1 : (w2.alloc (.cells #[.string n, .bool false] 49)).cell? ⟨w2.heap.size, 1, none⟩ = some (.bool false) := (Blk.new w2 [.string n, .bool false] 49).cell 1
  have HB2 := Lib.hid hB2
  clear hb2 hB2
  go_wp2
  refine wp_region_held_drew (S := TyS w w2.heap.size n false) (by kernel_rfl) ?_ (fun hHeld => ?_)
  · exact ⟨k0, k1, ⟨HB2.out.os, HB2.out.tape, HB2.out.output, HB2.out.size, HB2.out.block⟩⟩
  refine wpAnyH_take (i := 0) (v := ?_) rfl (by kernel_rfl) (by kernel_rfl) (by kernel_rfl) (fun _ _ _ h => h) (Or.inl ⟨by rfl, ?_⟩) (by assumption) ?_
  rotate_left
  focus (intro w hSw; obtain ⟨hS0, hS1, _⟩ := hSw; go_simp; first | done | with_reducible rfl)
  simp only [Act.put, List.getElem_toArray, List.getElem_cons_zero, List.setIfInBounds_toArray, List.set_cons_zero, List.set_cons_succ]
  refine wpAnyH_ready (rs := [1]) (by kernel_rfl) (by simp) ?_
  refine AllReadyH.cons (o := _) rfl (fun K hK => ?_) AllReadyH.nil
  go_simp
  with_reducible refine (int55 _).mono ?_
  rintro e v1 ⟨rfl, hb1⟩
  go_simp
  refine hK.out _ _ ⟨(hb1.cell (p := ⟨w2.heap.size, 0, none⟩) (hHeld.lt)).trans hHeld.1, (hb1.cell (p := ⟨w2.heap.size, 1, none⟩) (hHeld.lt)).trans hHeld.2.1, hHeld.2.2.trans (hb1.mono hHeld.2.2.size)⟩ (fun hHeld => ?_)
  clear hK K
  try simp only [Act.put, List.getElem_toArray, List.getElem_cons_zero, List.getElem_cons_succ, List.setIfInBounds_toArray, List.set_cons_zero, List.set_cons_succ]
  refine wpAnyH_take (i := 2) (v := ?_) rfl (by kernel_rfl) (by kernel_rfl) (by kernel_rfl) (fun _ _ _ h => h) (Or.inl ⟨by rfl, ?_⟩) (by assumption) ?_
  rotate_left
  focus (intro w hSw; obtain ⟨hS0, hS1, _⟩ := hSw; go_simp; first | done | with_reducible rfl)
  simp only [Act.put, List.getElem_toArray, List.getElem_cons_zero, List.getElem_cons_succ, List.setIfInBounds_toArray, List.set_cons_zero, List.set_cons_succ]
  refine wpAnyH_take (i := 3) (v := ?_) rfl (by kernel_rfl) (by kernel_rfl) (by kernel_rfl) (fun _ _ _ h => h) (Or.inl ⟨by rfl, ?_⟩) (by assumption) ?_
  rotate_left
  focus (intro w hSw; obtain ⟨hS0, hS1, _⟩ := hSw; go_simp; first | done | with_reducible rfl)
  simp only [Act.put, List.getElem_toArray, List.getElem_cons_zero, List.getElem_cons_succ, List.setIfInBounds_toArray, List.set_cons_zero, List.set_cons_succ]
  refine wpAnyH_take (i := 4) (v := ?_) rfl (by kernel_rfl) (by kernel_rfl) (by kernel_rfl) (fun _ _ _ h => h) (Or.inl ⟨by rfl, ?_⟩) (by assumption) ?_
  rotate_left
  focus (intro w hSw; obtain ⟨hS0, hS1, _⟩ := hSw; go_simp; first | done | with_reducible rfl)
  simp only [Act.put, List.getElem_toArray, List.getElem_cons_zero, List.getElem_cons_succ, List.setIfInBounds_toArray, List.set_cons_zero, List.set_cons_succ]
  refine wpAnyH_ready (rs := [5]) (by kernel_rfl) (by simp) ?_
  refine AllReadyH.cons (o := _) rfl (fun K hK => ?_) AllReadyH.nil
  go_simp
  with_reducible refine (bool56 _).mono ?_
  rintro e v5 ⟨rfl, hb5⟩
  go_simp
  refine hK.out _ _ ⟨(hb5.cell (p := ⟨w2.heap.size, 0, none⟩) (hHeld.lt)).trans hHeld.1, (hb5.cell (p := ⟨w2.heap.size, 1, none⟩) (hHeld.lt)).trans hHeld.2.1, hHeld.2.2.trans (hb5.mono hHeld.2.2.size)⟩ (fun hHeld => ?_)
  clear hK K
  try simp only [Act.put, List.getElem_toArray, List.getElem_cons_zero, List.getElem_cons_succ, List.setIfInBounds_toArray, List.set_cons_zero, List.set_cons_succ]
  refine wpAnyH_take (i := 6) (v := ?_) rfl (by kernel_rfl) (by kernel_rfl) (by kernel_rfl) (fun _ _ _ h => h) (Or.inl ⟨by rfl, ?_⟩) (by assumption) ?_
  rotate_left
  focus (intro w hSw; obtain ⟨hS0, hS1, _⟩ := hSw; go_simp; first | done | with_reducible rfl)
  simp only [Act.put, List.getElem_toArray, List.getElem_cons_zero, List.getElem_cons_succ, List.setIfInBounds_toArray, List.set_cons_zero, List.set_cons_succ]
  refine wpAnyH_take (i := 7) (v := ?_) rfl (by kernel_rfl) (by kernel_rfl) (by kernel_rfl) (fun _ _ _ h => h) (Or.inl ⟨by rfl, ?_⟩) (by assumption) ?_
  rotate_left
  focus (intro w hSw; obtain ⟨hS0, hS1, _⟩ := hSw; go_simp; first | done | with_reducible rfl)
  simp only [Act.put, List.getElem_toArray, List.getElem_cons_zero, List.getElem_cons_succ, List.setIfInBounds_toArray, List.set_cons_zero, List.set_cons_succ]
  refine wpAnyH_take (i := 8) (v := ?_) rfl (by kernel_rfl) (by kernel_rfl) (by kernel_rfl) (fun _ _ _ h => h) (Or.inl ⟨by rfl, ?_⟩) (by assumption) ?_
  rotate_left
  focus (intro w hSw; obtain ⟨hS0, hS1, _⟩ := hSw; go_simp; first | done | with_reducible rfl)
  simp only [Act.put, List.getElem_toArray, List.getElem_cons_zero, List.getElem_cons_succ, List.setIfInBounds_toArray, List.set_cons_zero, List.set_cons_succ]
  refine wpAnyH_take (i := 9) (v := undef) rfl (by kernel_rfl) (by kernel_rfl) (by kernel_rfl) (fun _ _ _ h => h) (Or.inr ⟨by rfl, rfl⟩) (by assumption) ?_
  try simp only [Act.put, List.getElem_toArray, List.getElem_cons_zero, List.getElem_cons_succ, List.setIfInBounds_toArray, List.set_cons_zero, List.set_cons_succ]
  refine wpAnyH_take (i := 10) (v := undef) rfl (by kernel_rfl) (by kernel_rfl) (by kernel_rfl) (fun _ _ _ h => h) (Or.inr ⟨by rfl, rfl⟩) (by assumption) ?_
  try simp only [Act.put, List.getElem_toArray, List.getElem_cons_zero, List.getElem_cons_succ, List.setIfInBounds_toArray, List.set_cons_zero, List.set_cons_succ]
  refine wpAnyH_take (i := 11) (v := undef) rfl (by kernel_rfl) (by kernel_rfl) (by kernel_rfl) (fun _ _ _ h => h) (Or.inr ⟨by rfl, rfl⟩) (by assumption) ?_
  try simp only [Act.put, List.getElem_toArray, List.getElem_cons_zero, List.getElem_cons_succ, List.setIfInBounds_toArray, List.set_cons_zero, List.set_cons_succ]
  refine wpAnyH_take (i := 12) (v := ?_) rfl (by kernel_rfl) (by kernel_rfl) (by kernel_rfl) (fun _ _ _ h => h) (Or.inl ⟨by rfl, ?_⟩) (by assumption) ?_
  rotate_left
  focus (intro w hSw; obtain ⟨hS0, hS1, _⟩ := hSw; go_simp; first | done | with_reducible rfl)
  simp only [Act.put, List.getElem_toArray, List.getElem_cons_zero, List.getElem_cons_succ, List.setIfInBounds_toArray, List.set_cons_zero, List.set_cons_succ]
  refine wpAnyH_take (i := 13) (v := ?_) rfl (by kernel_rfl) (by kernel_rfl) (by kernel_rfl) (fun _ _ _ h => h) (Or.inl ⟨by rfl, ?_⟩) (by assumption) ?_
  rotate_left
  focus (intro w hSw; obtain ⟨hS0, hS1, _⟩ := hSw; go_simp; first | done | with_reducible rfl)
  simp only [Act.put, List.getElem_toArray, List.getElem_cons_zero, List.getElem_cons_succ, List.setIfInBounds_toArray, List.set_cons_zero, List.set_cons_succ]
  refine wpAnyH_done (by kernel_rfl) ?_ _
  go_wp2
  go_ret
  exact ⟨rfl, hHeld.2.2⟩
set_option maxHeartbeats 2000000 in
set_option maxRecDepth 100000 in
theorem good_name (n : ByteArray) (a : Bool) (w : World) (h1 : (n.toList == [105, 110, 116]) = false) (h2 : (n.toList == [98, 111, 111, 108]) = false) : Calls Tryd.prog 48 #[tv n a] w fun e w' => e = .returned (.bool (greatB n && decide ((n.size : Int) ≤ 40))) ∧ Below w.heap.size w w' := by
  go_enter Tryd.func48, Tryd.ntmps48
  go_wp2_with fail
  refine (elem44 n a _).mono ?_
  rintro e w2 ⟨rfl, hb2⟩
  have hB2 : Below w.heap.size w (w2.alloc (.cells #[.string n, .bool false] 49)) := ((below1 w _).trans (hb2.mono (by simp))).trans ((below1 w2 _).mono (by have := hb2.size; simp at this; omega))
  have k0 : (w2.alloc (.cells #[.string n, .bool false] 49)).cell? ⟨w2.heap.size, 0, none⟩ = some (.string n) := (Blk.new w2 [.string n, .bool false] 49).cell 0
  have k1 : (w2.alloc (.cells #[.string n, .bool false] 49)).cell? ⟨w2.heap.size, 1, none⟩ = some (.bool false) := (Blk.new w2 [.string n, .bool false] 49).cell 1
  have HB2 := Lib.hid hB2
  clear hb2 hB2
  go_wp2
  refine wp_region_held_drew (S := TyS w w2.heap.size n false) (by kernel_rfl) ?_ (fun hHeld => ?_)
  · exact ⟨k0, k1, ⟨HB2.out.os, HB2.out.tape, HB2.out.output, HB2.out.size, HB2.out.block⟩⟩
  refine wpAnyH_take (i := 0) (v := ?_) rfl (by kernel_rfl) (by kernel_rfl) (by kernel_rfl) (fun _ _ _ h => h) (Or.inl ⟨by rfl, ?_⟩) (by assumption) ?_
  rotate_left
  focus (intro w hSw; obtain ⟨hS0, hS1, _⟩ := hSw; go_simp; first | done | with_reducible rfl)
  simp only [Act.put, List.getElem_toArray, List.getElem_cons_zero, List.setIfInBounds_toArray, List.set_cons_zero, List.set_cons_succ]
  refine wpAnyH_ready (rs := [1]) (by kernel_rfl) (by simp) ?_
  refine AllReadyH.cons (o := _) rfl (fun K hK => ?_) AllReadyH.nil
  go_simp
  with_reducible refine (int55 _).mono ?_
  rintro e v1 ⟨rfl, hb1⟩
  go_simp
  refine hK.out _ _ ⟨(hb1.cell (p := ⟨w2.heap.size, 0, none⟩) (hHeld.lt)).trans hHeld.1, (hb1.cell (p := ⟨w2.heap.size, 1, none⟩) (hHeld.lt)).trans hHeld.2.1, hHeld.2.2.trans (hb1.mono hHeld.2.2.size)⟩ (fun hHeld => ?_)
  clear hK K
  try simp only [Act.put, List.getElem_toArray, List.getElem_cons_zero, List.getElem_cons_succ, List.setIfInBounds_toArray, List.set_cons_zero, List.set_cons_succ]
  refine wpAnyH_take (i := 2) (v := ?_) rfl (by kernel_rfl) (by kernel_rfl) (by kernel_rfl) (fun _ _ _ h => h) (Or.inl ⟨by rfl, ?_⟩) (by assumption) ?_
  rotate_left
  focus (intro w hSw; obtain ⟨hS0, hS1, _⟩ := hSw; go_simp; first | done | with_reducible rfl)
  simp only [Act.put, List.getElem_toArray, List.getElem_cons_zero, List.getElem_cons_succ, List.setIfInBounds_toArray, List.set_cons_zero, List.set_cons_succ]
  refine wpAnyH_take (i := 3) (v := ?_) rfl (by kernel_rfl) (by kernel_rfl) (by kernel_rfl) (fun _ _ _ h => h) (Or.inl ⟨by rfl, ?_⟩) (by assumption) ?_
  rotate_left
  focus (intro w hSw; obtain ⟨hS0, hS1, _⟩ := hSw; go_simp; first | done | with_reducible rfl)
  simp only [Act.put, List.getElem_toArray, List.getElem_cons_zero, List.getElem_cons_succ, List.setIfInBounds_toArray, List.set_cons_zero, List.set_cons_succ]
  refine wpAnyH_take (i := 4) (v := ?_) rfl (by kernel_rfl) (by kernel_rfl) (by kernel_rfl) (fun _ _ _ h => h) (Or.inl ⟨by rfl, ?_⟩) (by assumption) ?_
  rotate_left
  focus (intro w hSw; obtain ⟨hS0, hS1, _⟩ := hSw; go_simp; first | done | with_reducible rfl)
  simp only [Act.put, List.getElem_toArray, List.getElem_cons_zero, List.getElem_cons_succ, List.setIfInBounds_toArray, List.set_cons_zero, List.set_cons_succ]
  refine wpAnyH_ready (rs := [5]) (by kernel_rfl) (by simp) ?_
  refine AllReadyH.cons (o := _) rfl (fun K hK => ?_) AllReadyH.nil
  go_simp
  with_reducible refine (bool56 _).mono ?_
  rintro e v5 ⟨rfl, hb5⟩
  go_simp
  refine hK.out _ _ ⟨(hb5.cell (p := ⟨w2.heap.size, 0, none⟩) (hHeld.lt)).trans hHeld.1, (hb5.cell (p := ⟨w2.heap.size, 1, none⟩) (hHeld.lt)).trans hHeld.2.1, hHeld.2.2.trans (hb5.mono hHeld.2.2.size)⟩ (fun hHeld => ?_)
  clear hK K
  try simp only [Act.put, List.getElem_toArray, List.getElem_cons_zero, List.getElem_cons_succ, List.setIfInBounds_toArray, List.set_cons_zero, List.set_cons_succ]
  refine wpAnyH_take (i := 6) (v := ?_) rfl (by kernel_rfl) (by kernel_rfl) (by kernel_rfl) (fun _ _ _ h => h) (Or.inl ⟨by rfl, ?_⟩) (by assumption) ?_
  rotate_left
  focus (intro w hSw; obtain ⟨hS0, hS1, _⟩ := hSw; go_simp; first | done | with_reducible rfl)
  simp only [Act.put, List.getElem_toArray, List.getElem_cons_zero, List.getElem_cons_succ, List.setIfInBounds_toArray, List.set_cons_zero, List.set_cons_succ]
  refine wpAnyH_take (i := 7) (v := ?_) rfl (by kernel_rfl) (by kernel_rfl) (by kernel_rfl) (fun _ _ _ h => h) (Or.inl ⟨by rfl, ?_⟩) (by assumption) ?_
  rotate_left
  focus (intro w hSw; obtain ⟨hS0, hS1, _⟩ := hSw; go_simp; first | done | with_reducible rfl)
  simp only [Act.put, List.getElem_toArray, List.getElem_cons_zero, List.getElem_cons_succ, List.setIfInBounds_toArray, List.set_cons_zero, List.set_cons_succ]
  refine wpAnyH_take (i := 8) (v := ?_) rfl (by kernel_rfl) (by kernel_rfl) (by kernel_rfl) (fun _ _ _ h => h) (Or.inl ⟨by rfl, ?_⟩) (by assumption) ?_
  rotate_left
  focus (intro w hSw; obtain ⟨hS0, hS1, _⟩ := hSw; go_simp; first | done | with_reducible rfl)
  simp only [Act.put, List.getElem_toArray, List.getElem_cons_zero, List.getElem_cons_succ, List.setIfInBounds_toArray, List.set_cons_zero, List.set_cons_succ]
  refine wpAnyH_take (i := 9) (v := ?_) rfl (by kernel_rfl) (by kernel_rfl) (by kernel_rfl) (fun _ _ _ h => h) (Or.inl ⟨by rfl, ?_⟩) (by assumption) ?_
  rotate_left
  focus (intro w hSw; obtain ⟨hS0, hS1, _⟩ := hSw; go_simp; first | done | with_reducible rfl)
  simp only [Act.put, List.getElem_toArray, List.getElem_cons_zero, List.getElem_cons_succ, List.setIfInBounds_toArray, List.set_cons_zero, List.set_cons_succ]
  refine wpAnyH_take (i := 10) (v := ?_) rfl (by kernel_rfl) (by kernel_rfl) (by kernel_rfl) (fun _ _ _ h => h) (Or.inl ⟨by rfl, ?_⟩) (by assumption) ?_
  rotate_left
  focus (intro w hSw; obtain ⟨hS0, hS1, _⟩ := hSw; go_simp; first | done | with_reducible rfl)
  simp only [Act.put, List.getElem_toArray, List.getElem_cons_zero, List.getElem_cons_succ, List.setIfInBounds_toArray, List.set_cons_zero, List.set_cons_succ]
  refine wpAnyH_ready (rs := [11]) (by kernel_rfl) (by simp) ?_
  refine AllReadyH.cons (o := _) rfl (fun K hK => ?_) AllReadyH.nil
  go_simp
  with_reducible refine (name57 n _).mono ?_
  rintro e v11 ⟨rfl, hb11⟩
  go_simp
  refine hK.out _ _ ⟨(hb11.cell (p := ⟨w2.heap.size, 0, none⟩) (hHeld.lt)).trans hHeld.1, (hb11.cell (p := ⟨w2.heap.size, 1, none⟩) (hHeld.lt)).trans hHeld.2.1, hHeld.2.2.trans (hb11.mono hHeld.2.2.size)⟩ (fun hHeld => ?_)
  clear hK K
  try simp only [Act.put, List.getElem_toArray, List.getElem_cons_zero, List.getElem_cons_succ, List.setIfInBounds_toArray, List.set_cons_zero, List.set_cons_succ]
  refine wpAnyH_take (i := 12) (v := ?_) rfl (by kernel_rfl) (by kernel_rfl) (by kernel_rfl) (fun _ _ _ h => h) (Or.inl ⟨by rfl, ?_⟩) (by assumption) ?_
  rotate_left
  focus (intro w hSw; obtain ⟨hS0, hS1, _⟩ := hSw; go_simp; first | done | with_reducible rfl)
  simp only [Act.put, List.getElem_toArray, List.getElem_cons_zero, List.getElem_cons_succ, List.setIfInBounds_toArray, List.set_cons_zero, List.set_cons_succ]
  refine wpAnyH_take (i := 13) (v := ?_) rfl (by kernel_rfl) (by kernel_rfl) (by kernel_rfl) (fun _ _ _ h => h) (Or.inl ⟨by rfl, ?_⟩) (by assumption) ?_
  rotate_left
  focus (intro w hSw; obtain ⟨hS0, hS1, _⟩ := hSw; go_simp; first | done | with_reducible rfl)
  simp only [Act.put, List.getElem_toArray, List.getElem_cons_zero, List.getElem_cons_succ, List.setIfInBounds_toArray, List.set_cons_zero, List.set_cons_succ]
  refine wpAnyH_done (by kernel_rfl) ?_ _
  go_wp2
  go_ret
  exact ⟨rfl, hHeld.2.2⟩
def intB (n : ByteArray) : Bool := n.toList == [105, 110, 116]
def boolB (n : ByteArray) : Bool := n.toList == [98, 111, 111, 108]
def nullB (n : ByteArray) : Bool := n.toList == [110, 117, 108, 108]
def goodB (n : ByteArray) : Bool := intB n || boolB n || (greatB n && decide ((n.size : Int) ≤ 40))
theorem good43 (n : ByteArray) (a : Bool) (w : World) : Calls Tryd.prog 48 #[tv n a] w fun e w' => e = .returned (.bool (goodB n)) ∧ Below w.heap.size w w' := by
  cases h1 : n.toList == [105, 110, 116] with
  | true =>
    have : goodB n = true := by unfold goodB intB; rw [h1]; rfl
    rw [this]
    exact good_int n a w h1
  | false =>
    cases h2 : n.toList == [98, 111, 111, 108] with
    | true =>
      have : goodB n = true := by unfold goodB intB boolB; rw [h1, h2]; rfl
      rw [this]
      exact good_bool n a w h1 h2
    | false =>
      have : goodB n = (greatB n && decide ((n.size : Int) ≤ 40)) := by unfold goodB intB boolB; rw [h1, h2]; rfl
      rw [this]
      exact good_name n a w h1 h2
end Go.Proofs.YthimpjfmelmhpaaDoor.Fc
