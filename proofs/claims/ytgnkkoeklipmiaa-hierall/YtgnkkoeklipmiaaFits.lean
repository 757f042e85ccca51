/-
  What may stand where.
-/
import Derived.Test.YtgnkkoeklipmiaaKnown
namespace Go.Proofs.Ytgnkkoeklipmiaa
open Go.RowKit
set_option linter.unusedVariables false
theorem eql44_same (n : ByteArray) (p : Bool) (w : World) : (binOp .eql 44 (tv n p) (tv n p)).run Try.prog w = .ok (.bool true) w := by
  have h := teq (rfl : n = n)
  have h2 : (p == p) = true := by simp
  unfold tv
  go_simp
theorem eql44_n {n m : ByteArray} (h0 : n ≠ m) (p q : Bool) (w : World) : (binOp .eql 44 (tv n p) (tv m q)).run Try.prog w = .ok (.bool false) w := by
  have h := tne h0
  unfold tv
  go_simp
theorem eql44_a (n : ByteArray) {p q : Bool} (h0 : p ≠ q) (w : World) : (binOp .eql 44 (tv n p) (tv n q)).run Try.prog w = .ok (.bool false) w := by
  have h := teq (rfl : n = n)
  have h2 : (p == q) = false := by simpa using h0
  unfold tv
  go_simp

theorem eql44 (an : ByteArray) (aa : Bool) (bn : ByteArray) (ba : Bool) (w : World) : (binOp .eql 44 (tv an aa) (tv bn ba)).run Try.prog w = .ok (.bool (decide (an = bn ∧ aa = ba))) w := by
  by_cases h1 : an = bn
  · subst h1
    by_cases h2 : aa = ba
    · subst h2
      rw [eql44_same]; simp
    · rw [eql44_a an h2]; simp [h2]
  · rw [eql44_n h1]; simp [h1]
theorem null_eq (n : ByteArray) : nullB n = decide (n = ⟨#[110, 117, 108, 108]⟩) := by
  unfold nullB
  by_cases h : n = ⟨#[110, 117, 108, 108]⟩
  · subst h; decide +kernel
  · have : n.toList ≠ [110, 117, 108, 108] := fun e => h (by
      rw [ByteArray.toList_eq] at e
      obtain ⟨⟨l⟩⟩ := n
      simp at e
      rw [e])
    simp [h, this]
def ftB (L : List Fc) (an : ByteArray) (aa : Bool) (bn : ByteArray) (ba : Bool) : Bool :=
  decide (an = bn ∧ aa = ba) || (nullB an && !aa && (ba || greatB bn || nullB bn)) || (greatB an && !aa && greatB bn && !ba && bel L an bn)
theorem ft_same {L : List Fc} {an : ByteArray} {aa : Bool} {bn : ByteArray} {ba : Bool} (h : decide (an = bn ∧ aa = ba) = true) : ftB L an aa bn ba = true := by unfold ftB; rw [h]; simp
theorem ft_null {L : List Fc} {an : ByteArray} {aa : Bool} {bn : ByteArray} {ba : Bool} (h : decide (an = bn ∧ aa = ba) = false) (h2 : decide (an = ⟨#[110, 117, 108, 108]⟩ ∧ aa = false) = true) : ftB L an aa bn ba = (ba || greatB bn || nullB bn) := by
  have h3 : an = ⟨#[110, 117, 108, 108]⟩ ∧ aa = false := by simpa using h2
  have hn : nullB an = true := by rw [null_eq]; simpa using h3.1
  unfold ftB
  rw [h, hn, null_great hn, h3.2]
  simp
theorem ft_class {L : List Fc} {an : ByteArray} {aa : Bool} {bn : ByteArray} {ba : Bool} (h : decide (an = bn ∧ aa = ba) = false) (h2 : decide (an = ⟨#[110, 117, 108, 108]⟩ ∧ aa = false) = false) : ftB L an aa bn ba = ((!aa && greatB an) && (!ba && greatB bn) && bel L an bn) := by
  have h3 : (nullB an && !aa) = false := by
    rw [null_eq]
    cases aa <;> simp at h2 ⊢
    exact h2
  unfold ftB
  rw [h, h3]
  cases greatB an <;> cases aa <;> cases greatB bn <;> cases ba <;> simp

set_option maxHeartbeats 4000000 in
set_option maxRecDepth 100000 in
theorem fits26 (B tb fm : Nat) (L : List Fc) (hL : L.length ≤ 100) (an : ByteArray) (aa : Bool) (bn : ByteArray) (ba : Bool) (hs : an.size ≤ maxLen) (w : World) (sv : Value) (c : Nat) (hB : B ≤ w.heap.size) (hT : Tb B w tb fm sv c L) (hc : c < 900000) :
    Calls Try.prog 26 #[.pointer (some ⟨tb, 0, none⟩), tv an aa, tv bn ba] w (TPost B tb fm L w sv c 101 (.bool (ftB L an aa bn ba))) := by
  have HT := Lib.hid hT
  clear hT
  have HB0 := Lib.hid ((Blk.new w [.string an, .bool aa] 44).below (below1 _ (.cells #[.string bn, .bool ba] 44)))
  have HB1 : Hid (Blk ((w.alloc (.cells #[.string an, .bool aa] 44)).alloc (.cells #[.string bn, .bool ba] 44)) (w.heap.size + 1) [.string bn, .bool ba] 44) := Lib.hid (by
    have := Blk.new (w.alloc (.cells #[.string an, .bool aa] 44)) [.string bn, .bool ba] 44
    simpa using this)
  have he := eql44 an aa bn ba
  have HF1 := Lib.hid (@ft_same L an aa bn ba)
  have HF2 := Lib.hid (@ft_null L an aa bn ba)
  have HF3 := Lib.hid (@ft_class L an aa bn ba)
  have he2 := eql44 an aa ⟨#[110, 117, 108, 108]⟩ false
  generalize decide (an = bn ∧ aa = ba) = r at *
  generalize decide (an = ⟨#[110, 117, 108, 108]⟩ ∧ aa = false) = r2 at *
  cases r with
  | true =>
    have HE := Lib.hid (HF1.out (by first | rfl | trivial))
    clear HF1 HF2 HF3 he2
    go_enter Try.func26, Try.ntmps26
    go_wp2
    go_ret
    rw [HE.out]
    exact ⟨sv, c, rfl, HT.out.below (below2 _ _ _), (Stp.refl _ _ _).post (below2 _ _ _), by omega⟩
  | false =>
    have k0 : ((w.alloc (.cells #[.string an, .bool aa] 44)).alloc (.cells #[.string bn, .bool ba] 44)).cell? ⟨w.heap.size, 0, none⟩ = some (.string an) := HB0.out.cell 0
    have k1 : ((w.alloc (.cells #[.string an, .bool aa] 44)).alloc (.cells #[.string bn, .bool ba] 44)).cell? ⟨w.heap.size, 1, none⟩ = some (.bool aa) := HB0.out.cell 1
    go_enter Try.func26, Try.ntmps26
    go_wp2
    refine wp_region_held_drew (S := TyS ((w.alloc (.cells #[.string an, .bool aa] 44)).alloc (.cells #[.string bn, .bool ba] 44)) w.heap.size an aa) (by kernel_rfl) ?_ (fun hHeld => ?_)
    · exact ⟨k0, k1, Below.drew (Below.refl _ _)⟩
    refine wpAnyH_take (i := 0) (v := ?_) rfl (by kernel_rfl) (by kernel_rfl) (by kernel_rfl) (fun _ _ _ h => h) (Or.inl ⟨by rfl, ?_⟩) (by assumption) ?_
    rotate_left
    focus (intro w hSw; obtain ⟨hS0, hS1, _⟩ := hSw; go_simp; first | done | with_reducible rfl)
    simp only [Act.put, List.getElem_toArray, List.getElem_cons_zero, List.setIfInBounds_toArray, List.set_cons_zero, List.set_cons_succ]
    refine wpAnyH_ready (rs := [1]) (by kernel_rfl) (by simp) ?_
    refine AllReadyH.cons (o := _) rfl (fun K hK => ?_) AllReadyH.nil
    go_simp
    with_reducible refine (nothing40 _).mono ?_
    rintro e v1 ⟨rfl, hb1⟩
    go_simp
    refine hK.out _ _ ⟨(hb1.cell (p := ⟨w.heap.size, 0, none⟩) (hHeld.lt)).trans hHeld.1, (hb1.cell (p := ⟨w.heap.size, 1, none⟩) (hHeld.lt)).trans hHeld.2.1, hHeld.2.2.trans (hb1.mono hHeld.2.2.size)⟩ (fun hHeld => ?_)
    clear hK K
    try simp only [Act.put, List.getElem_toArray, List.getElem_cons_zero, List.getElem_cons_succ, List.setIfInBounds_toArray, List.set_cons_zero, List.set_cons_succ]
    refine wpAnyH_take (i := 2) (v := ?_) rfl (by kernel_rfl) (by kernel_rfl) (by kernel_rfl) (fun _ _ _ h => h) (Or.inl ⟨by rfl, ?_⟩) (by assumption) ?_
    rotate_left
    focus (intro w hSw; obtain ⟨hS0, hS1, _⟩ := hSw; go_simp; first | done | with_reducible rfl)
    simp only [Act.put, List.getElem_toArray, List.getElem_cons_zero, List.getElem_cons_succ, List.setIfInBounds_toArray, List.set_cons_zero, List.set_cons_succ]
    refine wpAnyH_take (i := 3) (v := ?_) rfl (by kernel_rfl) (by kernel_rfl) (by kernel_rfl) (fun _ _ _ h => h) (Or.inl ⟨by rfl, ?_⟩) (by assumption) ?_
    rotate_left
    focus (intro w hSw; obtain ⟨hS0, hS1, _⟩ := hSw; go_simp; first | done | with_reducible rfl)
    simp only [Act.put, List.getElem_toArray, List.getElem_cons_zero, List.getElem_cons_succ, List.setIfInBounds_toArray, List.set_cons_zero, List.set_cons_succ]
    refine wpAnyH_done (by kernel_rfl) ?_ _
    have B0 := HB0.out.below hHeld.2.2
    have B1 := HB1.out.below hHeld.2.2
    have p0 : v1.cell? ⟨w.heap.size, 0, none⟩ = some (.string an) := B0.cell 0
    have p1 : v1.cell? ⟨w.heap.size, 1, none⟩ = some (.bool aa) := B0.cell 1
    have q0 : v1.cell? ⟨w.heap.size + 1, 0, none⟩ = some (.string bn) := B1.cell 0
    have q1 : v1.cell? ⟨w.heap.size + 1, 1, none⟩ = some (.bool ba) := B1.cell 1
    have hbw : Below w.heap.size w v1 := (below2 w _ _).trans (hHeld.2.2.mono (by simp; omega))
    have HBW := Lib.hid hbw
    have C0 := Lib.hid B0
    have C1 := Lib.hid B1
    clear hb1 B0 B1 hbw HB0 HB1 he he2 k0 k1
    cases r2 with
    | true =>
      have HE := Lib.hid (HF2.out (by first | rfl | trivial) (by first | rfl | trivial))
      clear HF1 HF2 HF3 hHeld
      go_wp2_with fail
      refine (object41 bn ba v1).mono ?_
      rintro e v2 ⟨rfl, hb2⟩
      have HB2 := Lib.hid (HBW.out.trans (hb2.mono HBW.out.size))
      clear hb2
      go_wp2
      go_ret
      rw [HE.out]
      exact ⟨sv, c, rfl, HT.out.below HB2.out, (Stp.refl _ _ _).post HB2.out, by omega⟩
    | false =>
      have HE := Lib.hid (HF3.out (by first | rfl | trivial) (by first | rfl | trivial))
      clear HF1 HF2 HF3 hHeld
      go_wp2_with fail
      refine (class42 an aa v1).mono ?_
      rintro e v2 ⟨rfl, hb2⟩
      have HB2 := Lib.hid (HBW.out.trans (hb2.mono HBW.out.size))
      have p0' : v2.cell? ⟨w.heap.size, 0, none⟩ = some (.string an) := (C0.out.below hb2).cell 0
      have q0' : v2.cell? ⟨w.heap.size + 1, 0, none⟩ = some (.string bn) := (C1.out.below hb2).cell 0
      have q1' : v2.cell? ⟨w.heap.size + 1, 1, none⟩ = some (.bool ba) := (C1.out.below hb2).cell 1
      have D0 := Lib.hid (C0.out.below hb2)
      have D1 := Lib.hid (C1.out.below hb2)
      clear hb2 p0 p1 q0 q1 C0 C1 HBW
      obtain ⟨g1, hg1⟩ : ∃ g, g = (!aa && greatB an) := ⟨_, rfl⟩
      rw [← hg1] at HE ⊢
      clear hg1
      cases g1 with
      | false =>
        go_wp2
        go_ret
        rw [HE.out]
        exact ⟨sv, c, by simp, HT.out.below HB2.out, (Stp.refl _ _ _).post HB2.out, by omega⟩
      | true =>
        go_wp2_with fail
        refine (class42 bn ba v2).mono ?_
        rintro e v3 ⟨rfl, hb3⟩
        have HB3 := Lib.hid (HB2.out.trans (hb3.mono HB2.out.size))
        have p0 : v3.cell? ⟨w.heap.size, 0, none⟩ = some (.string an) := (D0.out.below hb3).cell 0
        have q0 : v3.cell? ⟨w.heap.size + 1, 0, none⟩ = some (.string bn) := (D1.out.below hb3).cell 0
        clear hb3 p0' q0' q1' D0 D1 HB2
        obtain ⟨g2, hg2⟩ : ∃ g, g = (!ba && greatB bn) := ⟨_, rfl⟩
        rw [← hg2] at HE ⊢
        clear hg2
        cases g2 with
        | false =>
          go_wp2
          go_ret
          rw [HE.out]
          exact ⟨sv, c, by simp, HT.out.below HB3.out, (Stp.refl _ _ _).post HB3.out, by omega⟩
        | true =>
          have HBE := Lib.hid (below17 B tb fm L hL an bn hs v3 sv c (Nat.le_trans hB HB3.out.size) (HT.out.below HB3.out) hc)
          go_wp2_with fail
          refine HBE.out.mono ?_
          rintro e v4 ⟨sv4, c4, rfl, hT4, hs4, hc4⟩
          have HT4 := Lib.hid hT4
          have HS4 := Lib.hid (hs4.pre HB3.out)
          clear HBE hT4 hs4
          go_wp2
          go_ret
          rw [HE.out]
          exact ⟨sv4, c4, by simp, HT4.out, HS4.out, hc4⟩
end Go.Proofs.Ytgnkkoeklipmiaa
