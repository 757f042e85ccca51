/-
  Few faces; the document's example.
-/
import Derived.Test.YtgnkkoeklipmiaaFew
import Derived.Test.YtgnkkoeklipmiaaNew
import Derived.Test.YtgnkkoeklipmiaaComm
namespace Go.Proofs.Ytgnkkoeklipmiaa
open Go.RowKit
set_option linter.unusedVariables false

set_option maxHeartbeats 2000000 in
theorem few10 (L : List Fc) (a : Option Addr) (n c : Nat) (w : World) (h : Sl w 4 (FcR w) L (.slice a n c)) :
    Calls Try.prog 10 #[.slice a n c] w (FewP (L.length ≤ 8 ∧ ∀ x ∈ L, Small x) w) := by
  obtain ⟨e1, l1, k1, hkk⟩ := h.at
  unfold maxLen at k1
  have E1 := Lib.hid e1
  have HK := Lib.hid hkk
  clear h e1 hkk
  go_enter Try.func10, Try.ntmps10
  go_wp2
  go_loopw [7] (fun i wr => ∃ k : Nat, k ≤ n ∧ i = .int .i64 k ∧ Hid (∀ x ∈ L.take k, Small x) ∧ Below w.heap.size w wr) (fun i _ => n - (intOf i).toNat)
  case atStart => exact ⟨0, Nat.zero_le _, rfl, Lib.hid (by simp), Below.refl _ _⟩
  case round =>
    obtain ⟨k, hk1, rfl, HA, hbr⟩ := hrel
    have hsr := hbr.size
    by_cases hlt : k < n
    · obtain ⟨x, hx⟩ : ∃ v, L[k]? = some v := ⟨_, List.getElem?_eq_getElem (by have := E1.out; omega)⟩
      obtain ⟨g, o, cs, rfl, hcell, b1, m1, d1, b2, m2, d2, rfl, hf, hm⟩ := HK.out k x hx
      have c0 : wr.cell? ⟨g, o + k * 4, none⟩ = some (.string x.name) := (hbr.cell (World.block_lt_of_cell? _ _ (hcell 0 _ rfl))).trans (hcell 0 _ rfl)
      have hgl : g < wr.heap.size := World.block_lt_of_cell? _ _ c0
      have q1 := (hbr.cell (World.block_lt_of_cell? _ _ (hcell 1 _ rfl))).trans (hcell 1 _ rfl)
      have q2 := (hbr.cell (World.block_lt_of_cell? _ _ (hcell 2 _ rfl))).trans (hcell 2 _ rfl)
      have q3 := (hbr.cell (World.block_lt_of_cell? _ _ (hcell 3 _ rfl))).trans (hcell 3 _ rfl)
      have HX := Lib.hid hx
      have hk2 := Keeps.of_below (hbr.trans ((below1 wr (.cells #[.string x.name, .string x.sup, .slice b1 m1 d1, .slice b2 m2 d2] 35)).mono hsr))
      have HF := Lib.hid (few31 x b1 m1 d1 b2 m2 d2 (wr.alloc (.cells #[.string x.name, .string x.sup, .slice b1 m1 d1, .slice b2 m2 d2] 35)) (vrs_keep hk2 hf) (sgs_keep hk2 hm))
      clear hcell hx hf hm hk2
      go_wp2_with fail
      refine HF.out.mono ?_
      rintro e w1 ⟨r, rfl, hr, hb⟩
      have hB1 : Below w.heap.size w w1 := (hbr.trans ((below1 wr _).mono hsr)).trans (hb.mono (by simp; omega))
      cases r with
      | false =>
        clear hr
        go_wp2
        go_ret
        exact FewP.no rfl hB1
      | true =>
        have HA2 := Lib.hid (all_snoc HX.out HA.out (hr rfl))
        clear hr HA
        go_wp2
        go_roundw
        case rel => exact ⟨k + 1, by omega, by go_num, HA2, hB1⟩
        case measure => simp [intOf]; omega
    · have HA2 := HA.out
      rw [List.take_of_length_le (by have := E1.out; omega)] at HA2
      have HS := Lib.hid HA2
      clear HA2
      go_wp2
      go_ret
      exact ⟨decide ((n : Int) ≤ 8), rfl, fun t => ⟨by have := E1.out; simp at t; omega, HS.out⟩, hbr⟩

def L3 : List Fc := [⟨⟨#[65]⟩, ⟨#[]⟩, [], []⟩, ⟨⟨#[66]⟩, ⟨#[65]⟩, [], []⟩, ⟨⟨#[67]⟩, ⟨#[65]⟩, [], []⟩]
def c12 : List Value := [.string ⟨#[65]⟩, .string ⟨#[]⟩, .slice none 0 0, .slice none 0 0, .string ⟨#[66]⟩, .string ⟨#[65]⟩, .slice none 0 0, .slice none 0 0, .string ⟨#[67]⟩, .string ⟨#[65]⟩, .slice none 0 0, .slice none 0 0]
theorem sl3 (w : World) : Sl (w.alloc (.cells c12.toArray 35)) 4 (FcR (w.alloc (.cells c12.toArray 35))) L3 (.slice (some ⟨w.heap.size, 0, none⟩) 3 3) := by
  refine ⟨some ⟨w.heap.size, 0, none⟩, 3, rfl, by decide, by unfold maxLen; omega, fun i x hi => ?_⟩
  have hB := Blk.new w c12 35
  match i, hi with
  | 0, hi =>
    simp [L3] at hi
    subst hi
    refine ⟨w.heap.size, 0, [.string ⟨#[65]⟩, .string ⟨#[]⟩, .slice none 0 0, .slice none 0 0], rfl, fun j v hv => ?_, none, 0, 0, none, 0, 0, rfl, Sl.nil _ _ _, Sl.nil _ _ _⟩
    rw [hB.cell]
    match j, hv with
    | 0, hv => exact hv
    | 1, hv => exact hv
    | 2, hv => exact hv
    | 3, hv => exact hv
  | 1, hi =>
    simp [L3] at hi
    subst hi
    refine ⟨w.heap.size, 0, [.string ⟨#[66]⟩, .string ⟨#[65]⟩, .slice none 0 0, .slice none 0 0], rfl, fun j v hv => ?_, none, 0, 0, none, 0, 0, rfl, Sl.nil _ _ _, Sl.nil _ _ _⟩
    rw [hB.cell]
    match j, hv with
    | 0, hv => exact hv
    | 1, hv => exact hv
    | 2, hv => exact hv
    | 3, hv => exact hv
  | 2, hi =>
    simp [L3] at hi
    subst hi
    refine ⟨w.heap.size, 0, [.string ⟨#[67]⟩, .string ⟨#[65]⟩, .slice none 0 0, .slice none 0 0], rfl, fun j v hv => ?_, none, 0, 0, none, 0, 0, rfl, Sl.nil _ _ _, Sl.nil _ _ _⟩
    rw [hB.cell]
    match j, hv with
    | 0, hv => exact hv
    | 1, hv => exact hv
    | 2, hv => exact hv
    | 3, hv => exact hv
  | i + 3, hi => simp [L3] at hi
theorem small3 : ∀ x ∈ L3, Small x := by
  intro x hx
  simp [L3] at hx
  rcases hx with rfl | rfl | rfl <;> exact ⟨by decide, by decide, by decide, by decide, by simp, by simp⟩
theorem com3 : com L3 ⟨#[66]⟩ ⟨#[67]⟩ = ⟨#[65]⟩ := by decide +kernel
theorem bel3 : bel L3 ⟨#[66]⟩ ⟨#[65]⟩ = true := by decide +kernel
theorem bel3' : bel L3 ⟨#[65]⟩ ⟨#[66]⟩ = false := by decide +kernel

set_option maxHeartbeats 2000000 in
theorem head9 (w : World) : Calls Try.prog 9 #[] w fun e w' => e = .returned (.bool true) ∧ Below w.heap.size w w' := by
  have HN := Lib.hid (new11 (w.alloc (.cells c12.toArray 35)) L3 (some ⟨w.heap.size, 0, none⟩) 3 3 (sl3 w) (by decide) small3)
  unfold c12 at HN
  go_enter Try.func9, Try.ntmps9
  go_wp2_with fail
  refine HN.out.mono ?_
  rintro e w1 ⟨tb, fm, rfl, hT, hb1⟩
  have hB0 : Below w.heap.size w w1 := (below1 w _).trans (hb1.mono (by simp))
  have hz1 : w.heap.size + 1 ≤ w1.heap.size := by have := hb1.size; simpa using this
  have HC := Lib.hid (common18 _ tb fm L3 (by decide) ⟨#[66]⟩ ⟨#[67]⟩ (by decide) (by decide) w1 _ _ hb1.size hT (by decide))
  have HT := Lib.hid hT
  clear HN hT hb1
  go_wp2_with fail
  refine HC.out.mono ?_
  rw [com3]
  rintro e w2 ⟨sv2, c2, rfl, hT2, hs2, hc2⟩
  have hz2 := hs2.mods.size
  have HB := Lib.hid (below17 _ tb fm L3 (by decide) ⟨#[66]⟩ ⟨#[65]⟩ (by decide) w2 _ _ (by simp; omega) hT2 (by omega))
  have hB1 : Below w.heap.size w w2 := hB0.trans ((hs2.below HT.out (by simp; omega)).mono (by simp))
  have HT2 := Lib.hid hT2
  clear HC HT hT2 hs2
  go_wp2_with fail
  refine HB.out.mono ?_
  rw [bel3]
  rintro e w3 ⟨sv3, c3, rfl, hT3, hs3, hc3⟩
  have hz3 := hs3.mods.size
  have HB2 := Lib.hid (below17 _ tb fm L3 (by decide) ⟨#[65]⟩ ⟨#[66]⟩ (by decide) w3 _ _ (by simp; omega) hT3 (by omega))
  have hB2 : Below w.heap.size w w3 := hB1.trans ((hs3.below HT2.out (by simp; omega)).mono (by simp))
  have HT3 := Lib.hid hT3
  clear HB HT2 hT3 hs3
  go_wp2_with fail
  refine HB2.out.mono ?_
  rw [bel3']
  rintro e w4 ⟨sv4, c4, rfl, hT4, hs4, hc4⟩
  have hB3 : Below w.heap.size w w4 := hB2.trans ((hs4.below HT3.out (by simp; omega)).mono (by simp))
  clear HB2 HT3 hT4 hs4
  go_wp2
  go_ret
  exact ⟨rfl, hB3⟩
end Go.Proofs.Ytgnkkoeklipmiaa
