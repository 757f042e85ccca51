/-
  Lists of types and fields: whether they are the same.
-/
import Derived.Test.YthimpjfmelmhpaaDoorFcTab
import Derived.BigQuiet
namespace Go.Proofs.YthimpjfmelmhpaaDoor.Fc
open Go.RowKit
set_option linter.unusedVariables false

set_option maxHeartbeats 2000000 in
set_option maxRecDepth 100000 in
theorem eq39 (xs ys : List Ty) (a1 : Option Addr) (n1 c1 : Nat) (a2 : Option Addr) (n2 c2 : Nat) (w : World) (h1 : Sl w 2 TyR xs (.slice a1 n1 c1)) (h2 : Sl w 2 TyR ys (.slice a2 n2 c2)) :
    Calls Tryd.prog 54 #[.slice a1 n1 c1, .slice a2 n2 c2] w fun e w' => e = .returned (.bool (decide (xs = ys))) ∧ Below w.heap.size w w' := by
  obtain ⟨e1, l1, k1, hk1⟩ := h1.at
  obtain ⟨e2, l2, k2, hk2⟩ := h2.at
  unfold maxLen at k1 k2
  have E1 := Lib.hid e1
  have E2 := Lib.hid e2
  have HK1 := Lib.hid hk1
  have HK2 := Lib.hid hk2
  clear e1 e2 hk1 hk2 h1 h2
  by_cases hn : n1 = n2
  · subst hn
    have hnn : ((n1 : Int) == n1) = true := by simp
    go_enter Tryd.func54, Tryd.ntmps54
    go_wp2
    go_loopw [13] (fun i wr => ∃ k : Nat, k ≤ n1 ∧ i = .int .i64 k ∧ Hid (xs.take k = ys.take k) ∧ Below w.heap.size w wr) (fun i _ => n1 - (intOf i).toNat)
    case atStart => exact ⟨0, Nat.zero_le _, rfl, Lib.hid (by simp), Below.refl _ _⟩
    case round =>
      obtain ⟨k, hk1, rfl, HA, hbr⟩ := hrel
      have hsr := hbr.size
      by_cases hlt : k < n1
      · obtain ⟨x, hx⟩ : ∃ v, xs[k]? = some v := ⟨_, List.getElem?_eq_getElem (by have := E1.out; omega)⟩
        obtain ⟨y, hy⟩ : ∃ v, ys[k]? = some v := ⟨_, List.getElem?_eq_getElem (by have := E2.out; omega)⟩
        obtain ⟨g, o, cs, rfl, hcell, rfl⟩ := HK1.out k x hx
        obtain ⟨g', o', cs, rfl, hcell', rfl⟩ := HK2.out k y hy
        have p0 : wr.cell? ⟨g, o + k * 2, none⟩ = some (.string x.n) := (hbr.cell (World.block_lt_of_cell? _ _ (hcell 0 _ rfl))).trans (hcell 0 _ rfl)
        have q0 : wr.cell? ⟨g', o' + k * 2, none⟩ = some (.string y.n) := (hbr.cell (World.block_lt_of_cell? _ _ (hcell' 0 _ rfl))).trans (hcell' 0 _ rfl)
        have p1 : wr.cell? ⟨g, o + k * 2 + 1, none⟩ = some (.bool x.a) := (hbr.cell (World.block_lt_of_cell? _ _ (hcell 1 _ rfl))).trans (hcell 1 _ rfl)
        have q1 : wr.cell? ⟨g', o' + k * 2 + 1, none⟩ = some (.bool y.a) := (hbr.cell (World.block_lt_of_cell? _ _ (hcell' 1 _ rfl))).trans (hcell' 1 _ rfl)
        have hgl : g < wr.heap.size := World.block_lt_of_cell? _ _ p0
        have hgl' : g' < wr.heap.size := World.block_lt_of_cell? _ _ q0
        have HN : Hid (x ≠ y → xs ≠ ys) := Lib.hid (fun hne e => hne (by rw [e, hy] at hx; exact (Option.some.inj hx).symm))
        have HY : Hid (x = y → xs.take (k + 1) = ys.take (k + 1)) := Lib.hid (fun e => by
          have hx' : k < xs.length := (List.getElem?_eq_some_iff.1 hx).1
          have hy' : k < ys.length := (List.getElem?_eq_some_iff.1 hy).1
          rw [List.take_succ_eq_append_getElem hx', List.take_succ_eq_append_getElem hy', HA.out, (List.getElem?_eq_some_iff.1 hx).2, (List.getElem?_eq_some_iff.1 hy).2, e])
        clear hcell hcell' hx hy
        obtain ⟨x0, x1⟩ := x
        obtain ⟨y0, y1⟩ := y
        dsimp only at p0 q0 p1 q1
        by_cases b0 : x0 = y0
        rotate_left
        · have HF : Hid (decide (xs = ys) = false) := Lib.hid (by simpa using HN.out (fun e => b0 (by injection e)))
          have t0 := tne b0
          clear b0 HN HY
          go_wp2
          go_quiet (fail)
          go_wp2
          go_ret
          refine ⟨by rw [HF.out]; rfl, ⟨hbr.os, hbr.tape, hbr.output, hbr.size, hbr.block⟩⟩
        subst b0
        by_cases b1 : x1 = y1
        rotate_left
        · have HF : Hid (decide (xs = ys) = false) := Lib.hid (by simpa using HN.out (fun e => b1 (by injection e)))
          clear HN HY
          cases x1 <;> cases y1 <;> first | exact absurd rfl b1 | skip
          all_goals clear b1
          all_goals go_wp2
          all_goals go_quiet (fail)
          all_goals go_wp2
          all_goals go_ret
          all_goals refine ⟨by rw [HF.out]; rfl, ⟨hbr.os, hbr.tape, hbr.output, hbr.size, hbr.block⟩⟩
        subst b1
        have HA2 := Lib.hid (HY.out rfl)
        clear HN HY HA
        go_wp2
        go_quiet (fail)
        go_wp2
        go_roundw
        case rel => exact ⟨k + 1, by omega, by go_num, HA2, ⟨hbr.os, hbr.tape, hbr.output, hbr.size, hbr.block⟩⟩
        case measure => simp [intOf]; omega
      · have HF : Hid (decide (xs = ys) = true) := Lib.hid (by
          have := HA.out
          rw [List.take_of_length_le (by have := E1.out; omega), List.take_of_length_le (by have := E2.out; omega)] at this
          simpa using this)
        go_wp2
        go_ret
        exact ⟨by rw [HF.out]; rfl, hbr⟩
  · have hnn : ((n1 : Int) == n2) = false := by simp; omega
    have HF : Hid (decide (xs = ys) = false) := Lib.hid (by
      have h1 := E1.out
      have h2 := E2.out
      simp
      intro e
      rw [e] at h1
      omega)
    clear hn
    go_enter Tryd.func54, Tryd.ntmps54
    go_wp2
    go_ret
    exact ⟨by rw [HF.out]; rfl, Below.refl _ _⟩

set_option maxHeartbeats 2000000 in
set_option maxRecDepth 100000 in
theorem eq35 (xs ys : List Vr) (a1 : Option Addr) (n1 c1 : Nat) (a2 : Option Addr) (n2 c2 : Nat) (w : World) (h1 : Sl w 3 VrR xs (.slice a1 n1 c1)) (h2 : Sl w 3 VrR ys (.slice a2 n2 c2)) :
    Calls Tryd.prog 52 #[.slice a1 n1 c1, .slice a2 n2 c2] w fun e w' => e = .returned (.bool (decide (xs = ys))) ∧ Below w.heap.size w w' := by
  obtain ⟨e1, l1, k1, hk1⟩ := h1.at
  obtain ⟨e2, l2, k2, hk2⟩ := h2.at
  unfold maxLen at k1 k2
  have E1 := Lib.hid e1
  have E2 := Lib.hid e2
  have HK1 := Lib.hid hk1
  have HK2 := Lib.hid hk2
  clear e1 e2 hk1 hk2 h1 h2
  by_cases hn : n1 = n2
  · subst hn
    have hnn : ((n1 : Int) == n1) = true := by simp
    go_enter Tryd.func52, Tryd.ntmps52
    go_wp2
    go_loopw [13] (fun i wr => ∃ k : Nat, k ≤ n1 ∧ i = .int .i64 k ∧ Hid (xs.take k = ys.take k) ∧ Below w.heap.size w wr) (fun i _ => n1 - (intOf i).toNat)
    case atStart => exact ⟨0, Nat.zero_le _, rfl, Lib.hid (by simp), Below.refl _ _⟩
    case round =>
      obtain ⟨k, hk1, rfl, HA, hbr⟩ := hrel
      have hsr := hbr.size
      by_cases hlt : k < n1
      · obtain ⟨x, hx⟩ : ∃ v, xs[k]? = some v := ⟨_, List.getElem?_eq_getElem (by have := E1.out; omega)⟩
        obtain ⟨y, hy⟩ : ∃ v, ys[k]? = some v := ⟨_, List.getElem?_eq_getElem (by have := E2.out; omega)⟩
        obtain ⟨g, o, cs, rfl, hcell, rfl⟩ := HK1.out k x hx
        obtain ⟨g', o', cs, rfl, hcell', rfl⟩ := HK2.out k y hy
        have p0 : wr.cell? ⟨g, o + k * 3, none⟩ = some (.string x.name) := (hbr.cell (World.block_lt_of_cell? _ _ (hcell 0 _ rfl))).trans (hcell 0 _ rfl)
        have q0 : wr.cell? ⟨g', o' + k * 3, none⟩ = some (.string y.name) := (hbr.cell (World.block_lt_of_cell? _ _ (hcell' 0 _ rfl))).trans (hcell' 0 _ rfl)
        have p1 : wr.cell? ⟨g, o + k * 3 + 1, none⟩ = some (.string x.tn) := (hbr.cell (World.block_lt_of_cell? _ _ (hcell 1 _ rfl))).trans (hcell 1 _ rfl)
        have q1 : wr.cell? ⟨g', o' + k * 3 + 1, none⟩ = some (.string y.tn) := (hbr.cell (World.block_lt_of_cell? _ _ (hcell' 1 _ rfl))).trans (hcell' 1 _ rfl)
        have p2 : wr.cell? ⟨g, o + k * 3 + 2, none⟩ = some (.bool x.ta) := (hbr.cell (World.block_lt_of_cell? _ _ (hcell 2 _ rfl))).trans (hcell 2 _ rfl)
        have q2 : wr.cell? ⟨g', o' + k * 3 + 2, none⟩ = some (.bool y.ta) := (hbr.cell (World.block_lt_of_cell? _ _ (hcell' 2 _ rfl))).trans (hcell' 2 _ rfl)
        have hgl : g < wr.heap.size := World.block_lt_of_cell? _ _ p0
        have hgl' : g' < wr.heap.size := World.block_lt_of_cell? _ _ q0
        have HN : Hid (x ≠ y → xs ≠ ys) := Lib.hid (fun hne e => hne (by rw [e, hy] at hx; exact (Option.some.inj hx).symm))
        have HY : Hid (x = y → xs.take (k + 1) = ys.take (k + 1)) := Lib.hid (fun e => by
          have hx' : k < xs.length := (List.getElem?_eq_some_iff.1 hx).1
          have hy' : k < ys.length := (List.getElem?_eq_some_iff.1 hy).1
          rw [List.take_succ_eq_append_getElem hx', List.take_succ_eq_append_getElem hy', HA.out, (List.getElem?_eq_some_iff.1 hx).2, (List.getElem?_eq_some_iff.1 hy).2, e])
        clear hcell hcell' hx hy
        obtain ⟨x0, x1, x2⟩ := x
        obtain ⟨y0, y1, y2⟩ := y
        dsimp only at p0 q0 p1 q1 p2 q2
        by_cases b0 : x0 = y0
        rotate_left
        · have HF : Hid (decide (xs = ys) = false) := Lib.hid (by simpa using HN.out (fun e => b0 (by injection e)))
          have t0 := tne b0
          clear b0 HN HY
          go_wp2
          go_quiet (fail)
          go_wp2
          go_ret
          refine ⟨by rw [HF.out]; rfl, ⟨hbr.os, hbr.tape, hbr.output, hbr.size, hbr.block⟩⟩
        subst b0
        by_cases b1 : x1 = y1
        rotate_left
        · have HF : Hid (decide (xs = ys) = false) := Lib.hid (by simpa using HN.out (fun e => b1 (by injection e)))
          have t1 := tne b1
          clear b1 HN HY
          go_wp2
          go_quiet (fail)
          go_wp2
          go_ret
          refine ⟨by rw [HF.out]; rfl, ⟨hbr.os, hbr.tape, hbr.output, hbr.size, hbr.block⟩⟩
        subst b1
        by_cases b2 : x2 = y2
        rotate_left
        · have HF : Hid (decide (xs = ys) = false) := Lib.hid (by simpa using HN.out (fun e => b2 (by injection e)))
          clear HN HY
          cases x2 <;> cases y2 <;> first | exact absurd rfl b2 | skip
          all_goals clear b2
          all_goals go_wp2
          all_goals go_quiet (fail)
          all_goals go_wp2
          all_goals go_ret
          all_goals refine ⟨by rw [HF.out]; rfl, ⟨hbr.os, hbr.tape, hbr.output, hbr.size, hbr.block⟩⟩
        subst b2
        have HA2 := Lib.hid (HY.out rfl)
        clear HN HY HA
        go_wp2
        go_quiet (fail)
        go_wp2
        go_roundw
        case rel => exact ⟨k + 1, by omega, by go_num, HA2, ⟨hbr.os, hbr.tape, hbr.output, hbr.size, hbr.block⟩⟩
        case measure => simp [intOf]; omega
      · have HF : Hid (decide (xs = ys) = true) := Lib.hid (by
          have := HA.out
          rw [List.take_of_length_le (by have := E1.out; omega), List.take_of_length_le (by have := E2.out; omega)] at this
          simpa using this)
        go_wp2
        go_ret
        exact ⟨by rw [HF.out]; rfl, hbr⟩
  · have hnn : ((n1 : Int) == n2) = false := by simp; omega
    have HF : Hid (decide (xs = ys) = false) := Lib.hid (by
      have h1 := E1.out
      have h2 := E2.out
      simp
      intro e
      rw [e] at h1
      omega)
    clear hn
    go_enter Tryd.func52, Tryd.ntmps52
    go_wp2
    go_ret
    exact ⟨by rw [HF.out]; rfl, Below.refl _ _⟩
end Go.Proofs.YthimpjfmelmhpaaDoor.Fc
