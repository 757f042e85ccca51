/-
  Whether all of a list are right.
-/
import Derived.Test.YthimpjfmelmhpaaDoorCsMem
namespace Go.Proofs.YthimpjfmelmhpaaDoor.Fc
open Go.RowKit
set_option linter.unusedVariables false

set_option maxHeartbeats 1000000 in
set_option maxRecDepth 100000 in
theorem all51 (xs : List ByteArray) (a : Option Addr) (n c : Nat) (w : World) (h : Sl w 1 StrR xs (.slice a n c)) : Calls Tryd.prog 65 #[.slice a n c, .func (.func 66) #[] #[]] w (IffP (xs.length ≤ 16384 ∧ ∀ x ∈ xs, RightP ⟨x, ⟨#[]⟩, [], []⟩) w) := by
  obtain ⟨e1, l1, k1, hk1⟩ := h.at
  unfold maxLen at k1
  have E1 := Lib.hid e1
  have HK1 := Lib.hid hk1
  clear e1 hk1 h
  by_cases t1 : 16384 < n
  · go_enter Tryd.func65, Tryd.ntmps65
    go_wp2
    go_ret
    exact IffP.no rfl (fun h => by have := h.1; have := E1.out; omega) (Below.refl _ _)
  go_enter Tryd.func65, Tryd.ntmps65
  go_wp2
  go_loopw [12] (fun i wr => ∃ k : Nat, k ≤ n ∧ i = .int .i64 k ∧ Hid (∀ j x, j < k → xs[j]? = some x → RightP ⟨x, ⟨#[]⟩, [], []⟩) ∧ Below w.heap.size w wr) (fun i _ => n - (intOf i).toNat)
  case atStart => exact ⟨0, Nat.zero_le _, rfl, Lib.hid (by intro j x h; omega), Below.refl _ _⟩
  case round =>
    obtain ⟨k, hk, rfl, HA, hbr⟩ := hrel
    have hsr := hbr.size
    by_cases hkl : k < n
    · obtain ⟨x, hx⟩ : ∃ v, xs[k]? = some v := ⟨_, List.getElem?_eq_getElem (by have := E1.out; omega)⟩
      obtain ⟨g, o, cs, rfl, hcell, rfl⟩ := HK1.out k x hx
      simp only [Nat.mul_one] at hcell
      have p0 : wr.cell? ⟨g, o + k, none⟩ = some (.string x) := (hbr.cell (World.block_lt_of_cell? _ _ (hcell 0 _ rfl))).trans (hcell 0 _ rfl)
      have HAK : Hid (RightP ⟨x, ⟨#[]⟩, [], []⟩ → ∀ j y, j < k + 1 → xs[j]? = some y → (fun x => RightP ⟨x, ⟨#[]⟩, [], []⟩) y) := Lib.hid (fun h j y hj hy => by
        rcases Nat.lt_succ_iff_lt_or_eq.1 hj with hj | rfl
        · exact HA.out j y hj hy
        · rw [hx] at hy; cases hy; exact h)
      have HNO : Hid (¬ RightP ⟨x, ⟨#[]⟩, [], []⟩ → ¬ (xs.length ≤ 16384 ∧ ∀ x ∈ xs, RightP ⟨x, ⟨#[]⟩, [], []⟩)) := Lib.hid (fun h hr => h (hr.2 x (List.mem_of_getElem? hx)))
      have hb1 : Below w.heap.size w (wr) := hbr
      have HC := Lib.hid (class52 x (wr))
      have HB1 := Lib.hid hb1
      clear hcell hx hb1
      go_wp2_with fail
      refine HC.out.mono ?_
      rintro e w2 ⟨r, rfl, hr, hb2⟩
      have HB2 : Hid (Below w.heap.size w w2) := Lib.hid (HB1.out.trans (hb2.mono HB1.out.size))
      have HR := Lib.hid hr
      clear hr hb2 HC
      cases r with
      | false =>
        go_wp2
        go_ret
        exact IffP.no rfl (HNO.out (fun h => by have := HR.out.2 h; cases this)) HB2.out
      | true =>
        go_wp2
        go_roundw
        case rel => exact ⟨k + 1, by omega, by go_num, Lib.hid (HAK.out (HR.out.1 (by simp))), HB2.out⟩
        case measure => simp [intOf]; omega
    · have HE : Hid (xs.length ≤ 16384 ∧ ∀ x ∈ xs, RightP ⟨x, ⟨#[]⟩, [], []⟩) := Lib.hid ⟨by have := E1.out; omega, fun x hx => by
        obtain ⟨j, hj⟩ := List.getElem?_of_mem hx
        have hl := (List.getElem?_eq_some_iff.1 hj).1
        exact HA.out j x (by have := E1.out; omega) hj⟩
      go_wp2
      go_ret
      exact IffP.yes rfl HE.out hbr

set_option maxHeartbeats 1000000 in
set_option maxRecDepth 100000 in
theorem all53 (xs : List Ty) (a : Option Addr) (n c : Nat) (w : World) (h : Sl w 2 TyR xs (.slice a n c)) : Calls Tryd.prog 67 #[.slice a n c, .func (.func 48) #[] #[]] w (IffP (xs.length ≤ 16384 ∧ ∀ x ∈ xs, goodB x.n = true) w) := by
  obtain ⟨e1, l1, k1, hk1⟩ := h.at
  unfold maxLen at k1
  have E1 := Lib.hid e1
  have HK1 := Lib.hid hk1
  clear e1 hk1 h
  by_cases t1 : 16384 < n
  · go_enter Tryd.func67, Tryd.ntmps67
    go_wp2
    go_ret
    exact IffP.no rfl (fun h => by have := h.1; have := E1.out; omega) (Below.refl _ _)
  go_enter Tryd.func67, Tryd.ntmps67
  go_wp2
  go_loopw [12] (fun i wr => ∃ k : Nat, k ≤ n ∧ i = .int .i64 k ∧ Hid (∀ j x, j < k → xs[j]? = some x → goodB x.n = true) ∧ Below w.heap.size w wr) (fun i _ => n - (intOf i).toNat)
  case atStart => exact ⟨0, Nat.zero_le _, rfl, Lib.hid (by intro j x h; omega), Below.refl _ _⟩
  case round =>
    obtain ⟨k, hk, rfl, HA, hbr⟩ := hrel
    have hsr := hbr.size
    by_cases hkl : k < n
    · obtain ⟨x, hx⟩ : ∃ v, xs[k]? = some v := ⟨_, List.getElem?_eq_getElem (by have := E1.out; omega)⟩
      obtain ⟨g, o, cs, rfl, hcell, rfl⟩ := HK1.out k x hx
      have p0 : wr.cell? ⟨g, o + k * 2, none⟩ = some (.string x.n) := (hbr.cell (World.block_lt_of_cell? _ _ (hcell 0 _ rfl))).trans (hcell 0 _ rfl)
      have p1 : wr.cell? ⟨g, o + k * 2 + 1, none⟩ = some (.bool x.a) := (hbr.cell (World.block_lt_of_cell? _ _ (hcell 1 _ rfl))).trans (hcell 1 _ rfl)
      have HAK : Hid (goodB x.n = true → ∀ j y, j < k + 1 → xs[j]? = some y → (fun x => goodB x.n = true) y) := Lib.hid (fun h j y hj hy => by
        rcases Nat.lt_succ_iff_lt_or_eq.1 hj with hj | rfl
        · exact HA.out j y hj hy
        · rw [hx] at hy; cases hy; exact h)
      have HNO : Hid (¬ goodB x.n = true → ¬ (xs.length ≤ 16384 ∧ ∀ x ∈ xs, goodB x.n = true)) := Lib.hid (fun h hr => h (hr.2 x (List.mem_of_getElem? hx)))
      have hb1 : Below w.heap.size w (wr.alloc (.cells #[.string x.n, .bool x.a] 49)) := hbr.alloc hbr.size _
      have HC := Lib.hid (good43 x.n x.a (wr.alloc (.cells #[.string x.n, .bool x.a] 49)))
      have HB1 := Lib.hid hb1
      clear hcell hx hb1
      go_wp2_with fail
      refine HC.out.mono ?_
      rintro e w2 ⟨rfl, hb2⟩
      obtain ⟨r, er⟩ : ∃ r, r = goodB x.n := ⟨_, rfl⟩
      have hr : (r = true ↔ goodB x.n = true) := by rw [er]
      rw [← er]
      clear er
      have HB2 : Hid (Below w.heap.size w w2) := Lib.hid (HB1.out.trans (hb2.mono HB1.out.size))
      have HR := Lib.hid hr
      clear hr hb2 HC
      cases r with
      | false =>
        go_wp2
        go_ret
        exact IffP.no rfl (HNO.out (fun h => by have := HR.out.2 h; cases this)) HB2.out
      | true =>
        go_wp2
        go_roundw
        case rel => exact ⟨k + 1, by omega, by go_num, Lib.hid (HAK.out (HR.out.1 (by simp))), HB2.out⟩
        case measure => simp [intOf]; omega
    · have HE : Hid (xs.length ≤ 16384 ∧ ∀ x ∈ xs, goodB x.n = true) := Lib.hid ⟨by have := E1.out; omega, fun x hx => by
        obtain ⟨j, hj⟩ := List.getElem?_of_mem hx
        have hl := (List.getElem?_eq_some_iff.1 hj).1
        exact HA.out j x (by have := E1.out; omega) hj⟩
      go_wp2
      go_ret
      exact IffP.yes rfl HE.out hbr

set_option maxHeartbeats 1000000 in
set_option maxRecDepth 100000 in
theorem all54 (xs : List Fd) (a : Option Addr) (n c : Nat) (w : World) (h : Sl w 4 FdR xs (.slice a n c)) : Calls Tryd.prog 68 #[.slice a n c, .func (.func 69) #[] #[]] w (IffP (xs.length ≤ 16384 ∧ ∀ x ∈ xs, RightP ⟨x.2, ⟨#[]⟩, [x.1], []⟩) w) := by
  obtain ⟨e1, l1, k1, hk1⟩ := h.at
  unfold maxLen at k1
  have E1 := Lib.hid e1
  have HK1 := Lib.hid hk1
  clear e1 hk1 h
  by_cases t1 : 16384 < n
  · go_enter Tryd.func68, Tryd.ntmps68
    go_wp2
    go_ret
    exact IffP.no rfl (fun h => by have := h.1; have := E1.out; omega) (Below.refl _ _)
  go_enter Tryd.func68, Tryd.ntmps68
  go_wp2
  go_loopw [12] (fun i wr => ∃ k : Nat, k ≤ n ∧ i = .int .i64 k ∧ Hid (∀ j x, j < k → xs[j]? = some x → RightP ⟨x.2, ⟨#[]⟩, [x.1], []⟩) ∧ Below w.heap.size w wr) (fun i _ => n - (intOf i).toNat)
  case atStart => exact ⟨0, Nat.zero_le _, rfl, Lib.hid (by intro j x h; omega), Below.refl _ _⟩
  case round =>
    obtain ⟨k, hk, rfl, HA, hbr⟩ := hrel
    have hsr := hbr.size
    by_cases hkl : k < n
    · obtain ⟨x, hx⟩ : ∃ v, xs[k]? = some v := ⟨_, List.getElem?_eq_getElem (by have := E1.out; omega)⟩
      obtain ⟨g, o, cs, rfl, hcell, rfl⟩ := HK1.out k x hx
      have p0 : wr.cell? ⟨g, o + k * 4, none⟩ = some (.string x.1.name) := (hbr.cell (World.block_lt_of_cell? _ _ (hcell 0 _ rfl))).trans (hcell 0 _ rfl)
      have p1 : wr.cell? ⟨g, o + k * 4 + 1, none⟩ = some (.string x.1.tn) := (hbr.cell (World.block_lt_of_cell? _ _ (hcell 1 _ rfl))).trans (hcell 1 _ rfl)
      have p2 : wr.cell? ⟨g, o + k * 4 + 2, none⟩ = some (.bool x.1.ta) := (hbr.cell (World.block_lt_of_cell? _ _ (hcell 2 _ rfl))).trans (hcell 2 _ rfl)
      have p3 : wr.cell? ⟨g, o + k * 4 + 3, none⟩ = some (.string x.2) := (hbr.cell (World.block_lt_of_cell? _ _ (hcell 3 _ rfl))).trans (hcell 3 _ rfl)
      have HAK : Hid (RightP ⟨x.2, ⟨#[]⟩, [x.1], []⟩ → ∀ j y, j < k + 1 → xs[j]? = some y → (fun x => RightP ⟨x.2, ⟨#[]⟩, [x.1], []⟩) y) := Lib.hid (fun h j y hj hy => by
        rcases Nat.lt_succ_iff_lt_or_eq.1 hj with hj | rfl
        · exact HA.out j y hj hy
        · rw [hx] at hy; cases hy; exact h)
      have HNO : Hid (¬ RightP ⟨x.2, ⟨#[]⟩, [x.1], []⟩ → ¬ (xs.length ≤ 16384 ∧ ∀ x ∈ xs, RightP ⟨x.2, ⟨#[]⟩, [x.1], []⟩)) := Lib.hid (fun h hr => h (hr.2 x (List.mem_of_getElem? hx)))
      have hb1 : Below w.heap.size w (wr.alloc (.cells #[.string x.1.name, .string x.1.tn, .bool x.1.ta, .string x.2] 87)) := hbr.alloc hbr.size _
      have HC := Lib.hid (clos55 x (wr.alloc (.cells #[.string x.1.name, .string x.1.tn, .bool x.1.ta, .string x.2] 87)))
      have HB1 := Lib.hid hb1
      clear hcell hx hb1
      go_wp2_with fail
      refine HC.out.mono ?_
      rintro e w2 ⟨r, rfl, hr, hb2⟩
      have HB2 : Hid (Below w.heap.size w w2) := Lib.hid (HB1.out.trans (hb2.mono HB1.out.size))
      have HR := Lib.hid hr
      clear hr hb2 HC
      cases r with
      | false =>
        go_wp2
        go_ret
        exact IffP.no rfl (HNO.out (fun h => by have := HR.out.2 h; cases this)) HB2.out
      | true =>
        go_wp2
        go_roundw
        case rel => exact ⟨k + 1, by omega, by go_num, Lib.hid (HAK.out (HR.out.1 (by simp))), HB2.out⟩
        case measure => simp [intOf]; omega
    · have HE : Hid (xs.length ≤ 16384 ∧ ∀ x ∈ xs, RightP ⟨x.2, ⟨#[]⟩, [x.1], []⟩) := Lib.hid ⟨by have := E1.out; omega, fun x hx => by
        obtain ⟨j, hj⟩ := List.getElem?_of_mem hx
        have hl := (List.getElem?_eq_some_iff.1 hj).1
        exact HA.out j x (by have := E1.out; omega) hj⟩
      go_wp2
      go_ret
      exact IffP.yes rfl HE.out hbr

set_option maxHeartbeats 1000000 in
set_option maxRecDepth 100000 in
theorem all57 (xs : List Mt) (a : Option Addr) (n c : Nat) (w : World) (h : Sl w 6 (MtR w) xs (.slice a n c)) : Calls Tryd.prog 71 #[.slice a n c, .func (.func 72) #[] #[]] w (IffP (xs.length ≤ 16384 ∧ ∀ x ∈ xs, RightP ⟨x.2, ⟨#[]⟩, [], [x.1]⟩) w) := by
  obtain ⟨e1, l1, k1, hk1⟩ := h.at
  unfold maxLen at k1
  have E1 := Lib.hid e1
  have HK1 := Lib.hid hk1
  clear e1 hk1 h
  by_cases t1 : 16384 < n
  · go_enter Tryd.func71, Tryd.ntmps71
    go_wp2
    go_ret
    exact IffP.no rfl (fun h => by have := h.1; have := E1.out; omega) (Below.refl _ _)
  go_enter Tryd.func71, Tryd.ntmps71
  go_wp2
  go_loopw [12] (fun i wr => ∃ k : Nat, k ≤ n ∧ i = .int .i64 k ∧ Hid (∀ j x, j < k → xs[j]? = some x → RightP ⟨x.2, ⟨#[]⟩, [], [x.1]⟩) ∧ Below w.heap.size w wr) (fun i _ => n - (intOf i).toNat)
  case atStart => exact ⟨0, Nat.zero_le _, rfl, Lib.hid (by intro j x h; omega), Below.refl _ _⟩
  case round =>
    obtain ⟨k, hk, rfl, HA, hbr⟩ := hrel
    have hsr := hbr.size
    by_cases hkl : k < n
    · obtain ⟨x, hx⟩ : ∃ v, xs[k]? = some v := ⟨_, List.getElem?_eq_getElem (by have := E1.out; omega)⟩
      obtain ⟨g, o, cs, rfl, hcell, b1, m1, d1, rfl, hsl⟩ := HK1.out k x hx
      have p0 : wr.cell? ⟨g, o + k * 6, none⟩ = some (.string x.1.name) := (hbr.cell (World.block_lt_of_cell? _ _ (hcell 0 _ rfl))).trans (hcell 0 _ rfl)
      have p1 : wr.cell? ⟨g, o + k * 6 + 1, none⟩ = some (.bool x.1.st) := (hbr.cell (World.block_lt_of_cell? _ _ (hcell 1 _ rfl))).trans (hcell 1 _ rfl)
      have p2 : wr.cell? ⟨g, o + k * 6 + 2, none⟩ = some (.slice b1 m1 d1) := (hbr.cell (World.block_lt_of_cell? _ _ (hcell 2 _ rfl))).trans (hcell 2 _ rfl)
      have p3 : wr.cell? ⟨g, o + k * 6 + 3, none⟩ = some (.string x.1.rn) := (hbr.cell (World.block_lt_of_cell? _ _ (hcell 3 _ rfl))).trans (hcell 3 _ rfl)
      have p4 : wr.cell? ⟨g, o + k * 6 + 4, none⟩ = some (.bool x.1.ra) := (hbr.cell (World.block_lt_of_cell? _ _ (hcell 4 _ rfl))).trans (hcell 4 _ rfl)
      have p5 : wr.cell? ⟨g, o + k * 6 + 5, none⟩ = some (.string x.2) := (hbr.cell (World.block_lt_of_cell? _ _ (hcell 5 _ rfl))).trans (hcell 5 _ rfl)
      have HAK : Hid (RightP ⟨x.2, ⟨#[]⟩, [], [x.1]⟩ → ∀ j y, j < k + 1 → xs[j]? = some y → (fun x => RightP ⟨x.2, ⟨#[]⟩, [], [x.1]⟩) y) := Lib.hid (fun h j y hj hy => by
        rcases Nat.lt_succ_iff_lt_or_eq.1 hj with hj | rfl
        · exact HA.out j y hj hy
        · rw [hx] at hy; cases hy; exact h)
      have HNO : Hid (¬ RightP ⟨x.2, ⟨#[]⟩, [], [x.1]⟩ → ¬ (xs.length ≤ 16384 ∧ ∀ x ∈ xs, RightP ⟨x.2, ⟨#[]⟩, [], [x.1]⟩)) := Lib.hid (fun h hr => h (hr.2 x (List.mem_of_getElem? hx)))
      have hb1 : Below w.heap.size w (wr.alloc (.cells #[.string x.1.name, .bool x.1.st, .slice b1 m1 d1, .string x.1.rn, .bool x.1.ra, .string x.2] 58)) := hbr.alloc hbr.size _
      have HC := Lib.hid (clos58 x b1 m1 d1 (wr.alloc (.cells #[.string x.1.name, .bool x.1.st, .slice b1 m1 d1, .string x.1.rn, .bool x.1.ra, .string x.2] 58)) (tys_keep (Keeps.of_below hb1) hsl))
      have HB1 := Lib.hid hb1
      clear hcell hx hb1
      go_wp2_with fail
      refine HC.out.mono ?_
      rintro e w2 ⟨r, rfl, hr, hb2⟩
      have HB2 : Hid (Below w.heap.size w w2) := Lib.hid (HB1.out.trans (hb2.mono HB1.out.size))
      have HR := Lib.hid hr
      clear hr hb2 HC
      cases r with
      | false =>
        go_wp2
        go_ret
        exact IffP.no rfl (HNO.out (fun h => by have := HR.out.2 h; cases this)) HB2.out
      | true =>
        go_wp2
        go_roundw
        case rel => exact ⟨k + 1, by omega, by go_num, Lib.hid (HAK.out (HR.out.1 (by simp))), HB2.out⟩
        case measure => simp [intOf]; omega
    · have HE : Hid (xs.length ≤ 16384 ∧ ∀ x ∈ xs, RightP ⟨x.2, ⟨#[]⟩, [], [x.1]⟩) := Lib.hid ⟨by have := E1.out; omega, fun x hx => by
        obtain ⟨j, hj⟩ := List.getElem?_of_mem hx
        have hl := (List.getElem?_eq_some_iff.1 hj).1
        exact HA.out j x (by have := E1.out; omega) hj⟩
      go_wp2
      go_ret
      exact IffP.yes rfl HE.out hbr
end Go.Proofs.YthimpjfmelmhpaaDoor.Fc
