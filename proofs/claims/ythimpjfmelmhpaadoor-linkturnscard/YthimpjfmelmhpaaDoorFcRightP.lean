/-
  Which faces are right: the program's own Right.
-/
import Derived.Test.YthimpjfmelmhpaaDoorFcRightX
import Derived.Deep.RegionHeld3
import Derived.Deep.Cut
import Derived.Deep.CutRange
namespace Go.Proofs.YthimpjfmelmhpaaDoor.Fc
open Go.RowKit
set_option linter.unusedVariables false

set_option maxHeartbeats 400000 in
theorem follows63 (last name : ByteArray) (w : World) : Calls Tryd.prog 87 #[.string last, .string name] w fun e w' => e = .returned (.bool (ltS last name && decide ((name.size : Int) ≤ 40))) ∧ w = w' := by
  unfold ltS
  cases h1 : Op.bytesLess last.toList name.toList with
  | false =>
    go_enter Tryd.func87, Tryd.ntmps87
    go_wp2
    go_ret
    exact ⟨rfl, rfl⟩
  | true =>
    by_cases h2 : (name.size : Int) ≤ 40
    · have HD := Lib.hid (decide_eq_true h2)
      go_enter Tryd.func87, Tryd.ntmps87
      go_wp2
      go_ret
      exact ⟨by rw [HD.out]; rfl, rfl⟩
    · have HD := Lib.hid (decide_eq_false h2)
      go_enter Tryd.func87, Tryd.ntmps87
      go_wp2
      go_ret
      exact ⟨by rw [HD.out]; rfl, rfl⟩

set_option maxHeartbeats 1000000 in
set_option maxRecDepth 100000 in
theorem params64 (ps : List Ty) (a : Option Addr) (n c : Nat) (w : World) (h : Sl w 2 TyR ps (.slice a n c)) : Calls Tryd.prog 88 #[.slice a n c] w (IffP (ps.length ≤ 200 ∧ ∀ p ∈ ps, goodB p.n = true) w) := by
  obtain ⟨e1, l1, k1, hk1⟩ := h.at
  unfold maxLen at k1
  have E1 := Lib.hid e1
  have HK1 := Lib.hid hk1
  clear e1 hk1 h
  by_cases t1 : 200 < n
  · go_enter Tryd.func88, Tryd.ntmps88
    go_wp2
    go_ret
    exact IffP.no rfl (fun h => by have := h.1; have := E1.out; omega) (Below.refl _ _)
  go_enter Tryd.func88, Tryd.ntmps88
  go_wp2
  go_loopw [10] (fun i wr => ∃ k : Nat, k ≤ n ∧ i = .int .i64 k ∧ Hid (∀ p ∈ ps.take k, goodB p.n = true) ∧ Below w.heap.size w wr) (fun i _ => n - (intOf i).toNat)
  case atStart => exact ⟨0, Nat.zero_le _, rfl, Lib.hid (by simp), Below.refl _ _⟩
  case round =>
    obtain ⟨k, hk, rfl, HJ, hbr⟩ := hrel
    have hsr := hbr.size
    by_cases hkl : k < n
    · obtain ⟨t, ht⟩ : ∃ v, ps[k]? = some v := ⟨_, List.getElem?_eq_getElem (by have := E1.out; omega)⟩
      obtain ⟨g, o, cs, rfl, hcell, rfl⟩ := HK1.out k t ht
      have s0 : wr.cell? ⟨g, o + k * 2, none⟩ = some (.string t.n) := (hbr.cell (World.block_lt_of_cell? _ _ (hcell 0 _ rfl))).trans (hcell 0 _ rfl)
      have s1 : wr.cell? ⟨g, o + k * 2 + 1, none⟩ = some (.bool t.a) := (hbr.cell (World.block_lt_of_cell? _ _ (hcell 1 _ rfl))).trans (hcell 1 _ rfl)
      have HV := Lib.hid ht
      obtain ⟨b5, HB5⟩ : ∃ b, Hid (goodB t.n = b) := ⟨_, Lib.hid rfl⟩
      clear hcell ht
      go_wp2_with fail
      refine (good43 t.n t.a _).mono ?_
      rintro e w8 ⟨rfl, hb8⟩
      rw [HB5.out]
      have hb9 : Below w.heap.size w w8 := hbr.trans (((below1 _ _).trans (hb8.mono (by simp))).mono hsr)
      clear hb8 s0 s1
      cases b5 with
      | false =>
        go_wp2
        go_ret
        exact IffP.no rfl (fun h => by have := h.2 t (List.mem_of_getElem? HV.out); rw [HB5.out] at this; cases this) hb9
      | true =>
        have HJ2 := Lib.hid (all_snoc (P := fun p => goodB p.n = true) HV.out HJ.out HB5.out)
        clear HJ HV HB5
        go_wp2
        go_roundw
        case rel => exact ⟨k + 1, by omega, by go_num, HJ2, hb9⟩
        case measure => simp [intOf]; omega
    · have HE : Hid (ps.length ≤ 200 ∧ ∀ p ∈ ps, goodB p.n = true) := Lib.hid ⟨by have := E1.out; omega, by have := HJ.out; rwa [List.take_of_length_le (by have := E1.out; omega)] at this⟩
      go_wp2
      go_ret
      exact IffP.yes rfl HE.out hbr

theorem last_snoc {α : Type} {nm : α → ByteArray} {xs : List α} {k : Nat} {x : α} (h : xs[k]? = some x) : lastN nm xs (k + 1) = nm x := by simp [lastN, h]

set_option maxHeartbeats 1000000 in
set_option maxRecDepth 100000 in
theorem fields30 (fs : List Vr) (a : Option Addr) (n c : Nat) (w : World) (h : Sl w 3 VrR fs (.slice a n c)) : Calls Tryd.prog 63 #[.slice a n c] w (IffP (fs.length ≤ 200 ∧ RF fs) w) := by
  obtain ⟨e1, l1, k1, hk1⟩ := h.at
  unfold maxLen at k1
  have E1 := Lib.hid e1
  have HK1 := Lib.hid hk1
  clear e1 hk1 h
  by_cases t1 : 200 < n
  · go_enter Tryd.func63, Tryd.ntmps63
    go_wp2
    go_ret
    exact IffP.no rfl (fun h => by have := h.1; have := E1.out; omega) (Below.refl _ _)
  go_enter Tryd.func63, Tryd.ntmps63
  go_wp2
  go_loopw [3, 11] (fun l i wr => ∃ k : Nat, k ≤ n ∧ i = .int .i64 k ∧ l = .string (lastN Vr.name fs k) ∧ Hid (∀ j x, j < k → fs[j]? = some x → okV (lastN Vr.name fs j) x) ∧ Below w.heap.size w wr) (fun _ i _ => n - (intOf i).toNat)
  case atStart => exact ⟨0, Nat.zero_le _, rfl, rfl, Lib.hid (by intro j x h; omega), Below.refl _ _⟩
  case round =>
    obtain ⟨k, hk, rfl, rfl, HA, hbr⟩ := hrel
    have hsr := hbr.size
    by_cases hkl : k < n
    · obtain ⟨x, hx⟩ : ∃ v, fs[k]? = some v := ⟨_, List.getElem?_eq_getElem (by have := E1.out; omega)⟩
      obtain ⟨g, o, cs, rfl, hcell, rfl⟩ := HK1.out k x hx
      have p0 : wr.cell? ⟨g, o + k * 3, none⟩ = some (.string x.name) := (hbr.cell (World.block_lt_of_cell? _ _ (hcell 0 _ rfl))).trans (hcell 0 _ rfl)
      have p1 : wr.cell? ⟨g, o + k * 3 + 1, none⟩ = some (.string x.tn) := (hbr.cell (World.block_lt_of_cell? _ _ (hcell 1 _ rfl))).trans (hcell 1 _ rfl)
      have p2 : wr.cell? ⟨g, o + k * 3 + 2, none⟩ = some (.bool x.ta) := (hbr.cell (World.block_lt_of_cell? _ _ (hcell 2 _ rfl))).trans (hcell 2 _ rfl)
      have HLS := Lib.hid (last_snoc (nm := Vr.name) hx)
      obtain ⟨b1, HB1⟩ : ∃ b, Hid ((ltS (lastN Vr.name fs k) x.name && decide ((x.name.size : Int) ≤ 40)) = b) := ⟨_, Lib.hid rfl⟩
      obtain ⟨b2, HB2⟩ : ∃ b, Hid (goodB x.tn = b) := ⟨_, Lib.hid rfl⟩
      have HFW := Lib.hid (follows63 (lastN Vr.name fs k) x.name)
      have HOK : Hid (okV (lastN Vr.name fs k) x ↔ b1 = true ∧ b2 = true) := Lib.hid (by
        rw [← HB1.out, ← HB2.out]; unfold okV; rw [Bool.and_eq_true, decide_eq_true_iff]
        constructor
        · rintro ⟨h1, h2, h3⟩; exact ⟨⟨h1, by omega⟩, h3⟩
        · rintro ⟨⟨h1, h2⟩, h3⟩; exact ⟨h1, by omega, h3⟩)
      have HAK : Hid (okV (lastN Vr.name fs k) x → ∀ j y, j < k + 1 → fs[j]? = some y → okV (lastN Vr.name fs j) y) := Lib.hid (fun h j y hj hy => by
        rcases Nat.lt_succ_iff_lt_or_eq.1 hj with hj | rfl
        · exact HA.out j y hj hy
        · rw [hx] at hy; cases hy; exact h)
      have HNO : Hid (¬ okV (lastN Vr.name fs k) x → ¬ (fs.length ≤ 200 ∧ RF fs)) := Lib.hid (fun h hr => h (hr.2 k x hx))
      rw [HB1.out] at HFW
      generalize lastN Vr.name fs k = last at *
      obtain ⟨W1, HWE⟩ : ∃ W1, Hid (W1 = wr.alloc (.cells #[.string x.name, .string x.tn, .bool x.ta] 68)) := ⟨_, Lib.hid rfl⟩
      have X1 : Hid (Blk W1 wr.heap.size [.string x.name, .string x.tn, .bool x.ta] 68) := Lib.hid (by rw [HWE.out]; exact Blk.new wr [.string x.name, .string x.tn, .bool x.ta] 68)
      have hb1 : Below w.heap.size w W1 := by rw [HWE.out]; exact bl_al' hbr
      clear hcell hx HB1 HA
      go_upto_region 7 with fail
      rw [← HWE.out]
      have x0 := X1.out.cell 0
      have x1 := X1.out.cell 1
      have x2 := X1.out.cell 2
      simp only [List.getElem?_cons_succ, List.getElem?_cons_zero] at x0 x1 x2
      clear p0 p1 p2 HWE
      cases b1 with
      | false =>
        go_wp2_with (go_at_call 87; refine (HFW.out _).mono ?_; rintro e w' ⟨rfl, rfl⟩)
        go_ret
        exact IffP.no rfl (HNO.out (fun h => by have := (HOK.out.1 h).1; cases this)) hb1
      | true =>
        go_wp2_with (go_at_call 87; refine (HFW.out _).mono ?_; rintro e w' ⟨rfl, rfl⟩)
        refine (good43 x.tn x.ta W1).mono ?_
        rintro e w3 ⟨rfl, hb3⟩
        rw [HB2.out]
        have hb4 : Below w.heap.size w w3 := hb1.trans (hb3.mono hb1.size)
        have X3 := X1.out.below hb3
        have y0 := X3.cell 0
        simp only [List.getElem?_cons_zero] at y0
        clear X3 hb3 x0 x1 x2
        cases b2 with
        | false =>
          go_wp2
          go_ret
          exact IffP.no rfl (HNO.out (fun h => by have := (HOK.out.1 h).2; cases this)) hb4
        | true =>
          have HA2 := Lib.hid (HAK.out (HOK.out.2 ⟨by simp, by simp⟩))
          clear HAK HNO HOK HB2
          go_wp2
          go_roundw
          case rel => exact ⟨k + 1, by omega, by go_num, by rw [HLS.out], HA2, hb4⟩
          case measure => simp [intOf]; omega
    · have HE : Hid (fs.length ≤ 200 ∧ RF fs) := Lib.hid ⟨by have := E1.out; omega, fun j y hy => HA.out j y (by have := (List.getElem?_eq_some_iff.1 hy).1; have := E1.out; omega) hy⟩
      clear HA
      go_wp2
      go_ret
      exact IffP.yes rfl HE.out hbr

set_option maxHeartbeats 2000000 in
set_option maxRecDepth 100000 in
theorem methods31 (ms : List Sg) (a : Option Addr) (n c : Nat) (w : World) (h : Sl w 5 (SgR w) ms (.slice a n c)) : Calls Tryd.prog 64 #[.slice a n c] w (IffP (ms.length ≤ 200 ∧ RG ms) w) := by
  obtain ⟨e1, l1, k1, hk1⟩ := h.at
  unfold maxLen at k1
  have E1 := Lib.hid e1
  have HK1 := Lib.hid hk1
  clear e1 hk1 h
  by_cases t1 : 200 < n
  · go_enter Tryd.func64, Tryd.ntmps64
    go_wp2
    go_ret
    exact IffP.no rfl (fun h => by have := h.1; have := E1.out; omega) (Below.refl _ _)
  go_enter Tryd.func64, Tryd.ntmps64
  go_wp2
  go_loopw [3, 11] (fun l i wr => ∃ k : Nat, k ≤ n ∧ i = .int .i64 k ∧ l = .string (lastN Sg.name ms k) ∧ Hid (∀ j x, j < k → ms[j]? = some x → okG (lastN Sg.name ms j) x) ∧ Below w.heap.size w wr) (fun _ i _ => n - (intOf i).toNat)
  case atStart => exact ⟨0, Nat.zero_le _, rfl, rfl, Lib.hid (by intro j x h; omega), Below.refl _ _⟩
  case round =>
    obtain ⟨k, hk, rfl, rfl, HA, hbr⟩ := hrel
    have hsr := hbr.size
    by_cases hkl : k < n
    · obtain ⟨x, hx⟩ : ∃ v, ms[k]? = some v := ⟨_, List.getElem?_eq_getElem (by have := E1.out; omega)⟩
      obtain ⟨g, o, cs, rfl, hcell, b1', m1, d1, rfl, hps⟩ := HK1.out k x hx
      have p0 : wr.cell? ⟨g, o + k * 5, none⟩ = some (.string x.name) := (hbr.cell (World.block_lt_of_cell? _ _ (hcell 0 _ rfl))).trans (hcell 0 _ rfl)
      have p1 : wr.cell? ⟨g, o + k * 5 + 1, none⟩ = some (.bool x.st) := (hbr.cell (World.block_lt_of_cell? _ _ (hcell 1 _ rfl))).trans (hcell 1 _ rfl)
      have p2 : wr.cell? ⟨g, o + k * 5 + 2, none⟩ = some (.slice b1' m1 d1) := (hbr.cell (World.block_lt_of_cell? _ _ (hcell 2 _ rfl))).trans (hcell 2 _ rfl)
      have p3 : wr.cell? ⟨g, o + k * 5 + 3, none⟩ = some (.string x.rn) := (hbr.cell (World.block_lt_of_cell? _ _ (hcell 3 _ rfl))).trans (hcell 3 _ rfl)
      have p4 : wr.cell? ⟨g, o + k * 5 + 4, none⟩ = some (.bool x.ra) := (hbr.cell (World.block_lt_of_cell? _ _ (hcell 4 _ rfl))).trans (hcell 4 _ rfl)
      have HLS := Lib.hid (last_snoc (nm := Sg.name) hx)
      have HPM := Lib.hid hps
      obtain ⟨b1, HB1⟩ : ∃ b, Hid ((ltS (lastN Sg.name ms k) x.name && decide ((x.name.size : Int) ≤ 40)) = b) := ⟨_, Lib.hid rfl⟩
      obtain ⟨b2, HB2⟩ : ∃ b, Hid (goodB x.rn = b) := ⟨_, Lib.hid rfl⟩
      have HFW := Lib.hid (follows63 (lastN Sg.name ms k) x.name)
      have HOK : Hid (okG (lastN Sg.name ms k) x ↔ b1 = true ∧ b2 = true ∧ x.ps.length ≤ 200 ∧ ∀ p ∈ x.ps, goodB p.n = true) := Lib.hid (by
        rw [← HB1.out, ← HB2.out]; unfold okG; rw [Bool.and_eq_true, decide_eq_true_iff]
        constructor
        · rintro ⟨h1, h2, h3⟩; exact ⟨⟨h1, by omega⟩, h3⟩
        · rintro ⟨⟨h1, h2⟩, h3⟩; exact ⟨h1, by omega, h3⟩)
      have HAK : Hid (okG (lastN Sg.name ms k) x → ∀ j y, j < k + 1 → ms[j]? = some y → okG (lastN Sg.name ms j) y) := Lib.hid (fun h j y hj hy => by
        rcases Nat.lt_succ_iff_lt_or_eq.1 hj with hj | rfl
        · exact HA.out j y hj hy
        · rw [hx] at hy; cases hy; exact h)
      have HNO : Hid (¬ okG (lastN Sg.name ms k) x → ¬ (ms.length ≤ 200 ∧ RG ms)) := Lib.hid (fun h hr => h (hr.2 k x hx))
      rw [HB1.out] at HFW
      generalize lastN Sg.name ms k = last at *
      obtain ⟨W1, HWE⟩ : ∃ W1, Hid (W1 = wr.alloc (.cells #[.string x.name, .bool x.st, .slice b1' m1 d1, .string x.rn, .bool x.ra] 51)) := ⟨_, Lib.hid rfl⟩
      have X1 : Hid (Blk W1 wr.heap.size [.string x.name, .bool x.st, .slice b1' m1 d1, .string x.rn, .bool x.ra] 51) := Lib.hid (by rw [HWE.out]; exact Blk.new wr [.string x.name, .bool x.st, .slice b1' m1 d1, .string x.rn, .bool x.ra] 51)
      have hb1 : Below w.heap.size w W1 := by rw [HWE.out]; exact bl_al' hbr
      clear hcell hx HB1 HA hps
      go_upto_region 7 with fail
      rw [← HWE.out]
      have x0 := X1.out.cell 0
      have x1 := X1.out.cell 1
      have x2 := X1.out.cell 2
      have x3 := X1.out.cell 3
      have x4 := X1.out.cell 4
      simp only [List.getElem?_cons_succ, List.getElem?_cons_zero] at x0 x1 x2 x3 x4
      clear p0 p1 p2 p3 p4 HWE
      cases b1 with
      | false =>
        go_wp2_with (go_at_call 87; refine (HFW.out _).mono ?_; rintro e w' ⟨rfl, rfl⟩)
        go_ret
        exact IffP.no rfl (HNO.out (fun h => by have := (HOK.out.1 h).1; cases this)) hb1
      | true =>
        go_wp2_with (go_at_call 87; refine (HFW.out _).mono ?_; rintro e w' ⟨rfl, rfl⟩)
        refine (good43 x.rn x.ra W1).mono ?_
        rintro e w3 ⟨rfl, hb3⟩
        rw [HB2.out]
        have hb4 : Below w.heap.size w w3 := hb1.trans (hb3.mono hb1.size)
        have X3 := Lib.hid (X1.out.below hb3)
        have y0 := X3.out.cell 0
        have y1 := X3.out.cell 1
        have y2 := X3.out.cell 2
        simp only [List.getElem?_cons_succ, List.getElem?_cons_zero] at y0 y1 y2
        clear hb3 x0 x1 x2 x3 x4
        cases b2 with
        | false =>
          go_wp2
          go_ret
          exact IffP.no rfl (HNO.out (fun h => by have := (HOK.out.1 h).2.1; cases this)) hb4
        | true =>
          go_wp2_with fail
          refine (params64 x.ps b1' m1 d1 w3 (tys_keep (Keeps.of_below hb4) HPM.out)).mono ?_
          rintro e w5 ⟨r3, rfl, hr3, hb5⟩
          have hb6 : Below w.heap.size w w5 := hb4.trans (hb5.mono hb4.size)
          have X5 := X3.out.below hb5
          have z0 := X5.cell 0
          simp only [List.getElem?_cons_zero] at z0
          have HR3 := Lib.hid hr3
          clear X5 X3 hb5 hr3 y0 y1 y2
          cases r3 with
          | false =>
            go_wp2
            go_ret
            exact IffP.no rfl (HNO.out (fun h => by have := HR3.out.2 (HOK.out.1 h).2.2; cases this)) hb6
          | true =>
            have HA2 := Lib.hid (HAK.out (HOK.out.2 ⟨by simp, by simp, HR3.out.1 (by simp)⟩))
            clear HAK HNO HOK HB2 HR3
            go_wp2
            go_roundw
            case rel => exact ⟨k + 1, by omega, by go_num, by rw [HLS.out], HA2, hb6⟩
            case measure => simp [intOf]; omega
    · have HE : Hid (ms.length ≤ 200 ∧ RG ms) := Lib.hid ⟨by have := E1.out; omega, fun j y hy => HA.out j y (by have := (List.getElem?_eq_some_iff.1 hy).1; have := E1.out; omega) hy⟩
      clear HA
      go_wp2
      go_ret
      exact IffP.yes rfl HE.out hbr

set_option maxHeartbeats 2000000 in
set_option maxRecDepth 100000 in
theorem right10 (f : Fc) (cs : List Value) (w : World) (hf : FcR w f cs) : Calls Tryd.prog 40 #[.agg cs.toArray] w (IffP (RightP f) w) := by
  obtain ⟨a1, n1, c1, a2, n2, c2, rfl, hf1, hm1⟩ := hf
  have HS1 := Lib.hid hf1
  have HM1 := Lib.hid hm1
  clear hf1 hm1
  obtain ⟨b1, HB1⟩ : ∃ b, Hid ((greatB f.name && decide ((f.name.size : Int) ≤ 40)) = b) := ⟨_, Lib.hid rfl⟩
  obtain ⟨b2, HB2⟩ : ∃ b, Hid ((greatB f.sup && decide ((f.sup.size : Int) ≤ 40)) = b) := ⟨_, Lib.hid rfl⟩
  have HN1 : Hid (classB f.name = b1) := Lib.hid HB1.out
  have HN2 : Hid (classB f.sup = b2) := Lib.hid HB2.out
  have H1 : Hid (∀ W, Calls Tryd.prog 62 #[.string f.name] W fun e w' => e = .returned (.bool b1) ∧ Below W.heap.size W w') := Lib.hid (fun W => by rw [← HB1.out]; exact name57 f.name W)
  have H2 : Hid (∀ W, Calls Tryd.prog 62 #[.string f.sup] W fun e w' => e = .returned (.bool b2) ∧ Below W.heap.size W w') := Lib.hid (fun W => by rw [← HB2.out]; exact name57 f.sup W)
  clear HB1 HB2
  obtain ⟨W0, HW0⟩ : ∃ W0, Hid (W0 = w.alloc (.cells #[.string f.name, .string f.sup, .slice a1 n1 c1, .slice a2 n2 c2] 35)) := ⟨_, Lib.hid rfl⟩
  have F0 : Hid (Blk W0 w.heap.size [.string f.name, .string f.sup, .slice a1 n1 c1, .slice a2 n2 c2] 35) := Lib.hid (by rw [HW0.out]; exact Blk.new w [.string f.name, .string f.sup, .slice a1 n1 c1, .slice a2 n2 c2] 35)
  have HB0 : Hid (Below w.heap.size w W0) := Lib.hid (by rw [HW0.out]; exact below1 w _)
  go_enter Tryd.func40, Tryd.ntmps40
  go_upto_region 1 with fail
  rw [← HW0.out]
  have p0 := F0.out.cell 0
  have p1 := F0.out.cell 1
  simp only [List.getElem?_cons_succ, List.getElem?_cons_zero] at p0 p1
  go_cut [17] from 3 to 17 (fun s17 wc => ∃ b, s17 = .bool b ∧ Hid (b = false ↔ (classB f.name = true ∧ (f.sup.size = 0 ∨ classB f.sup = true))) ∧ Hid (Blk wc w.heap.size [.string f.name, .string f.sup, .slice a1 n1 c1, .slice a2 n2 c2] 35) ∧ Below w.heap.size w wc)
  case first =>
    go_wp2_with fail
    refine (H1.out W0).mono ?_
    rintro e w1 ⟨rfl, hb1⟩
    have HBB1 : Hid (Below w.heap.size w w1) := Lib.hid (HB0.out.trans (hb1.mono HB0.out.size))
    have F1 := Lib.hid (F0.out.below hb1)
    cases b1 with
    | false =>
      go_wp2_with fail
      go_meet
      exact ⟨_, rfl, Lib.hid (by rw [HN1.out]; simp), F1, HBB1.out⟩
    | true =>
      by_cases hz : 0 < f.sup.size
      rotate_left
      · have hE := empty_yes hz
        have HZ : Hid (f.sup.size = 0) := Lib.hid (by omega)
        have q1 := F1.out.cell 1
        simp only [List.getElem?_cons_succ, List.getElem?_cons_zero] at q1
        clear hz hb1 p0 p1
        go_wp2_with fail
        go_meet
        exact ⟨_, rfl, Lib.hid (by rw [HN1.out, HZ.out]; simp), F1, HBB1.out⟩
      · have hE := empty_no hz
        have HZ : Hid (¬ f.sup.size = 0) := Lib.hid (by omega)
        have q1 := F1.out.cell 1
        simp only [List.getElem?_cons_succ, List.getElem?_cons_zero] at q1
        clear hz hb1 p0 p1
        go_wp2_with fail
        refine (H2.out w1).mono ?_
        rintro e w2 ⟨rfl, hb2⟩
        have HBB2 : Hid (Below w.heap.size w w2) := Lib.hid (HBB1.out.trans (hb2.mono HBB1.out.size))
        have F2 := Lib.hid (F1.out.below hb2)
        clear hb2 q1
        cases b2 with
        | false =>
          go_wp2_with fail
          go_meet
          exact ⟨_, rfl, Lib.hid (by rw [HN1.out, HN2.out]; simp [HZ.out]), F2, HBB2.out⟩
        | true =>
          go_wp2_with fail
          go_meet
          exact ⟨_, rfl, Lib.hid (by rw [HN1.out, HN2.out]; simp), F2, HBB2.out⟩
  case rest =>
    obtain ⟨b, rfl, HP, HF, hbc⟩ := hcut
    clear p0 p1 F0 HB0 HW0 H1 H2 HN1 HN2
    cases b with
    | true =>
      go_wp2
      go_ret
      exact IffP.no rfl (fun h => by have := HP.out.2 ⟨h.name, h.sup⟩; cases this) hbc
    | false =>
      have HPP := Lib.hid (HP.out.1 rfl)
      have q0 := HF.out.cell 0
      have q1 := HF.out.cell 1
      have q2 := HF.out.cell 2
      have q3 := HF.out.cell 3
      simp only [List.getElem?_cons_succ, List.getElem?_cons_zero] at q0 q1 q2 q3
      go_wp2_with fail
      refine (fields30 f.fs a1 n1 c1 wc (vrs_keep (Keeps.of_below hbc) HS1.out)).mono ?_
      rintro e w3 ⟨r3, rfl, hr3, hb3⟩
      have hb4 : Below w.heap.size w w3 := hbc.trans (hb3.mono hbc.size)
      have F3 := HF.out.below hb3
      have HR3 := Lib.hid hr3
      cases r3 with
      | false =>
        clear hr3
        go_wp2
        go_ret
        exact IffP.no rfl (fun h => by have := HR3.out.2 ⟨h.nf, h.fs⟩; cases this) hb4
      | true =>
        have t3 := F3.cell 3
        simp only [List.getElem?_cons_succ, List.getElem?_cons_zero] at t3
        clear F3 hb3 hr3 q0 q1 q2 q3
        go_wp2_with fail
        refine (methods31 f.ms a2 n2 c2 w3 (sgs_keep (Keeps.of_below hb4) HM1.out)).mono ?_
        rintro e w5 ⟨r5, rfl, hr5, hb5⟩
        have hb6 : Below w.heap.size w w5 := hb4.trans (hb5.mono hb4.size)
        have HR5 := Lib.hid hr5
        clear hr5
        cases r5 with
        | false =>
          go_wp2
          go_ret
          exact IffP.no rfl (fun h => by have := HR5.out.2 ⟨h.nm, h.ms⟩; cases this) hb6
        | true =>
          go_wp2
          go_ret
          exact IffP.yes rfl ⟨HPP.out.1, HPP.out.2, (HR3.out.1 (by simp)).1, (HR5.out.1 (by simp)).1, (HR3.out.1 (by simp)).2, (HR5.out.1 (by simp)).2⟩ hb6
end Go.Proofs.YthimpjfmelmhpaaDoor.Fc
