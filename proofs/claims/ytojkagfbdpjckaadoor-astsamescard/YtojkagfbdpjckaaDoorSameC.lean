/-
  Methods and classes: whether they are the same.
-/
import Derived.Test.YtojkagfbdpjckaaDoorSameS
namespace Go.Proofs.YtojkagfbdpjckaaDoor
open Go.RowKit

abbrev mtV (ln co : Int) (name : ByteArray) (st : Bool) (pv : Value) (rn : ByteArray) (ra : Bool) (bv : Value) : Value := .agg #[.int .i64 ln, .int .i64 co, .string name, .bool st, pv, .string rn, .bool ra, bv]

set_option maxHeartbeats 1000000 in
set_option maxRecDepth 100000 in
theorem m37_static (ln co ln' co' : Int) (name : ByteArray) (st : Bool) (a1 : Option Addr) (n1 c1 : Nat) (rn : ByteArray) (ra : Bool) (a2 : Option Addr) (n2 c2 : Nat) (a3 : Option Addr) (n3 c3 : Nat) (rn' : ByteArray) (ra' : Bool) (a4 : Option Addr) (n4 c4 : Nat) (w : World) :
    Calls Tryd.prog 37 #[mtV ln co name st (.slice a1 n1 c1) rn ra (.slice a2 n2 c2), mtV ln' co' name (!st) (.slice a3 n3 c3) rn' ra' (.slice a4 n4 c4)] w fun e w' => e = .returned (.bool false) ∧ Below w.heap.size w w' := by
  unfold mtV
  cases st
  · go_enter Tryd.func37, Tryd.ntmps37
    go_wp2
    go_ret
    exact ⟨rfl, below2 w _ _⟩
  · go_enter Tryd.func37, Tryd.ntmps37
    go_wp2
    go_ret
    exact ⟨rfl, below2 w _ _⟩
set_option maxHeartbeats 1000000 in
set_option maxRecDepth 100000 in
theorem m37_ret (ln co ln' co' : Int) (name : ByteArray) (st : Bool) (a1 : Option Addr) (n1 c1 : Nat) (rn : ByteArray) (ra : Bool) (a2 : Option Addr) (n2 c2 : Nat) (a3 : Option Addr) (n3 c3 : Nat) (a4 : Option Addr) (n4 c4 : Nat) (w : World) :
    Calls Tryd.prog 37 #[mtV ln co name st (.slice a1 n1 c1) rn ra (.slice a2 n2 c2), mtV ln' co' name st (.slice a3 n3 c3) rn (!ra) (.slice a4 n4 c4)] w fun e w' => e = .returned (.bool false) ∧ Below w.heap.size w w' := by
  unfold mtV
  cases ra
  · go_enter Tryd.func37, Tryd.ntmps37
    go_wp2
    go_ret
    exact ⟨rfl, below2 w _ _⟩
  · go_enter Tryd.func37, Tryd.ntmps37
    go_wp2
    go_ret
    exact ⟨rfl, below2 w _ _⟩
set_option maxHeartbeats 1000000 in
set_option maxRecDepth 100000 in
theorem m37_params (ln co ln' co' : Int) (name : ByteArray) (st : Bool) (a1 : Option Addr) (n1 c1 : Nat) (rn : ByteArray) (ra : Bool) (a2 : Option Addr) (n2 c2 : Nat) (a3 : Option Addr) (n3 c3 : Nat) (a4 : Option Addr) (n4 c4 : Nat) (h : ((n1 : Int) == n3) = false) (w : World) :
    Calls Tryd.prog 37 #[mtV ln co name st (.slice a1 n1 c1) rn ra (.slice a2 n2 c2), mtV ln' co' name st (.slice a3 n3 c3) rn ra (.slice a4 n4 c4)] w fun e w' => e = .returned (.bool false) ∧ Below w.heap.size w w' := by
  unfold mtV
  have HH := Lib.hid h
  clear h
  go_enter Tryd.func37, Tryd.ntmps37
  go_wp2_with fail
  refine (eq35_len a1 n1 c1 a3 n3 c3 HH.out _).mono ?_
  rintro e w1 ⟨rfl, hb1⟩
  have hb2 : Below w.heap.size w w1 := (below2 w _ _).trans (hb1.mono (by simp; omega))
  clear hb1
  go_wp2
  go_ret
  exact ⟨rfl, hb2⟩
set_option maxHeartbeats 1000000 in
set_option maxRecDepth 100000 in
theorem m37_body (W : World) (ps : List Vr) (ln co ln' co' : Int) (name : ByteArray) (st : Bool) (a1 : Option Addr) (n1 c1 : Nat) (rn : ByteArray) (ra : Bool) (a2 : Option Addr) (n2 c2 : Nat) (a4 : Option Addr) (n4 c4 : Nat) (r : Bool) (hp : Sl W 3 VrR ps (.slice a1 n1 c1))
    (hb : ∀ w, Below W.heap.size W w → Calls Tryd.prog 47 #[.slice a2 n2 c2, .slice a4 n4 c4, .func (.func 48) #[] #[]] w fun e w' => e = .returned (.bool r) ∧ Below w.heap.size w w') (w : World) (hw : Below W.heap.size W w) :
    Calls Tryd.prog 37 #[mtV ln co name st (.slice a1 n1 c1) rn ra (.slice a2 n2 c2), mtV ln' co' name st (.slice a1 n1 c1) rn ra (.slice a4 n4 c4)] w fun e w' => e = .returned (.bool r) ∧ Below w.heap.size w w' := by
  unfold mtV
  have HP := Lib.hid (fun x hx => eq35 W ps a1 n1 c1 hp x hx)
  have HB := Lib.hid hb
  have hB := hw.size
  clear hp hb
  go_enter Tryd.func37, Tryd.ntmps37
  go_wp2_with fail
  refine (HP.out _ (hw.trans ((below2 w _ _).mono hB))).mono ?_
  rintro e w1 ⟨rfl, hb1⟩
  have hr0 := (hb1.block w.heap.size (by simp; omega)).trans (heap_al2 w _ _)
  have hr1 := (hb1.block (w.heap.size + 1) (by simp)).trans (heap_al3 w _ _)
  have hb2 : Below w.heap.size w w1 := (below2 w _ _).trans (hb1.mono (by simp; omega))
  clear hb1
  have c7 := cell_row hr0 7 rfl
  have d7 := cell_row hr1 7 rfl
  go_wp2_with fail
  refine (HB.out _ (hw.trans (hb2.mono hB))).mono ?_
  rintro e w2 ⟨rfl, hb1⟩
  have hb3 : Below w.heap.size w w2 := hb2.trans (hb1.mono hb2.size)
  clear hb1
  go_wp2
  go_ret
  exact ⟨rfl, hb3⟩

/-- Two slices of methods, held against each other. -/
structure Two (W : World) (n : Nat) (v v' : Value) (C C' : Nat → List Value) : Prop where
  len : ∃ a c a' c', v = .slice a n c ∧ v' = .slice a' n c' ∧ n ≤ c ∧ n ≤ c' ∧ c ≤ maxLen ∧ c' ≤ maxLen ∧ ∀ i, i < n → (∃ b o, a = some ⟨b, o, none⟩ ∧ ∀ j x, (C i)[j]? = some x → W.cell? ⟨b, o + i * 8 + j, none⟩ = some x) ∧ (∃ b o, a' = some ⟨b, o, none⟩ ∧ ∀ j x, (C' i)[j]? = some x → W.cell? ⟨b, o + i * 8 + j, none⟩ = some x)
  form : ∀ i, i < n → ∃ ln co name st pa pn pc rn ra ba bn bc ln' co' name' st' pa' pn' pc' rn' ra' ba' bn' bc', C i = [.int .i64 ln, .int .i64 co, .string name, .bool st, .slice pa pn pc, .string rn, .bool ra, .slice ba bn bc] ∧ C' i = [.int .i64 ln', .int .i64 co', .string name', .bool st', .slice pa' pn' pc', .string rn', .bool ra', .slice ba' bn' bc']
theorem Two.swap {W : World} {n : Nat} {v v' : Value} {C C' : Nat → List Value} (h : Two W n v v' C C') : Two W n v' v C' C := by
  obtain ⟨⟨a, c, a', c', e, e', h1, h2, h3, h4, h5⟩, hf⟩ := h
  refine ⟨⟨a', c', a, c, e', e, h2, h1, h4, h3, fun i hi => (h5 i hi).symm⟩, fun i hi => ?_⟩
  obtain ⟨ln, co, name, st, pa, pn, pc, rn, ra, ba, bn, bc, ln', co', name', st', pa', pn', pc', rn', ra', ba', bn', bc', e1, e2⟩ := hf i hi
  exact ⟨ln', co', name', st', pa', pn', pc', rn', ra', ba', bn', bc', ln, co, name, st, pa, pn, pc, rn, ra, ba, bn, bc, e2, e1⟩

set_option maxHeartbeats 2000000 in
theorem eq36 (W : World) (n : Nat) (v v' : Value) (C C' : Nat → List Value) (h : Two W n v v' C C') (F : Nat → Bool) (hF : ∀ i, i < n → ∀ w, Below W.heap.size W w → Calls Tryd.prog 37 #[.agg (C i).toArray, .agg (C' i).toArray] w fun e w' => e = .returned (.bool (F i)) ∧ Below w.heap.size w w') (r : Bool) (hr : r = (List.range n).all F) (w : World) (hw : Below W.heap.size W w) :
    Calls Tryd.prog 36 #[v, v', .func (.func 37) #[] #[]] w fun e w' => e = .returned (.bool r) ∧ Below w.heap.size w w' := by
  obtain ⟨⟨a, c, a', c', rfl, rfl, h1, h2, h3, h4, h5⟩, hf⟩ := h
  unfold maxLen at h3 h4
  have hB := hw.size
  have H5 := Lib.hid h5
  have HF := Lib.hid hf
  have HC := Lib.hid hF
  have HR := Lib.hid hr
  clear h5 hf hF hr
  go_enter Tryd.func36, Tryd.ntmps36
  go_wp2
  go_loopw [17] (fun i wr => ∃ k : Nat, k ≤ n ∧ i = .int .i64 k ∧ Hid ((List.range k).all F = true) ∧ Below w.heap.size w wr) (fun i _ => n - (intOf i).toNat)
  case atStart => exact ⟨0, Nat.zero_le _, rfl, Lib.hid (by simp), Below.refl _ _⟩
  case round =>
    obtain ⟨k, hk1, rfl, HA, hbr⟩ := hrel
    have hwr : Below W.heap.size W wr := hw.trans (hbr.mono hB)
    have hsr := hbr.size
    by_cases hlt : k < n
    · obtain ⟨⟨g, o, rfl, hcell⟩, ⟨g', o', rfl, hcell'⟩⟩ := H5.out k hlt
      obtain ⟨ln, co, name, st, pa, pn, pc, rn, ra, ba, bn, bc, ln', co', name', st', pa', pn', pc', rn', ra', ba', bn', bc', e1, e2⟩ := HF.out k hlt
      have HS := Lib.hid (HC.out k hlt)
      have HN : Hid (F k = true → (List.range (k + 1)).all F = true) := Lib.hid (fun hk => by rw [List.range_succ, List.all_append, HA.out]; simp [hk])
      have HM : Hid (F k = false → (List.range n).all F = false) := Lib.hid (fun hk => List.all_eq_false.2 ⟨k, List.mem_range.2 hlt, by simp [hk]⟩)
      rw [e1] at hcell
      rw [e2] at hcell'
      rw [e1, e2] at HS
      have c0 : wr.cell? ⟨g, o + k * 8, none⟩ = some (.int .i64 ln) := (hwr.cell (World.block_lt_of_cell? _ _ (hcell 0 _ rfl))).trans (hcell 0 _ rfl)
      have hgl : g < wr.heap.size := World.block_lt_of_cell? _ _ c0
      have k1 := (hwr.cell (World.block_lt_of_cell? _ _ (hcell 1 _ rfl))).trans (hcell 1 _ rfl)
      have k2 := (hwr.cell (World.block_lt_of_cell? _ _ (hcell 2 _ rfl))).trans (hcell 2 _ rfl)
      have k3 := (hwr.cell (World.block_lt_of_cell? _ _ (hcell 3 _ rfl))).trans (hcell 3 _ rfl)
      have k4 := (hwr.cell (World.block_lt_of_cell? _ _ (hcell 4 _ rfl))).trans (hcell 4 _ rfl)
      have k5 := (hwr.cell (World.block_lt_of_cell? _ _ (hcell 5 _ rfl))).trans (hcell 5 _ rfl)
      have k6 := (hwr.cell (World.block_lt_of_cell? _ _ (hcell 6 _ rfl))).trans (hcell 6 _ rfl)
      have k7 := (hwr.cell (World.block_lt_of_cell? _ _ (hcell 7 _ rfl))).trans (hcell 7 _ rfl)
      have d0 : wr.cell? ⟨g', o' + k * 8, none⟩ = some (.int .i64 ln') := (hwr.cell (World.block_lt_of_cell? _ _ (hcell' 0 _ rfl))).trans (hcell' 0 _ rfl)
      have hgl' : g' < wr.heap.size := World.block_lt_of_cell? _ _ d0
      have d1 := (hwr.cell (World.block_lt_of_cell? _ _ (hcell' 1 _ rfl))).trans (hcell' 1 _ rfl)
      have d2 := (hwr.cell (World.block_lt_of_cell? _ _ (hcell' 2 _ rfl))).trans (hcell' 2 _ rfl)
      have d3 := (hwr.cell (World.block_lt_of_cell? _ _ (hcell' 3 _ rfl))).trans (hcell' 3 _ rfl)
      have d4 := (hwr.cell (World.block_lt_of_cell? _ _ (hcell' 4 _ rfl))).trans (hcell' 4 _ rfl)
      have d5 := (hwr.cell (World.block_lt_of_cell? _ _ (hcell' 5 _ rfl))).trans (hcell' 5 _ rfl)
      have d6 := (hwr.cell (World.block_lt_of_cell? _ _ (hcell' 6 _ rfl))).trans (hcell' 6 _ rfl)
      have d7 := (hwr.cell (World.block_lt_of_cell? _ _ (hcell' 7 _ rfl))).trans (hcell' 7 _ rfl)
      clear hcell hcell' e1 e2 HA
      go_wp2_with fail
      refine (HS.out _ (hwr.trans ((below2 wr _ _).mono (by omega)))).mono ?_
      rintro e w3 ⟨rfl, hb3⟩
      have hb4 : Below wr.heap.size wr w3 := (below2 wr _ _).trans (hb3.mono (by simp; omega))
      clear hb3
      cases hFk : F k with
      | true =>
        have HN2 := Lib.hid (HN.out hFk)
        clear hFk
        go_wp2
        go_roundw
        case rel => exact ⟨k + 1, by omega, by go_num, HN2, hbr.trans (hb4.mono hsr)⟩
        case measure => simp [intOf]; omega
      | false =>
        have HM2 := Lib.hid (HR.out.trans (HM.out hFk))
        clear hFk
        go_wp2
        go_ret
        refine ⟨?_, hbr.trans (hb4.mono hsr)⟩
        rw [HM2.out]; rfl
    · have HE : Hid (r = true) := Lib.hid (by rw [HR.out, show n = k by omega]; exact HA.out)
      go_wp2
      go_ret
      refine ⟨?_, hbr⟩
      rw [HE.out]; rfl

abbrev clV (ln co : Int) (name sup : ByteArray) (fv mv : Value) : Value := .agg #[.int .i64 ln, .int .i64 co, .string name, .string sup, fv, mv]
set_option maxHeartbeats 1000000 in
theorem c14_name (ln co ln' co' : Int) (name sup name' sup' : ByteArray) (a1 : Option Addr) (n1 c1 : Nat) (a2 : Option Addr) (n2 c2 : Nat) (a3 : Option Addr) (n3 c3 : Nat) (a4 : Option Addr) (n4 c4 : Nat) (h : (name.toList == name'.toList) = false) (w : World) :
    Calls Tryd.prog 14 #[clV ln co name sup (.slice a1 n1 c1) (.slice a2 n2 c2), clV ln' co' name' sup' (.slice a3 n3 c3) (.slice a4 n4 c4)] w fun e w' => e = .returned (.bool false) ∧ Below w.heap.size w w' := by
  unfold clV
  go_enter Tryd.func14, Tryd.ntmps14
  go_wp2
  go_ret
  exact ⟨rfl, below2 w _ _⟩
set_option maxHeartbeats 1000000 in
theorem c14_super (ln co ln' co' : Int) (name sup sup' : ByteArray) (a1 : Option Addr) (n1 c1 : Nat) (a2 : Option Addr) (n2 c2 : Nat) (a3 : Option Addr) (n3 c3 : Nat) (a4 : Option Addr) (n4 c4 : Nat) (h : (sup.toList == sup'.toList) = false) (w : World) :
    Calls Tryd.prog 14 #[clV ln co name sup (.slice a1 n1 c1) (.slice a2 n2 c2), clV ln' co' name sup' (.slice a3 n3 c3) (.slice a4 n4 c4)] w fun e w' => e = .returned (.bool false) ∧ Below w.heap.size w w' := by
  unfold clV
  go_enter Tryd.func14, Tryd.ntmps14
  go_wp2
  go_ret
  exact ⟨rfl, below2 w _ _⟩
set_option maxHeartbeats 1000000 in
theorem c14_fields (ln co ln' co' : Int) (name sup : ByteArray) (a1 : Option Addr) (n1 c1 : Nat) (a2 : Option Addr) (n2 c2 : Nat) (a3 : Option Addr) (n3 c3 : Nat) (a4 : Option Addr) (n4 c4 : Nat) (h : ((n1 : Int) == n3) = false) (w : World) :
    Calls Tryd.prog 14 #[clV ln co name sup (.slice a1 n1 c1) (.slice a2 n2 c2), clV ln' co' name sup (.slice a3 n3 c3) (.slice a4 n4 c4)] w fun e w' => e = .returned (.bool false) ∧ Below w.heap.size w w' := by
  unfold clV
  have HH := Lib.hid h
  clear h
  go_enter Tryd.func14, Tryd.ntmps14
  go_wp2_with fail
  refine (eq35_len a1 n1 c1 a3 n3 c3 HH.out _).mono ?_
  rintro e w1 ⟨rfl, hb1⟩
  have hb2 : Below w.heap.size w w1 := (below2 w _ _).trans (hb1.mono (by simp; omega))
  clear hb1
  go_wp2
  go_ret
  exact ⟨rfl, hb2⟩
set_option maxHeartbeats 1000000 in
theorem c14_methods (W : World) (fs : List Vr) (ln co ln' co' : Int) (name sup : ByteArray) (a1 : Option Addr) (n1 c1 : Nat) (a2 : Option Addr) (n2 c2 : Nat) (a4 : Option Addr) (n4 c4 : Nat) (r : Bool) (hp : Sl W 3 VrR fs (.slice a1 n1 c1))
    (hb : ∀ w, Below W.heap.size W w → Calls Tryd.prog 36 #[.slice a2 n2 c2, .slice a4 n4 c4, .func (.func 37) #[] #[]] w fun e w' => e = .returned (.bool r) ∧ Below w.heap.size w w') (w : World) (hw : Below W.heap.size W w) :
    Calls Tryd.prog 14 #[clV ln co name sup (.slice a1 n1 c1) (.slice a2 n2 c2), clV ln' co' name sup (.slice a1 n1 c1) (.slice a4 n4 c4)] w fun e w' => e = .returned (.bool r) ∧ Below w.heap.size w w' := by
  unfold clV
  have HP := Lib.hid (fun x hx => eq35 W fs a1 n1 c1 hp x hx)
  have HB := Lib.hid hb
  have hB := hw.size
  clear hp hb
  go_enter Tryd.func14, Tryd.ntmps14
  go_wp2_with fail
  refine (HP.out _ (hw.trans ((below2 w _ _).mono hB))).mono ?_
  rintro e w1 ⟨rfl, hb1⟩
  have hr0 := (hb1.block w.heap.size (by simp; omega)).trans (heap_al2 w _ _)
  have hr1 := (hb1.block (w.heap.size + 1) (by simp)).trans (heap_al3 w _ _)
  have hb2 : Below w.heap.size w w1 := (below2 w _ _).trans (hb1.mono (by simp; omega))
  clear hb1
  have c5 := cell_row hr0 5 rfl
  have d5 := cell_row hr1 5 rfl
  go_wp2_with fail
  refine (HB.out _ (hw.trans (hb2.mono hB))).mono ?_
  rintro e w2 ⟨rfl, hb1⟩
  have hb3 : Below w.heap.size w w2 := hb2.trans (hb1.mono hb2.size)
  clear hb1
  go_wp2
  go_ret
  exact ⟨rfl, hb3⟩
end Go.Proofs.YtojkagfbdpjckaaDoor
