/-
  Methods and faces: whether they are the same.
-/
import Derived.Test.YthimpjfmelmhpaaDoorFcEq
namespace Go.Proofs.YthimpjfmelmhpaaDoor.Fc
open Go.RowKit
set_option linter.unusedVariables false

theorem below_r {w x : World} {o o' : Obj} (h : Below ((w.alloc o).alloc o').heap.size ((w.alloc o).alloc o') x) : Below w.heap.size w x := (below2 w o o').trans (h.mono (by simp; omega))

set_option maxHeartbeats 2000000 in
set_option maxRecDepth 100000 in
theorem same24 (x y : Sg) (a1 : Option Addr) (n1 c1 : Nat) (a2 : Option Addr) (n2 c2 : Nat) (w : World) (h1 : Sl w 2 TyR x.ps (.slice a1 n1 c1)) (h2 : Sl w 2 TyR y.ps (.slice a2 n2 c2)) :
    Calls Tryd.prog 31 #[.agg #[.string x.name, .bool x.st, .slice a1 n1 c1, .string x.rn, .bool x.ra], .agg #[.string y.name, .bool y.st, .slice a2 n2 c2, .string y.rn, .bool y.ra]] w fun e w' => e = .returned (.bool (decide (x = y))) ∧ Below w.heap.size w w' := by
  have hk := Keeps.of_below (below2 w (.cells #[.string x.name, .bool x.st, .slice a1 n1 c1, .string x.rn, .bool x.ra] 51) (.cells #[.string y.name, .bool y.st, .slice a2 n2 c2, .string y.rn, .bool y.ra] 51))
  have HP := Lib.hid (eq39 x.ps y.ps a1 n1 c1 a2 n2 c2 _ (tys_keep hk h1) (tys_keep hk h2))
  clear h1 h2 hk
  obtain ⟨xn, xs, xp, xr, xa⟩ := x
  obtain ⟨yn, ys, yp, yr, ya⟩ := y
  dsimp only at HP ⊢
  by_cases bn : xn = yn
  rotate_left
  · have HF : Hid (decide ((⟨xn, xs, xp, xr, xa⟩ : Sg) = ⟨yn, ys, yp, yr, ya⟩) = false) := Lib.hid (by simp only [decide_eq_false_iff_not]; intro e; injection e; contradiction)
    have tn := tne bn
    clear bn HP
    go_enter Tryd.func31, Tryd.ntmps31
    go_wp2
    go_ret
    exact ⟨by rw [HF.out]; rfl, below2 w _ _⟩
  subst bn
  by_cases bs : xs = ys
  rotate_left
  · have HF : Hid (decide ((⟨xn, xs, xp, xr, xa⟩ : Sg) = ⟨xn, ys, yp, yr, ya⟩) = false) := Lib.hid (by simp only [decide_eq_false_iff_not]; intro e; injection e; contradiction)
    clear HP
    cases xs <;> cases ys <;> first | exact absurd rfl bs | skip
    all_goals clear bs
    all_goals go_enter Tryd.func31, Tryd.ntmps31
    all_goals go_wp2
    all_goals go_ret
    all_goals exact ⟨by rw [HF.out]; rfl, below2 w _ _⟩
  subst bs
  by_cases br : xr = yr
  rotate_left
  · have HF : Hid (decide ((⟨xn, xs, xp, xr, xa⟩ : Sg) = ⟨xn, xs, yp, yr, ya⟩) = false) := Lib.hid (by simp only [decide_eq_false_iff_not]; intro e; injection e; contradiction)
    have tr := tne br
    clear br HP
    go_enter Tryd.func31, Tryd.ntmps31
    go_wp2
    go_ret
    exact ⟨by rw [HF.out]; rfl, below2 w _ _⟩
  subst br
  by_cases ba : xa = ya
  rotate_left
  · have HF : Hid (decide ((⟨xn, xs, xp, xr, xa⟩ : Sg) = ⟨xn, xs, yp, xr, ya⟩) = false) := Lib.hid (by simp only [decide_eq_false_iff_not]; intro e; injection e; contradiction)
    clear HP
    cases xa <;> cases ya <;> first | exact absurd rfl ba | skip
    all_goals clear ba
    all_goals go_enter Tryd.func31, Tryd.ntmps31
    all_goals go_wp2
    all_goals go_ret
    all_goals exact ⟨by rw [HF.out]; rfl, below2 w _ _⟩
  subst ba
  have HE : Hid (decide ((⟨xn, xs, xp, xr, xa⟩ : Sg) = ⟨xn, xs, yp, xr, xa⟩) = decide (xp = yp)) := Lib.hid (by simp)
  generalize decide (xp = yp) = r at *
  have hss : (xs == xs) = true := by simp
  go_enter Tryd.func31, Tryd.ntmps31
  go_wp2_with fail
  refine HP.out.mono ?_
  rintro e w1 ⟨rfl, hb⟩
  have hB := below_r hb
  clear hb HP
  go_wp2
  go_ret
  exact ⟨by rw [HE.out]; rfl, hB⟩

set_option maxHeartbeats 2000000 in
set_option maxRecDepth 100000 in
theorem eq36 (xs ys : List Sg) (a1 : Option Addr) (n1 c1 : Nat) (a2 : Option Addr) (n2 c2 : Nat) (w : World) (h1 : Sl w 5 (SgR w) xs (.slice a1 n1 c1)) (h2 : Sl w 5 (SgR w) ys (.slice a2 n2 c2)) :
    Calls Tryd.prog 53 #[.slice a1 n1 c1, .slice a2 n2 c2, .func (.func 31) #[] #[]] w fun e w' => e = .returned (.bool (decide (xs = ys))) ∧ Below w.heap.size w w' := by
  obtain ⟨e1, l1, k1, hk1⟩ := h1.at
  obtain ⟨e2, l2, k2, hk2⟩ := h2.at
  unfold maxLen at k1 k2
  have E1 := Lib.hid e1
  have E2 := Lib.hid e2
  have HK1 := Lib.hid hk1
  have HK2 := Lib.hid hk2
  clear e1 e2 hk1 hk2 h1 h2
  by_cases hn : n1 = n2
  · subst hn
    have hnn : ((n1 : Int) == n1) = true := by simp
    go_enter Tryd.func53, Tryd.ntmps53
    go_wp2
    go_loopw [17] (fun i wr => ∃ k : Nat, k ≤ n1 ∧ i = .int .i64 k ∧ Hid (xs.take k = ys.take k) ∧ Below w.heap.size w wr) (fun i _ => n1 - (intOf i).toNat)
    case atStart => exact ⟨0, Nat.zero_le _, rfl, Lib.hid (by simp), Below.refl _ _⟩
    case round =>
      obtain ⟨k, hk1, rfl, HA, hbr⟩ := hrel
      have hsr := hbr.size
      by_cases hlt : k < n1
      · obtain ⟨x, hx⟩ : ∃ v, xs[k]? = some v := ⟨_, List.getElem?_eq_getElem (by have := E1.out; omega)⟩
        obtain ⟨y, hy⟩ : ∃ v, ys[k]? = some v := ⟨_, List.getElem?_eq_getElem (by have := E2.out; omega)⟩
        obtain ⟨g, o, cs, rfl, hcell, b1, m1, d1, rfl, hp1⟩ := HK1.out k x hx
        obtain ⟨g', o', cs, rfl, hcell', b2, m2, d2, rfl, hp2⟩ := HK2.out k y hy
        have p0 : wr.cell? ⟨g, o + k * 5, none⟩ = some (.string x.name) := (hbr.cell (World.block_lt_of_cell? _ _ (hcell 0 _ rfl))).trans (hcell 0 _ rfl)
        have q0 : wr.cell? ⟨g', o' + k * 5, none⟩ = some (.string y.name) := (hbr.cell (World.block_lt_of_cell? _ _ (hcell' 0 _ rfl))).trans (hcell' 0 _ rfl)
        have p1 : wr.cell? ⟨g, o + k * 5 + 1, none⟩ = some (.bool x.st) := (hbr.cell (World.block_lt_of_cell? _ _ (hcell 1 _ rfl))).trans (hcell 1 _ rfl)
        have q1 : wr.cell? ⟨g', o' + k * 5 + 1, none⟩ = some (.bool y.st) := (hbr.cell (World.block_lt_of_cell? _ _ (hcell' 1 _ rfl))).trans (hcell' 1 _ rfl)
        have p2 : wr.cell? ⟨g, o + k * 5 + 2, none⟩ = some (.slice b1 m1 d1) := (hbr.cell (World.block_lt_of_cell? _ _ (hcell 2 _ rfl))).trans (hcell 2 _ rfl)
        have q2 : wr.cell? ⟨g', o' + k * 5 + 2, none⟩ = some (.slice b2 m2 d2) := (hbr.cell (World.block_lt_of_cell? _ _ (hcell' 2 _ rfl))).trans (hcell' 2 _ rfl)
        have p3 : wr.cell? ⟨g, o + k * 5 + 3, none⟩ = some (.string x.rn) := (hbr.cell (World.block_lt_of_cell? _ _ (hcell 3 _ rfl))).trans (hcell 3 _ rfl)
        have q3 : wr.cell? ⟨g', o' + k * 5 + 3, none⟩ = some (.string y.rn) := (hbr.cell (World.block_lt_of_cell? _ _ (hcell' 3 _ rfl))).trans (hcell' 3 _ rfl)
        have p4 : wr.cell? ⟨g, o + k * 5 + 4, none⟩ = some (.bool x.ra) := (hbr.cell (World.block_lt_of_cell? _ _ (hcell 4 _ rfl))).trans (hcell 4 _ rfl)
        have q4 : wr.cell? ⟨g', o' + k * 5 + 4, none⟩ = some (.bool y.ra) := (hbr.cell (World.block_lt_of_cell? _ _ (hcell' 4 _ rfl))).trans (hcell' 4 _ rfl)
        have hgl : g < wr.heap.size := World.block_lt_of_cell? _ _ p0
        have hgl' : g' < wr.heap.size := World.block_lt_of_cell? _ _ q0
        have HN : Hid (x ≠ y → xs ≠ ys) := Lib.hid (fun hne e => hne (by rw [e, hy] at hx; exact (Option.some.inj hx).symm))
        have HY : Hid (x = y → xs.take (k + 1) = ys.take (k + 1)) := Lib.hid (fun e => by
          have hx' : k < xs.length := (List.getElem?_eq_some_iff.1 hx).1
          have hy' : k < ys.length := (List.getElem?_eq_some_iff.1 hy).1
          rw [List.take_succ_eq_append_getElem hx', List.take_succ_eq_append_getElem hy', HA.out, (List.getElem?_eq_some_iff.1 hx).2, (List.getElem?_eq_some_iff.1 hy).2, e])
        have hk := Keeps.of_below (hbr.trans ((below2 wr (.cells #[.string x.name, .bool x.st, .slice b1 m1 d1, .string x.rn, .bool x.ra] 51) (.cells #[.string y.name, .bool y.st, .slice b2 m2 d2, .string y.rn, .bool y.ra] 51)).mono hsr))
        have HS := Lib.hid (same24 x y b1 m1 d1 b2 m2 d2 _ (tys_keep hk hp1) (tys_keep hk hp2))
        clear hcell hcell' hx hy hk hp1 hp2
        go_wp2_with fail
        refine HS.out.mono ?_
        rintro e w3 ⟨rfl, hb3⟩
        have hb4 : Below w.heap.size w w3 := hbr.trans ((below_r hb3).mono hsr)
        clear hb3 HS
        by_cases hxy : x = y
        · have hd : decide (x = y) = true := by simpa using hxy
          have HA2 := Lib.hid (HY.out hxy)
          clear hxy HN HY HA
          go_wp2
          go_roundw
          case rel => exact ⟨k + 1, by omega, by go_num, HA2, hb4⟩
          case measure => simp [intOf]; omega
        · have hd : decide (x = y) = false := by simpa using hxy
          have HF : Hid (decide (xs = ys) = false) := Lib.hid (by simpa using HN.out hxy)
          clear hxy HN HY HA
          go_wp2
          go_ret
          exact ⟨by rw [HF.out]; rfl, hb4⟩
      · have HF : Hid (decide (xs = ys) = true) := Lib.hid (by
          have := HA.out
          rw [List.take_of_length_le (by have := E1.out; omega), List.take_of_length_le (by have := E2.out; omega)] at this
          simpa using this)
        go_wp2
        go_ret
        exact ⟨by rw [HF.out]; rfl, hbr⟩
  · have hnn : ((n1 : Int) == n2) = false := by simp; omega
    have HF : Hid (decide (xs = ys) = false) := Lib.hid (by
      have h1 := E1.out
      have h2 := E2.out
      simp
      intro e
      rw [e] at h1
      omega)
    clear hn
    go_enter Tryd.func53, Tryd.ntmps53
    go_wp2
    go_ret
    exact ⟨by rw [HF.out]; rfl, Below.refl _ _⟩

set_option maxHeartbeats 2000000 in
set_option maxRecDepth 100000 in
theorem same19 (x y : Fc) (cs ds : List Value) (w : World) (h1 : FcR w x cs) (h2 : FcR w y ds) :
    Calls Tryd.prog 30 #[.agg cs.toArray, .agg ds.toArray] w fun e w' => e = .returned (.bool (decide (x = y))) ∧ Below w.heap.size w w' := by
  obtain ⟨a1, n1, c1, a2, n2, c2, rfl, hf1, hm1⟩ := h1
  obtain ⟨a3, n3, c3, a4, n4, c4, rfl, hf2, hm2⟩ := h2
  have hB0 := below2 w (.cells #[.string x.name, .string x.sup, .slice a1 n1 c1, .slice a2 n2 c2] 35) (.cells #[.string y.name, .string y.sup, .slice a3 n3 c3, .slice a4 n4 c4] 35)
  have HP := Lib.hid (eq35 x.fs y.fs a1 n1 c1 a3 n3 c3 _ (vrs_keep (Keeps.of_below hB0) hf1) (vrs_keep (Keeps.of_below hB0) hf2))
  have HM : Hid (∀ w', Below w.heap.size w w' → Calls Tryd.prog 53 #[.slice a2 n2 c2, .slice a4 n4 c4, .func (.func 31) #[] #[]] w' fun e w'' => e = .returned (.bool (decide (x.ms = y.ms))) ∧ Below w'.heap.size w' w'') := Lib.hid (fun w' hb => eq36 x.ms y.ms a2 n2 c2 a4 n4 c4 w' (sgs_keep (Keeps.of_below hb) hm1) (sgs_keep (Keeps.of_below hb) hm2))
  have K0 : Hid (Blk ((w.alloc (.cells #[.string x.name, .string x.sup, .slice a1 n1 c1, .slice a2 n2 c2] 35)).alloc (.cells #[.string y.name, .string y.sup, .slice a3 n3 c3, .slice a4 n4 c4] 35)) w.heap.size [.string x.name, .string x.sup, .slice a1 n1 c1, .slice a2 n2 c2] 35) := Lib.hid ((Blk.new w [.string x.name, .string x.sup, .slice a1 n1 c1, .slice a2 n2 c2] 35).below (below1 _ _))
  have K1 : Hid (Blk ((w.alloc (.cells #[.string x.name, .string x.sup, .slice a1 n1 c1, .slice a2 n2 c2] 35)).alloc (.cells #[.string y.name, .string y.sup, .slice a3 n3 c3, .slice a4 n4 c4] 35)) (w.heap.size + 1) [.string y.name, .string y.sup, .slice a3 n3 c3, .slice a4 n4 c4] 35) := Lib.hid (by
    have := Blk.new (w.alloc (.cells #[.string x.name, .string x.sup, .slice a1 n1 c1, .slice a2 n2 c2] 35)) [.string y.name, .string y.sup, .slice a3 n3 c3, .slice a4 n4 c4] 35
    simpa using this)
  clear hf1 hm1 hf2 hm2 hB0
  obtain ⟨xn, xs, xf, xm⟩ := x
  obtain ⟨yn, ys, yf, ym⟩ := y
  dsimp only at HP HM K0 K1 ⊢
  by_cases bn : xn = yn
  rotate_left
  · have HF : Hid (decide ((⟨xn, xs, xf, xm⟩ : Fc) = ⟨yn, ys, yf, ym⟩) = false) := Lib.hid (by simp only [decide_eq_false_iff_not]; intro e; injection e; contradiction)
    have tn := tne bn
    clear bn HP HM K0 K1
    go_enter Tryd.func30, Tryd.ntmps30
    go_wp2
    go_ret
    exact ⟨by rw [HF.out]; rfl, below2 w _ _⟩
  subst bn
  by_cases bs : xs = ys
  rotate_left
  · have HF : Hid (decide ((⟨xn, xs, xf, xm⟩ : Fc) = ⟨xn, ys, yf, ym⟩) = false) := Lib.hid (by simp only [decide_eq_false_iff_not]; intro e; injection e; contradiction)
    have ts := tne bs
    clear bs HP HM K0 K1
    go_enter Tryd.func30, Tryd.ntmps30
    go_wp2
    go_ret
    exact ⟨by rw [HF.out]; rfl, below2 w _ _⟩
  subst bs
  by_cases bf : xf = yf
  rotate_left
  · have HF : Hid (decide ((⟨xn, xs, xf, xm⟩ : Fc) = ⟨xn, xs, yf, ym⟩) = false) := Lib.hid (by simp only [decide_eq_false_iff_not]; intro e; injection e; contradiction)
    have hd : decide (xf = yf) = false := by simpa using bf
    rw [hd] at HP
    clear bf hd HM K0 K1
    go_enter Tryd.func30, Tryd.ntmps30
    go_wp2_with fail
    refine HP.out.mono ?_
    rintro e w1 ⟨rfl, hb⟩
    have hB := below_r hb
    clear hb HP
    go_wp2
    go_ret
    exact ⟨by rw [HF.out]; rfl, hB⟩
  subst bf
  have HE : Hid (decide ((⟨xn, xs, xf, xm⟩ : Fc) = ⟨xn, xs, xf, ym⟩) = decide (xm = ym)) := Lib.hid (by simp)
  have hd : decide (xf = xf) = true := by simp
  rw [hd] at HP
  clear hd
  generalize decide (xm = ym) = r at *
  go_enter Tryd.func30, Tryd.ntmps30
  go_wp2_with fail
  refine HP.out.mono ?_
  rintro e w1 ⟨rfl, hb⟩
  have hB := below_r hb
  have p3 : w1.cell? ⟨w.heap.size, 3, none⟩ = some (.slice a2 n2 c2) := (K0.out.below hb).cell 3
  have q3 : w1.cell? ⟨w.heap.size + 1, 3, none⟩ = some (.slice a4 n4 c4) := (K1.out.below hb).cell 3
  clear hb HP K0 K1
  go_wp2_with fail
  refine (HM.out w1 hB).mono ?_
  rintro e w2 ⟨rfl, hb⟩
  have hB2 : Below w.heap.size w w2 := hB.trans (hb.mono hB.size)
  clear hb HM
  go_wp2
  go_ret
  exact ⟨by rw [HE.out]; rfl, hB2⟩
end Go.Proofs.YthimpjfmelmhpaaDoor.Fc
