/-
  Same: whether two files are one.
-/
import Derived.Test.YthimpjfmelmhpaaDoorCsFew2
namespace Go.Proofs.YthimpjfmelmhpaaDoor.Fc
open Go.RowKit
set_option linter.unusedVariables false
set_option linter.unusedSimpArgs false

/-- two files, each in its own block -/
structure TwS (A : Nat) (xs ys : List Value) (w z : World) : Prop where
  f : Blk z A xs 44
  g : Blk z (A + 1) ys 44
  below : Below w.heap.size w z
theorem TwS.next {A : Nat} {xs ys : List Value} {w z z' : World} (h : TwS A xs ys w z) (hb : Below z.heap.size z z') : TwS A xs ys w z' := ⟨h.f.below hb, h.g.below hb, h.below.trans (hb.mono h.below.size)⟩
theorem TwS.dr {A : Nat} {xs ys : List Value} {w z : World} (h : TwS A xs ys w z) : TwS A xs ys w z.drew := ⟨h.f, h.g, h.below.drew⟩
theorem TwS.new (w : World) (xs ys : List Value) : TwS w.heap.size xs ys w ((w.alloc (.cells xs.toArray 44)).alloc (.cells ys.toArray 44)) :=
  ⟨(Blk.new w xs 44).below (below1 _ _), by have := Blk.new (w.alloc (.cells xs.toArray 44)) ys 44; simpa using this, below2 w _ _⟩
/-- and two bodies -/
structure TwB (A B : Nat) (X1 X2 Y1 Y2 : List Value) (w z : World) : Prop where
  t : TwS A X1 X2 w z
  f : Blk z B Y1 54
  g : Blk z (B + 1) Y2 54
theorem TwB.dr {A B : Nat} {X1 X2 Y1 Y2 : List Value} {w z : World} (h : TwB A B X1 X2 Y1 Y2 w z) : TwB A B X1 X2 Y1 Y2 w z.drew := ⟨h.t.dr, h.f, h.g⟩
theorem fl_eq {f g : Fl} (h0 : f.fc = g.fc) (h1 : f.nu = g.nu) (h2 : f.cl = g.cl) (h3 : f.ty = g.ty) (h4 : f.fd = g.fd) (h5 : f.mt = g.mt) (h6 : f.bd = g.bd) : f = g := by
  cases f; cases g; simp_all

set_option maxHeartbeats 16000000 in
set_option maxRecDepth 1000000 in
theorem same16 (f g : Fl) (cs ds : List Value) (w : World) (hf : FlR w f cs) (hg : FlR w g ds) : Calls Tryd.prog 12 #[.agg cs.toArray, .agg ds.toArray] w (IffP (f = g) w) := by
  obtain ⟨a8, n8, c8, a9, n9, c9, a1, n1, c1, a2, n2, c2, a3, n3, c3, a4, n4, c4, a5, n5, c5, a0, n0, c0, rfl, hfc, hpo, hbd⟩ := hf
  obtain ⟨b8, m8, d8, b9, m9, d9, b1, m1, d1, b2, m2, d2, b3, m3, d3, b4, m4, d4, b5, m5, d5, b0, m0, d0, rfl, hgc, hqo, hbe⟩ := hg
  obtain ⟨e1, l1, k1, hk1⟩ := hpo.nu.at
  obtain ⟨d1', i1, j1, hj1⟩ := hqo.nu.at
  obtain ⟨e2, l2, k2, hk2⟩ := hpo.cl.at
  obtain ⟨d2', i2, j2, hj2⟩ := hqo.cl.at
  obtain ⟨e3, l3, k3, hk3⟩ := hpo.ty.at
  obtain ⟨d3', i3, j3, hj3⟩ := hqo.ty.at
  obtain ⟨e4, l4, k4, hk4⟩ := hpo.fd.at
  obtain ⟨d4', i4, j4, hj4⟩ := hqo.fd.at
  obtain ⟨e5, l5, k5, hk5⟩ := hpo.mt.at
  obtain ⟨d5', i5, j5, hj5⟩ := hqo.mt.at
  obtain ⟨e0, l0, k0, hk0⟩ := hbd.at
  obtain ⟨d0', i0, j0, hj0⟩ := hbe.at
  unfold maxLen at k1 k2 k3 k4 k5 k0 j1 j2 j3 j4 j5 j0
  have E1 := Lib.hid e1
  have HK1 := Lib.hid hk1
  have D1 := Lib.hid d1'
  have HJ1 := Lib.hid hj1
  have E2 := Lib.hid e2
  have HK2 := Lib.hid hk2
  have D2 := Lib.hid d2'
  have HJ2 := Lib.hid hj2
  have E3 := Lib.hid e3
  have HK3 := Lib.hid hk3
  have D3 := Lib.hid d3'
  have HJ3 := Lib.hid hj3
  have E4 := Lib.hid e4
  have HK4 := Lib.hid hk4
  have D4 := Lib.hid d4'
  have HJ4 := Lib.hid hj4
  have E5 := Lib.hid e5
  have HK5 := Lib.hid hk5
  have D5 := Lib.hid d5'
  have HJ5 := Lib.hid hj5
  have E0 := Lib.hid e0
  have HK0 := Lib.hid hk0
  have D0 := Lib.hid d0'
  have HJ0 := Lib.hid hj0
  clear e1 hk1 d1' hj1 e2 hk2 d2' hj2 e3 hk3 d3' hj3 e4 hk4 d4' hj4 e5 hk5 d5' hj5 e0 hk0 d0' hj0
  have HSM : Hid (∀ z, Below w.heap.size w z → Calls Tryd.prog 30 #[.agg #[.string f.fc.name, .string f.fc.sup, .slice a8 n8 c8, .slice a9 n9 c9], .agg #[.string g.fc.name, .string g.fc.sup, .slice b8 m8 d8, .slice b9 m9 d9]] z (IffP (f.fc = g.fc) z)) := Lib.hid (fun z hz => (same19 f.fc g.fc _ _ z (hfc.keep (Keeps.of_below hz)) (hgc.keep (Keeps.of_below hz))).mono fun e w' h => ⟨_, h.1, by simp, h.2⟩)
  obtain ⟨X1, HX1⟩ : ∃ X : List Value, Hid (X = [.string f.fc.name, .string f.fc.sup, .slice a8 n8 c8, .slice a9 n9 c9, .slice a1 n1 c1, .slice a2 n2 c2, .slice a3 n3 c3, .slice a4 n4 c4, .slice a5 n5 c5, .slice a0 n0 c0]) := ⟨_, Lib.hid rfl⟩
  obtain ⟨X2, HX2⟩ : ∃ X : List Value, Hid (X = [.string g.fc.name, .string g.fc.sup, .slice b8 m8 d8, .slice b9 m9 d9, .slice b1 m1 d1, .slice b2 m2 d2, .slice b3 m3 d3, .slice b4 m4 d4, .slice b5 m5 d5, .slice b0 m0 d0]) := ⟨_, Lib.hid rfl⟩
  obtain ⟨W0, HW0⟩ : ∃ W0, Hid (W0 = (w.alloc (.cells #[.string f.fc.name, .string f.fc.sup, .slice a8 n8 c8, .slice a9 n9 c9, .slice a1 n1 c1, .slice a2 n2 c2, .slice a3 n3 c3, .slice a4 n4 c4, .slice a5 n5 c5, .slice a0 n0 c0] 44)).alloc (.cells #[.string g.fc.name, .string g.fc.sup, .slice b8 m8 d8, .slice b9 m9 d9, .slice b1 m1 d1, .slice b2 m2 d2, .slice b3 m3 d3, .slice b4 m4 d4, .slice b5 m5 d5, .slice b0 m0 d0] 44)) := ⟨_, Lib.hid rfl⟩
  have HT0 : Hid (TwS w.heap.size X1 X2 w W0) := Lib.hid (by rw [HW0.out, HX1.out, HX2.out]; exact TwS.new w _ _)
  clear hfc hgc hpo hqo hbd hbe
  go_enter Tryd.func12, Tryd.ntmps12
  go_upto_region 1 with fail
  dsimp only [List.append]
  rw [← HW0.out]
  clear HW0
  have p0 := HT0.out.f.cell 0
  have q0 := HT0.out.g.cell 0
  have p1 := HT0.out.f.cell 1
  have q1 := HT0.out.g.cell 1
  have p2 := HT0.out.f.cell 2
  have q2 := HT0.out.g.cell 2
  have p3 := HT0.out.f.cell 3
  have q3 := HT0.out.g.cell 3
  simp only [HX1.out, HX2.out, List.getElem?_cons_succ, List.getElem?_cons_zero] at p0 q0 p1 q1 p2 q2 p3 q3
  go_wp2_with fail
  refine (HSM.out W0 HT0.out.below).mono ?_
  rintro e w1 ⟨r, rfl, hr, hb1⟩
  have HT := Lib.hid (HT0.out.next hb1)
  have HR := Lib.hid hr
  clear hb1 hr HSM HT0 p0 p1 p2 p3 q0 q1 q2 q3
  have p4 := HT.out.f.cell 4
  have q4 := HT.out.g.cell 4
  have p5 := HT.out.f.cell 5
  have q5 := HT.out.g.cell 5
  have p6 := HT.out.f.cell 6
  have q6 := HT.out.g.cell 6
  have p7 := HT.out.f.cell 7
  have q7 := HT.out.g.cell 7
  have p8 := HT.out.f.cell 8
  have q8 := HT.out.g.cell 8
  have p9 := HT.out.f.cell 9
  have q9 := HT.out.g.cell 9
  simp only [HX1.out, HX2.out, List.getElem?_cons_succ, List.getElem?_cons_zero] at p4 q4 p5 q5 p6 q6 p7 q7 p8 q8 p9 q9
  cases r with
  | false =>
    have HNO : Hid (¬ f = g) := Lib.hid (fun e => by have := HR.out.2 (by rw [e]); cases this)
    go_wp2
    go_ret
    exact IffP.no rfl HNO.out HT.out.below
  | true =>
  have HEFC := Lib.hid (HR.out.1 rfl)
  clear HR
  by_cases h1 : n1 = m1
  rotate_left
  · have hn1 : ((n1 : Int) == (m1 : Int)) = false := by simp; omega
    have HNO : Hid (¬ f = g) := Lib.hid (fun e => h1 (by rw [E1.out, D1.out, e]))
    go_wp2
    go_ret
    exact IffP.no rfl HNO.out HT.out.below
  subst h1
  have hn1 : ((n1 : Int) == (n1 : Int)) = true := by simp
  by_cases h2 : n2 = m2
  rotate_left
  · have hn2 : ((n2 : Int) == (m2 : Int)) = false := by simp; omega
    have HNO : Hid (¬ f = g) := Lib.hid (fun e => h2 (by rw [E2.out, D2.out, e]))
    go_wp2
    go_ret
    exact IffP.no rfl HNO.out HT.out.below
  subst h2
  have hn2 : ((n2 : Int) == (n2 : Int)) = true := by simp
  by_cases h3 : n3 = m3
  rotate_left
  · have hn3 : ((n3 : Int) == (m3 : Int)) = false := by simp; omega
    have HNO : Hid (¬ f = g) := Lib.hid (fun e => h3 (by rw [E3.out, D3.out, e]))
    go_wp2
    go_ret
    exact IffP.no rfl HNO.out HT.out.below
  subst h3
  have hn3 : ((n3 : Int) == (n3 : Int)) = true := by simp
  by_cases h4 : n4 = m4
  rotate_left
  · have hn4 : ((n4 : Int) == (m4 : Int)) = false := by simp; omega
    have HNO : Hid (¬ f = g) := Lib.hid (fun e => h4 (by rw [E4.out, D4.out, e]))
    go_wp2
    go_ret
    exact IffP.no rfl HNO.out HT.out.below
  subst h4
  have hn4 : ((n4 : Int) == (n4 : Int)) = true := by simp
  by_cases h5 : n5 = m5
  rotate_left
  · have hn5 : ((n5 : Int) == (m5 : Int)) = false := by simp; omega
    have HNO : Hid (¬ f = g) := Lib.hid (fun e => h5 (by rw [E5.out, D5.out, e]))
    go_wp2
    go_ret
    exact IffP.no rfl HNO.out HT.out.below
  subst h5
  have hn5 : ((n5 : Int) == (n5 : Int)) = true := by simp
  by_cases h0 : n0 = m0
  rotate_left
  · have hn0 : ((n0 : Int) == (m0 : Int)) = false := by simp; omega
    have HNO : Hid (¬ f = g) := Lib.hid (fun e => h0 (by rw [E0.out, D0.out, e]))
    go_wp2
    go_ret
    exact IffP.no rfl HNO.out HT.out.below
  subst h0
  have hn0 : ((n0 : Int) == (n0 : Int)) = true := by simp
  go_upto_region 3 with fail
  clear p4 q4 p5 q5 p6 q6 p7 q7 p8 q8 p9 q9 hn1 hn2 hn3 hn4 hn5 hn0
  have p0 := HT.out.f.cell 4
  simp only [HX1.out, List.getElem?_cons_zero, List.getElem?_cons_succ] at p0
  go_wp2
  clear p0
  go_loopw [88] (fun i wr => ∃ k : Nat, k ≤ n1 ∧ i = .int .i64 k ∧ Hid (f.nu.take k = g.nu.take k) ∧ Hid (TwS w.heap.size X1 X2 w wr)) (fun i _ => n1 - (intOf i).toNat)
  case atStart => exact ⟨0, Nat.zero_le _, rfl, Lib.hid (by simp), HT⟩
  case round =>
    clear HT
    obtain ⟨k, hk, rfl, HA, HT⟩ := hrel
    have hsr := HT.out.below.size
    by_cases hkl : k < n1
    · obtain ⟨x, hx⟩ : ∃ v, f.nu[k]? = some v := ⟨_, List.getElem?_eq_getElem (by have := E1.out; omega)⟩
      obtain ⟨y, hy⟩ : ∃ v, g.nu[k]? = some v := ⟨_, List.getElem?_eq_getElem (by have := D1.out; omega)⟩
      obtain ⟨gx, ox, cs, rfl, hcx, rfl⟩ := HK1.out k x hx
      obtain ⟨gy, oy, cs, rfl, hcy, rfl⟩ := HJ1.out k y hy
      simp only [Nat.mul_one] at hcx hcy
      have old : ∀ {p : Addr} {v : Value} (z : World), Below w.heap.size w z → w.cell? p = some v → z.cell? p = some v := fun z hz h => (hz.cell (World.block_lt_of_cell? _ _ h)).trans h
      have HM0 : Hid (∀ z, Below w.heap.size w z → z.cell? ⟨gx, ox + k, none⟩ = some (.int .i64 x)) := Lib.hid (fun z hz => old z hz (hcx 0 _ rfl))
      have HL0 : Hid (∀ z, Below w.heap.size w z → z.cell? ⟨gy, oy + k, none⟩ = some (.int .i64 y)) := Lib.hid (fun z hz => old z hz (hcy 0 _ rfl))
      have HN : Hid (x ≠ y → ¬ f = g) := Lib.hid (fun hne e => hne (by rw [e, hy] at hx; exact (Option.some.inj hx).symm))
      have HY : Hid (x = y → f.nu.take (k + 1) = g.nu.take (k + 1)) := Lib.hid (fun e => by
        have hx' : k < f.nu.length := (List.getElem?_eq_some_iff.1 hx).1
        have hy' : k < g.nu.length := (List.getElem?_eq_some_iff.1 hy).1
        rw [List.take_succ_eq_append_getElem hx', List.take_succ_eq_append_getElem hy', HA.out, (List.getElem?_eq_some_iff.1 hx).2, (List.getElem?_eq_some_iff.1 hy).2, e])
      clear hcx hcy hx hy old
      by_cases hxy : x = y
      rotate_left
      · have HNO := Lib.hid (HN.out hxy)
        have tn : ((x : Int) == y) = false := by simpa using hxy
        clear hxy HN HY HA
        go_upto_region 6 with fail
        refine wp_region_held_drew (S := fun z => TwS w.heap.size X1 X2 w z) (by kernel_rfl) ?_ (fun hHeld => ?_)
        · exact HT.out.dr
        refine wpAnyH_take (i := 0) (v := ?_) rfl (by kernel_rfl) (by kernel_rfl) (by kernel_rfl) (fun _ _ _ h => h) (Or.inl ⟨by rfl, ?_⟩) (by assumption) ?_
        rotate_left
        focus (intro w hSw; have p0 := hSw.f.cell 4; have q0 := hSw.g.cell 4; simp only [HX1.out, HX2.out, List.getElem?_cons_zero, List.getElem?_cons_succ] at p0 q0; have s0 := HM0.out w hSw.below; have t0 := HL0.out w hSw.below; go_simp; first | done | with_reducible rfl)
        simp only [Act.put, List.getElem_toArray, List.getElem_cons_zero, List.setIfInBounds_toArray, List.set_cons_zero, List.set_cons_succ]
        refine wpAnyH_take (i := 1) (v := ?_) rfl (by kernel_rfl) (by kernel_rfl) (by kernel_rfl) (fun _ _ _ h => h) (Or.inl ⟨by rfl, ?_⟩) (by assumption) ?_
        rotate_left
        focus (intro w hSw; have p0 := hSw.f.cell 4; have q0 := hSw.g.cell 4; simp only [HX1.out, HX2.out, List.getElem?_cons_zero, List.getElem?_cons_succ] at p0 q0; have s0 := HM0.out w hSw.below; have t0 := HL0.out w hSw.below; go_simp; first | done | with_reducible rfl)
        simp only [Act.put, List.getElem_toArray, List.getElem_cons_zero, List.getElem_cons_succ, List.setIfInBounds_toArray, List.set_cons_zero, List.set_cons_succ]
        refine wpAnyH_take (i := 2) (v := ?_) rfl (by kernel_rfl) (by kernel_rfl) (by kernel_rfl) (fun _ _ _ h => h) (Or.inl ⟨by rfl, ?_⟩) (by assumption) ?_
        rotate_left
        focus (intro w hSw; have p0 := hSw.f.cell 4; have q0 := hSw.g.cell 4; simp only [HX1.out, HX2.out, List.getElem?_cons_zero, List.getElem?_cons_succ] at p0 q0; have s0 := HM0.out w hSw.below; have t0 := HL0.out w hSw.below; go_simp; first | done | with_reducible rfl)
        simp only [Act.put, List.getElem_toArray, List.getElem_cons_zero, List.getElem_cons_succ, List.setIfInBounds_toArray, List.set_cons_zero, List.set_cons_succ]
        refine wpAnyH_take (i := 3) (v := ?_) rfl (by kernel_rfl) (by kernel_rfl) (by kernel_rfl) (fun _ _ _ h => h) (Or.inl ⟨by rfl, ?_⟩) (by assumption) ?_
        rotate_left
        focus (intro w hSw; have p0 := hSw.f.cell 4; have q0 := hSw.g.cell 4; simp only [HX1.out, HX2.out, List.getElem?_cons_zero, List.getElem?_cons_succ] at p0 q0; have s0 := HM0.out w hSw.below; have t0 := HL0.out w hSw.below; go_simp; first | done | with_reducible rfl)
        simp only [Act.put, List.getElem_toArray, List.getElem_cons_zero, List.getElem_cons_succ, List.setIfInBounds_toArray, List.set_cons_zero, List.set_cons_succ]
        refine wpAnyH_take (i := 4) (v := ?_) rfl (by kernel_rfl) (by kernel_rfl) (by kernel_rfl) (fun _ _ _ h => h) (Or.inl ⟨by rfl, ?_⟩) (by assumption) ?_
        rotate_left
        focus (intro w hSw; have p0 := hSw.f.cell 4; have q0 := hSw.g.cell 4; simp only [HX1.out, HX2.out, List.getElem?_cons_zero, List.getElem?_cons_succ] at p0 q0; have s0 := HM0.out w hSw.below; have t0 := HL0.out w hSw.below; go_simp; first | done | with_reducible rfl)
        simp only [Act.put, List.getElem_toArray, List.getElem_cons_zero, List.getElem_cons_succ, List.setIfInBounds_toArray, List.set_cons_zero, List.set_cons_succ]
        refine wpAnyH_take (i := 5) (v := ?_) rfl (by kernel_rfl) (by kernel_rfl) (by kernel_rfl) (fun _ _ _ h => h) (Or.inl ⟨by rfl, ?_⟩) (by assumption) ?_
        rotate_left
        focus (intro w hSw; have p0 := hSw.f.cell 4; have q0 := hSw.g.cell 4; simp only [HX1.out, HX2.out, List.getElem?_cons_zero, List.getElem?_cons_succ] at p0 q0; have s0 := HM0.out w hSw.below; have t0 := HL0.out w hSw.below; go_simp; first | done | with_reducible rfl)
        simp only [Act.put, List.getElem_toArray, List.getElem_cons_zero, List.getElem_cons_succ, List.setIfInBounds_toArray, List.set_cons_zero, List.set_cons_succ]
        refine wpAnyH_take (i := 6) (v := ?_) rfl (by kernel_rfl) (by kernel_rfl) (by kernel_rfl) (fun _ _ _ h => h) (Or.inl ⟨by rfl, ?_⟩) (by assumption) ?_
        rotate_left
        focus (intro w hSw; have p0 := hSw.f.cell 4; have q0 := hSw.g.cell 4; simp only [HX1.out, HX2.out, List.getElem?_cons_zero, List.getElem?_cons_succ] at p0 q0; have s0 := HM0.out w hSw.below; have t0 := HL0.out w hSw.below; go_simp; first | done | with_reducible rfl)
        simp only [Act.put, List.getElem_toArray, List.getElem_cons_zero, List.getElem_cons_succ, List.setIfInBounds_toArray, List.set_cons_zero, List.set_cons_succ]
        refine wpAnyH_take (i := 7) (v := ?_) rfl (by kernel_rfl) (by kernel_rfl) (by kernel_rfl) (fun _ _ _ h => h) (Or.inl ⟨by rfl, ?_⟩) (by assumption) ?_
        rotate_left
        focus (intro w hSw; have p0 := hSw.f.cell 4; have q0 := hSw.g.cell 4; simp only [HX1.out, HX2.out, List.getElem?_cons_zero, List.getElem?_cons_succ] at p0 q0; have s0 := HM0.out w hSw.below; have t0 := HL0.out w hSw.below; go_simp; first | done | with_reducible rfl)
        simp only [Act.put, List.getElem_toArray, List.getElem_cons_zero, List.getElem_cons_succ, List.setIfInBounds_toArray, List.set_cons_zero, List.set_cons_succ]
        refine wpAnyH_take (i := 8) (v := ?_) rfl (by kernel_rfl) (by kernel_rfl) (by kernel_rfl) (fun _ _ _ h => h) (Or.inl ⟨by rfl, ?_⟩) (by assumption) ?_
        rotate_left
        focus (intro w hSw; have p0 := hSw.f.cell 4; have q0 := hSw.g.cell 4; simp only [HX1.out, HX2.out, List.getElem?_cons_zero, List.getElem?_cons_succ] at p0 q0; have s0 := HM0.out w hSw.below; have t0 := HL0.out w hSw.below; go_simp; first | done | with_reducible rfl)
        simp only [Act.put, List.getElem_toArray, List.getElem_cons_zero, List.getElem_cons_succ, List.setIfInBounds_toArray, List.set_cons_zero, List.set_cons_succ]
        refine wpAnyH_take (i := 9) (v := ?_) rfl (by kernel_rfl) (by kernel_rfl) (by kernel_rfl) (fun _ _ _ h => h) (Or.inl ⟨by rfl, ?_⟩) (by assumption) ?_
        rotate_left
        focus (intro w hSw; have p0 := hSw.f.cell 4; have q0 := hSw.g.cell 4; simp only [HX1.out, HX2.out, List.getElem?_cons_zero, List.getElem?_cons_succ] at p0 q0; have s0 := HM0.out w hSw.below; have t0 := HL0.out w hSw.below; go_simp; first | done | with_reducible rfl)
        simp only [Act.put, List.getElem_toArray, List.getElem_cons_zero, List.getElem_cons_succ, List.setIfInBounds_toArray, List.set_cons_zero, List.set_cons_succ]
        refine wpAnyH_take (i := 10) (v := ?_) rfl (by kernel_rfl) (by kernel_rfl) (by kernel_rfl) (fun _ _ _ h => h) (Or.inl ⟨by rfl, ?_⟩) (by assumption) ?_
        rotate_left
        focus (intro w hSw; have p0 := hSw.f.cell 4; have q0 := hSw.g.cell 4; simp only [HX1.out, HX2.out, List.getElem?_cons_zero, List.getElem?_cons_succ] at p0 q0; have s0 := HM0.out w hSw.below; have t0 := HL0.out w hSw.below; go_simp; first | done | with_reducible rfl)
        simp only [Act.put, List.getElem_toArray, List.getElem_cons_zero, List.getElem_cons_succ, List.setIfInBounds_toArray, List.set_cons_zero, List.set_cons_succ]
        refine wpAnyH_take (i := 11) (v := ?_) rfl (by kernel_rfl) (by kernel_rfl) (by kernel_rfl) (fun _ _ _ h => h) (Or.inl ⟨by rfl, ?_⟩) (by assumption) ?_
        rotate_left
        focus (intro w hSw; have p0 := hSw.f.cell 4; have q0 := hSw.g.cell 4; simp only [HX1.out, HX2.out, List.getElem?_cons_zero, List.getElem?_cons_succ] at p0 q0; have s0 := HM0.out w hSw.below; have t0 := HL0.out w hSw.below; go_simp; first | done | with_reducible rfl)
        simp only [Act.put, List.getElem_toArray, List.getElem_cons_zero, List.getElem_cons_succ, List.setIfInBounds_toArray, List.set_cons_zero, List.set_cons_succ]
        refine wpAnyH_take (i := 12) (v := ?_) rfl (by kernel_rfl) (by kernel_rfl) (by kernel_rfl) (fun _ _ _ h => h) (Or.inl ⟨by rfl, ?_⟩) (by assumption) ?_
        rotate_left
        focus (intro w hSw; have p0 := hSw.f.cell 4; have q0 := hSw.g.cell 4; simp only [HX1.out, HX2.out, List.getElem?_cons_zero, List.getElem?_cons_succ] at p0 q0; have s0 := HM0.out w hSw.below; have t0 := HL0.out w hSw.below; go_simp; first | done | with_reducible rfl)
        simp only [Act.put, List.getElem_toArray, List.getElem_cons_zero, List.getElem_cons_succ, List.setIfInBounds_toArray, List.set_cons_zero, List.set_cons_succ]
        refine wpAnyH_done (by kernel_rfl) ?_ _
        have HH := Lib.hid hHeld
        clear hHeld
        go_wp2
        go_ret
        exact IffP.no rfl HNO.out HH.out.below
      have HA2 := Lib.hid (HY.out hxy)
      subst hxy
      clear HN HY HA
      have tn : ((x : Int) == x) = true := by simp
      go_upto_region 6 with fail
      refine wp_region_held_drew (S := fun z => TwS w.heap.size X1 X2 w z) (by kernel_rfl) ?_ (fun hHeld => ?_)
      · exact HT.out.dr
      refine wpAnyH_take (i := 0) (v := ?_) rfl (by kernel_rfl) (by kernel_rfl) (by kernel_rfl) (fun _ _ _ h => h) (Or.inl ⟨by rfl, ?_⟩) (by assumption) ?_
      rotate_left
      focus (intro w hSw; have p0 := hSw.f.cell 4; have q0 := hSw.g.cell 4; simp only [HX1.out, HX2.out, List.getElem?_cons_zero, List.getElem?_cons_succ] at p0 q0; have s0 := HM0.out w hSw.below; have t0 := HL0.out w hSw.below; go_simp; first | done | with_reducible rfl)
      simp only [Act.put, List.getElem_toArray, List.getElem_cons_zero, List.setIfInBounds_toArray, List.set_cons_zero, List.set_cons_succ]
      refine wpAnyH_take (i := 1) (v := ?_) rfl (by kernel_rfl) (by kernel_rfl) (by kernel_rfl) (fun _ _ _ h => h) (Or.inl ⟨by rfl, ?_⟩) (by assumption) ?_
      rotate_left
      focus (intro w hSw; have p0 := hSw.f.cell 4; have q0 := hSw.g.cell 4; simp only [HX1.out, HX2.out, List.getElem?_cons_zero, List.getElem?_cons_succ] at p0 q0; have s0 := HM0.out w hSw.below; have t0 := HL0.out w hSw.below; go_simp; first | done | with_reducible rfl)
      simp only [Act.put, List.getElem_toArray, List.getElem_cons_zero, List.getElem_cons_succ, List.setIfInBounds_toArray, List.set_cons_zero, List.set_cons_succ]
      refine wpAnyH_take (i := 2) (v := ?_) rfl (by kernel_rfl) (by kernel_rfl) (by kernel_rfl) (fun _ _ _ h => h) (Or.inl ⟨by rfl, ?_⟩) (by assumption) ?_
      rotate_left
      focus (intro w hSw; have p0 := hSw.f.cell 4; have q0 := hSw.g.cell 4; simp only [HX1.out, HX2.out, List.getElem?_cons_zero, List.getElem?_cons_succ] at p0 q0; have s0 := HM0.out w hSw.below; have t0 := HL0.out w hSw.below; go_simp; first | done | with_reducible rfl)
      simp only [Act.put, List.getElem_toArray, List.getElem_cons_zero, List.getElem_cons_succ, List.setIfInBounds_toArray, List.set_cons_zero, List.set_cons_succ]
      refine wpAnyH_take (i := 3) (v := ?_) rfl (by kernel_rfl) (by kernel_rfl) (by kernel_rfl) (fun _ _ _ h => h) (Or.inl ⟨by rfl, ?_⟩) (by assumption) ?_
      rotate_left
      focus (intro w hSw; have p0 := hSw.f.cell 4; have q0 := hSw.g.cell 4; simp only [HX1.out, HX2.out, List.getElem?_cons_zero, List.getElem?_cons_succ] at p0 q0; have s0 := HM0.out w hSw.below; have t0 := HL0.out w hSw.below; go_simp; first | done | with_reducible rfl)
      simp only [Act.put, List.getElem_toArray, List.getElem_cons_zero, List.getElem_cons_succ, List.setIfInBounds_toArray, List.set_cons_zero, List.set_cons_succ]
      refine wpAnyH_take (i := 4) (v := ?_) rfl (by kernel_rfl) (by kernel_rfl) (by kernel_rfl) (fun _ _ _ h => h) (Or.inl ⟨by rfl, ?_⟩) (by assumption) ?_
      rotate_left
      focus (intro w hSw; have p0 := hSw.f.cell 4; have q0 := hSw.g.cell 4; simp only [HX1.out, HX2.out, List.getElem?_cons_zero, List.getElem?_cons_succ] at p0 q0; have s0 := HM0.out w hSw.below; have t0 := HL0.out w hSw.below; go_simp; first | done | with_reducible rfl)
      simp only [Act.put, List.getElem_toArray, List.getElem_cons_zero, List.getElem_cons_succ, List.setIfInBounds_toArray, List.set_cons_zero, List.set_cons_succ]
      refine wpAnyH_take (i := 5) (v := ?_) rfl (by kernel_rfl) (by kernel_rfl) (by kernel_rfl) (fun _ _ _ h => h) (Or.inl ⟨by rfl, ?_⟩) (by assumption) ?_
      rotate_left
      focus (intro w hSw; have p0 := hSw.f.cell 4; have q0 := hSw.g.cell 4; simp only [HX1.out, HX2.out, List.getElem?_cons_zero, List.getElem?_cons_succ] at p0 q0; have s0 := HM0.out w hSw.below; have t0 := HL0.out w hSw.below; go_simp; first | done | with_reducible rfl)
      simp only [Act.put, List.getElem_toArray, List.getElem_cons_zero, List.getElem_cons_succ, List.setIfInBounds_toArray, List.set_cons_zero, List.set_cons_succ]
      refine wpAnyH_take (i := 6) (v := ?_) rfl (by kernel_rfl) (by kernel_rfl) (by kernel_rfl) (fun _ _ _ h => h) (Or.inl ⟨by rfl, ?_⟩) (by assumption) ?_
      rotate_left
      focus (intro w hSw; have p0 := hSw.f.cell 4; have q0 := hSw.g.cell 4; simp only [HX1.out, HX2.out, List.getElem?_cons_zero, List.getElem?_cons_succ] at p0 q0; have s0 := HM0.out w hSw.below; have t0 := HL0.out w hSw.below; go_simp; first | done | with_reducible rfl)
      simp only [Act.put, List.getElem_toArray, List.getElem_cons_zero, List.getElem_cons_succ, List.setIfInBounds_toArray, List.set_cons_zero, List.set_cons_succ]
      refine wpAnyH_take (i := 7) (v := ?_) rfl (by kernel_rfl) (by kernel_rfl) (by kernel_rfl) (fun _ _ _ h => h) (Or.inl ⟨by rfl, ?_⟩) (by assumption) ?_
      rotate_left
      focus (intro w hSw; have p0 := hSw.f.cell 4; have q0 := hSw.g.cell 4; simp only [HX1.out, HX2.out, List.getElem?_cons_zero, List.getElem?_cons_succ] at p0 q0; have s0 := HM0.out w hSw.below; have t0 := HL0.out w hSw.below; go_simp; first | done | with_reducible rfl)
      simp only [Act.put, List.getElem_toArray, List.getElem_cons_zero, List.getElem_cons_succ, List.setIfInBounds_toArray, List.set_cons_zero, List.set_cons_succ]
      refine wpAnyH_take (i := 8) (v := ?_) rfl (by kernel_rfl) (by kernel_rfl) (by kernel_rfl) (fun _ _ _ h => h) (Or.inl ⟨by rfl, ?_⟩) (by assumption) ?_
      rotate_left
      focus (intro w hSw; have p0 := hSw.f.cell 4; have q0 := hSw.g.cell 4; simp only [HX1.out, HX2.out, List.getElem?_cons_zero, List.getElem?_cons_succ] at p0 q0; have s0 := HM0.out w hSw.below; have t0 := HL0.out w hSw.below; go_simp; first | done | with_reducible rfl)
      simp only [Act.put, List.getElem_toArray, List.getElem_cons_zero, List.getElem_cons_succ, List.setIfInBounds_toArray, List.set_cons_zero, List.set_cons_succ]
      refine wpAnyH_take (i := 9) (v := ?_) rfl (by kernel_rfl) (by kernel_rfl) (by kernel_rfl) (fun _ _ _ h => h) (Or.inl ⟨by rfl, ?_⟩) (by assumption) ?_
      rotate_left
      focus (intro w hSw; have p0 := hSw.f.cell 4; have q0 := hSw.g.cell 4; simp only [HX1.out, HX2.out, List.getElem?_cons_zero, List.getElem?_cons_succ] at p0 q0; have s0 := HM0.out w hSw.below; have t0 := HL0.out w hSw.below; go_simp; first | done | with_reducible rfl)
      simp only [Act.put, List.getElem_toArray, List.getElem_cons_zero, List.getElem_cons_succ, List.setIfInBounds_toArray, List.set_cons_zero, List.set_cons_succ]
      refine wpAnyH_take (i := 10) (v := ?_) rfl (by kernel_rfl) (by kernel_rfl) (by kernel_rfl) (fun _ _ _ h => h) (Or.inl ⟨by rfl, ?_⟩) (by assumption) ?_
      rotate_left
      focus (intro w hSw; have p0 := hSw.f.cell 4; have q0 := hSw.g.cell 4; simp only [HX1.out, HX2.out, List.getElem?_cons_zero, List.getElem?_cons_succ] at p0 q0; have s0 := HM0.out w hSw.below; have t0 := HL0.out w hSw.below; go_simp; first | done | with_reducible rfl)
      simp only [Act.put, List.getElem_toArray, List.getElem_cons_zero, List.getElem_cons_succ, List.setIfInBounds_toArray, List.set_cons_zero, List.set_cons_succ]
      refine wpAnyH_take (i := 11) (v := ?_) rfl (by kernel_rfl) (by kernel_rfl) (by kernel_rfl) (fun _ _ _ h => h) (Or.inl ⟨by rfl, ?_⟩) (by assumption) ?_
      rotate_left
      focus (intro w hSw; have p0 := hSw.f.cell 4; have q0 := hSw.g.cell 4; simp only [HX1.out, HX2.out, List.getElem?_cons_zero, List.getElem?_cons_succ] at p0 q0; have s0 := HM0.out w hSw.below; have t0 := HL0.out w hSw.below; go_simp; first | done | with_reducible rfl)
      simp only [Act.put, List.getElem_toArray, List.getElem_cons_zero, List.getElem_cons_succ, List.setIfInBounds_toArray, List.set_cons_zero, List.set_cons_succ]
      refine wpAnyH_take (i := 12) (v := ?_) rfl (by kernel_rfl) (by kernel_rfl) (by kernel_rfl) (fun _ _ _ h => h) (Or.inl ⟨by rfl, ?_⟩) (by assumption) ?_
      rotate_left
      focus (intro w hSw; have p0 := hSw.f.cell 4; have q0 := hSw.g.cell 4; simp only [HX1.out, HX2.out, List.getElem?_cons_zero, List.getElem?_cons_succ] at p0 q0; have s0 := HM0.out w hSw.below; have t0 := HL0.out w hSw.below; go_simp; first | done | with_reducible rfl)
      simp only [Act.put, List.getElem_toArray, List.getElem_cons_zero, List.getElem_cons_succ, List.setIfInBounds_toArray, List.set_cons_zero, List.set_cons_succ]
      refine wpAnyH_done (by kernel_rfl) ?_ _
      have HH := Lib.hid hHeld
      clear hHeld
      go_wp2
      go_roundw
      case rel => exact ⟨k + 1, by omega, by go_num, HA2, HH⟩
      case measure => simp [intOf]; omega
    · have HE1 : Hid (f.nu = g.nu) := Lib.hid (by
        have := HA.out
        rwa [List.take_of_length_le (by have := E1.out; omega), List.take_of_length_le (by have := D1.out; omega)] at this)
      obtain ⟨wq, hwq⟩ : ∃ wq, wq = wr := ⟨_, rfl⟩
      subst hwq
      clear HA hsr
      have p0 := HT.out.f.cell 5
      simp only [HX1.out, List.getElem?_cons_zero, List.getElem?_cons_succ] at p0
      go_wp2
      clear p0
      go_loopw [109] (fun i wr => ∃ k : Nat, k ≤ n2 ∧ i = .int .i64 k ∧ Hid (f.cl.take k = g.cl.take k) ∧ Hid (TwS w.heap.size X1 X2 w wr)) (fun i _ => n2 - (intOf i).toNat)
      case atStart => exact ⟨0, Nat.zero_le _, rfl, Lib.hid (by simp), HT⟩
      case round =>
        clear HT
        obtain ⟨k, hk, rfl, HA, HT⟩ := hrel
        have hsr := HT.out.below.size
        by_cases hkl : k < n2
        · obtain ⟨x, hx⟩ : ∃ v, f.cl[k]? = some v := ⟨_, List.getElem?_eq_getElem (by have := E2.out; omega)⟩
          obtain ⟨y, hy⟩ : ∃ v, g.cl[k]? = some v := ⟨_, List.getElem?_eq_getElem (by have := D2.out; omega)⟩
          obtain ⟨gx, ox, cs, rfl, hcx, rfl⟩ := HK2.out k x hx
          obtain ⟨gy, oy, cs, rfl, hcy, rfl⟩ := HJ2.out k y hy
          simp only [Nat.mul_one] at hcx hcy
          have old : ∀ {p : Addr} {v : Value} (z : World), Below w.heap.size w z → w.cell? p = some v → z.cell? p = some v := fun z hz h => (hz.cell (World.block_lt_of_cell? _ _ h)).trans h
          have HM0 : Hid (∀ z, Below w.heap.size w z → z.cell? ⟨gx, ox + k, none⟩ = some (.string x)) := Lib.hid (fun z hz => old z hz (hcx 0 _ rfl))
          have HL0 : Hid (∀ z, Below w.heap.size w z → z.cell? ⟨gy, oy + k, none⟩ = some (.string y)) := Lib.hid (fun z hz => old z hz (hcy 0 _ rfl))
          have HN : Hid (x ≠ y → ¬ f = g) := Lib.hid (fun hne e => hne (by rw [e, hy] at hx; exact (Option.some.inj hx).symm))
          have HY : Hid (x = y → f.cl.take (k + 1) = g.cl.take (k + 1)) := Lib.hid (fun e => by
            have hx' : k < f.cl.length := (List.getElem?_eq_some_iff.1 hx).1
            have hy' : k < g.cl.length := (List.getElem?_eq_some_iff.1 hy).1
            rw [List.take_succ_eq_append_getElem hx', List.take_succ_eq_append_getElem hy', HA.out, (List.getElem?_eq_some_iff.1 hx).2, (List.getElem?_eq_some_iff.1 hy).2, e])
          clear hcx hcy hx hy old
          by_cases hxy : x = y
          rotate_left
          · have HNO := Lib.hid (HN.out hxy)
            have tn := tne hxy
            clear hxy HN HY HA
            go_upto_region 12 with fail
            refine wp_region_held_drew (S := fun z => TwS w.heap.size X1 X2 w z) (by kernel_rfl) ?_ (fun hHeld => ?_)
            · exact HT.out.dr
            refine wpAnyH_take (i := 0) (v := ?_) rfl (by kernel_rfl) (by kernel_rfl) (by kernel_rfl) (fun _ _ _ h => h) (Or.inl ⟨by rfl, ?_⟩) (by assumption) ?_
            rotate_left
            focus (intro w hSw; have p0 := hSw.f.cell 5; have q0 := hSw.g.cell 5; simp only [HX1.out, HX2.out, List.getElem?_cons_zero, List.getElem?_cons_succ] at p0 q0; have s0 := HM0.out w hSw.below; have t0 := HL0.out w hSw.below; go_simp; first | done | with_reducible rfl)
            simp only [Act.put, List.getElem_toArray, List.getElem_cons_zero, List.setIfInBounds_toArray, List.set_cons_zero, List.set_cons_succ]
            refine wpAnyH_take (i := 1) (v := ?_) rfl (by kernel_rfl) (by kernel_rfl) (by kernel_rfl) (fun _ _ _ h => h) (Or.inl ⟨by rfl, ?_⟩) (by assumption) ?_
            rotate_left
            focus (intro w hSw; have p0 := hSw.f.cell 5; have q0 := hSw.g.cell 5; simp only [HX1.out, HX2.out, List.getElem?_cons_zero, List.getElem?_cons_succ] at p0 q0; have s0 := HM0.out w hSw.below; have t0 := HL0.out w hSw.below; go_simp; first | done | with_reducible rfl)
            simp only [Act.put, List.getElem_toArray, List.getElem_cons_zero, List.getElem_cons_succ, List.setIfInBounds_toArray, List.set_cons_zero, List.set_cons_succ]
            refine wpAnyH_take (i := 2) (v := ?_) rfl (by kernel_rfl) (by kernel_rfl) (by kernel_rfl) (fun _ _ _ h => h) (Or.inl ⟨by rfl, ?_⟩) (by assumption) ?_
            rotate_left
            focus (intro w hSw; have p0 := hSw.f.cell 5; have q0 := hSw.g.cell 5; simp only [HX1.out, HX2.out, List.getElem?_cons_zero, List.getElem?_cons_succ] at p0 q0; have s0 := HM0.out w hSw.below; have t0 := HL0.out w hSw.below; go_simp; first | done | with_reducible rfl)
            simp only [Act.put, List.getElem_toArray, List.getElem_cons_zero, List.getElem_cons_succ, List.setIfInBounds_toArray, List.set_cons_zero, List.set_cons_succ]
            refine wpAnyH_take (i := 3) (v := ?_) rfl (by kernel_rfl) (by kernel_rfl) (by kernel_rfl) (fun _ _ _ h => h) (Or.inl ⟨by rfl, ?_⟩) (by assumption) ?_
            rotate_left
            focus (intro w hSw; have p0 := hSw.f.cell 5; have q0 := hSw.g.cell 5; simp only [HX1.out, HX2.out, List.getElem?_cons_zero, List.getElem?_cons_succ] at p0 q0; have s0 := HM0.out w hSw.below; have t0 := HL0.out w hSw.below; go_simp; first | done | with_reducible rfl)
            simp only [Act.put, List.getElem_toArray, List.getElem_cons_zero, List.getElem_cons_succ, List.setIfInBounds_toArray, List.set_cons_zero, List.set_cons_succ]
            refine wpAnyH_take (i := 4) (v := ?_) rfl (by kernel_rfl) (by kernel_rfl) (by kernel_rfl) (fun _ _ _ h => h) (Or.inl ⟨by rfl, ?_⟩) (by assumption) ?_
            rotate_left
            focus (intro w hSw; have p0 := hSw.f.cell 5; have q0 := hSw.g.cell 5; simp only [HX1.out, HX2.out, List.getElem?_cons_zero, List.getElem?_cons_succ] at p0 q0; have s0 := HM0.out w hSw.below; have t0 := HL0.out w hSw.below; go_simp; first | done | with_reducible rfl)
            simp only [Act.put, List.getElem_toArray, List.getElem_cons_zero, List.getElem_cons_succ, List.setIfInBounds_toArray, List.set_cons_zero, List.set_cons_succ]
            refine wpAnyH_take (i := 5) (v := ?_) rfl (by kernel_rfl) (by kernel_rfl) (by kernel_rfl) (fun _ _ _ h => h) (Or.inl ⟨by rfl, ?_⟩) (by assumption) ?_
            rotate_left
            focus (intro w hSw; have p0 := hSw.f.cell 5; have q0 := hSw.g.cell 5; simp only [HX1.out, HX2.out, List.getElem?_cons_zero, List.getElem?_cons_succ] at p0 q0; have s0 := HM0.out w hSw.below; have t0 := HL0.out w hSw.below; go_simp; first | done | with_reducible rfl)
            simp only [Act.put, List.getElem_toArray, List.getElem_cons_zero, List.getElem_cons_succ, List.setIfInBounds_toArray, List.set_cons_zero, List.set_cons_succ]
            refine wpAnyH_take (i := 6) (v := ?_) rfl (by kernel_rfl) (by kernel_rfl) (by kernel_rfl) (fun _ _ _ h => h) (Or.inl ⟨by rfl, ?_⟩) (by assumption) ?_
            rotate_left
            focus (intro w hSw; have p0 := hSw.f.cell 5; have q0 := hSw.g.cell 5; simp only [HX1.out, HX2.out, List.getElem?_cons_zero, List.getElem?_cons_succ] at p0 q0; have s0 := HM0.out w hSw.below; have t0 := HL0.out w hSw.below; go_simp; first | done | with_reducible rfl)
            simp only [Act.put, List.getElem_toArray, List.getElem_cons_zero, List.getElem_cons_succ, List.setIfInBounds_toArray, List.set_cons_zero, List.set_cons_succ]
            refine wpAnyH_take (i := 7) (v := ?_) rfl (by kernel_rfl) (by kernel_rfl) (by kernel_rfl) (fun _ _ _ h => h) (Or.inl ⟨by rfl, ?_⟩) (by assumption) ?_
            rotate_left
            focus (intro w hSw; have p0 := hSw.f.cell 5; have q0 := hSw.g.cell 5; simp only [HX1.out, HX2.out, List.getElem?_cons_zero, List.getElem?_cons_succ] at p0 q0; have s0 := HM0.out w hSw.below; have t0 := HL0.out w hSw.below; go_simp; first | done | with_reducible rfl)
            simp only [Act.put, List.getElem_toArray, List.getElem_cons_zero, List.getElem_cons_succ, List.setIfInBounds_toArray, List.set_cons_zero, List.set_cons_succ]
            refine wpAnyH_take (i := 8) (v := ?_) rfl (by kernel_rfl) (by kernel_rfl) (by kernel_rfl) (fun _ _ _ h => h) (Or.inl ⟨by rfl, ?_⟩) (by assumption) ?_
            rotate_left
            focus (intro w hSw; have p0 := hSw.f.cell 5; have q0 := hSw.g.cell 5; simp only [HX1.out, HX2.out, List.getElem?_cons_zero, List.getElem?_cons_succ] at p0 q0; have s0 := HM0.out w hSw.below; have t0 := HL0.out w hSw.below; go_simp; first | done | with_reducible rfl)
            simp only [Act.put, List.getElem_toArray, List.getElem_cons_zero, List.getElem_cons_succ, List.setIfInBounds_toArray, List.set_cons_zero, List.set_cons_succ]
            refine wpAnyH_take (i := 9) (v := ?_) rfl (by kernel_rfl) (by kernel_rfl) (by kernel_rfl) (fun _ _ _ h => h) (Or.inl ⟨by rfl, ?_⟩) (by assumption) ?_
            rotate_left
            focus (intro w hSw; have p0 := hSw.f.cell 5; have q0 := hSw.g.cell 5; simp only [HX1.out, HX2.out, List.getElem?_cons_zero, List.getElem?_cons_succ] at p0 q0; have s0 := HM0.out w hSw.below; have t0 := HL0.out w hSw.below; go_simp; first | done | with_reducible rfl)
            simp only [Act.put, List.getElem_toArray, List.getElem_cons_zero, List.getElem_cons_succ, List.setIfInBounds_toArray, List.set_cons_zero, List.set_cons_succ]
            refine wpAnyH_take (i := 10) (v := ?_) rfl (by kernel_rfl) (by kernel_rfl) (by kernel_rfl) (fun _ _ _ h => h) (Or.inl ⟨by rfl, ?_⟩) (by assumption) ?_
            rotate_left
            focus (intro w hSw; have p0 := hSw.f.cell 5; have q0 := hSw.g.cell 5; simp only [HX1.out, HX2.out, List.getElem?_cons_zero, List.getElem?_cons_succ] at p0 q0; have s0 := HM0.out w hSw.below; have t0 := HL0.out w hSw.below; go_simp; first | done | with_reducible rfl)
            simp only [Act.put, List.getElem_toArray, List.getElem_cons_zero, List.getElem_cons_succ, List.setIfInBounds_toArray, List.set_cons_zero, List.set_cons_succ]
            refine wpAnyH_take (i := 11) (v := ?_) rfl (by kernel_rfl) (by kernel_rfl) (by kernel_rfl) (fun _ _ _ h => h) (Or.inl ⟨by rfl, ?_⟩) (by assumption) ?_
            rotate_left
            focus (intro w hSw; have p0 := hSw.f.cell 5; have q0 := hSw.g.cell 5; simp only [HX1.out, HX2.out, List.getElem?_cons_zero, List.getElem?_cons_succ] at p0 q0; have s0 := HM0.out w hSw.below; have t0 := HL0.out w hSw.below; go_simp; first | done | with_reducible rfl)
            simp only [Act.put, List.getElem_toArray, List.getElem_cons_zero, List.getElem_cons_succ, List.setIfInBounds_toArray, List.set_cons_zero, List.set_cons_succ]
            refine wpAnyH_take (i := 12) (v := ?_) rfl (by kernel_rfl) (by kernel_rfl) (by kernel_rfl) (fun _ _ _ h => h) (Or.inl ⟨by rfl, ?_⟩) (by assumption) ?_
            rotate_left
            focus (intro w hSw; have p0 := hSw.f.cell 5; have q0 := hSw.g.cell 5; simp only [HX1.out, HX2.out, List.getElem?_cons_zero, List.getElem?_cons_succ] at p0 q0; have s0 := HM0.out w hSw.below; have t0 := HL0.out w hSw.below; go_simp; first | done | with_reducible rfl)
            simp only [Act.put, List.getElem_toArray, List.getElem_cons_zero, List.getElem_cons_succ, List.setIfInBounds_toArray, List.set_cons_zero, List.set_cons_succ]
            refine wpAnyH_done (by kernel_rfl) ?_ _
            have HH := Lib.hid hHeld
            clear hHeld
            go_wp2
            go_ret
            exact IffP.no rfl HNO.out HH.out.below
          have HA2 := Lib.hid (HY.out hxy)
          subst hxy
          clear HN HY HA
          have tn := teq (rfl : x = x)
          go_upto_region 12 with fail
          refine wp_region_held_drew (S := fun z => TwS w.heap.size X1 X2 w z) (by kernel_rfl) ?_ (fun hHeld => ?_)
          · exact HT.out.dr
          refine wpAnyH_take (i := 0) (v := ?_) rfl (by kernel_rfl) (by kernel_rfl) (by kernel_rfl) (fun _ _ _ h => h) (Or.inl ⟨by rfl, ?_⟩) (by assumption) ?_
          rotate_left
          focus (intro w hSw; have p0 := hSw.f.cell 5; have q0 := hSw.g.cell 5; simp only [HX1.out, HX2.out, List.getElem?_cons_zero, List.getElem?_cons_succ] at p0 q0; have s0 := HM0.out w hSw.below; have t0 := HL0.out w hSw.below; go_simp; first | done | with_reducible rfl)
          simp only [Act.put, List.getElem_toArray, List.getElem_cons_zero, List.setIfInBounds_toArray, List.set_cons_zero, List.set_cons_succ]
          refine wpAnyH_take (i := 1) (v := ?_) rfl (by kernel_rfl) (by kernel_rfl) (by kernel_rfl) (fun _ _ _ h => h) (Or.inl ⟨by rfl, ?_⟩) (by assumption) ?_
          rotate_left
          focus (intro w hSw; have p0 := hSw.f.cell 5; have q0 := hSw.g.cell 5; simp only [HX1.out, HX2.out, List.getElem?_cons_zero, List.getElem?_cons_succ] at p0 q0; have s0 := HM0.out w hSw.below; have t0 := HL0.out w hSw.below; go_simp; first | done | with_reducible rfl)
          simp only [Act.put, List.getElem_toArray, List.getElem_cons_zero, List.getElem_cons_succ, List.setIfInBounds_toArray, List.set_cons_zero, List.set_cons_succ]
          refine wpAnyH_take (i := 2) (v := ?_) rfl (by kernel_rfl) (by kernel_rfl) (by kernel_rfl) (fun _ _ _ h => h) (Or.inl ⟨by rfl, ?_⟩) (by assumption) ?_
          rotate_left
          focus (intro w hSw; have p0 := hSw.f.cell 5; have q0 := hSw.g.cell 5; simp only [HX1.out, HX2.out, List.getElem?_cons_zero, List.getElem?_cons_succ] at p0 q0; have s0 := HM0.out w hSw.below; have t0 := HL0.out w hSw.below; go_simp; first | done | with_reducible rfl)
          simp only [Act.put, List.getElem_toArray, List.getElem_cons_zero, List.getElem_cons_succ, List.setIfInBounds_toArray, List.set_cons_zero, List.set_cons_succ]
          refine wpAnyH_take (i := 3) (v := ?_) rfl (by kernel_rfl) (by kernel_rfl) (by kernel_rfl) (fun _ _ _ h => h) (Or.inl ⟨by rfl, ?_⟩) (by assumption) ?_
          rotate_left
          focus (intro w hSw; have p0 := hSw.f.cell 5; have q0 := hSw.g.cell 5; simp only [HX1.out, HX2.out, List.getElem?_cons_zero, List.getElem?_cons_succ] at p0 q0; have s0 := HM0.out w hSw.below; have t0 := HL0.out w hSw.below; go_simp; first | done | with_reducible rfl)
          simp only [Act.put, List.getElem_toArray, List.getElem_cons_zero, List.getElem_cons_succ, List.setIfInBounds_toArray, List.set_cons_zero, List.set_cons_succ]
          refine wpAnyH_take (i := 4) (v := ?_) rfl (by kernel_rfl) (by kernel_rfl) (by kernel_rfl) (fun _ _ _ h => h) (Or.inl ⟨by rfl, ?_⟩) (by assumption) ?_
          rotate_left
          focus (intro w hSw; have p0 := hSw.f.cell 5; have q0 := hSw.g.cell 5; simp only [HX1.out, HX2.out, List.getElem?_cons_zero, List.getElem?_cons_succ] at p0 q0; have s0 := HM0.out w hSw.below; have t0 := HL0.out w hSw.below; go_simp; first | done | with_reducible rfl)
          simp only [Act.put, List.getElem_toArray, List.getElem_cons_zero, List.getElem_cons_succ, List.setIfInBounds_toArray, List.set_cons_zero, List.set_cons_succ]
          refine wpAnyH_take (i := 5) (v := ?_) rfl (by kernel_rfl) (by kernel_rfl) (by kernel_rfl) (fun _ _ _ h => h) (Or.inl ⟨by rfl, ?_⟩) (by assumption) ?_
          rotate_left
          focus (intro w hSw; have p0 := hSw.f.cell 5; have q0 := hSw.g.cell 5; simp only [HX1.out, HX2.out, List.getElem?_cons_zero, List.getElem?_cons_succ] at p0 q0; have s0 := HM0.out w hSw.below; have t0 := HL0.out w hSw.below; go_simp; first | done | with_reducible rfl)
          simp only [Act.put, List.getElem_toArray, List.getElem_cons_zero, List.getElem_cons_succ, List.setIfInBounds_toArray, List.set_cons_zero, List.set_cons_succ]
          refine wpAnyH_take (i := 6) (v := ?_) rfl (by kernel_rfl) (by kernel_rfl) (by kernel_rfl) (fun _ _ _ h => h) (Or.inl ⟨by rfl, ?_⟩) (by assumption) ?_
          rotate_left
          focus (intro w hSw; have p0 := hSw.f.cell 5; have q0 := hSw.g.cell 5; simp only [HX1.out, HX2.out, List.getElem?_cons_zero, List.getElem?_cons_succ] at p0 q0; have s0 := HM0.out w hSw.below; have t0 := HL0.out w hSw.below; go_simp; first | done | with_reducible rfl)
          simp only [Act.put, List.getElem_toArray, List.getElem_cons_zero, List.getElem_cons_succ, List.setIfInBounds_toArray, List.set_cons_zero, List.set_cons_succ]
          refine wpAnyH_take (i := 7) (v := ?_) rfl (by kernel_rfl) (by kernel_rfl) (by kernel_rfl) (fun _ _ _ h => h) (Or.inl ⟨by rfl, ?_⟩) (by assumption) ?_
          rotate_left
          focus (intro w hSw; have p0 := hSw.f.cell 5; have q0 := hSw.g.cell 5; simp only [HX1.out, HX2.out, List.getElem?_cons_zero, List.getElem?_cons_succ] at p0 q0; have s0 := HM0.out w hSw.below; have t0 := HL0.out w hSw.below; go_simp; first | done | with_reducible rfl)
          simp only [Act.put, List.getElem_toArray, List.getElem_cons_zero, List.getElem_cons_succ, List.setIfInBounds_toArray, List.set_cons_zero, List.set_cons_succ]
          refine wpAnyH_take (i := 8) (v := ?_) rfl (by kernel_rfl) (by kernel_rfl) (by kernel_rfl) (fun _ _ _ h => h) (Or.inl ⟨by rfl, ?_⟩) (by assumption) ?_
          rotate_left
          focus (intro w hSw; have p0 := hSw.f.cell 5; have q0 := hSw.g.cell 5; simp only [HX1.out, HX2.out, List.getElem?_cons_zero, List.getElem?_cons_succ] at p0 q0; have s0 := HM0.out w hSw.below; have t0 := HL0.out w hSw.below; go_simp; first | done | with_reducible rfl)
          simp only [Act.put, List.getElem_toArray, List.getElem_cons_zero, List.getElem_cons_succ, List.setIfInBounds_toArray, List.set_cons_zero, List.set_cons_succ]
          refine wpAnyH_take (i := 9) (v := ?_) rfl (by kernel_rfl) (by kernel_rfl) (by kernel_rfl) (fun _ _ _ h => h) (Or.inl ⟨by rfl, ?_⟩) (by assumption) ?_
          rotate_left
          focus (intro w hSw; have p0 := hSw.f.cell 5; have q0 := hSw.g.cell 5; simp only [HX1.out, HX2.out, List.getElem?_cons_zero, List.getElem?_cons_succ] at p0 q0; have s0 := HM0.out w hSw.below; have t0 := HL0.out w hSw.below; go_simp; first | done | with_reducible rfl)
          simp only [Act.put, List.getElem_toArray, List.getElem_cons_zero, List.getElem_cons_succ, List.setIfInBounds_toArray, List.set_cons_zero, List.set_cons_succ]
          refine wpAnyH_take (i := 10) (v := ?_) rfl (by kernel_rfl) (by kernel_rfl) (by kernel_rfl) (fun _ _ _ h => h) (Or.inl ⟨by rfl, ?_⟩) (by assumption) ?_
          rotate_left
          focus (intro w hSw; have p0 := hSw.f.cell 5; have q0 := hSw.g.cell 5; simp only [HX1.out, HX2.out, List.getElem?_cons_zero, List.getElem?_cons_succ] at p0 q0; have s0 := HM0.out w hSw.below; have t0 := HL0.out w hSw.below; go_simp; first | done | with_reducible rfl)
          simp only [Act.put, List.getElem_toArray, List.getElem_cons_zero, List.getElem_cons_succ, List.setIfInBounds_toArray, List.set_cons_zero, List.set_cons_succ]
          refine wpAnyH_take (i := 11) (v := ?_) rfl (by kernel_rfl) (by kernel_rfl) (by kernel_rfl) (fun _ _ _ h => h) (Or.inl ⟨by rfl, ?_⟩) (by assumption) ?_
          rotate_left
          focus (intro w hSw; have p0 := hSw.f.cell 5; have q0 := hSw.g.cell 5; simp only [HX1.out, HX2.out, List.getElem?_cons_zero, List.getElem?_cons_succ] at p0 q0; have s0 := HM0.out w hSw.below; have t0 := HL0.out w hSw.below; go_simp; first | done | with_reducible rfl)
          simp only [Act.put, List.getElem_toArray, List.getElem_cons_zero, List.getElem_cons_succ, List.setIfInBounds_toArray, List.set_cons_zero, List.set_cons_succ]
          refine wpAnyH_take (i := 12) (v := ?_) rfl (by kernel_rfl) (by kernel_rfl) (by kernel_rfl) (fun _ _ _ h => h) (Or.inl ⟨by rfl, ?_⟩) (by assumption) ?_
          rotate_left
          focus (intro w hSw; have p0 := hSw.f.cell 5; have q0 := hSw.g.cell 5; simp only [HX1.out, HX2.out, List.getElem?_cons_zero, List.getElem?_cons_succ] at p0 q0; have s0 := HM0.out w hSw.below; have t0 := HL0.out w hSw.below; go_simp; first | done | with_reducible rfl)
          simp only [Act.put, List.getElem_toArray, List.getElem_cons_zero, List.getElem_cons_succ, List.setIfInBounds_toArray, List.set_cons_zero, List.set_cons_succ]
          refine wpAnyH_done (by kernel_rfl) ?_ _
          have HH := Lib.hid hHeld
          clear hHeld
          go_wp2
          go_roundw
          case rel => exact ⟨k + 1, by omega, by go_num, HA2, HH⟩
          case measure => simp [intOf]; omega
        · have HE2 : Hid (f.cl = g.cl) := Lib.hid (by
            have := HA.out
            rwa [List.take_of_length_le (by have := E2.out; omega), List.take_of_length_le (by have := D2.out; omega)] at this)
          obtain ⟨wq, hwq⟩ : ∃ wq, wq = wr := ⟨_, rfl⟩
          subst hwq
          clear HA hsr
          have p0 := HT.out.f.cell 6
          simp only [HX1.out, List.getElem?_cons_zero, List.getElem?_cons_succ] at p0
          go_wp2
          clear p0
          go_loopw [130] (fun i wr => ∃ k : Nat, k ≤ n3 ∧ i = .int .i64 k ∧ Hid (f.ty.take k = g.ty.take k) ∧ Hid (TwS w.heap.size X1 X2 w wr)) (fun i _ => n3 - (intOf i).toNat)
          case atStart => exact ⟨0, Nat.zero_le _, rfl, Lib.hid (by simp), HT⟩
          case round =>
            clear HT
            obtain ⟨k, hk, rfl, HA, HT⟩ := hrel
            have hsr := HT.out.below.size
            by_cases hkl : k < n3
            · obtain ⟨x, hx⟩ : ∃ v, f.ty[k]? = some v := ⟨_, List.getElem?_eq_getElem (by have := E3.out; omega)⟩
              obtain ⟨y, hy⟩ : ∃ v, g.ty[k]? = some v := ⟨_, List.getElem?_eq_getElem (by have := D3.out; omega)⟩
              obtain ⟨gx, ox, cs, rfl, hcx, rfl⟩ := HK3.out k x hx
              obtain ⟨gy, oy, cs, rfl, hcy, rfl⟩ := HJ3.out k y hy
              have old : ∀ {p : Addr} {v : Value} (z : World), Below w.heap.size w z → w.cell? p = some v → z.cell? p = some v := fun z hz h => (hz.cell (World.block_lt_of_cell? _ _ h)).trans h
              have HM0 : Hid (∀ z, Below w.heap.size w z → z.cell? ⟨gx, ox + k * 2, none⟩ = some (.string x.n)) := Lib.hid (fun z hz => old z hz (hcx 0 _ rfl))
              have HL0 : Hid (∀ z, Below w.heap.size w z → z.cell? ⟨gy, oy + k * 2, none⟩ = some (.string y.n)) := Lib.hid (fun z hz => old z hz (hcy 0 _ rfl))
              have HM1 : Hid (∀ z, Below w.heap.size w z → z.cell? ⟨gx, ox + k * 2 + 1, none⟩ = some (.bool x.a)) := Lib.hid (fun z hz => old z hz (hcx 1 _ rfl))
              have HL1 : Hid (∀ z, Below w.heap.size w z → z.cell? ⟨gy, oy + k * 2 + 1, none⟩ = some (.bool y.a)) := Lib.hid (fun z hz => old z hz (hcy 1 _ rfl))
              have HN : Hid (x ≠ y → ¬ f = g) := Lib.hid (fun hne e => hne (by rw [e, hy] at hx; exact (Option.some.inj hx).symm))
              have HY : Hid (x = y → f.ty.take (k + 1) = g.ty.take (k + 1)) := Lib.hid (fun e => by
                have hx' : k < f.ty.length := (List.getElem?_eq_some_iff.1 hx).1
                have hy' : k < g.ty.length := (List.getElem?_eq_some_iff.1 hy).1
                rw [List.take_succ_eq_append_getElem hx', List.take_succ_eq_append_getElem hy', HA.out, (List.getElem?_eq_some_iff.1 hx).2, (List.getElem?_eq_some_iff.1 hy).2, e])
              clear hcx hcy hx hy old
              obtain ⟨x0, x1⟩ := x
              obtain ⟨y0, y1⟩ := y
              dsimp only at HM0 HL0 HM1 HL1
              by_cases b0 : x0 = y0
              rotate_left
              · have HNO := Lib.hid (HN.out (fun e => b0 (by simp only [Prod.mk.injEq, Ty.mk.injEq, Vr.mk.injEq] at e; exact e.1)))
                have tn0 := tne b0
                clear b0 HN HY HA
                go_upto_region 18 with fail
                refine wp_region_held_drew (S := fun z => TwS w.heap.size X1 X2 w z) (by kernel_rfl) ?_ (fun hHeld => ?_)
                · exact HT.out.dr
                refine wpAnyH_take (i := 0) (v := ?_) rfl (by kernel_rfl) (by kernel_rfl) (by kernel_rfl) (fun _ _ _ h => h) (Or.inl ⟨by rfl, ?_⟩) (by assumption) ?_
                rotate_left
                focus (intro w hSw; have p0 := hSw.f.cell 6; have q0 := hSw.g.cell 6; simp only [HX1.out, HX2.out, List.getElem?_cons_zero, List.getElem?_cons_succ] at p0 q0; have s0 := HM0.out w hSw.below; have t0 := HL0.out w hSw.below; have s1 := HM1.out w hSw.below; have t1 := HL1.out w hSw.below; go_simp; first | done | with_reducible rfl)
                simp only [Act.put, List.getElem_toArray, List.getElem_cons_zero, List.setIfInBounds_toArray, List.set_cons_zero, List.set_cons_succ]
                refine wpAnyH_take (i := 1) (v := ?_) rfl (by kernel_rfl) (by kernel_rfl) (by kernel_rfl) (fun _ _ _ h => h) (Or.inl ⟨by rfl, ?_⟩) (by assumption) ?_
                rotate_left
                focus (intro w hSw; have p0 := hSw.f.cell 6; have q0 := hSw.g.cell 6; simp only [HX1.out, HX2.out, List.getElem?_cons_zero, List.getElem?_cons_succ] at p0 q0; have s0 := HM0.out w hSw.below; have t0 := HL0.out w hSw.below; have s1 := HM1.out w hSw.below; have t1 := HL1.out w hSw.below; go_simp; first | done | with_reducible rfl)
                simp only [Act.put, List.getElem_toArray, List.getElem_cons_zero, List.getElem_cons_succ, List.setIfInBounds_toArray, List.set_cons_zero, List.set_cons_succ]
                refine wpAnyH_take (i := 2) (v := ?_) rfl (by kernel_rfl) (by kernel_rfl) (by kernel_rfl) (fun _ _ _ h => h) (Or.inl ⟨by rfl, ?_⟩) (by assumption) ?_
                rotate_left
                focus (intro w hSw; have p0 := hSw.f.cell 6; have q0 := hSw.g.cell 6; simp only [HX1.out, HX2.out, List.getElem?_cons_zero, List.getElem?_cons_succ] at p0 q0; have s0 := HM0.out w hSw.below; have t0 := HL0.out w hSw.below; have s1 := HM1.out w hSw.below; have t1 := HL1.out w hSw.below; go_simp; first | done | with_reducible rfl)
                simp only [Act.put, List.getElem_toArray, List.getElem_cons_zero, List.getElem_cons_succ, List.setIfInBounds_toArray, List.set_cons_zero, List.set_cons_succ]
                refine wpAnyH_take (i := 3) (v := ?_) rfl (by kernel_rfl) (by kernel_rfl) (by kernel_rfl) (fun _ _ _ h => h) (Or.inl ⟨by rfl, ?_⟩) (by assumption) ?_
                rotate_left
                focus (intro w hSw; have p0 := hSw.f.cell 6; have q0 := hSw.g.cell 6; simp only [HX1.out, HX2.out, List.getElem?_cons_zero, List.getElem?_cons_succ] at p0 q0; have s0 := HM0.out w hSw.below; have t0 := HL0.out w hSw.below; have s1 := HM1.out w hSw.below; have t1 := HL1.out w hSw.below; go_simp; first | done | with_reducible rfl)
                simp only [Act.put, List.getElem_toArray, List.getElem_cons_zero, List.getElem_cons_succ, List.setIfInBounds_toArray, List.set_cons_zero, List.set_cons_succ]
                refine wpAnyH_take (i := 4) (v := ?_) rfl (by kernel_rfl) (by kernel_rfl) (by kernel_rfl) (fun _ _ _ h => h) (Or.inl ⟨by rfl, ?_⟩) (by assumption) ?_
                rotate_left
                focus (intro w hSw; have p0 := hSw.f.cell 6; have q0 := hSw.g.cell 6; simp only [HX1.out, HX2.out, List.getElem?_cons_zero, List.getElem?_cons_succ] at p0 q0; have s0 := HM0.out w hSw.below; have t0 := HL0.out w hSw.below; have s1 := HM1.out w hSw.below; have t1 := HL1.out w hSw.below; go_simp; first | done | with_reducible rfl)
                simp only [Act.put, List.getElem_toArray, List.getElem_cons_zero, List.getElem_cons_succ, List.setIfInBounds_toArray, List.set_cons_zero, List.set_cons_succ]
                refine wpAnyH_take (i := 5) (v := ?_) rfl (by kernel_rfl) (by kernel_rfl) (by kernel_rfl) (fun _ _ _ h => h) (Or.inl ⟨by rfl, ?_⟩) (by assumption) ?_
                rotate_left
                focus (intro w hSw; have p0 := hSw.f.cell 6; have q0 := hSw.g.cell 6; simp only [HX1.out, HX2.out, List.getElem?_cons_zero, List.getElem?_cons_succ] at p0 q0; have s0 := HM0.out w hSw.below; have t0 := HL0.out w hSw.below; have s1 := HM1.out w hSw.below; have t1 := HL1.out w hSw.below; go_simp; first | done | with_reducible rfl)
                simp only [Act.put, List.getElem_toArray, List.getElem_cons_zero, List.getElem_cons_succ, List.setIfInBounds_toArray, List.set_cons_zero, List.set_cons_succ]
                refine wpAnyH_take (i := 6) (v := ?_) rfl (by kernel_rfl) (by kernel_rfl) (by kernel_rfl) (fun _ _ _ h => h) (Or.inl ⟨by rfl, ?_⟩) (by assumption) ?_
                rotate_left
                focus (intro w hSw; have p0 := hSw.f.cell 6; have q0 := hSw.g.cell 6; simp only [HX1.out, HX2.out, List.getElem?_cons_zero, List.getElem?_cons_succ] at p0 q0; have s0 := HM0.out w hSw.below; have t0 := HL0.out w hSw.below; have s1 := HM1.out w hSw.below; have t1 := HL1.out w hSw.below; go_simp; first | done | with_reducible rfl)
                simp only [Act.put, List.getElem_toArray, List.getElem_cons_zero, List.getElem_cons_succ, List.setIfInBounds_toArray, List.set_cons_zero, List.set_cons_succ]
                refine wpAnyH_take (i := 7) (v := ?_) rfl (by kernel_rfl) (by kernel_rfl) (by kernel_rfl) (fun _ _ _ h => h) (Or.inl ⟨by rfl, ?_⟩) (by assumption) ?_
                rotate_left
                focus (intro w hSw; have p0 := hSw.f.cell 6; have q0 := hSw.g.cell 6; simp only [HX1.out, HX2.out, List.getElem?_cons_zero, List.getElem?_cons_succ] at p0 q0; have s0 := HM0.out w hSw.below; have t0 := HL0.out w hSw.below; have s1 := HM1.out w hSw.below; have t1 := HL1.out w hSw.below; go_simp; first | done | with_reducible rfl)
                simp only [Act.put, List.getElem_toArray, List.getElem_cons_zero, List.getElem_cons_succ, List.setIfInBounds_toArray, List.set_cons_zero, List.set_cons_succ]
                refine wpAnyH_take (i := 8) (v := ?_) rfl (by kernel_rfl) (by kernel_rfl) (by kernel_rfl) (fun _ _ _ h => h) (Or.inl ⟨by rfl, ?_⟩) (by assumption) ?_
                rotate_left
                focus (intro w hSw; have p0 := hSw.f.cell 6; have q0 := hSw.g.cell 6; simp only [HX1.out, HX2.out, List.getElem?_cons_zero, List.getElem?_cons_succ] at p0 q0; have s0 := HM0.out w hSw.below; have t0 := HL0.out w hSw.below; have s1 := HM1.out w hSw.below; have t1 := HL1.out w hSw.below; go_simp; first | done | with_reducible rfl)
                simp only [Act.put, List.getElem_toArray, List.getElem_cons_zero, List.getElem_cons_succ, List.setIfInBounds_toArray, List.set_cons_zero, List.set_cons_succ]
                refine wpAnyH_take (i := 9) (v := ?_) rfl (by kernel_rfl) (by kernel_rfl) (by kernel_rfl) (fun _ _ _ h => h) (Or.inl ⟨by rfl, ?_⟩) (by assumption) ?_
                rotate_left
                focus (intro w hSw; have p0 := hSw.f.cell 6; have q0 := hSw.g.cell 6; simp only [HX1.out, HX2.out, List.getElem?_cons_zero, List.getElem?_cons_succ] at p0 q0; have s0 := HM0.out w hSw.below; have t0 := HL0.out w hSw.below; have s1 := HM1.out w hSw.below; have t1 := HL1.out w hSw.below; go_simp; first | done | with_reducible rfl)
                simp only [Act.put, List.getElem_toArray, List.getElem_cons_zero, List.getElem_cons_succ, List.setIfInBounds_toArray, List.set_cons_zero, List.set_cons_succ]
                refine wpAnyH_take (i := 10) (v := ?_) rfl (by kernel_rfl) (by kernel_rfl) (by kernel_rfl) (fun _ _ _ h => h) (Or.inl ⟨by rfl, ?_⟩) (by assumption) ?_
                rotate_left
                focus (intro w hSw; have p0 := hSw.f.cell 6; have q0 := hSw.g.cell 6; simp only [HX1.out, HX2.out, List.getElem?_cons_zero, List.getElem?_cons_succ] at p0 q0; have s0 := HM0.out w hSw.below; have t0 := HL0.out w hSw.below; have s1 := HM1.out w hSw.below; have t1 := HL1.out w hSw.below; go_simp; first | done | with_reducible rfl)
                simp only [Act.put, List.getElem_toArray, List.getElem_cons_zero, List.getElem_cons_succ, List.setIfInBounds_toArray, List.set_cons_zero, List.set_cons_succ]
                refine wpAnyH_take (i := 11) (v := ?_) rfl (by kernel_rfl) (by kernel_rfl) (by kernel_rfl) (fun _ _ _ h => h) (Or.inl ⟨by rfl, ?_⟩) (by assumption) ?_
                rotate_left
                focus (intro w hSw; have p0 := hSw.f.cell 6; have q0 := hSw.g.cell 6; simp only [HX1.out, HX2.out, List.getElem?_cons_zero, List.getElem?_cons_succ] at p0 q0; have s0 := HM0.out w hSw.below; have t0 := HL0.out w hSw.below; have s1 := HM1.out w hSw.below; have t1 := HL1.out w hSw.below; go_simp; first | done | with_reducible rfl)
                simp only [Act.put, List.getElem_toArray, List.getElem_cons_zero, List.getElem_cons_succ, List.setIfInBounds_toArray, List.set_cons_zero, List.set_cons_succ]
                refine wpAnyH_take (i := 12) (v := ?_) rfl (by kernel_rfl) (by kernel_rfl) (by kernel_rfl) (fun _ _ _ h => h) (Or.inl ⟨by rfl, ?_⟩) (by assumption) ?_
                rotate_left
                focus (intro w hSw; have p0 := hSw.f.cell 6; have q0 := hSw.g.cell 6; simp only [HX1.out, HX2.out, List.getElem?_cons_zero, List.getElem?_cons_succ] at p0 q0; have s0 := HM0.out w hSw.below; have t0 := HL0.out w hSw.below; have s1 := HM1.out w hSw.below; have t1 := HL1.out w hSw.below; go_simp; first | done | with_reducible rfl)
                simp only [Act.put, List.getElem_toArray, List.getElem_cons_zero, List.getElem_cons_succ, List.setIfInBounds_toArray, List.set_cons_zero, List.set_cons_succ]
                refine wpAnyH_done (by kernel_rfl) ?_ _
                have HH := Lib.hid hHeld
                clear hHeld
                go_wp2
                go_ret
                exact IffP.no rfl HNO.out HH.out.below
              subst b0
              have tn0 := teq (rfl : x0 = x0)
              by_cases b1 : x1 = y1
              rotate_left
              · have HNO := Lib.hid (HN.out (fun e => b1 (by simp only [Prod.mk.injEq, Ty.mk.injEq, Vr.mk.injEq] at e; exact e.2)))
                clear HN HY HA
                cases x1 <;> cases y1 <;> first | exact absurd rfl b1 | skip
                all_goals clear b1
                · go_upto_region 18 with fail
                  refine wp_region_held_drew (S := fun z => TwS w.heap.size X1 X2 w z) (by kernel_rfl) ?_ (fun hHeld => ?_)
                  · exact HT.out.dr
                  refine wpAnyH_take (i := 0) (v := ?_) rfl (by kernel_rfl) (by kernel_rfl) (by kernel_rfl) (fun _ _ _ h => h) (Or.inl ⟨by rfl, ?_⟩) (by assumption) ?_
                  rotate_left
                  focus (intro w hSw; have p0 := hSw.f.cell 6; have q0 := hSw.g.cell 6; simp only [HX1.out, HX2.out, List.getElem?_cons_zero, List.getElem?_cons_succ] at p0 q0; have s0 := HM0.out w hSw.below; have t0 := HL0.out w hSw.below; have s1 := HM1.out w hSw.below; have t1 := HL1.out w hSw.below; go_simp; first | done | with_reducible rfl)
                  simp only [Act.put, List.getElem_toArray, List.getElem_cons_zero, List.setIfInBounds_toArray, List.set_cons_zero, List.set_cons_succ]
                  refine wpAnyH_take (i := 1) (v := ?_) rfl (by kernel_rfl) (by kernel_rfl) (by kernel_rfl) (fun _ _ _ h => h) (Or.inl ⟨by rfl, ?_⟩) (by assumption) ?_
                  rotate_left
                  focus (intro w hSw; have p0 := hSw.f.cell 6; have q0 := hSw.g.cell 6; simp only [HX1.out, HX2.out, List.getElem?_cons_zero, List.getElem?_cons_succ] at p0 q0; have s0 := HM0.out w hSw.below; have t0 := HL0.out w hSw.below; have s1 := HM1.out w hSw.below; have t1 := HL1.out w hSw.below; go_simp; first | done | with_reducible rfl)
                  simp only [Act.put, List.getElem_toArray, List.getElem_cons_zero, List.getElem_cons_succ, List.setIfInBounds_toArray, List.set_cons_zero, List.set_cons_succ]
                  refine wpAnyH_take (i := 2) (v := ?_) rfl (by kernel_rfl) (by kernel_rfl) (by kernel_rfl) (fun _ _ _ h => h) (Or.inl ⟨by rfl, ?_⟩) (by assumption) ?_
                  rotate_left
                  focus (intro w hSw; have p0 := hSw.f.cell 6; have q0 := hSw.g.cell 6; simp only [HX1.out, HX2.out, List.getElem?_cons_zero, List.getElem?_cons_succ] at p0 q0; have s0 := HM0.out w hSw.below; have t0 := HL0.out w hSw.below; have s1 := HM1.out w hSw.below; have t1 := HL1.out w hSw.below; go_simp; first | done | with_reducible rfl)
                  simp only [Act.put, List.getElem_toArray, List.getElem_cons_zero, List.getElem_cons_succ, List.setIfInBounds_toArray, List.set_cons_zero, List.set_cons_succ]
                  refine wpAnyH_take (i := 3) (v := ?_) rfl (by kernel_rfl) (by kernel_rfl) (by kernel_rfl) (fun _ _ _ h => h) (Or.inl ⟨by rfl, ?_⟩) (by assumption) ?_
                  rotate_left
                  focus (intro w hSw; have p0 := hSw.f.cell 6; have q0 := hSw.g.cell 6; simp only [HX1.out, HX2.out, List.getElem?_cons_zero, List.getElem?_cons_succ] at p0 q0; have s0 := HM0.out w hSw.below; have t0 := HL0.out w hSw.below; have s1 := HM1.out w hSw.below; have t1 := HL1.out w hSw.below; go_simp; first | done | with_reducible rfl)
                  simp only [Act.put, List.getElem_toArray, List.getElem_cons_zero, List.getElem_cons_succ, List.setIfInBounds_toArray, List.set_cons_zero, List.set_cons_succ]
                  refine wpAnyH_take (i := 4) (v := ?_) rfl (by kernel_rfl) (by kernel_rfl) (by kernel_rfl) (fun _ _ _ h => h) (Or.inl ⟨by rfl, ?_⟩) (by assumption) ?_
                  rotate_left
                  focus (intro w hSw; have p0 := hSw.f.cell 6; have q0 := hSw.g.cell 6; simp only [HX1.out, HX2.out, List.getElem?_cons_zero, List.getElem?_cons_succ] at p0 q0; have s0 := HM0.out w hSw.below; have t0 := HL0.out w hSw.below; have s1 := HM1.out w hSw.below; have t1 := HL1.out w hSw.below; go_simp; first | done | with_reducible rfl)
                  simp only [Act.put, List.getElem_toArray, List.getElem_cons_zero, List.getElem_cons_succ, List.setIfInBounds_toArray, List.set_cons_zero, List.set_cons_succ]
                  refine wpAnyH_take (i := 5) (v := ?_) rfl (by kernel_rfl) (by kernel_rfl) (by kernel_rfl) (fun _ _ _ h => h) (Or.inl ⟨by rfl, ?_⟩) (by assumption) ?_
                  rotate_left
                  focus (intro w hSw; have p0 := hSw.f.cell 6; have q0 := hSw.g.cell 6; simp only [HX1.out, HX2.out, List.getElem?_cons_zero, List.getElem?_cons_succ] at p0 q0; have s0 := HM0.out w hSw.below; have t0 := HL0.out w hSw.below; have s1 := HM1.out w hSw.below; have t1 := HL1.out w hSw.below; go_simp; first | done | with_reducible rfl)
                  simp only [Act.put, List.getElem_toArray, List.getElem_cons_zero, List.getElem_cons_succ, List.setIfInBounds_toArray, List.set_cons_zero, List.set_cons_succ]
                  refine wpAnyH_take (i := 6) (v := ?_) rfl (by kernel_rfl) (by kernel_rfl) (by kernel_rfl) (fun _ _ _ h => h) (Or.inl ⟨by rfl, ?_⟩) (by assumption) ?_
                  rotate_left
                  focus (intro w hSw; have p0 := hSw.f.cell 6; have q0 := hSw.g.cell 6; simp only [HX1.out, HX2.out, List.getElem?_cons_zero, List.getElem?_cons_succ] at p0 q0; have s0 := HM0.out w hSw.below; have t0 := HL0.out w hSw.below; have s1 := HM1.out w hSw.below; have t1 := HL1.out w hSw.below; go_simp; first | done | with_reducible rfl)
                  simp only [Act.put, List.getElem_toArray, List.getElem_cons_zero, List.getElem_cons_succ, List.setIfInBounds_toArray, List.set_cons_zero, List.set_cons_succ]
                  refine wpAnyH_take (i := 7) (v := ?_) rfl (by kernel_rfl) (by kernel_rfl) (by kernel_rfl) (fun _ _ _ h => h) (Or.inl ⟨by rfl, ?_⟩) (by assumption) ?_
                  rotate_left
                  focus (intro w hSw; have p0 := hSw.f.cell 6; have q0 := hSw.g.cell 6; simp only [HX1.out, HX2.out, List.getElem?_cons_zero, List.getElem?_cons_succ] at p0 q0; have s0 := HM0.out w hSw.below; have t0 := HL0.out w hSw.below; have s1 := HM1.out w hSw.below; have t1 := HL1.out w hSw.below; go_simp; first | done | with_reducible rfl)
                  simp only [Act.put, List.getElem_toArray, List.getElem_cons_zero, List.getElem_cons_succ, List.setIfInBounds_toArray, List.set_cons_zero, List.set_cons_succ]
                  refine wpAnyH_take (i := 8) (v := ?_) rfl (by kernel_rfl) (by kernel_rfl) (by kernel_rfl) (fun _ _ _ h => h) (Or.inl ⟨by rfl, ?_⟩) (by assumption) ?_
                  rotate_left
                  focus (intro w hSw; have p0 := hSw.f.cell 6; have q0 := hSw.g.cell 6; simp only [HX1.out, HX2.out, List.getElem?_cons_zero, List.getElem?_cons_succ] at p0 q0; have s0 := HM0.out w hSw.below; have t0 := HL0.out w hSw.below; have s1 := HM1.out w hSw.below; have t1 := HL1.out w hSw.below; go_simp; first | done | with_reducible rfl)
                  simp only [Act.put, List.getElem_toArray, List.getElem_cons_zero, List.getElem_cons_succ, List.setIfInBounds_toArray, List.set_cons_zero, List.set_cons_succ]
                  refine wpAnyH_take (i := 9) (v := ?_) rfl (by kernel_rfl) (by kernel_rfl) (by kernel_rfl) (fun _ _ _ h => h) (Or.inl ⟨by rfl, ?_⟩) (by assumption) ?_
                  rotate_left
                  focus (intro w hSw; have p0 := hSw.f.cell 6; have q0 := hSw.g.cell 6; simp only [HX1.out, HX2.out, List.getElem?_cons_zero, List.getElem?_cons_succ] at p0 q0; have s0 := HM0.out w hSw.below; have t0 := HL0.out w hSw.below; have s1 := HM1.out w hSw.below; have t1 := HL1.out w hSw.below; go_simp; first | done | with_reducible rfl)
                  simp only [Act.put, List.getElem_toArray, List.getElem_cons_zero, List.getElem_cons_succ, List.setIfInBounds_toArray, List.set_cons_zero, List.set_cons_succ]
                  refine wpAnyH_take (i := 10) (v := ?_) rfl (by kernel_rfl) (by kernel_rfl) (by kernel_rfl) (fun _ _ _ h => h) (Or.inl ⟨by rfl, ?_⟩) (by assumption) ?_
                  rotate_left
                  focus (intro w hSw; have p0 := hSw.f.cell 6; have q0 := hSw.g.cell 6; simp only [HX1.out, HX2.out, List.getElem?_cons_zero, List.getElem?_cons_succ] at p0 q0; have s0 := HM0.out w hSw.below; have t0 := HL0.out w hSw.below; have s1 := HM1.out w hSw.below; have t1 := HL1.out w hSw.below; go_simp; first | done | with_reducible rfl)
                  simp only [Act.put, List.getElem_toArray, List.getElem_cons_zero, List.getElem_cons_succ, List.setIfInBounds_toArray, List.set_cons_zero, List.set_cons_succ]
                  refine wpAnyH_take (i := 11) (v := ?_) rfl (by kernel_rfl) (by kernel_rfl) (by kernel_rfl) (fun _ _ _ h => h) (Or.inl ⟨by rfl, ?_⟩) (by assumption) ?_
                  rotate_left
                  focus (intro w hSw; have p0 := hSw.f.cell 6; have q0 := hSw.g.cell 6; simp only [HX1.out, HX2.out, List.getElem?_cons_zero, List.getElem?_cons_succ] at p0 q0; have s0 := HM0.out w hSw.below; have t0 := HL0.out w hSw.below; have s1 := HM1.out w hSw.below; have t1 := HL1.out w hSw.below; go_simp; first | done | with_reducible rfl)
                  simp only [Act.put, List.getElem_toArray, List.getElem_cons_zero, List.getElem_cons_succ, List.setIfInBounds_toArray, List.set_cons_zero, List.set_cons_succ]
                  refine wpAnyH_take (i := 12) (v := ?_) rfl (by kernel_rfl) (by kernel_rfl) (by kernel_rfl) (fun _ _ _ h => h) (Or.inl ⟨by rfl, ?_⟩) (by assumption) ?_
                  rotate_left
                  focus (intro w hSw; have p0 := hSw.f.cell 6; have q0 := hSw.g.cell 6; simp only [HX1.out, HX2.out, List.getElem?_cons_zero, List.getElem?_cons_succ] at p0 q0; have s0 := HM0.out w hSw.below; have t0 := HL0.out w hSw.below; have s1 := HM1.out w hSw.below; have t1 := HL1.out w hSw.below; go_simp; first | done | with_reducible rfl)
                  simp only [Act.put, List.getElem_toArray, List.getElem_cons_zero, List.getElem_cons_succ, List.setIfInBounds_toArray, List.set_cons_zero, List.set_cons_succ]
                  refine wpAnyH_done (by kernel_rfl) ?_ _
                  have HH := Lib.hid hHeld
                  clear hHeld
                  go_wp2
                  go_ret
                  exact IffP.no rfl HNO.out HH.out.below
                · go_upto_region 18 with fail
                  refine wp_region_held_drew (S := fun z => TwS w.heap.size X1 X2 w z) (by kernel_rfl) ?_ (fun hHeld => ?_)
                  · exact HT.out.dr
                  refine wpAnyH_take (i := 0) (v := ?_) rfl (by kernel_rfl) (by kernel_rfl) (by kernel_rfl) (fun _ _ _ h => h) (Or.inl ⟨by rfl, ?_⟩) (by assumption) ?_
                  rotate_left
                  focus (intro w hSw; have p0 := hSw.f.cell 6; have q0 := hSw.g.cell 6; simp only [HX1.out, HX2.out, List.getElem?_cons_zero, List.getElem?_cons_succ] at p0 q0; have s0 := HM0.out w hSw.below; have t0 := HL0.out w hSw.below; have s1 := HM1.out w hSw.below; have t1 := HL1.out w hSw.below; go_simp; first | done | with_reducible rfl)
                  simp only [Act.put, List.getElem_toArray, List.getElem_cons_zero, List.setIfInBounds_toArray, List.set_cons_zero, List.set_cons_succ]
                  refine wpAnyH_take (i := 1) (v := ?_) rfl (by kernel_rfl) (by kernel_rfl) (by kernel_rfl) (fun _ _ _ h => h) (Or.inl ⟨by rfl, ?_⟩) (by assumption) ?_
                  rotate_left
                  focus (intro w hSw; have p0 := hSw.f.cell 6; have q0 := hSw.g.cell 6; simp only [HX1.out, HX2.out, List.getElem?_cons_zero, List.getElem?_cons_succ] at p0 q0; have s0 := HM0.out w hSw.below; have t0 := HL0.out w hSw.below; have s1 := HM1.out w hSw.below; have t1 := HL1.out w hSw.below; go_simp; first | done | with_reducible rfl)
                  simp only [Act.put, List.getElem_toArray, List.getElem_cons_zero, List.getElem_cons_succ, List.setIfInBounds_toArray, List.set_cons_zero, List.set_cons_succ]
                  refine wpAnyH_take (i := 2) (v := ?_) rfl (by kernel_rfl) (by kernel_rfl) (by kernel_rfl) (fun _ _ _ h => h) (Or.inl ⟨by rfl, ?_⟩) (by assumption) ?_
                  rotate_left
                  focus (intro w hSw; have p0 := hSw.f.cell 6; have q0 := hSw.g.cell 6; simp only [HX1.out, HX2.out, List.getElem?_cons_zero, List.getElem?_cons_succ] at p0 q0; have s0 := HM0.out w hSw.below; have t0 := HL0.out w hSw.below; have s1 := HM1.out w hSw.below; have t1 := HL1.out w hSw.below; go_simp; first | done | with_reducible rfl)
                  simp only [Act.put, List.getElem_toArray, List.getElem_cons_zero, List.getElem_cons_succ, List.setIfInBounds_toArray, List.set_cons_zero, List.set_cons_succ]
                  refine wpAnyH_take (i := 3) (v := ?_) rfl (by kernel_rfl) (by kernel_rfl) (by kernel_rfl) (fun _ _ _ h => h) (Or.inl ⟨by rfl, ?_⟩) (by assumption) ?_
                  rotate_left
                  focus (intro w hSw; have p0 := hSw.f.cell 6; have q0 := hSw.g.cell 6; simp only [HX1.out, HX2.out, List.getElem?_cons_zero, List.getElem?_cons_succ] at p0 q0; have s0 := HM0.out w hSw.below; have t0 := HL0.out w hSw.below; have s1 := HM1.out w hSw.below; have t1 := HL1.out w hSw.below; go_simp; first | done | with_reducible rfl)
                  simp only [Act.put, List.getElem_toArray, List.getElem_cons_zero, List.getElem_cons_succ, List.setIfInBounds_toArray, List.set_cons_zero, List.set_cons_succ]
                  refine wpAnyH_take (i := 4) (v := ?_) rfl (by kernel_rfl) (by kernel_rfl) (by kernel_rfl) (fun _ _ _ h => h) (Or.inl ⟨by rfl, ?_⟩) (by assumption) ?_
                  rotate_left
                  focus (intro w hSw; have p0 := hSw.f.cell 6; have q0 := hSw.g.cell 6; simp only [HX1.out, HX2.out, List.getElem?_cons_zero, List.getElem?_cons_succ] at p0 q0; have s0 := HM0.out w hSw.below; have t0 := HL0.out w hSw.below; have s1 := HM1.out w hSw.below; have t1 := HL1.out w hSw.below; go_simp; first | done | with_reducible rfl)
                  simp only [Act.put, List.getElem_toArray, List.getElem_cons_zero, List.getElem_cons_succ, List.setIfInBounds_toArray, List.set_cons_zero, List.set_cons_succ]
                  refine wpAnyH_take (i := 5) (v := ?_) rfl (by kernel_rfl) (by kernel_rfl) (by kernel_rfl) (fun _ _ _ h => h) (Or.inl ⟨by rfl, ?_⟩) (by assumption) ?_
                  rotate_left
                  focus (intro w hSw; have p0 := hSw.f.cell 6; have q0 := hSw.g.cell 6; simp only [HX1.out, HX2.out, List.getElem?_cons_zero, List.getElem?_cons_succ] at p0 q0; have s0 := HM0.out w hSw.below; have t0 := HL0.out w hSw.below; have s1 := HM1.out w hSw.below; have t1 := HL1.out w hSw.below; go_simp; first | done | with_reducible rfl)
                  simp only [Act.put, List.getElem_toArray, List.getElem_cons_zero, List.getElem_cons_succ, List.setIfInBounds_toArray, List.set_cons_zero, List.set_cons_succ]
                  refine wpAnyH_take (i := 6) (v := ?_) rfl (by kernel_rfl) (by kernel_rfl) (by kernel_rfl) (fun _ _ _ h => h) (Or.inl ⟨by rfl, ?_⟩) (by assumption) ?_
                  rotate_left
                  focus (intro w hSw; have p0 := hSw.f.cell 6; have q0 := hSw.g.cell 6; simp only [HX1.out, HX2.out, List.getElem?_cons_zero, List.getElem?_cons_succ] at p0 q0; have s0 := HM0.out w hSw.below; have t0 := HL0.out w hSw.below; have s1 := HM1.out w hSw.below; have t1 := HL1.out w hSw.below; go_simp; first | done | with_reducible rfl)
                  simp only [Act.put, List.getElem_toArray, List.getElem_cons_zero, List.getElem_cons_succ, List.setIfInBounds_toArray, List.set_cons_zero, List.set_cons_succ]
                  refine wpAnyH_take (i := 7) (v := ?_) rfl (by kernel_rfl) (by kernel_rfl) (by kernel_rfl) (fun _ _ _ h => h) (Or.inl ⟨by rfl, ?_⟩) (by assumption) ?_
                  rotate_left
                  focus (intro w hSw; have p0 := hSw.f.cell 6; have q0 := hSw.g.cell 6; simp only [HX1.out, HX2.out, List.getElem?_cons_zero, List.getElem?_cons_succ] at p0 q0; have s0 := HM0.out w hSw.below; have t0 := HL0.out w hSw.below; have s1 := HM1.out w hSw.below; have t1 := HL1.out w hSw.below; go_simp; first | done | with_reducible rfl)
                  simp only [Act.put, List.getElem_toArray, List.getElem_cons_zero, List.getElem_cons_succ, List.setIfInBounds_toArray, List.set_cons_zero, List.set_cons_succ]
                  refine wpAnyH_take (i := 8) (v := ?_) rfl (by kernel_rfl) (by kernel_rfl) (by kernel_rfl) (fun _ _ _ h => h) (Or.inl ⟨by rfl, ?_⟩) (by assumption) ?_
                  rotate_left
                  focus (intro w hSw; have p0 := hSw.f.cell 6; have q0 := hSw.g.cell 6; simp only [HX1.out, HX2.out, List.getElem?_cons_zero, List.getElem?_cons_succ] at p0 q0; have s0 := HM0.out w hSw.below; have t0 := HL0.out w hSw.below; have s1 := HM1.out w hSw.below; have t1 := HL1.out w hSw.below; go_simp; first | done | with_reducible rfl)
                  simp only [Act.put, List.getElem_toArray, List.getElem_cons_zero, List.getElem_cons_succ, List.setIfInBounds_toArray, List.set_cons_zero, List.set_cons_succ]
                  refine wpAnyH_take (i := 9) (v := ?_) rfl (by kernel_rfl) (by kernel_rfl) (by kernel_rfl) (fun _ _ _ h => h) (Or.inl ⟨by rfl, ?_⟩) (by assumption) ?_
                  rotate_left
                  focus (intro w hSw; have p0 := hSw.f.cell 6; have q0 := hSw.g.cell 6; simp only [HX1.out, HX2.out, List.getElem?_cons_zero, List.getElem?_cons_succ] at p0 q0; have s0 := HM0.out w hSw.below; have t0 := HL0.out w hSw.below; have s1 := HM1.out w hSw.below; have t1 := HL1.out w hSw.below; go_simp; first | done | with_reducible rfl)
                  simp only [Act.put, List.getElem_toArray, List.getElem_cons_zero, List.getElem_cons_succ, List.setIfInBounds_toArray, List.set_cons_zero, List.set_cons_succ]
                  refine wpAnyH_take (i := 10) (v := ?_) rfl (by kernel_rfl) (by kernel_rfl) (by kernel_rfl) (fun _ _ _ h => h) (Or.inl ⟨by rfl, ?_⟩) (by assumption) ?_
                  rotate_left
                  focus (intro w hSw; have p0 := hSw.f.cell 6; have q0 := hSw.g.cell 6; simp only [HX1.out, HX2.out, List.getElem?_cons_zero, List.getElem?_cons_succ] at p0 q0; have s0 := HM0.out w hSw.below; have t0 := HL0.out w hSw.below; have s1 := HM1.out w hSw.below; have t1 := HL1.out w hSw.below; go_simp; first | done | with_reducible rfl)
                  simp only [Act.put, List.getElem_toArray, List.getElem_cons_zero, List.getElem_cons_succ, List.setIfInBounds_toArray, List.set_cons_zero, List.set_cons_succ]
                  refine wpAnyH_take (i := 11) (v := ?_) rfl (by kernel_rfl) (by kernel_rfl) (by kernel_rfl) (fun _ _ _ h => h) (Or.inl ⟨by rfl, ?_⟩) (by assumption) ?_
                  rotate_left
                  focus (intro w hSw; have p0 := hSw.f.cell 6; have q0 := hSw.g.cell 6; simp only [HX1.out, HX2.out, List.getElem?_cons_zero, List.getElem?_cons_succ] at p0 q0; have s0 := HM0.out w hSw.below; have t0 := HL0.out w hSw.below; have s1 := HM1.out w hSw.below; have t1 := HL1.out w hSw.below; go_simp; first | done | with_reducible rfl)
                  simp only [Act.put, List.getElem_toArray, List.getElem_cons_zero, List.getElem_cons_succ, List.setIfInBounds_toArray, List.set_cons_zero, List.set_cons_succ]
                  refine wpAnyH_take (i := 12) (v := ?_) rfl (by kernel_rfl) (by kernel_rfl) (by kernel_rfl) (fun _ _ _ h => h) (Or.inl ⟨by rfl, ?_⟩) (by assumption) ?_
                  rotate_left
                  focus (intro w hSw; have p0 := hSw.f.cell 6; have q0 := hSw.g.cell 6; simp only [HX1.out, HX2.out, List.getElem?_cons_zero, List.getElem?_cons_succ] at p0 q0; have s0 := HM0.out w hSw.below; have t0 := HL0.out w hSw.below; have s1 := HM1.out w hSw.below; have t1 := HL1.out w hSw.below; go_simp; first | done | with_reducible rfl)
                  simp only [Act.put, List.getElem_toArray, List.getElem_cons_zero, List.getElem_cons_succ, List.setIfInBounds_toArray, List.set_cons_zero, List.set_cons_succ]
                  refine wpAnyH_done (by kernel_rfl) ?_ _
                  have HH := Lib.hid hHeld
                  clear hHeld
                  go_wp2
                  go_ret
                  exact IffP.no rfl HNO.out HH.out.below
              subst b1
              have HA2 := Lib.hid (HY.out rfl)
              clear HN HY HA
              go_upto_region 18 with fail
              refine wp_region_held_drew (S := fun z => TwS w.heap.size X1 X2 w z) (by kernel_rfl) ?_ (fun hHeld => ?_)
              · exact HT.out.dr
              refine wpAnyH_take (i := 0) (v := ?_) rfl (by kernel_rfl) (by kernel_rfl) (by kernel_rfl) (fun _ _ _ h => h) (Or.inl ⟨by rfl, ?_⟩) (by assumption) ?_
              rotate_left
              focus (intro w hSw; have p0 := hSw.f.cell 6; have q0 := hSw.g.cell 6; simp only [HX1.out, HX2.out, List.getElem?_cons_zero, List.getElem?_cons_succ] at p0 q0; have s0 := HM0.out w hSw.below; have t0 := HL0.out w hSw.below; have s1 := HM1.out w hSw.below; have t1 := HL1.out w hSw.below; go_simp; first | done | with_reducible rfl)
              simp only [Act.put, List.getElem_toArray, List.getElem_cons_zero, List.setIfInBounds_toArray, List.set_cons_zero, List.set_cons_succ]
              refine wpAnyH_take (i := 1) (v := ?_) rfl (by kernel_rfl) (by kernel_rfl) (by kernel_rfl) (fun _ _ _ h => h) (Or.inl ⟨by rfl, ?_⟩) (by assumption) ?_
              rotate_left
              focus (intro w hSw; have p0 := hSw.f.cell 6; have q0 := hSw.g.cell 6; simp only [HX1.out, HX2.out, List.getElem?_cons_zero, List.getElem?_cons_succ] at p0 q0; have s0 := HM0.out w hSw.below; have t0 := HL0.out w hSw.below; have s1 := HM1.out w hSw.below; have t1 := HL1.out w hSw.below; go_simp; first | done | with_reducible rfl)
              simp only [Act.put, List.getElem_toArray, List.getElem_cons_zero, List.getElem_cons_succ, List.setIfInBounds_toArray, List.set_cons_zero, List.set_cons_succ]
              refine wpAnyH_take (i := 2) (v := ?_) rfl (by kernel_rfl) (by kernel_rfl) (by kernel_rfl) (fun _ _ _ h => h) (Or.inl ⟨by rfl, ?_⟩) (by assumption) ?_
              rotate_left
              focus (intro w hSw; have p0 := hSw.f.cell 6; have q0 := hSw.g.cell 6; simp only [HX1.out, HX2.out, List.getElem?_cons_zero, List.getElem?_cons_succ] at p0 q0; have s0 := HM0.out w hSw.below; have t0 := HL0.out w hSw.below; have s1 := HM1.out w hSw.below; have t1 := HL1.out w hSw.below; go_simp; first | done | with_reducible rfl)
              simp only [Act.put, List.getElem_toArray, List.getElem_cons_zero, List.getElem_cons_succ, List.setIfInBounds_toArray, List.set_cons_zero, List.set_cons_succ]
              refine wpAnyH_take (i := 3) (v := ?_) rfl (by kernel_rfl) (by kernel_rfl) (by kernel_rfl) (fun _ _ _ h => h) (Or.inl ⟨by rfl, ?_⟩) (by assumption) ?_
              rotate_left
              focus (intro w hSw; have p0 := hSw.f.cell 6; have q0 := hSw.g.cell 6; simp only [HX1.out, HX2.out, List.getElem?_cons_zero, List.getElem?_cons_succ] at p0 q0; have s0 := HM0.out w hSw.below; have t0 := HL0.out w hSw.below; have s1 := HM1.out w hSw.below; have t1 := HL1.out w hSw.below; go_simp; first | done | with_reducible rfl)
              simp only [Act.put, List.getElem_toArray, List.getElem_cons_zero, List.getElem_cons_succ, List.setIfInBounds_toArray, List.set_cons_zero, List.set_cons_succ]
              refine wpAnyH_take (i := 4) (v := ?_) rfl (by kernel_rfl) (by kernel_rfl) (by kernel_rfl) (fun _ _ _ h => h) (Or.inl ⟨by rfl, ?_⟩) (by assumption) ?_
              rotate_left
              focus (intro w hSw; have p0 := hSw.f.cell 6; have q0 := hSw.g.cell 6; simp only [HX1.out, HX2.out, List.getElem?_cons_zero, List.getElem?_cons_succ] at p0 q0; have s0 := HM0.out w hSw.below; have t0 := HL0.out w hSw.below; have s1 := HM1.out w hSw.below; have t1 := HL1.out w hSw.below; go_simp; first | done | with_reducible rfl)
              simp only [Act.put, List.getElem_toArray, List.getElem_cons_zero, List.getElem_cons_succ, List.setIfInBounds_toArray, List.set_cons_zero, List.set_cons_succ]
              refine wpAnyH_take (i := 5) (v := ?_) rfl (by kernel_rfl) (by kernel_rfl) (by kernel_rfl) (fun _ _ _ h => h) (Or.inl ⟨by rfl, ?_⟩) (by assumption) ?_
              rotate_left
              focus (intro w hSw; have p0 := hSw.f.cell 6; have q0 := hSw.g.cell 6; simp only [HX1.out, HX2.out, List.getElem?_cons_zero, List.getElem?_cons_succ] at p0 q0; have s0 := HM0.out w hSw.below; have t0 := HL0.out w hSw.below; have s1 := HM1.out w hSw.below; have t1 := HL1.out w hSw.below; go_simp; first | done | with_reducible rfl)
              simp only [Act.put, List.getElem_toArray, List.getElem_cons_zero, List.getElem_cons_succ, List.setIfInBounds_toArray, List.set_cons_zero, List.set_cons_succ]
              refine wpAnyH_take (i := 6) (v := ?_) rfl (by kernel_rfl) (by kernel_rfl) (by kernel_rfl) (fun _ _ _ h => h) (Or.inl ⟨by rfl, ?_⟩) (by assumption) ?_
              rotate_left
              focus (intro w hSw; have p0 := hSw.f.cell 6; have q0 := hSw.g.cell 6; simp only [HX1.out, HX2.out, List.getElem?_cons_zero, List.getElem?_cons_succ] at p0 q0; have s0 := HM0.out w hSw.below; have t0 := HL0.out w hSw.below; have s1 := HM1.out w hSw.below; have t1 := HL1.out w hSw.below; go_simp; first | done | with_reducible rfl)
              simp only [Act.put, List.getElem_toArray, List.getElem_cons_zero, List.getElem_cons_succ, List.setIfInBounds_toArray, List.set_cons_zero, List.set_cons_succ]
              refine wpAnyH_take (i := 7) (v := ?_) rfl (by kernel_rfl) (by kernel_rfl) (by kernel_rfl) (fun _ _ _ h => h) (Or.inl ⟨by rfl, ?_⟩) (by assumption) ?_
              rotate_left
              focus (intro w hSw; have p0 := hSw.f.cell 6; have q0 := hSw.g.cell 6; simp only [HX1.out, HX2.out, List.getElem?_cons_zero, List.getElem?_cons_succ] at p0 q0; have s0 := HM0.out w hSw.below; have t0 := HL0.out w hSw.below; have s1 := HM1.out w hSw.below; have t1 := HL1.out w hSw.below; go_simp; first | done | with_reducible rfl)
              simp only [Act.put, List.getElem_toArray, List.getElem_cons_zero, List.getElem_cons_succ, List.setIfInBounds_toArray, List.set_cons_zero, List.set_cons_succ]
              refine wpAnyH_take (i := 8) (v := ?_) rfl (by kernel_rfl) (by kernel_rfl) (by kernel_rfl) (fun _ _ _ h => h) (Or.inl ⟨by rfl, ?_⟩) (by assumption) ?_
              rotate_left
              focus (intro w hSw; have p0 := hSw.f.cell 6; have q0 := hSw.g.cell 6; simp only [HX1.out, HX2.out, List.getElem?_cons_zero, List.getElem?_cons_succ] at p0 q0; have s0 := HM0.out w hSw.below; have t0 := HL0.out w hSw.below; have s1 := HM1.out w hSw.below; have t1 := HL1.out w hSw.below; go_simp; first | done | with_reducible rfl)
              simp only [Act.put, List.getElem_toArray, List.getElem_cons_zero, List.getElem_cons_succ, List.setIfInBounds_toArray, List.set_cons_zero, List.set_cons_succ]
              refine wpAnyH_take (i := 9) (v := ?_) rfl (by kernel_rfl) (by kernel_rfl) (by kernel_rfl) (fun _ _ _ h => h) (Or.inl ⟨by rfl, ?_⟩) (by assumption) ?_
              rotate_left
              focus (intro w hSw; have p0 := hSw.f.cell 6; have q0 := hSw.g.cell 6; simp only [HX1.out, HX2.out, List.getElem?_cons_zero, List.getElem?_cons_succ] at p0 q0; have s0 := HM0.out w hSw.below; have t0 := HL0.out w hSw.below; have s1 := HM1.out w hSw.below; have t1 := HL1.out w hSw.below; go_simp; first | done | with_reducible rfl)
              simp only [Act.put, List.getElem_toArray, List.getElem_cons_zero, List.getElem_cons_succ, List.setIfInBounds_toArray, List.set_cons_zero, List.set_cons_succ]
              refine wpAnyH_take (i := 10) (v := ?_) rfl (by kernel_rfl) (by kernel_rfl) (by kernel_rfl) (fun _ _ _ h => h) (Or.inl ⟨by rfl, ?_⟩) (by assumption) ?_
              rotate_left
              focus (intro w hSw; have p0 := hSw.f.cell 6; have q0 := hSw.g.cell 6; simp only [HX1.out, HX2.out, List.getElem?_cons_zero, List.getElem?_cons_succ] at p0 q0; have s0 := HM0.out w hSw.below; have t0 := HL0.out w hSw.below; have s1 := HM1.out w hSw.below; have t1 := HL1.out w hSw.below; go_simp; first | done | with_reducible rfl)
              simp only [Act.put, List.getElem_toArray, List.getElem_cons_zero, List.getElem_cons_succ, List.setIfInBounds_toArray, List.set_cons_zero, List.set_cons_succ]
              refine wpAnyH_take (i := 11) (v := ?_) rfl (by kernel_rfl) (by kernel_rfl) (by kernel_rfl) (fun _ _ _ h => h) (Or.inl ⟨by rfl, ?_⟩) (by assumption) ?_
              rotate_left
              focus (intro w hSw; have p0 := hSw.f.cell 6; have q0 := hSw.g.cell 6; simp only [HX1.out, HX2.out, List.getElem?_cons_zero, List.getElem?_cons_succ] at p0 q0; have s0 := HM0.out w hSw.below; have t0 := HL0.out w hSw.below; have s1 := HM1.out w hSw.below; have t1 := HL1.out w hSw.below; go_simp; first | done | with_reducible rfl)
              simp only [Act.put, List.getElem_toArray, List.getElem_cons_zero, List.getElem_cons_succ, List.setIfInBounds_toArray, List.set_cons_zero, List.set_cons_succ]
              refine wpAnyH_take (i := 12) (v := ?_) rfl (by kernel_rfl) (by kernel_rfl) (by kernel_rfl) (fun _ _ _ h => h) (Or.inl ⟨by rfl, ?_⟩) (by assumption) ?_
              rotate_left
              focus (intro w hSw; have p0 := hSw.f.cell 6; have q0 := hSw.g.cell 6; simp only [HX1.out, HX2.out, List.getElem?_cons_zero, List.getElem?_cons_succ] at p0 q0; have s0 := HM0.out w hSw.below; have t0 := HL0.out w hSw.below; have s1 := HM1.out w hSw.below; have t1 := HL1.out w hSw.below; go_simp; first | done | with_reducible rfl)
              simp only [Act.put, List.getElem_toArray, List.getElem_cons_zero, List.getElem_cons_succ, List.setIfInBounds_toArray, List.set_cons_zero, List.set_cons_succ]
              refine wpAnyH_done (by kernel_rfl) ?_ _
              have HH := Lib.hid hHeld
              clear hHeld
              go_wp2
              go_roundw
              case rel => exact ⟨k + 1, by omega, by go_num, HA2, HH⟩
              case measure => simp [intOf]; omega
            · have HE3 : Hid (f.ty = g.ty) := Lib.hid (by
                have := HA.out
                rwa [List.take_of_length_le (by have := E3.out; omega), List.take_of_length_le (by have := D3.out; omega)] at this)
              obtain ⟨wq, hwq⟩ : ∃ wq, wq = wr := ⟨_, rfl⟩
              subst hwq
              clear HA hsr
              have p0 := HT.out.f.cell 7
              simp only [HX1.out, List.getElem?_cons_zero, List.getElem?_cons_succ] at p0
              go_wp2
              clear p0
              go_loopw [151] (fun i wr => ∃ k : Nat, k ≤ n4 ∧ i = .int .i64 k ∧ Hid (f.fd.take k = g.fd.take k) ∧ Hid (TwS w.heap.size X1 X2 w wr)) (fun i _ => n4 - (intOf i).toNat)
              case atStart => exact ⟨0, Nat.zero_le _, rfl, Lib.hid (by simp), HT⟩
              case round =>
                clear HT
                obtain ⟨k, hk, rfl, HA, HT⟩ := hrel
                have hsr := HT.out.below.size
                by_cases hkl : k < n4
                · obtain ⟨x, hx⟩ : ∃ v, f.fd[k]? = some v := ⟨_, List.getElem?_eq_getElem (by have := E4.out; omega)⟩
                  obtain ⟨y, hy⟩ : ∃ v, g.fd[k]? = some v := ⟨_, List.getElem?_eq_getElem (by have := D4.out; omega)⟩
                  obtain ⟨gx, ox, cs, rfl, hcx, rfl⟩ := HK4.out k x hx
                  obtain ⟨gy, oy, cs, rfl, hcy, rfl⟩ := HJ4.out k y hy
                  have old : ∀ {p : Addr} {v : Value} (z : World), Below w.heap.size w z → w.cell? p = some v → z.cell? p = some v := fun z hz h => (hz.cell (World.block_lt_of_cell? _ _ h)).trans h
                  have HM0 : Hid (∀ z, Below w.heap.size w z → z.cell? ⟨gx, ox + k * 4, none⟩ = some (.string x.1.name)) := Lib.hid (fun z hz => old z hz (hcx 0 _ rfl))
                  have HL0 : Hid (∀ z, Below w.heap.size w z → z.cell? ⟨gy, oy + k * 4, none⟩ = some (.string y.1.name)) := Lib.hid (fun z hz => old z hz (hcy 0 _ rfl))
                  have HM1 : Hid (∀ z, Below w.heap.size w z → z.cell? ⟨gx, ox + k * 4 + 1, none⟩ = some (.string x.1.tn)) := Lib.hid (fun z hz => old z hz (hcx 1 _ rfl))
                  have HL1 : Hid (∀ z, Below w.heap.size w z → z.cell? ⟨gy, oy + k * 4 + 1, none⟩ = some (.string y.1.tn)) := Lib.hid (fun z hz => old z hz (hcy 1 _ rfl))
                  have HM2 : Hid (∀ z, Below w.heap.size w z → z.cell? ⟨gx, ox + k * 4 + 2, none⟩ = some (.bool x.1.ta)) := Lib.hid (fun z hz => old z hz (hcx 2 _ rfl))
                  have HL2 : Hid (∀ z, Below w.heap.size w z → z.cell? ⟨gy, oy + k * 4 + 2, none⟩ = some (.bool y.1.ta)) := Lib.hid (fun z hz => old z hz (hcy 2 _ rfl))
                  have HM3 : Hid (∀ z, Below w.heap.size w z → z.cell? ⟨gx, ox + k * 4 + 3, none⟩ = some (.string x.2)) := Lib.hid (fun z hz => old z hz (hcx 3 _ rfl))
                  have HL3 : Hid (∀ z, Below w.heap.size w z → z.cell? ⟨gy, oy + k * 4 + 3, none⟩ = some (.string y.2)) := Lib.hid (fun z hz => old z hz (hcy 3 _ rfl))
                  have HN : Hid (x ≠ y → ¬ f = g) := Lib.hid (fun hne e => hne (by rw [e, hy] at hx; exact (Option.some.inj hx).symm))
                  have HY : Hid (x = y → f.fd.take (k + 1) = g.fd.take (k + 1)) := Lib.hid (fun e => by
                    have hx' : k < f.fd.length := (List.getElem?_eq_some_iff.1 hx).1
                    have hy' : k < g.fd.length := (List.getElem?_eq_some_iff.1 hy).1
                    rw [List.take_succ_eq_append_getElem hx', List.take_succ_eq_append_getElem hy', HA.out, (List.getElem?_eq_some_iff.1 hx).2, (List.getElem?_eq_some_iff.1 hy).2, e])
                  clear hcx hcy hx hy old
                  obtain ⟨⟨x0, x1, x2⟩, x3⟩ := x
                  obtain ⟨⟨y0, y1, y2⟩, y3⟩ := y
                  dsimp only at HM0 HL0 HM1 HL1 HM2 HL2 HM3 HL3
                  by_cases b0 : x0 = y0
                  rotate_left
                  · have HNO := Lib.hid (HN.out (fun e => b0 (by simp only [Prod.mk.injEq, Ty.mk.injEq, Vr.mk.injEq] at e; exact e.1.1)))
                    have tn0 := tne b0
                    clear b0 HN HY HA
                    go_upto_region 24 with fail
                    refine wp_region_held_drew (S := fun z => TwS w.heap.size X1 X2 w z) (by kernel_rfl) ?_ (fun hHeld => ?_)
                    · exact HT.out.dr
                    refine wpAnyH_take (i := 0) (v := ?_) rfl (by kernel_rfl) (by kernel_rfl) (by kernel_rfl) (fun _ _ _ h => h) (Or.inl ⟨by rfl, ?_⟩) (by assumption) ?_
                    rotate_left
                    focus (intro w hSw; have p0 := hSw.f.cell 7; have q0 := hSw.g.cell 7; simp only [HX1.out, HX2.out, List.getElem?_cons_zero, List.getElem?_cons_succ] at p0 q0; have s0 := HM0.out w hSw.below; have t0 := HL0.out w hSw.below; have s1 := HM1.out w hSw.below; have t1 := HL1.out w hSw.below; have s2 := HM2.out w hSw.below; have t2 := HL2.out w hSw.below; have s3 := HM3.out w hSw.below; have t3 := HL3.out w hSw.below; go_simp; first | done | with_reducible rfl)
                    simp only [Act.put, List.getElem_toArray, List.getElem_cons_zero, List.setIfInBounds_toArray, List.set_cons_zero, List.set_cons_succ]
                    refine wpAnyH_take (i := 1) (v := ?_) rfl (by kernel_rfl) (by kernel_rfl) (by kernel_rfl) (fun _ _ _ h => h) (Or.inl ⟨by rfl, ?_⟩) (by assumption) ?_
                    rotate_left
                    focus (intro w hSw; have p0 := hSw.f.cell 7; have q0 := hSw.g.cell 7; simp only [HX1.out, HX2.out, List.getElem?_cons_zero, List.getElem?_cons_succ] at p0 q0; have s0 := HM0.out w hSw.below; have t0 := HL0.out w hSw.below; have s1 := HM1.out w hSw.below; have t1 := HL1.out w hSw.below; have s2 := HM2.out w hSw.below; have t2 := HL2.out w hSw.below; have s3 := HM3.out w hSw.below; have t3 := HL3.out w hSw.below; go_simp; first | done | with_reducible rfl)
                    simp only [Act.put, List.getElem_toArray, List.getElem_cons_zero, List.getElem_cons_succ, List.setIfInBounds_toArray, List.set_cons_zero, List.set_cons_succ]
                    refine wpAnyH_take (i := 2) (v := ?_) rfl (by kernel_rfl) (by kernel_rfl) (by kernel_rfl) (fun _ _ _ h => h) (Or.inl ⟨by rfl, ?_⟩) (by assumption) ?_
                    rotate_left
                    focus (intro w hSw; have p0 := hSw.f.cell 7; have q0 := hSw.g.cell 7; simp only [HX1.out, HX2.out, List.getElem?_cons_zero, List.getElem?_cons_succ] at p0 q0; have s0 := HM0.out w hSw.below; have t0 := HL0.out w hSw.below; have s1 := HM1.out w hSw.below; have t1 := HL1.out w hSw.below; have s2 := HM2.out w hSw.below; have t2 := HL2.out w hSw.below; have s3 := HM3.out w hSw.below; have t3 := HL3.out w hSw.below; go_simp; first | done | with_reducible rfl)
                    simp only [Act.put, List.getElem_toArray, List.getElem_cons_zero, List.getElem_cons_succ, List.setIfInBounds_toArray, List.set_cons_zero, List.set_cons_succ]
                    refine wpAnyH_take (i := 3) (v := ?_) rfl (by kernel_rfl) (by kernel_rfl) (by kernel_rfl) (fun _ _ _ h => h) (Or.inl ⟨by rfl, ?_⟩) (by assumption) ?_
                    rotate_left
                    focus (intro w hSw; have p0 := hSw.f.cell 7; have q0 := hSw.g.cell 7; simp only [HX1.out, HX2.out, List.getElem?_cons_zero, List.getElem?_cons_succ] at p0 q0; have s0 := HM0.out w hSw.below; have t0 := HL0.out w hSw.below; have s1 := HM1.out w hSw.below; have t1 := HL1.out w hSw.below; have s2 := HM2.out w hSw.below; have t2 := HL2.out w hSw.below; have s3 := HM3.out w hSw.below; have t3 := HL3.out w hSw.below; go_simp; first | done | with_reducible rfl)
                    simp only [Act.put, List.getElem_toArray, List.getElem_cons_zero, List.getElem_cons_succ, List.setIfInBounds_toArray, List.set_cons_zero, List.set_cons_succ]
                    refine wpAnyH_take (i := 4) (v := ?_) rfl (by kernel_rfl) (by kernel_rfl) (by kernel_rfl) (fun _ _ _ h => h) (Or.inl ⟨by rfl, ?_⟩) (by assumption) ?_
                    rotate_left
                    focus (intro w hSw; have p0 := hSw.f.cell 7; have q0 := hSw.g.cell 7; simp only [HX1.out, HX2.out, List.getElem?_cons_zero, List.getElem?_cons_succ] at p0 q0; have s0 := HM0.out w hSw.below; have t0 := HL0.out w hSw.below; have s1 := HM1.out w hSw.below; have t1 := HL1.out w hSw.below; have s2 := HM2.out w hSw.below; have t2 := HL2.out w hSw.below; have s3 := HM3.out w hSw.below; have t3 := HL3.out w hSw.below; go_simp; first | done | with_reducible rfl)
                    simp only [Act.put, List.getElem_toArray, List.getElem_cons_zero, List.getElem_cons_succ, List.setIfInBounds_toArray, List.set_cons_zero, List.set_cons_succ]
                    refine wpAnyH_take (i := 5) (v := ?_) rfl (by kernel_rfl) (by kernel_rfl) (by kernel_rfl) (fun _ _ _ h => h) (Or.inl ⟨by rfl, ?_⟩) (by assumption) ?_
                    rotate_left
                    focus (intro w hSw; have p0 := hSw.f.cell 7; have q0 := hSw.g.cell 7; simp only [HX1.out, HX2.out, List.getElem?_cons_zero, List.getElem?_cons_succ] at p0 q0; have s0 := HM0.out w hSw.below; have t0 := HL0.out w hSw.below; have s1 := HM1.out w hSw.below; have t1 := HL1.out w hSw.below; have s2 := HM2.out w hSw.below; have t2 := HL2.out w hSw.below; have s3 := HM3.out w hSw.below; have t3 := HL3.out w hSw.below; go_simp; first | done | with_reducible rfl)
                    simp only [Act.put, List.getElem_toArray, List.getElem_cons_zero, List.getElem_cons_succ, List.setIfInBounds_toArray, List.set_cons_zero, List.set_cons_succ]
                    refine wpAnyH_take (i := 6) (v := ?_) rfl (by kernel_rfl) (by kernel_rfl) (by kernel_rfl) (fun _ _ _ h => h) (Or.inl ⟨by rfl, ?_⟩) (by assumption) ?_
                    rotate_left
                    focus (intro w hSw; have p0 := hSw.f.cell 7; have q0 := hSw.g.cell 7; simp only [HX1.out, HX2.out, List.getElem?_cons_zero, List.getElem?_cons_succ] at p0 q0; have s0 := HM0.out w hSw.below; have t0 := HL0.out w hSw.below; have s1 := HM1.out w hSw.below; have t1 := HL1.out w hSw.below; have s2 := HM2.out w hSw.below; have t2 := HL2.out w hSw.below; have s3 := HM3.out w hSw.below; have t3 := HL3.out w hSw.below; go_simp; first | done | with_reducible rfl)
                    simp only [Act.put, List.getElem_toArray, List.getElem_cons_zero, List.getElem_cons_succ, List.setIfInBounds_toArray, List.set_cons_zero, List.set_cons_succ]
                    refine wpAnyH_take (i := 7) (v := ?_) rfl (by kernel_rfl) (by kernel_rfl) (by kernel_rfl) (fun _ _ _ h => h) (Or.inl ⟨by rfl, ?_⟩) (by assumption) ?_
                    rotate_left
                    focus (intro w hSw; have p0 := hSw.f.cell 7; have q0 := hSw.g.cell 7; simp only [HX1.out, HX2.out, List.getElem?_cons_zero, List.getElem?_cons_succ] at p0 q0; have s0 := HM0.out w hSw.below; have t0 := HL0.out w hSw.below; have s1 := HM1.out w hSw.below; have t1 := HL1.out w hSw.below; have s2 := HM2.out w hSw.below; have t2 := HL2.out w hSw.below; have s3 := HM3.out w hSw.below; have t3 := HL3.out w hSw.below; go_simp; first | done | with_reducible rfl)
                    simp only [Act.put, List.getElem_toArray, List.getElem_cons_zero, List.getElem_cons_succ, List.setIfInBounds_toArray, List.set_cons_zero, List.set_cons_succ]
                    refine wpAnyH_take (i := 8) (v := ?_) rfl (by kernel_rfl) (by kernel_rfl) (by kernel_rfl) (fun _ _ _ h => h) (Or.inl ⟨by rfl, ?_⟩) (by assumption) ?_
                    rotate_left
                    focus (intro w hSw; have p0 := hSw.f.cell 7; have q0 := hSw.g.cell 7; simp only [HX1.out, HX2.out, List.getElem?_cons_zero, List.getElem?_cons_succ] at p0 q0; have s0 := HM0.out w hSw.below; have t0 := HL0.out w hSw.below; have s1 := HM1.out w hSw.below; have t1 := HL1.out w hSw.below; have s2 := HM2.out w hSw.below; have t2 := HL2.out w hSw.below; have s3 := HM3.out w hSw.below; have t3 := HL3.out w hSw.below; go_simp; first | done | with_reducible rfl)
                    simp only [Act.put, List.getElem_toArray, List.getElem_cons_zero, List.getElem_cons_succ, List.setIfInBounds_toArray, List.set_cons_zero, List.set_cons_succ]
                    refine wpAnyH_take (i := 9) (v := ?_) rfl (by kernel_rfl) (by kernel_rfl) (by kernel_rfl) (fun _ _ _ h => h) (Or.inl ⟨by rfl, ?_⟩) (by assumption) ?_
                    rotate_left
                    focus (intro w hSw; have p0 := hSw.f.cell 7; have q0 := hSw.g.cell 7; simp only [HX1.out, HX2.out, List.getElem?_cons_zero, List.getElem?_cons_succ] at p0 q0; have s0 := HM0.out w hSw.below; have t0 := HL0.out w hSw.below; have s1 := HM1.out w hSw.below; have t1 := HL1.out w hSw.below; have s2 := HM2.out w hSw.below; have t2 := HL2.out w hSw.below; have s3 := HM3.out w hSw.below; have t3 := HL3.out w hSw.below; go_simp; first | done | with_reducible rfl)
                    simp only [Act.put, List.getElem_toArray, List.getElem_cons_zero, List.getElem_cons_succ, List.setIfInBounds_toArray, List.set_cons_zero, List.set_cons_succ]
                    refine wpAnyH_take (i := 10) (v := ?_) rfl (by kernel_rfl) (by kernel_rfl) (by kernel_rfl) (fun _ _ _ h => h) (Or.inl ⟨by rfl, ?_⟩) (by assumption) ?_
                    rotate_left
                    focus (intro w hSw; have p0 := hSw.f.cell 7; have q0 := hSw.g.cell 7; simp only [HX1.out, HX2.out, List.getElem?_cons_zero, List.getElem?_cons_succ] at p0 q0; have s0 := HM0.out w hSw.below; have t0 := HL0.out w hSw.below; have s1 := HM1.out w hSw.below; have t1 := HL1.out w hSw.below; have s2 := HM2.out w hSw.below; have t2 := HL2.out w hSw.below; have s3 := HM3.out w hSw.below; have t3 := HL3.out w hSw.below; go_simp; first | done | with_reducible rfl)
                    simp only [Act.put, List.getElem_toArray, List.getElem_cons_zero, List.getElem_cons_succ, List.setIfInBounds_toArray, List.set_cons_zero, List.set_cons_succ]
                    refine wpAnyH_take (i := 11) (v := ?_) rfl (by kernel_rfl) (by kernel_rfl) (by kernel_rfl) (fun _ _ _ h => h) (Or.inl ⟨by rfl, ?_⟩) (by assumption) ?_
                    rotate_left
                    focus (intro w hSw; have p0 := hSw.f.cell 7; have q0 := hSw.g.cell 7; simp only [HX1.out, HX2.out, List.getElem?_cons_zero, List.getElem?_cons_succ] at p0 q0; have s0 := HM0.out w hSw.below; have t0 := HL0.out w hSw.below; have s1 := HM1.out w hSw.below; have t1 := HL1.out w hSw.below; have s2 := HM2.out w hSw.below; have t2 := HL2.out w hSw.below; have s3 := HM3.out w hSw.below; have t3 := HL3.out w hSw.below; go_simp; first | done | with_reducible rfl)
                    simp only [Act.put, List.getElem_toArray, List.getElem_cons_zero, List.getElem_cons_succ, List.setIfInBounds_toArray, List.set_cons_zero, List.set_cons_succ]
                    refine wpAnyH_take (i := 12) (v := ?_) rfl (by kernel_rfl) (by kernel_rfl) (by kernel_rfl) (fun _ _ _ h => h) (Or.inl ⟨by rfl, ?_⟩) (by assumption) ?_
                    rotate_left
                    focus (intro w hSw; have p0 := hSw.f.cell 7; have q0 := hSw.g.cell 7; simp only [HX1.out, HX2.out, List.getElem?_cons_zero, List.getElem?_cons_succ] at p0 q0; have s0 := HM0.out w hSw.below; have t0 := HL0.out w hSw.below; have s1 := HM1.out w hSw.below; have t1 := HL1.out w hSw.below; have s2 := HM2.out w hSw.below; have t2 := HL2.out w hSw.below; have s3 := HM3.out w hSw.below; have t3 := HL3.out w hSw.below; go_simp; first | done | with_reducible rfl)
                    simp only [Act.put, List.getElem_toArray, List.getElem_cons_zero, List.getElem_cons_succ, List.setIfInBounds_toArray, List.set_cons_zero, List.set_cons_succ]
                    refine wpAnyH_done (by kernel_rfl) ?_ _
                    have HH := Lib.hid hHeld
                    clear hHeld
                    go_wp2
                    go_ret
                    exact IffP.no rfl HNO.out HH.out.below
                  subst b0
                  have tn0 := teq (rfl : x0 = x0)
                  by_cases b1 : x1 = y1
                  rotate_left
                  · have HNO := Lib.hid (HN.out (fun e => b1 (by simp only [Prod.mk.injEq, Ty.mk.injEq, Vr.mk.injEq] at e; exact e.1.2.1)))
                    have tn1 := tne b1
                    clear b1 HN HY HA
                    go_upto_region 24 with fail
                    refine wp_region_held_drew (S := fun z => TwS w.heap.size X1 X2 w z) (by kernel_rfl) ?_ (fun hHeld => ?_)
                    · exact HT.out.dr
                    refine wpAnyH_take (i := 0) (v := ?_) rfl (by kernel_rfl) (by kernel_rfl) (by kernel_rfl) (fun _ _ _ h => h) (Or.inl ⟨by rfl, ?_⟩) (by assumption) ?_
                    rotate_left
                    focus (intro w hSw; have p0 := hSw.f.cell 7; have q0 := hSw.g.cell 7; simp only [HX1.out, HX2.out, List.getElem?_cons_zero, List.getElem?_cons_succ] at p0 q0; have s0 := HM0.out w hSw.below; have t0 := HL0.out w hSw.below; have s1 := HM1.out w hSw.below; have t1 := HL1.out w hSw.below; have s2 := HM2.out w hSw.below; have t2 := HL2.out w hSw.below; have s3 := HM3.out w hSw.below; have t3 := HL3.out w hSw.below; go_simp; first | done | with_reducible rfl)
                    simp only [Act.put, List.getElem_toArray, List.getElem_cons_zero, List.setIfInBounds_toArray, List.set_cons_zero, List.set_cons_succ]
                    refine wpAnyH_take (i := 1) (v := ?_) rfl (by kernel_rfl) (by kernel_rfl) (by kernel_rfl) (fun _ _ _ h => h) (Or.inl ⟨by rfl, ?_⟩) (by assumption) ?_
                    rotate_left
                    focus (intro w hSw; have p0 := hSw.f.cell 7; have q0 := hSw.g.cell 7; simp only [HX1.out, HX2.out, List.getElem?_cons_zero, List.getElem?_cons_succ] at p0 q0; have s0 := HM0.out w hSw.below; have t0 := HL0.out w hSw.below; have s1 := HM1.out w hSw.below; have t1 := HL1.out w hSw.below; have s2 := HM2.out w hSw.below; have t2 := HL2.out w hSw.below; have s3 := HM3.out w hSw.below; have t3 := HL3.out w hSw.below; go_simp; first | done | with_reducible rfl)
                    simp only [Act.put, List.getElem_toArray, List.getElem_cons_zero, List.getElem_cons_succ, List.setIfInBounds_toArray, List.set_cons_zero, List.set_cons_succ]
                    refine wpAnyH_take (i := 2) (v := ?_) rfl (by kernel_rfl) (by kernel_rfl) (by kernel_rfl) (fun _ _ _ h => h) (Or.inl ⟨by rfl, ?_⟩) (by assumption) ?_
                    rotate_left
                    focus (intro w hSw; have p0 := hSw.f.cell 7; have q0 := hSw.g.cell 7; simp only [HX1.out, HX2.out, List.getElem?_cons_zero, List.getElem?_cons_succ] at p0 q0; have s0 := HM0.out w hSw.below; have t0 := HL0.out w hSw.below; have s1 := HM1.out w hSw.below; have t1 := HL1.out w hSw.below; have s2 := HM2.out w hSw.below; have t2 := HL2.out w hSw.below; have s3 := HM3.out w hSw.below; have t3 := HL3.out w hSw.below; go_simp; first | done | with_reducible rfl)
                    simp only [Act.put, List.getElem_toArray, List.getElem_cons_zero, List.getElem_cons_succ, List.setIfInBounds_toArray, List.set_cons_zero, List.set_cons_succ]
                    refine wpAnyH_take (i := 3) (v := ?_) rfl (by kernel_rfl) (by kernel_rfl) (by kernel_rfl) (fun _ _ _ h => h) (Or.inl ⟨by rfl, ?_⟩) (by assumption) ?_
                    rotate_left
                    focus (intro w hSw; have p0 := hSw.f.cell 7; have q0 := hSw.g.cell 7; simp only [HX1.out, HX2.out, List.getElem?_cons_zero, List.getElem?_cons_succ] at p0 q0; have s0 := HM0.out w hSw.below; have t0 := HL0.out w hSw.below; have s1 := HM1.out w hSw.below; have t1 := HL1.out w hSw.below; have s2 := HM2.out w hSw.below; have t2 := HL2.out w hSw.below; have s3 := HM3.out w hSw.below; have t3 := HL3.out w hSw.below; go_simp; first | done | with_reducible rfl)
                    simp only [Act.put, List.getElem_toArray, List.getElem_cons_zero, List.getElem_cons_succ, List.setIfInBounds_toArray, List.set_cons_zero, List.set_cons_succ]
                    refine wpAnyH_take (i := 4) (v := ?_) rfl (by kernel_rfl) (by kernel_rfl) (by kernel_rfl) (fun _ _ _ h => h) (Or.inl ⟨by rfl, ?_⟩) (by assumption) ?_
                    rotate_left
                    focus (intro w hSw; have p0 := hSw.f.cell 7; have q0 := hSw.g.cell 7; simp only [HX1.out, HX2.out, List.getElem?_cons_zero, List.getElem?_cons_succ] at p0 q0; have s0 := HM0.out w hSw.below; have t0 := HL0.out w hSw.below; have s1 := HM1.out w hSw.below; have t1 := HL1.out w hSw.below; have s2 := HM2.out w hSw.below; have t2 := HL2.out w hSw.below; have s3 := HM3.out w hSw.below; have t3 := HL3.out w hSw.below; go_simp; first | done | with_reducible rfl)
                    simp only [Act.put, List.getElem_toArray, List.getElem_cons_zero, List.getElem_cons_succ, List.setIfInBounds_toArray, List.set_cons_zero, List.set_cons_succ]
                    refine wpAnyH_take (i := 5) (v := ?_) rfl (by kernel_rfl) (by kernel_rfl) (by kernel_rfl) (fun _ _ _ h => h) (Or.inl ⟨by rfl, ?_⟩) (by assumption) ?_
                    rotate_left
                    focus (intro w hSw; have p0 := hSw.f.cell 7; have q0 := hSw.g.cell 7; simp only [HX1.out, HX2.out, List.getElem?_cons_zero, List.getElem?_cons_succ] at p0 q0; have s0 := HM0.out w hSw.below; have t0 := HL0.out w hSw.below; have s1 := HM1.out w hSw.below; have t1 := HL1.out w hSw.below; have s2 := HM2.out w hSw.below; have t2 := HL2.out w hSw.below; have s3 := HM3.out w hSw.below; have t3 := HL3.out w hSw.below; go_simp; first | done | with_reducible rfl)
                    simp only [Act.put, List.getElem_toArray, List.getElem_cons_zero, List.getElem_cons_succ, List.setIfInBounds_toArray, List.set_cons_zero, List.set_cons_succ]
                    refine wpAnyH_take (i := 6) (v := ?_) rfl (by kernel_rfl) (by kernel_rfl) (by kernel_rfl) (fun _ _ _ h => h) (Or.inl ⟨by rfl, ?_⟩) (by assumption) ?_
                    rotate_left
                    focus (intro w hSw; have p0 := hSw.f.cell 7; have q0 := hSw.g.cell 7; simp only [HX1.out, HX2.out, List.getElem?_cons_zero, List.getElem?_cons_succ] at p0 q0; have s0 := HM0.out w hSw.below; have t0 := HL0.out w hSw.below; have s1 := HM1.out w hSw.below; have t1 := HL1.out w hSw.below; have s2 := HM2.out w hSw.below; have t2 := HL2.out w hSw.below; have s3 := HM3.out w hSw.below; have t3 := HL3.out w hSw.below; go_simp; first | done | with_reducible rfl)
                    simp only [Act.put, List.getElem_toArray, List.getElem_cons_zero, List.getElem_cons_succ, List.setIfInBounds_toArray, List.set_cons_zero, List.set_cons_succ]
                    refine wpAnyH_take (i := 7) (v := ?_) rfl (by kernel_rfl) (by kernel_rfl) (by kernel_rfl) (fun _ _ _ h => h) (Or.inl ⟨by rfl, ?_⟩) (by assumption) ?_
                    rotate_left
                    focus (intro w hSw; have p0 := hSw.f.cell 7; have q0 := hSw.g.cell 7; simp only [HX1.out, HX2.out, List.getElem?_cons_zero, List.getElem?_cons_succ] at p0 q0; have s0 := HM0.out w hSw.below; have t0 := HL0.out w hSw.below; have s1 := HM1.out w hSw.below; have t1 := HL1.out w hSw.below; have s2 := HM2.out w hSw.below; have t2 := HL2.out w hSw.below; have s3 := HM3.out w hSw.below; have t3 := HL3.out w hSw.below; go_simp; first | done | with_reducible rfl)
                    simp only [Act.put, List.getElem_toArray, List.getElem_cons_zero, List.getElem_cons_succ, List.setIfInBounds_toArray, List.set_cons_zero, List.set_cons_succ]
                    refine wpAnyH_take (i := 8) (v := ?_) rfl (by kernel_rfl) (by kernel_rfl) (by kernel_rfl) (fun _ _ _ h => h) (Or.inl ⟨by rfl, ?_⟩) (by assumption) ?_
                    rotate_left
                    focus (intro w hSw; have p0 := hSw.f.cell 7; have q0 := hSw.g.cell 7; simp only [HX1.out, HX2.out, List.getElem?_cons_zero, List.getElem?_cons_succ] at p0 q0; have s0 := HM0.out w hSw.below; have t0 := HL0.out w hSw.below; have s1 := HM1.out w hSw.below; have t1 := HL1.out w hSw.below; have s2 := HM2.out w hSw.below; have t2 := HL2.out w hSw.below; have s3 := HM3.out w hSw.below; have t3 := HL3.out w hSw.below; go_simp; first | done | with_reducible rfl)
                    simp only [Act.put, List.getElem_toArray, List.getElem_cons_zero, List.getElem_cons_succ, List.setIfInBounds_toArray, List.set_cons_zero, List.set_cons_succ]
                    refine wpAnyH_take (i := 9) (v := ?_) rfl (by kernel_rfl) (by kernel_rfl) (by kernel_rfl) (fun _ _ _ h => h) (Or.inl ⟨by rfl, ?_⟩) (by assumption) ?_
                    rotate_left
                    focus (intro w hSw; have p0 := hSw.f.cell 7; have q0 := hSw.g.cell 7; simp only [HX1.out, HX2.out, List.getElem?_cons_zero, List.getElem?_cons_succ] at p0 q0; have s0 := HM0.out w hSw.below; have t0 := HL0.out w hSw.below; have s1 := HM1.out w hSw.below; have t1 := HL1.out w hSw.below; have s2 := HM2.out w hSw.below; have t2 := HL2.out w hSw.below; have s3 := HM3.out w hSw.below; have t3 := HL3.out w hSw.below; go_simp; first | done | with_reducible rfl)
                    simp only [Act.put, List.getElem_toArray, List.getElem_cons_zero, List.getElem_cons_succ, List.setIfInBounds_toArray, List.set_cons_zero, List.set_cons_succ]
                    refine wpAnyH_take (i := 10) (v := ?_) rfl (by kernel_rfl) (by kernel_rfl) (by kernel_rfl) (fun _ _ _ h => h) (Or.inl ⟨by rfl, ?_⟩) (by assumption) ?_
                    rotate_left
                    focus (intro w hSw; have p0 := hSw.f.cell 7; have q0 := hSw.g.cell 7; simp only [HX1.out, HX2.out, List.getElem?_cons_zero, List.getElem?_cons_succ] at p0 q0; have s0 := HM0.out w hSw.below; have t0 := HL0.out w hSw.below; have s1 := HM1.out w hSw.below; have t1 := HL1.out w hSw.below; have s2 := HM2.out w hSw.below; have t2 := HL2.out w hSw.below; have s3 := HM3.out w hSw.below; have t3 := HL3.out w hSw.below; go_simp; first | done | with_reducible rfl)
                    simp only [Act.put, List.getElem_toArray, List.getElem_cons_zero, List.getElem_cons_succ, List.setIfInBounds_toArray, List.set_cons_zero, List.set_cons_succ]
                    refine wpAnyH_take (i := 11) (v := ?_) rfl (by kernel_rfl) (by kernel_rfl) (by kernel_rfl) (fun _ _ _ h => h) (Or.inl ⟨by rfl, ?_⟩) (by assumption) ?_
                    rotate_left
                    focus (intro w hSw; have p0 := hSw.f.cell 7; have q0 := hSw.g.cell 7; simp only [HX1.out, HX2.out, List.getElem?_cons_zero, List.getElem?_cons_succ] at p0 q0; have s0 := HM0.out w hSw.below; have t0 := HL0.out w hSw.below; have s1 := HM1.out w hSw.below; have t1 := HL1.out w hSw.below; have s2 := HM2.out w hSw.below; have t2 := HL2.out w hSw.below; have s3 := HM3.out w hSw.below; have t3 := HL3.out w hSw.below; go_simp; first | done | with_reducible rfl)
                    simp only [Act.put, List.getElem_toArray, List.getElem_cons_zero, List.getElem_cons_succ, List.setIfInBounds_toArray, List.set_cons_zero, List.set_cons_succ]
                    refine wpAnyH_take (i := 12) (v := ?_) rfl (by kernel_rfl) (by kernel_rfl) (by kernel_rfl) (fun _ _ _ h => h) (Or.inl ⟨by rfl, ?_⟩) (by assumption) ?_
                    rotate_left
                    focus (intro w hSw; have p0 := hSw.f.cell 7; have q0 := hSw.g.cell 7; simp only [HX1.out, HX2.out, List.getElem?_cons_zero, List.getElem?_cons_succ] at p0 q0; have s0 := HM0.out w hSw.below; have t0 := HL0.out w hSw.below; have s1 := HM1.out w hSw.below; have t1 := HL1.out w hSw.below; have s2 := HM2.out w hSw.below; have t2 := HL2.out w hSw.below; have s3 := HM3.out w hSw.below; have t3 := HL3.out w hSw.below; go_simp; first | done | with_reducible rfl)
                    simp only [Act.put, List.getElem_toArray, List.getElem_cons_zero, List.getElem_cons_succ, List.setIfInBounds_toArray, List.set_cons_zero, List.set_cons_succ]
                    refine wpAnyH_done (by kernel_rfl) ?_ _
                    have HH := Lib.hid hHeld
                    clear hHeld
                    go_wp2
                    go_ret
                    exact IffP.no rfl HNO.out HH.out.below
                  subst b1
                  have tn1 := teq (rfl : x1 = x1)
                  by_cases b2 : x2 = y2
                  rotate_left
                  · have HNO := Lib.hid (HN.out (fun e => b2 (by simp only [Prod.mk.injEq, Ty.mk.injEq, Vr.mk.injEq] at e; exact e.1.2.2)))
                    clear HN HY HA
                    cases x2 <;> cases y2 <;> first | exact absurd rfl b2 | skip
                    all_goals clear b2
                    · go_upto_region 24 with fail
                      refine wp_region_held_drew (S := fun z => TwS w.heap.size X1 X2 w z) (by kernel_rfl) ?_ (fun hHeld => ?_)
                      · exact HT.out.dr
                      refine wpAnyH_take (i := 0) (v := ?_) rfl (by kernel_rfl) (by kernel_rfl) (by kernel_rfl) (fun _ _ _ h => h) (Or.inl ⟨by rfl, ?_⟩) (by assumption) ?_
                      rotate_left
                      focus (intro w hSw; have p0 := hSw.f.cell 7; have q0 := hSw.g.cell 7; simp only [HX1.out, HX2.out, List.getElem?_cons_zero, List.getElem?_cons_succ] at p0 q0; have s0 := HM0.out w hSw.below; have t0 := HL0.out w hSw.below; have s1 := HM1.out w hSw.below; have t1 := HL1.out w hSw.below; have s2 := HM2.out w hSw.below; have t2 := HL2.out w hSw.below; have s3 := HM3.out w hSw.below; have t3 := HL3.out w hSw.below; go_simp; first | done | with_reducible rfl)
                      simp only [Act.put, List.getElem_toArray, List.getElem_cons_zero, List.setIfInBounds_toArray, List.set_cons_zero, List.set_cons_succ]
                      refine wpAnyH_take (i := 1) (v := ?_) rfl (by kernel_rfl) (by kernel_rfl) (by kernel_rfl) (fun _ _ _ h => h) (Or.inl ⟨by rfl, ?_⟩) (by assumption) ?_
                      rotate_left
                      focus (intro w hSw; have p0 := hSw.f.cell 7; have q0 := hSw.g.cell 7; simp only [HX1.out, HX2.out, List.getElem?_cons_zero, List.getElem?_cons_succ] at p0 q0; have s0 := HM0.out w hSw.below; have t0 := HL0.out w hSw.below; have s1 := HM1.out w hSw.below; have t1 := HL1.out w hSw.below; have s2 := HM2.out w hSw.below; have t2 := HL2.out w hSw.below; have s3 := HM3.out w hSw.below; have t3 := HL3.out w hSw.below; go_simp; first | done | with_reducible rfl)
                      simp only [Act.put, List.getElem_toArray, List.getElem_cons_zero, List.getElem_cons_succ, List.setIfInBounds_toArray, List.set_cons_zero, List.set_cons_succ]
                      refine wpAnyH_take (i := 2) (v := ?_) rfl (by kernel_rfl) (by kernel_rfl) (by kernel_rfl) (fun _ _ _ h => h) (Or.inl ⟨by rfl, ?_⟩) (by assumption) ?_
                      rotate_left
                      focus (intro w hSw; have p0 := hSw.f.cell 7; have q0 := hSw.g.cell 7; simp only [HX1.out, HX2.out, List.getElem?_cons_zero, List.getElem?_cons_succ] at p0 q0; have s0 := HM0.out w hSw.below; have t0 := HL0.out w hSw.below; have s1 := HM1.out w hSw.below; have t1 := HL1.out w hSw.below; have s2 := HM2.out w hSw.below; have t2 := HL2.out w hSw.below; have s3 := HM3.out w hSw.below; have t3 := HL3.out w hSw.below; go_simp; first | done | with_reducible rfl)
                      simp only [Act.put, List.getElem_toArray, List.getElem_cons_zero, List.getElem_cons_succ, List.setIfInBounds_toArray, List.set_cons_zero, List.set_cons_succ]
                      refine wpAnyH_take (i := 3) (v := ?_) rfl (by kernel_rfl) (by kernel_rfl) (by kernel_rfl) (fun _ _ _ h => h) (Or.inl ⟨by rfl, ?_⟩) (by assumption) ?_
                      rotate_left
                      focus (intro w hSw; have p0 := hSw.f.cell 7; have q0 := hSw.g.cell 7; simp only [HX1.out, HX2.out, List.getElem?_cons_zero, List.getElem?_cons_succ] at p0 q0; have s0 := HM0.out w hSw.below; have t0 := HL0.out w hSw.below; have s1 := HM1.out w hSw.below; have t1 := HL1.out w hSw.below; have s2 := HM2.out w hSw.below; have t2 := HL2.out w hSw.below; have s3 := HM3.out w hSw.below; have t3 := HL3.out w hSw.below; go_simp; first | done | with_reducible rfl)
                      simp only [Act.put, List.getElem_toArray, List.getElem_cons_zero, List.getElem_cons_succ, List.setIfInBounds_toArray, List.set_cons_zero, List.set_cons_succ]
                      refine wpAnyH_take (i := 4) (v := ?_) rfl (by kernel_rfl) (by kernel_rfl) (by kernel_rfl) (fun _ _ _ h => h) (Or.inl ⟨by rfl, ?_⟩) (by assumption) ?_
                      rotate_left
                      focus (intro w hSw; have p0 := hSw.f.cell 7; have q0 := hSw.g.cell 7; simp only [HX1.out, HX2.out, List.getElem?_cons_zero, List.getElem?_cons_succ] at p0 q0; have s0 := HM0.out w hSw.below; have t0 := HL0.out w hSw.below; have s1 := HM1.out w hSw.below; have t1 := HL1.out w hSw.below; have s2 := HM2.out w hSw.below; have t2 := HL2.out w hSw.below; have s3 := HM3.out w hSw.below; have t3 := HL3.out w hSw.below; go_simp; first | done | with_reducible rfl)
                      simp only [Act.put, List.getElem_toArray, List.getElem_cons_zero, List.getElem_cons_succ, List.setIfInBounds_toArray, List.set_cons_zero, List.set_cons_succ]
                      refine wpAnyH_take (i := 5) (v := ?_) rfl (by kernel_rfl) (by kernel_rfl) (by kernel_rfl) (fun _ _ _ h => h) (Or.inl ⟨by rfl, ?_⟩) (by assumption) ?_
                      rotate_left
                      focus (intro w hSw; have p0 := hSw.f.cell 7; have q0 := hSw.g.cell 7; simp only [HX1.out, HX2.out, List.getElem?_cons_zero, List.getElem?_cons_succ] at p0 q0; have s0 := HM0.out w hSw.below; have t0 := HL0.out w hSw.below; have s1 := HM1.out w hSw.below; have t1 := HL1.out w hSw.below; have s2 := HM2.out w hSw.below; have t2 := HL2.out w hSw.below; have s3 := HM3.out w hSw.below; have t3 := HL3.out w hSw.below; go_simp; first | done | with_reducible rfl)
                      simp only [Act.put, List.getElem_toArray, List.getElem_cons_zero, List.getElem_cons_succ, List.setIfInBounds_toArray, List.set_cons_zero, List.set_cons_succ]
                      refine wpAnyH_take (i := 6) (v := ?_) rfl (by kernel_rfl) (by kernel_rfl) (by kernel_rfl) (fun _ _ _ h => h) (Or.inl ⟨by rfl, ?_⟩) (by assumption) ?_
                      rotate_left
                      focus (intro w hSw; have p0 := hSw.f.cell 7; have q0 := hSw.g.cell 7; simp only [HX1.out, HX2.out, List.getElem?_cons_zero, List.getElem?_cons_succ] at p0 q0; have s0 := HM0.out w hSw.below; have t0 := HL0.out w hSw.below; have s1 := HM1.out w hSw.below; have t1 := HL1.out w hSw.below; have s2 := HM2.out w hSw.below; have t2 := HL2.out w hSw.below; have s3 := HM3.out w hSw.below; have t3 := HL3.out w hSw.below; go_simp; first | done | with_reducible rfl)
                      simp only [Act.put, List.getElem_toArray, List.getElem_cons_zero, List.getElem_cons_succ, List.setIfInBounds_toArray, List.set_cons_zero, List.set_cons_succ]
                      refine wpAnyH_take (i := 7) (v := ?_) rfl (by kernel_rfl) (by kernel_rfl) (by kernel_rfl) (fun _ _ _ h => h) (Or.inl ⟨by rfl, ?_⟩) (by assumption) ?_
                      rotate_left
                      focus (intro w hSw; have p0 := hSw.f.cell 7; have q0 := hSw.g.cell 7; simp only [HX1.out, HX2.out, List.getElem?_cons_zero, List.getElem?_cons_succ] at p0 q0; have s0 := HM0.out w hSw.below; have t0 := HL0.out w hSw.below; have s1 := HM1.out w hSw.below; have t1 := HL1.out w hSw.below; have s2 := HM2.out w hSw.below; have t2 := HL2.out w hSw.below; have s3 := HM3.out w hSw.below; have t3 := HL3.out w hSw.below; go_simp; first | done | with_reducible rfl)
                      simp only [Act.put, List.getElem_toArray, List.getElem_cons_zero, List.getElem_cons_succ, List.setIfInBounds_toArray, List.set_cons_zero, List.set_cons_succ]
                      refine wpAnyH_take (i := 8) (v := ?_) rfl (by kernel_rfl) (by kernel_rfl) (by kernel_rfl) (fun _ _ _ h => h) (Or.inl ⟨by rfl, ?_⟩) (by assumption) ?_
                      rotate_left
                      focus (intro w hSw; have p0 := hSw.f.cell 7; have q0 := hSw.g.cell 7; simp only [HX1.out, HX2.out, List.getElem?_cons_zero, List.getElem?_cons_succ] at p0 q0; have s0 := HM0.out w hSw.below; have t0 := HL0.out w hSw.below; have s1 := HM1.out w hSw.below; have t1 := HL1.out w hSw.below; have s2 := HM2.out w hSw.below; have t2 := HL2.out w hSw.below; have s3 := HM3.out w hSw.below; have t3 := HL3.out w hSw.below; go_simp; first | done | with_reducible rfl)
                      simp only [Act.put, List.getElem_toArray, List.getElem_cons_zero, List.getElem_cons_succ, List.setIfInBounds_toArray, List.set_cons_zero, List.set_cons_succ]
                      refine wpAnyH_take (i := 9) (v := ?_) rfl (by kernel_rfl) (by kernel_rfl) (by kernel_rfl) (fun _ _ _ h => h) (Or.inl ⟨by rfl, ?_⟩) (by assumption) ?_
                      rotate_left
                      focus (intro w hSw; have p0 := hSw.f.cell 7; have q0 := hSw.g.cell 7; simp only [HX1.out, HX2.out, List.getElem?_cons_zero, List.getElem?_cons_succ] at p0 q0; have s0 := HM0.out w hSw.below; have t0 := HL0.out w hSw.below; have s1 := HM1.out w hSw.below; have t1 := HL1.out w hSw.below; have s2 := HM2.out w hSw.below; have t2 := HL2.out w hSw.below; have s3 := HM3.out w hSw.below; have t3 := HL3.out w hSw.below; go_simp; first | done | with_reducible rfl)
                      simp only [Act.put, List.getElem_toArray, List.getElem_cons_zero, List.getElem_cons_succ, List.setIfInBounds_toArray, List.set_cons_zero, List.set_cons_succ]
                      refine wpAnyH_take (i := 10) (v := ?_) rfl (by kernel_rfl) (by kernel_rfl) (by kernel_rfl) (fun _ _ _ h => h) (Or.inl ⟨by rfl, ?_⟩) (by assumption) ?_
                      rotate_left
                      focus (intro w hSw; have p0 := hSw.f.cell 7; have q0 := hSw.g.cell 7; simp only [HX1.out, HX2.out, List.getElem?_cons_zero, List.getElem?_cons_succ] at p0 q0; have s0 := HM0.out w hSw.below; have t0 := HL0.out w hSw.below; have s1 := HM1.out w hSw.below; have t1 := HL1.out w hSw.below; have s2 := HM2.out w hSw.below; have t2 := HL2.out w hSw.below; have s3 := HM3.out w hSw.below; have t3 := HL3.out w hSw.below; go_simp; first | done | with_reducible rfl)
                      simp only [Act.put, List.getElem_toArray, List.getElem_cons_zero, List.getElem_cons_succ, List.setIfInBounds_toArray, List.set_cons_zero, List.set_cons_succ]
                      refine wpAnyH_take (i := 11) (v := ?_) rfl (by kernel_rfl) (by kernel_rfl) (by kernel_rfl) (fun _ _ _ h => h) (Or.inl ⟨by rfl, ?_⟩) (by assumption) ?_
                      rotate_left
                      focus (intro w hSw; have p0 := hSw.f.cell 7; have q0 := hSw.g.cell 7; simp only [HX1.out, HX2.out, List.getElem?_cons_zero, List.getElem?_cons_succ] at p0 q0; have s0 := HM0.out w hSw.below; have t0 := HL0.out w hSw.below; have s1 := HM1.out w hSw.below; have t1 := HL1.out w hSw.below; have s2 := HM2.out w hSw.below; have t2 := HL2.out w hSw.below; have s3 := HM3.out w hSw.below; have t3 := HL3.out w hSw.below; go_simp; first | done | with_reducible rfl)
                      simp only [Act.put, List.getElem_toArray, List.getElem_cons_zero, List.getElem_cons_succ, List.setIfInBounds_toArray, List.set_cons_zero, List.set_cons_succ]
                      refine wpAnyH_take (i := 12) (v := ?_) rfl (by kernel_rfl) (by kernel_rfl) (by kernel_rfl) (fun _ _ _ h => h) (Or.inl ⟨by rfl, ?_⟩) (by assumption) ?_
                      rotate_left
                      focus (intro w hSw; have p0 := hSw.f.cell 7; have q0 := hSw.g.cell 7; simp only [HX1.out, HX2.out, List.getElem?_cons_zero, List.getElem?_cons_succ] at p0 q0; have s0 := HM0.out w hSw.below; have t0 := HL0.out w hSw.below; have s1 := HM1.out w hSw.below; have t1 := HL1.out w hSw.below; have s2 := HM2.out w hSw.below; have t2 := HL2.out w hSw.below; have s3 := HM3.out w hSw.below; have t3 := HL3.out w hSw.below; go_simp; first | done | with_reducible rfl)
                      simp only [Act.put, List.getElem_toArray, List.getElem_cons_zero, List.getElem_cons_succ, List.setIfInBounds_toArray, List.set_cons_zero, List.set_cons_succ]
                      refine wpAnyH_done (by kernel_rfl) ?_ _
                      have HH := Lib.hid hHeld
                      clear hHeld
                      go_wp2
                      go_ret
                      exact IffP.no rfl HNO.out HH.out.below
                    · go_upto_region 24 with fail
                      refine wp_region_held_drew (S := fun z => TwS w.heap.size X1 X2 w z) (by kernel_rfl) ?_ (fun hHeld => ?_)
                      · exact HT.out.dr
                      refine wpAnyH_take (i := 0) (v := ?_) rfl (by kernel_rfl) (by kernel_rfl) (by kernel_rfl) (fun _ _ _ h => h) (Or.inl ⟨by rfl, ?_⟩) (by assumption) ?_
                      rotate_left
                      focus (intro w hSw; have p0 := hSw.f.cell 7; have q0 := hSw.g.cell 7; simp only [HX1.out, HX2.out, List.getElem?_cons_zero, List.getElem?_cons_succ] at p0 q0; have s0 := HM0.out w hSw.below; have t0 := HL0.out w hSw.below; have s1 := HM1.out w hSw.below; have t1 := HL1.out w hSw.below; have s2 := HM2.out w hSw.below; have t2 := HL2.out w hSw.below; have s3 := HM3.out w hSw.below; have t3 := HL3.out w hSw.below; go_simp; first | done | with_reducible rfl)
                      simp only [Act.put, List.getElem_toArray, List.getElem_cons_zero, List.setIfInBounds_toArray, List.set_cons_zero, List.set_cons_succ]
                      refine wpAnyH_take (i := 1) (v := ?_) rfl (by kernel_rfl) (by kernel_rfl) (by kernel_rfl) (fun _ _ _ h => h) (Or.inl ⟨by rfl, ?_⟩) (by assumption) ?_
                      rotate_left
                      focus (intro w hSw; have p0 := hSw.f.cell 7; have q0 := hSw.g.cell 7; simp only [HX1.out, HX2.out, List.getElem?_cons_zero, List.getElem?_cons_succ] at p0 q0; have s0 := HM0.out w hSw.below; have t0 := HL0.out w hSw.below; have s1 := HM1.out w hSw.below; have t1 := HL1.out w hSw.below; have s2 := HM2.out w hSw.below; have t2 := HL2.out w hSw.below; have s3 := HM3.out w hSw.below; have t3 := HL3.out w hSw.below; go_simp; first | done | with_reducible rfl)
                      simp only [Act.put, List.getElem_toArray, List.getElem_cons_zero, List.getElem_cons_succ, List.setIfInBounds_toArray, List.set_cons_zero, List.set_cons_succ]
                      refine wpAnyH_take (i := 2) (v := ?_) rfl (by kernel_rfl) (by kernel_rfl) (by kernel_rfl) (fun _ _ _ h => h) (Or.inl ⟨by rfl, ?_⟩) (by assumption) ?_
                      rotate_left
                      focus (intro w hSw; have p0 := hSw.f.cell 7; have q0 := hSw.g.cell 7; simp only [HX1.out, HX2.out, List.getElem?_cons_zero, List.getElem?_cons_succ] at p0 q0; have s0 := HM0.out w hSw.below; have t0 := HL0.out w hSw.below; have s1 := HM1.out w hSw.below; have t1 := HL1.out w hSw.below; have s2 := HM2.out w hSw.below; have t2 := HL2.out w hSw.below; have s3 := HM3.out w hSw.below; have t3 := HL3.out w hSw.below; go_simp; first | done | with_reducible rfl)
                      simp only [Act.put, List.getElem_toArray, List.getElem_cons_zero, List.getElem_cons_succ, List.setIfInBounds_toArray, List.set_cons_zero, List.set_cons_succ]
                      refine wpAnyH_take (i := 3) (v := ?_) rfl (by kernel_rfl) (by kernel_rfl) (by kernel_rfl) (fun _ _ _ h => h) (Or.inl ⟨by rfl, ?_⟩) (by assumption) ?_
                      rotate_left
                      focus (intro w hSw; have p0 := hSw.f.cell 7; have q0 := hSw.g.cell 7; simp only [HX1.out, HX2.out, List.getElem?_cons_zero, List.getElem?_cons_succ] at p0 q0; have s0 := HM0.out w hSw.below; have t0 := HL0.out w hSw.below; have s1 := HM1.out w hSw.below; have t1 := HL1.out w hSw.below; have s2 := HM2.out w hSw.below; have t2 := HL2.out w hSw.below; have s3 := HM3.out w hSw.below; have t3 := HL3.out w hSw.below; go_simp; first | done | with_reducible rfl)
                      simp only [Act.put, List.getElem_toArray, List.getElem_cons_zero, List.getElem_cons_succ, List.setIfInBounds_toArray, List.set_cons_zero, List.set_cons_succ]
                      refine wpAnyH_take (i := 4) (v := ?_) rfl (by kernel_rfl) (by kernel_rfl) (by kernel_rfl) (fun _ _ _ h => h) (Or.inl ⟨by rfl, ?_⟩) (by assumption) ?_
                      rotate_left
                      focus (intro w hSw; have p0 := hSw.f.cell 7; have q0 := hSw.g.cell 7; simp only [HX1.out, HX2.out, List.getElem?_cons_zero, List.getElem?_cons_succ] at p0 q0; have s0 := HM0.out w hSw.below; have t0 := HL0.out w hSw.below; have s1 := HM1.out w hSw.below; have t1 := HL1.out w hSw.below; have s2 := HM2.out w hSw.below; have t2 := HL2.out w hSw.below; have s3 := HM3.out w hSw.below; have t3 := HL3.out w hSw.below; go_simp; first | done | with_reducible rfl)
                      simp only [Act.put, List.getElem_toArray, List.getElem_cons_zero, List.getElem_cons_succ, List.setIfInBounds_toArray, List.set_cons_zero, List.set_cons_succ]
                      refine wpAnyH_take (i := 5) (v := ?_) rfl (by kernel_rfl) (by kernel_rfl) (by kernel_rfl) (fun _ _ _ h => h) (Or.inl ⟨by rfl, ?_⟩) (by assumption) ?_
                      rotate_left
                      focus (intro w hSw; have p0 := hSw.f.cell 7; have q0 := hSw.g.cell 7; simp only [HX1.out, HX2.out, List.getElem?_cons_zero, List.getElem?_cons_succ] at p0 q0; have s0 := HM0.out w hSw.below; have t0 := HL0.out w hSw.below; have s1 := HM1.out w hSw.below; have t1 := HL1.out w hSw.below; have s2 := HM2.out w hSw.below; have t2 := HL2.out w hSw.below; have s3 := HM3.out w hSw.below; have t3 := HL3.out w hSw.below; go_simp; first | done | with_reducible rfl)
                      simp only [Act.put, List.getElem_toArray, List.getElem_cons_zero, List.getElem_cons_succ, List.setIfInBounds_toArray, List.set_cons_zero, List.set_cons_succ]
                      refine wpAnyH_take (i := 6) (v := ?_) rfl (by kernel_rfl) (by kernel_rfl) (by kernel_rfl) (fun _ _ _ h => h) (Or.inl ⟨by rfl, ?_⟩) (by assumption) ?_
                      rotate_left
                      focus (intro w hSw; have p0 := hSw.f.cell 7; have q0 := hSw.g.cell 7; simp only [HX1.out, HX2.out, List.getElem?_cons_zero, List.getElem?_cons_succ] at p0 q0; have s0 := HM0.out w hSw.below; have t0 := HL0.out w hSw.below; have s1 := HM1.out w hSw.below; have t1 := HL1.out w hSw.below; have s2 := HM2.out w hSw.below; have t2 := HL2.out w hSw.below; have s3 := HM3.out w hSw.below; have t3 := HL3.out w hSw.below; go_simp; first | done | with_reducible rfl)
                      simp only [Act.put, List.getElem_toArray, List.getElem_cons_zero, List.getElem_cons_succ, List.setIfInBounds_toArray, List.set_cons_zero, List.set_cons_succ]
                      refine wpAnyH_take (i := 7) (v := ?_) rfl (by kernel_rfl) (by kernel_rfl) (by kernel_rfl) (fun _ _ _ h => h) (Or.inl ⟨by rfl, ?_⟩) (by assumption) ?_
                      rotate_left
                      focus (intro w hSw; have p0 := hSw.f.cell 7; have q0 := hSw.g.cell 7; simp only [HX1.out, HX2.out, List.getElem?_cons_zero, List.getElem?_cons_succ] at p0 q0; have s0 := HM0.out w hSw.below; have t0 := HL0.out w hSw.below; have s1 := HM1.out w hSw.below; have t1 := HL1.out w hSw.below; have s2 := HM2.out w hSw.below; have t2 := HL2.out w hSw.below; have s3 := HM3.out w hSw.below; have t3 := HL3.out w hSw.below; go_simp; first | done | with_reducible rfl)
                      simp only [Act.put, List.getElem_toArray, List.getElem_cons_zero, List.getElem_cons_succ, List.setIfInBounds_toArray, List.set_cons_zero, List.set_cons_succ]
                      refine wpAnyH_take (i := 8) (v := ?_) rfl (by kernel_rfl) (by kernel_rfl) (by kernel_rfl) (fun _ _ _ h => h) (Or.inl ⟨by rfl, ?_⟩) (by assumption) ?_
                      rotate_left
                      focus (intro w hSw; have p0 := hSw.f.cell 7; have q0 := hSw.g.cell 7; simp only [HX1.out, HX2.out, List.getElem?_cons_zero, List.getElem?_cons_succ] at p0 q0; have s0 := HM0.out w hSw.below; have t0 := HL0.out w hSw.below; have s1 := HM1.out w hSw.below; have t1 := HL1.out w hSw.below; have s2 := HM2.out w hSw.below; have t2 := HL2.out w hSw.below; have s3 := HM3.out w hSw.below; have t3 := HL3.out w hSw.below; go_simp; first | done | with_reducible rfl)
                      simp only [Act.put, List.getElem_toArray, List.getElem_cons_zero, List.getElem_cons_succ, List.setIfInBounds_toArray, List.set_cons_zero, List.set_cons_succ]
                      refine wpAnyH_take (i := 9) (v := ?_) rfl (by kernel_rfl) (by kernel_rfl) (by kernel_rfl) (fun _ _ _ h => h) (Or.inl ⟨by rfl, ?_⟩) (by assumption) ?_
                      rotate_left
                      focus (intro w hSw; have p0 := hSw.f.cell 7; have q0 := hSw.g.cell 7; simp only [HX1.out, HX2.out, List.getElem?_cons_zero, List.getElem?_cons_succ] at p0 q0; have s0 := HM0.out w hSw.below; have t0 := HL0.out w hSw.below; have s1 := HM1.out w hSw.below; have t1 := HL1.out w hSw.below; have s2 := HM2.out w hSw.below; have t2 := HL2.out w hSw.below; have s3 := HM3.out w hSw.below; have t3 := HL3.out w hSw.below; go_simp; first | done | with_reducible rfl)
                      simp only [Act.put, List.getElem_toArray, List.getElem_cons_zero, List.getElem_cons_succ, List.setIfInBounds_toArray, List.set_cons_zero, List.set_cons_succ]
                      refine wpAnyH_take (i := 10) (v := ?_) rfl (by kernel_rfl) (by kernel_rfl) (by kernel_rfl) (fun _ _ _ h => h) (Or.inl ⟨by rfl, ?_⟩) (by assumption) ?_
                      rotate_left
                      focus (intro w hSw; have p0 := hSw.f.cell 7; have q0 := hSw.g.cell 7; simp only [HX1.out, HX2.out, List.getElem?_cons_zero, List.getElem?_cons_succ] at p0 q0; have s0 := HM0.out w hSw.below; have t0 := HL0.out w hSw.below; have s1 := HM1.out w hSw.below; have t1 := HL1.out w hSw.below; have s2 := HM2.out w hSw.below; have t2 := HL2.out w hSw.below; have s3 := HM3.out w hSw.below; have t3 := HL3.out w hSw.below; go_simp; first | done | with_reducible rfl)
                      simp only [Act.put, List.getElem_toArray, List.getElem_cons_zero, List.getElem_cons_succ, List.setIfInBounds_toArray, List.set_cons_zero, List.set_cons_succ]
                      refine wpAnyH_take (i := 11) (v := ?_) rfl (by kernel_rfl) (by kernel_rfl) (by kernel_rfl) (fun _ _ _ h => h) (Or.inl ⟨by rfl, ?_⟩) (by assumption) ?_
                      rotate_left
                      focus (intro w hSw; have p0 := hSw.f.cell 7; have q0 := hSw.g.cell 7; simp only [HX1.out, HX2.out, List.getElem?_cons_zero, List.getElem?_cons_succ] at p0 q0; have s0 := HM0.out w hSw.below; have t0 := HL0.out w hSw.below; have s1 := HM1.out w hSw.below; have t1 := HL1.out w hSw.below; have s2 := HM2.out w hSw.below; have t2 := HL2.out w hSw.below; have s3 := HM3.out w hSw.below; have t3 := HL3.out w hSw.below; go_simp; first | done | with_reducible rfl)
                      simp only [Act.put, List.getElem_toArray, List.getElem_cons_zero, List.getElem_cons_succ, List.setIfInBounds_toArray, List.set_cons_zero, List.set_cons_succ]
                      refine wpAnyH_take (i := 12) (v := ?_) rfl (by kernel_rfl) (by kernel_rfl) (by kernel_rfl) (fun _ _ _ h => h) (Or.inl ⟨by rfl, ?_⟩) (by assumption) ?_
                      rotate_left
                      focus (intro w hSw; have p0 := hSw.f.cell 7; have q0 := hSw.g.cell 7; simp only [HX1.out, HX2.out, List.getElem?_cons_zero, List.getElem?_cons_succ] at p0 q0; have s0 := HM0.out w hSw.below; have t0 := HL0.out w hSw.below; have s1 := HM1.out w hSw.below; have t1 := HL1.out w hSw.below; have s2 := HM2.out w hSw.below; have t2 := HL2.out w hSw.below; have s3 := HM3.out w hSw.below; have t3 := HL3.out w hSw.below; go_simp; first | done | with_reducible rfl)
                      simp only [Act.put, List.getElem_toArray, List.getElem_cons_zero, List.getElem_cons_succ, List.setIfInBounds_toArray, List.set_cons_zero, List.set_cons_succ]
                      refine wpAnyH_done (by kernel_rfl) ?_ _
                      have HH := Lib.hid hHeld
                      clear hHeld
                      go_wp2
                      go_ret
                      exact IffP.no rfl HNO.out HH.out.below
                  subst b2
                  by_cases b3 : x3 = y3
                  rotate_left
                  · have HNO := Lib.hid (HN.out (fun e => b3 (by simp only [Prod.mk.injEq, Ty.mk.injEq, Vr.mk.injEq] at e; exact e.2)))
                    have tn3 := tne b3
                    clear b3 HN HY HA
                    go_upto_region 24 with fail
                    refine wp_region_held_drew (S := fun z => TwS w.heap.size X1 X2 w z) (by kernel_rfl) ?_ (fun hHeld => ?_)
                    · exact HT.out.dr
                    refine wpAnyH_take (i := 0) (v := ?_) rfl (by kernel_rfl) (by kernel_rfl) (by kernel_rfl) (fun _ _ _ h => h) (Or.inl ⟨by rfl, ?_⟩) (by assumption) ?_
                    rotate_left
                    focus (intro w hSw; have p0 := hSw.f.cell 7; have q0 := hSw.g.cell 7; simp only [HX1.out, HX2.out, List.getElem?_cons_zero, List.getElem?_cons_succ] at p0 q0; have s0 := HM0.out w hSw.below; have t0 := HL0.out w hSw.below; have s1 := HM1.out w hSw.below; have t1 := HL1.out w hSw.below; have s2 := HM2.out w hSw.below; have t2 := HL2.out w hSw.below; have s3 := HM3.out w hSw.below; have t3 := HL3.out w hSw.below; go_simp; first | done | with_reducible rfl)
                    simp only [Act.put, List.getElem_toArray, List.getElem_cons_zero, List.setIfInBounds_toArray, List.set_cons_zero, List.set_cons_succ]
                    refine wpAnyH_take (i := 1) (v := ?_) rfl (by kernel_rfl) (by kernel_rfl) (by kernel_rfl) (fun _ _ _ h => h) (Or.inl ⟨by rfl, ?_⟩) (by assumption) ?_
                    rotate_left
                    focus (intro w hSw; have p0 := hSw.f.cell 7; have q0 := hSw.g.cell 7; simp only [HX1.out, HX2.out, List.getElem?_cons_zero, List.getElem?_cons_succ] at p0 q0; have s0 := HM0.out w hSw.below; have t0 := HL0.out w hSw.below; have s1 := HM1.out w hSw.below; have t1 := HL1.out w hSw.below; have s2 := HM2.out w hSw.below; have t2 := HL2.out w hSw.below; have s3 := HM3.out w hSw.below; have t3 := HL3.out w hSw.below; go_simp; first | done | with_reducible rfl)
                    simp only [Act.put, List.getElem_toArray, List.getElem_cons_zero, List.getElem_cons_succ, List.setIfInBounds_toArray, List.set_cons_zero, List.set_cons_succ]
                    refine wpAnyH_take (i := 2) (v := ?_) rfl (by kernel_rfl) (by kernel_rfl) (by kernel_rfl) (fun _ _ _ h => h) (Or.inl ⟨by rfl, ?_⟩) (by assumption) ?_
                    rotate_left
                    focus (intro w hSw; have p0 := hSw.f.cell 7; have q0 := hSw.g.cell 7; simp only [HX1.out, HX2.out, List.getElem?_cons_zero, List.getElem?_cons_succ] at p0 q0; have s0 := HM0.out w hSw.below; have t0 := HL0.out w hSw.below; have s1 := HM1.out w hSw.below; have t1 := HL1.out w hSw.below; have s2 := HM2.out w hSw.below; have t2 := HL2.out w hSw.below; have s3 := HM3.out w hSw.below; have t3 := HL3.out w hSw.below; go_simp; first | done | with_reducible rfl)
                    simp only [Act.put, List.getElem_toArray, List.getElem_cons_zero, List.getElem_cons_succ, List.setIfInBounds_toArray, List.set_cons_zero, List.set_cons_succ]
                    refine wpAnyH_take (i := 3) (v := ?_) rfl (by kernel_rfl) (by kernel_rfl) (by kernel_rfl) (fun _ _ _ h => h) (Or.inl ⟨by rfl, ?_⟩) (by assumption) ?_
                    rotate_left
                    focus (intro w hSw; have p0 := hSw.f.cell 7; have q0 := hSw.g.cell 7; simp only [HX1.out, HX2.out, List.getElem?_cons_zero, List.getElem?_cons_succ] at p0 q0; have s0 := HM0.out w hSw.below; have t0 := HL0.out w hSw.below; have s1 := HM1.out w hSw.below; have t1 := HL1.out w hSw.below; have s2 := HM2.out w hSw.below; have t2 := HL2.out w hSw.below; have s3 := HM3.out w hSw.below; have t3 := HL3.out w hSw.below; go_simp; first | done | with_reducible rfl)
                    simp only [Act.put, List.getElem_toArray, List.getElem_cons_zero, List.getElem_cons_succ, List.setIfInBounds_toArray, List.set_cons_zero, List.set_cons_succ]
                    refine wpAnyH_take (i := 4) (v := ?_) rfl (by kernel_rfl) (by kernel_rfl) (by kernel_rfl) (fun _ _ _ h => h) (Or.inl ⟨by rfl, ?_⟩) (by assumption) ?_
                    rotate_left
                    focus (intro w hSw; have p0 := hSw.f.cell 7; have q0 := hSw.g.cell 7; simp only [HX1.out, HX2.out, List.getElem?_cons_zero, List.getElem?_cons_succ] at p0 q0; have s0 := HM0.out w hSw.below; have t0 := HL0.out w hSw.below; have s1 := HM1.out w hSw.below; have t1 := HL1.out w hSw.below; have s2 := HM2.out w hSw.below; have t2 := HL2.out w hSw.below; have s3 := HM3.out w hSw.below; have t3 := HL3.out w hSw.below; go_simp; first | done | with_reducible rfl)
                    simp only [Act.put, List.getElem_toArray, List.getElem_cons_zero, List.getElem_cons_succ, List.setIfInBounds_toArray, List.set_cons_zero, List.set_cons_succ]
                    refine wpAnyH_take (i := 5) (v := ?_) rfl (by kernel_rfl) (by kernel_rfl) (by kernel_rfl) (fun _ _ _ h => h) (Or.inl ⟨by rfl, ?_⟩) (by assumption) ?_
                    rotate_left
                    focus (intro w hSw; have p0 := hSw.f.cell 7; have q0 := hSw.g.cell 7; simp only [HX1.out, HX2.out, List.getElem?_cons_zero, List.getElem?_cons_succ] at p0 q0; have s0 := HM0.out w hSw.below; have t0 := HL0.out w hSw.below; have s1 := HM1.out w hSw.below; have t1 := HL1.out w hSw.below; have s2 := HM2.out w hSw.below; have t2 := HL2.out w hSw.below; have s3 := HM3.out w hSw.below; have t3 := HL3.out w hSw.below; go_simp; first | done | with_reducible rfl)
                    simp only [Act.put, List.getElem_toArray, List.getElem_cons_zero, List.getElem_cons_succ, List.setIfInBounds_toArray, List.set_cons_zero, List.set_cons_succ]
                    refine wpAnyH_take (i := 6) (v := ?_) rfl (by kernel_rfl) (by kernel_rfl) (by kernel_rfl) (fun _ _ _ h => h) (Or.inl ⟨by rfl, ?_⟩) (by assumption) ?_
                    rotate_left
                    focus (intro w hSw; have p0 := hSw.f.cell 7; have q0 := hSw.g.cell 7; simp only [HX1.out, HX2.out, List.getElem?_cons_zero, List.getElem?_cons_succ] at p0 q0; have s0 := HM0.out w hSw.below; have t0 := HL0.out w hSw.below; have s1 := HM1.out w hSw.below; have t1 := HL1.out w hSw.below; have s2 := HM2.out w hSw.below; have t2 := HL2.out w hSw.below; have s3 := HM3.out w hSw.below; have t3 := HL3.out w hSw.below; go_simp; first | done | with_reducible rfl)
                    simp only [Act.put, List.getElem_toArray, List.getElem_cons_zero, List.getElem_cons_succ, List.setIfInBounds_toArray, List.set_cons_zero, List.set_cons_succ]
                    refine wpAnyH_take (i := 7) (v := ?_) rfl (by kernel_rfl) (by kernel_rfl) (by kernel_rfl) (fun _ _ _ h => h) (Or.inl ⟨by rfl, ?_⟩) (by assumption) ?_
                    rotate_left
                    focus (intro w hSw; have p0 := hSw.f.cell 7; have q0 := hSw.g.cell 7; simp only [HX1.out, HX2.out, List.getElem?_cons_zero, List.getElem?_cons_succ] at p0 q0; have s0 := HM0.out w hSw.below; have t0 := HL0.out w hSw.below; have s1 := HM1.out w hSw.below; have t1 := HL1.out w hSw.below; have s2 := HM2.out w hSw.below; have t2 := HL2.out w hSw.below; have s3 := HM3.out w hSw.below; have t3 := HL3.out w hSw.below; go_simp; first | done | with_reducible rfl)
                    simp only [Act.put, List.getElem_toArray, List.getElem_cons_zero, List.getElem_cons_succ, List.setIfInBounds_toArray, List.set_cons_zero, List.set_cons_succ]
                    refine wpAnyH_take (i := 8) (v := ?_) rfl (by kernel_rfl) (by kernel_rfl) (by kernel_rfl) (fun _ _ _ h => h) (Or.inl ⟨by rfl, ?_⟩) (by assumption) ?_
                    rotate_left
                    focus (intro w hSw; have p0 := hSw.f.cell 7; have q0 := hSw.g.cell 7; simp only [HX1.out, HX2.out, List.getElem?_cons_zero, List.getElem?_cons_succ] at p0 q0; have s0 := HM0.out w hSw.below; have t0 := HL0.out w hSw.below; have s1 := HM1.out w hSw.below; have t1 := HL1.out w hSw.below; have s2 := HM2.out w hSw.below; have t2 := HL2.out w hSw.below; have s3 := HM3.out w hSw.below; have t3 := HL3.out w hSw.below; go_simp; first | done | with_reducible rfl)
                    simp only [Act.put, List.getElem_toArray, List.getElem_cons_zero, List.getElem_cons_succ, List.setIfInBounds_toArray, List.set_cons_zero, List.set_cons_succ]
                    refine wpAnyH_take (i := 9) (v := ?_) rfl (by kernel_rfl) (by kernel_rfl) (by kernel_rfl) (fun _ _ _ h => h) (Or.inl ⟨by rfl, ?_⟩) (by assumption) ?_
                    rotate_left
                    focus (intro w hSw; have p0 := hSw.f.cell 7; have q0 := hSw.g.cell 7; simp only [HX1.out, HX2.out, List.getElem?_cons_zero, List.getElem?_cons_succ] at p0 q0; have s0 := HM0.out w hSw.below; have t0 := HL0.out w hSw.below; have s1 := HM1.out w hSw.below; have t1 := HL1.out w hSw.below; have s2 := HM2.out w hSw.below; have t2 := HL2.out w hSw.below; have s3 := HM3.out w hSw.below; have t3 := HL3.out w hSw.below; go_simp; first | done | with_reducible rfl)
                    simp only [Act.put, List.getElem_toArray, List.getElem_cons_zero, List.getElem_cons_succ, List.setIfInBounds_toArray, List.set_cons_zero, List.set_cons_succ]
                    refine wpAnyH_take (i := 10) (v := ?_) rfl (by kernel_rfl) (by kernel_rfl) (by kernel_rfl) (fun _ _ _ h => h) (Or.inl ⟨by rfl, ?_⟩) (by assumption) ?_
                    rotate_left
                    focus (intro w hSw; have p0 := hSw.f.cell 7; have q0 := hSw.g.cell 7; simp only [HX1.out, HX2.out, List.getElem?_cons_zero, List.getElem?_cons_succ] at p0 q0; have s0 := HM0.out w hSw.below; have t0 := HL0.out w hSw.below; have s1 := HM1.out w hSw.below; have t1 := HL1.out w hSw.below; have s2 := HM2.out w hSw.below; have t2 := HL2.out w hSw.below; have s3 := HM3.out w hSw.below; have t3 := HL3.out w hSw.below; go_simp; first | done | with_reducible rfl)
                    simp only [Act.put, List.getElem_toArray, List.getElem_cons_zero, List.getElem_cons_succ, List.setIfInBounds_toArray, List.set_cons_zero, List.set_cons_succ]
                    refine wpAnyH_take (i := 11) (v := ?_) rfl (by kernel_rfl) (by kernel_rfl) (by kernel_rfl) (fun _ _ _ h => h) (Or.inl ⟨by rfl, ?_⟩) (by assumption) ?_
                    rotate_left
                    focus (intro w hSw; have p0 := hSw.f.cell 7; have q0 := hSw.g.cell 7; simp only [HX1.out, HX2.out, List.getElem?_cons_zero, List.getElem?_cons_succ] at p0 q0; have s0 := HM0.out w hSw.below; have t0 := HL0.out w hSw.below; have s1 := HM1.out w hSw.below; have t1 := HL1.out w hSw.below; have s2 := HM2.out w hSw.below; have t2 := HL2.out w hSw.below; have s3 := HM3.out w hSw.below; have t3 := HL3.out w hSw.below; go_simp; first | done | with_reducible rfl)
                    simp only [Act.put, List.getElem_toArray, List.getElem_cons_zero, List.getElem_cons_succ, List.setIfInBounds_toArray, List.set_cons_zero, List.set_cons_succ]
                    refine wpAnyH_take (i := 12) (v := ?_) rfl (by kernel_rfl) (by kernel_rfl) (by kernel_rfl) (fun _ _ _ h => h) (Or.inl ⟨by rfl, ?_⟩) (by assumption) ?_
                    rotate_left
                    focus (intro w hSw; have p0 := hSw.f.cell 7; have q0 := hSw.g.cell 7; simp only [HX1.out, HX2.out, List.getElem?_cons_zero, List.getElem?_cons_succ] at p0 q0; have s0 := HM0.out w hSw.below; have t0 := HL0.out w hSw.below; have s1 := HM1.out w hSw.below; have t1 := HL1.out w hSw.below; have s2 := HM2.out w hSw.below; have t2 := HL2.out w hSw.below; have s3 := HM3.out w hSw.below; have t3 := HL3.out w hSw.below; go_simp; first | done | with_reducible rfl)
                    simp only [Act.put, List.getElem_toArray, List.getElem_cons_zero, List.getElem_cons_succ, List.setIfInBounds_toArray, List.set_cons_zero, List.set_cons_succ]
                    refine wpAnyH_done (by kernel_rfl) ?_ _
                    have HH := Lib.hid hHeld
                    clear hHeld
                    go_wp2
                    go_ret
                    exact IffP.no rfl HNO.out HH.out.below
                  subst b3
                  have tn3 := teq (rfl : x3 = x3)
                  have HA2 := Lib.hid (HY.out rfl)
                  clear HN HY HA
                  go_upto_region 24 with fail
                  refine wp_region_held_drew (S := fun z => TwS w.heap.size X1 X2 w z) (by kernel_rfl) ?_ (fun hHeld => ?_)
                  · exact HT.out.dr
                  refine wpAnyH_take (i := 0) (v := ?_) rfl (by kernel_rfl) (by kernel_rfl) (by kernel_rfl) (fun _ _ _ h => h) (Or.inl ⟨by rfl, ?_⟩) (by assumption) ?_
                  rotate_left
                  focus (intro w hSw; have p0 := hSw.f.cell 7; have q0 := hSw.g.cell 7; simp only [HX1.out, HX2.out, List.getElem?_cons_zero, List.getElem?_cons_succ] at p0 q0; have s0 := HM0.out w hSw.below; have t0 := HL0.out w hSw.below; have s1 := HM1.out w hSw.below; have t1 := HL1.out w hSw.below; have s2 := HM2.out w hSw.below; have t2 := HL2.out w hSw.below; have s3 := HM3.out w hSw.below; have t3 := HL3.out w hSw.below; go_simp; first | done | with_reducible rfl)
                  simp only [Act.put, List.getElem_toArray, List.getElem_cons_zero, List.setIfInBounds_toArray, List.set_cons_zero, List.set_cons_succ]
                  refine wpAnyH_take (i := 1) (v := ?_) rfl (by kernel_rfl) (by kernel_rfl) (by kernel_rfl) (fun _ _ _ h => h) (Or.inl ⟨by rfl, ?_⟩) (by assumption) ?_
                  rotate_left
                  focus (intro w hSw; have p0 := hSw.f.cell 7; have q0 := hSw.g.cell 7; simp only [HX1.out, HX2.out, List.getElem?_cons_zero, List.getElem?_cons_succ] at p0 q0; have s0 := HM0.out w hSw.below; have t0 := HL0.out w hSw.below; have s1 := HM1.out w hSw.below; have t1 := HL1.out w hSw.below; have s2 := HM2.out w hSw.below; have t2 := HL2.out w hSw.below; have s3 := HM3.out w hSw.below; have t3 := HL3.out w hSw.below; go_simp; first | done | with_reducible rfl)
                  simp only [Act.put, List.getElem_toArray, List.getElem_cons_zero, List.getElem_cons_succ, List.setIfInBounds_toArray, List.set_cons_zero, List.set_cons_succ]
                  refine wpAnyH_take (i := 2) (v := ?_) rfl (by kernel_rfl) (by kernel_rfl) (by kernel_rfl) (fun _ _ _ h => h) (Or.inl ⟨by rfl, ?_⟩) (by assumption) ?_
                  rotate_left
                  focus (intro w hSw; have p0 := hSw.f.cell 7; have q0 := hSw.g.cell 7; simp only [HX1.out, HX2.out, List.getElem?_cons_zero, List.getElem?_cons_succ] at p0 q0; have s0 := HM0.out w hSw.below; have t0 := HL0.out w hSw.below; have s1 := HM1.out w hSw.below; have t1 := HL1.out w hSw.below; have s2 := HM2.out w hSw.below; have t2 := HL2.out w hSw.below; have s3 := HM3.out w hSw.below; have t3 := HL3.out w hSw.below; go_simp; first | done | with_reducible rfl)
                  simp only [Act.put, List.getElem_toArray, List.getElem_cons_zero, List.getElem_cons_succ, List.setIfInBounds_toArray, List.set_cons_zero, List.set_cons_succ]
                  refine wpAnyH_take (i := 3) (v := ?_) rfl (by kernel_rfl) (by kernel_rfl) (by kernel_rfl) (fun _ _ _ h => h) (Or.inl ⟨by rfl, ?_⟩) (by assumption) ?_
                  rotate_left
                  focus (intro w hSw; have p0 := hSw.f.cell 7; have q0 := hSw.g.cell 7; simp only [HX1.out, HX2.out, List.getElem?_cons_zero, List.getElem?_cons_succ] at p0 q0; have s0 := HM0.out w hSw.below; have t0 := HL0.out w hSw.below; have s1 := HM1.out w hSw.below; have t1 := HL1.out w hSw.below; have s2 := HM2.out w hSw.below; have t2 := HL2.out w hSw.below; have s3 := HM3.out w hSw.below; have t3 := HL3.out w hSw.below; go_simp; first | done | with_reducible rfl)
                  simp only [Act.put, List.getElem_toArray, List.getElem_cons_zero, List.getElem_cons_succ, List.setIfInBounds_toArray, List.set_cons_zero, List.set_cons_succ]
                  refine wpAnyH_take (i := 4) (v := ?_) rfl (by kernel_rfl) (by kernel_rfl) (by kernel_rfl) (fun _ _ _ h => h) (Or.inl ⟨by rfl, ?_⟩) (by assumption) ?_
                  rotate_left
                  focus (intro w hSw; have p0 := hSw.f.cell 7; have q0 := hSw.g.cell 7; simp only [HX1.out, HX2.out, List.getElem?_cons_zero, List.getElem?_cons_succ] at p0 q0; have s0 := HM0.out w hSw.below; have t0 := HL0.out w hSw.below; have s1 := HM1.out w hSw.below; have t1 := HL1.out w hSw.below; have s2 := HM2.out w hSw.below; have t2 := HL2.out w hSw.below; have s3 := HM3.out w hSw.below; have t3 := HL3.out w hSw.below; go_simp; first | done | with_reducible rfl)
                  simp only [Act.put, List.getElem_toArray, List.getElem_cons_zero, List.getElem_cons_succ, List.setIfInBounds_toArray, List.set_cons_zero, List.set_cons_succ]
                  refine wpAnyH_take (i := 5) (v := ?_) rfl (by kernel_rfl) (by kernel_rfl) (by kernel_rfl) (fun _ _ _ h => h) (Or.inl ⟨by rfl, ?_⟩) (by assumption) ?_
                  rotate_left
                  focus (intro w hSw; have p0 := hSw.f.cell 7; have q0 := hSw.g.cell 7; simp only [HX1.out, HX2.out, List.getElem?_cons_zero, List.getElem?_cons_succ] at p0 q0; have s0 := HM0.out w hSw.below; have t0 := HL0.out w hSw.below; have s1 := HM1.out w hSw.below; have t1 := HL1.out w hSw.below; have s2 := HM2.out w hSw.below; have t2 := HL2.out w hSw.below; have s3 := HM3.out w hSw.below; have t3 := HL3.out w hSw.below; go_simp; first | done | with_reducible rfl)
                  simp only [Act.put, List.getElem_toArray, List.getElem_cons_zero, List.getElem_cons_succ, List.setIfInBounds_toArray, List.set_cons_zero, List.set_cons_succ]
                  refine wpAnyH_take (i := 6) (v := ?_) rfl (by kernel_rfl) (by kernel_rfl) (by kernel_rfl) (fun _ _ _ h => h) (Or.inl ⟨by rfl, ?_⟩) (by assumption) ?_
                  rotate_left
                  focus (intro w hSw; have p0 := hSw.f.cell 7; have q0 := hSw.g.cell 7; simp only [HX1.out, HX2.out, List.getElem?_cons_zero, List.getElem?_cons_succ] at p0 q0; have s0 := HM0.out w hSw.below; have t0 := HL0.out w hSw.below; have s1 := HM1.out w hSw.below; have t1 := HL1.out w hSw.below; have s2 := HM2.out w hSw.below; have t2 := HL2.out w hSw.below; have s3 := HM3.out w hSw.below; have t3 := HL3.out w hSw.below; go_simp; first | done | with_reducible rfl)
                  simp only [Act.put, List.getElem_toArray, List.getElem_cons_zero, List.getElem_cons_succ, List.setIfInBounds_toArray, List.set_cons_zero, List.set_cons_succ]
                  refine wpAnyH_take (i := 7) (v := ?_) rfl (by kernel_rfl) (by kernel_rfl) (by kernel_rfl) (fun _ _ _ h => h) (Or.inl ⟨by rfl, ?_⟩) (by assumption) ?_
                  rotate_left
                  focus (intro w hSw; have p0 := hSw.f.cell 7; have q0 := hSw.g.cell 7; simp only [HX1.out, HX2.out, List.getElem?_cons_zero, List.getElem?_cons_succ] at p0 q0; have s0 := HM0.out w hSw.below; have t0 := HL0.out w hSw.below; have s1 := HM1.out w hSw.below; have t1 := HL1.out w hSw.below; have s2 := HM2.out w hSw.below; have t2 := HL2.out w hSw.below; have s3 := HM3.out w hSw.below; have t3 := HL3.out w hSw.below; go_simp; first | done | with_reducible rfl)
                  simp only [Act.put, List.getElem_toArray, List.getElem_cons_zero, List.getElem_cons_succ, List.setIfInBounds_toArray, List.set_cons_zero, List.set_cons_succ]
                  refine wpAnyH_take (i := 8) (v := ?_) rfl (by kernel_rfl) (by kernel_rfl) (by kernel_rfl) (fun _ _ _ h => h) (Or.inl ⟨by rfl, ?_⟩) (by assumption) ?_
                  rotate_left
                  focus (intro w hSw; have p0 := hSw.f.cell 7; have q0 := hSw.g.cell 7; simp only [HX1.out, HX2.out, List.getElem?_cons_zero, List.getElem?_cons_succ] at p0 q0; have s0 := HM0.out w hSw.below; have t0 := HL0.out w hSw.below; have s1 := HM1.out w hSw.below; have t1 := HL1.out w hSw.below; have s2 := HM2.out w hSw.below; have t2 := HL2.out w hSw.below; have s3 := HM3.out w hSw.below; have t3 := HL3.out w hSw.below; go_simp; first | done | with_reducible rfl)
                  simp only [Act.put, List.getElem_toArray, List.getElem_cons_zero, List.getElem_cons_succ, List.setIfInBounds_toArray, List.set_cons_zero, List.set_cons_succ]
                  refine wpAnyH_take (i := 9) (v := ?_) rfl (by kernel_rfl) (by kernel_rfl) (by kernel_rfl) (fun _ _ _ h => h) (Or.inl ⟨by rfl, ?_⟩) (by assumption) ?_
                  rotate_left
                  focus (intro w hSw; have p0 := hSw.f.cell 7; have q0 := hSw.g.cell 7; simp only [HX1.out, HX2.out, List.getElem?_cons_zero, List.getElem?_cons_succ] at p0 q0; have s0 := HM0.out w hSw.below; have t0 := HL0.out w hSw.below; have s1 := HM1.out w hSw.below; have t1 := HL1.out w hSw.below; have s2 := HM2.out w hSw.below; have t2 := HL2.out w hSw.below; have s3 := HM3.out w hSw.below; have t3 := HL3.out w hSw.below; go_simp; first | done | with_reducible rfl)
                  simp only [Act.put, List.getElem_toArray, List.getElem_cons_zero, List.getElem_cons_succ, List.setIfInBounds_toArray, List.set_cons_zero, List.set_cons_succ]
                  refine wpAnyH_take (i := 10) (v := ?_) rfl (by kernel_rfl) (by kernel_rfl) (by kernel_rfl) (fun _ _ _ h => h) (Or.inl ⟨by rfl, ?_⟩) (by assumption) ?_
                  rotate_left
                  focus (intro w hSw; have p0 := hSw.f.cell 7; have q0 := hSw.g.cell 7; simp only [HX1.out, HX2.out, List.getElem?_cons_zero, List.getElem?_cons_succ] at p0 q0; have s0 := HM0.out w hSw.below; have t0 := HL0.out w hSw.below; have s1 := HM1.out w hSw.below; have t1 := HL1.out w hSw.below; have s2 := HM2.out w hSw.below; have t2 := HL2.out w hSw.below; have s3 := HM3.out w hSw.below; have t3 := HL3.out w hSw.below; go_simp; first | done | with_reducible rfl)
                  simp only [Act.put, List.getElem_toArray, List.getElem_cons_zero, List.getElem_cons_succ, List.setIfInBounds_toArray, List.set_cons_zero, List.set_cons_succ]
                  refine wpAnyH_take (i := 11) (v := ?_) rfl (by kernel_rfl) (by kernel_rfl) (by kernel_rfl) (fun _ _ _ h => h) (Or.inl ⟨by rfl, ?_⟩) (by assumption) ?_
                  rotate_left
                  focus (intro w hSw; have p0 := hSw.f.cell 7; have q0 := hSw.g.cell 7; simp only [HX1.out, HX2.out, List.getElem?_cons_zero, List.getElem?_cons_succ] at p0 q0; have s0 := HM0.out w hSw.below; have t0 := HL0.out w hSw.below; have s1 := HM1.out w hSw.below; have t1 := HL1.out w hSw.below; have s2 := HM2.out w hSw.below; have t2 := HL2.out w hSw.below; have s3 := HM3.out w hSw.below; have t3 := HL3.out w hSw.below; go_simp; first | done | with_reducible rfl)
                  simp only [Act.put, List.getElem_toArray, List.getElem_cons_zero, List.getElem_cons_succ, List.setIfInBounds_toArray, List.set_cons_zero, List.set_cons_succ]
                  refine wpAnyH_take (i := 12) (v := ?_) rfl (by kernel_rfl) (by kernel_rfl) (by kernel_rfl) (fun _ _ _ h => h) (Or.inl ⟨by rfl, ?_⟩) (by assumption) ?_
                  rotate_left
                  focus (intro w hSw; have p0 := hSw.f.cell 7; have q0 := hSw.g.cell 7; simp only [HX1.out, HX2.out, List.getElem?_cons_zero, List.getElem?_cons_succ] at p0 q0; have s0 := HM0.out w hSw.below; have t0 := HL0.out w hSw.below; have s1 := HM1.out w hSw.below; have t1 := HL1.out w hSw.below; have s2 := HM2.out w hSw.below; have t2 := HL2.out w hSw.below; have s3 := HM3.out w hSw.below; have t3 := HL3.out w hSw.below; go_simp; first | done | with_reducible rfl)
                  simp only [Act.put, List.getElem_toArray, List.getElem_cons_zero, List.getElem_cons_succ, List.setIfInBounds_toArray, List.set_cons_zero, List.set_cons_succ]
                  refine wpAnyH_done (by kernel_rfl) ?_ _
                  have HH := Lib.hid hHeld
                  clear hHeld
                  go_wp2
                  go_roundw
                  case rel => exact ⟨k + 1, by omega, by go_num, HA2, HH⟩
                  case measure => simp [intOf]; omega
                · have HE4 : Hid (f.fd = g.fd) := Lib.hid (by
                    have := HA.out
                    rwa [List.take_of_length_le (by have := E4.out; omega), List.take_of_length_le (by have := D4.out; omega)] at this)
                  obtain ⟨wq, hwq⟩ : ∃ wq, wq = wr := ⟨_, rfl⟩
                  subst hwq
                  clear HA hsr
                  have p0 := HT.out.f.cell 8
                  simp only [HX1.out, List.getElem?_cons_zero, List.getElem?_cons_succ] at p0
                  go_wp2
                  clear p0
                  go_loopw [172] (fun i wr => ∃ k : Nat, k ≤ n5 ∧ i = .int .i64 k ∧ Hid (f.mt.take k = g.mt.take k) ∧ Hid (TwS w.heap.size X1 X2 w wr)) (fun i _ => n5 - (intOf i).toNat)
                  case atStart => exact ⟨0, Nat.zero_le _, rfl, Lib.hid (by simp), HT⟩
                  case round =>
                    clear HT
                    obtain ⟨k, hk, rfl, HA, HT⟩ := hrel
                    have hsr := HT.out.below.size
                    by_cases hkl : k < n5
                    · obtain ⟨x, hx⟩ : ∃ v, f.mt[k]? = some v := ⟨_, List.getElem?_eq_getElem (by have := E5.out; omega)⟩
                      obtain ⟨y, hy⟩ : ∃ v, g.mt[k]? = some v := ⟨_, List.getElem?_eq_getElem (by have := D5.out; omega)⟩
                      obtain ⟨gx, ox, cs, rfl, hcx, a6, n6, c6, rfl, hs6⟩ := HK5.out k x hx
                      obtain ⟨gy, oy, cs, rfl, hcy, b6, m6, d6, rfl, ht6⟩ := HJ5.out k y hy
                      have old : ∀ {p : Addr} {v : Value} (z : World), Below w.heap.size w z → w.cell? p = some v → z.cell? p = some v := fun z hz h => (hz.cell (World.block_lt_of_cell? _ _ h)).trans h
                      have HM0 : Hid (∀ z, Below w.heap.size w z → z.cell? ⟨gx, ox + k * 6, none⟩ = some (.string x.1.name)) := Lib.hid (fun z hz => old z hz (hcx 0 _ rfl))
                      have HL0 : Hid (∀ z, Below w.heap.size w z → z.cell? ⟨gy, oy + k * 6, none⟩ = some (.string y.1.name)) := Lib.hid (fun z hz => old z hz (hcy 0 _ rfl))
                      have HM1 : Hid (∀ z, Below w.heap.size w z → z.cell? ⟨gx, ox + k * 6 + 1, none⟩ = some (.bool x.1.st)) := Lib.hid (fun z hz => old z hz (hcx 1 _ rfl))
                      have HL1 : Hid (∀ z, Below w.heap.size w z → z.cell? ⟨gy, oy + k * 6 + 1, none⟩ = some (.bool y.1.st)) := Lib.hid (fun z hz => old z hz (hcy 1 _ rfl))
                      have HM2 : Hid (∀ z, Below w.heap.size w z → z.cell? ⟨gx, ox + k * 6 + 2, none⟩ = some (.slice a6 n6 c6)) := Lib.hid (fun z hz => old z hz (hcx 2 _ rfl))
                      have HL2 : Hid (∀ z, Below w.heap.size w z → z.cell? ⟨gy, oy + k * 6 + 2, none⟩ = some (.slice b6 m6 d6)) := Lib.hid (fun z hz => old z hz (hcy 2 _ rfl))
                      have HM3 : Hid (∀ z, Below w.heap.size w z → z.cell? ⟨gx, ox + k * 6 + 3, none⟩ = some (.string x.1.rn)) := Lib.hid (fun z hz => old z hz (hcx 3 _ rfl))
                      have HL3 : Hid (∀ z, Below w.heap.size w z → z.cell? ⟨gy, oy + k * 6 + 3, none⟩ = some (.string y.1.rn)) := Lib.hid (fun z hz => old z hz (hcy 3 _ rfl))
                      have HM4 : Hid (∀ z, Below w.heap.size w z → z.cell? ⟨gx, ox + k * 6 + 4, none⟩ = some (.bool x.1.ra)) := Lib.hid (fun z hz => old z hz (hcx 4 _ rfl))
                      have HL4 : Hid (∀ z, Below w.heap.size w z → z.cell? ⟨gy, oy + k * 6 + 4, none⟩ = some (.bool y.1.ra)) := Lib.hid (fun z hz => old z hz (hcy 4 _ rfl))
                      have HM5 : Hid (∀ z, Below w.heap.size w z → z.cell? ⟨gx, ox + k * 6 + 5, none⟩ = some (.string x.2)) := Lib.hid (fun z hz => old z hz (hcx 5 _ rfl))
                      have HL5 : Hid (∀ z, Below w.heap.size w z → z.cell? ⟨gy, oy + k * 6 + 5, none⟩ = some (.string y.2)) := Lib.hid (fun z hz => old z hz (hcy 5 _ rfl))
                      have HN : Hid (x ≠ y → ¬ f = g) := Lib.hid (fun hne e => hne (by rw [e, hy] at hx; exact (Option.some.inj hx).symm))
                      have HY : Hid (x = y → f.mt.take (k + 1) = g.mt.take (k + 1)) := Lib.hid (fun e => by
                        have hx' : k < f.mt.length := (List.getElem?_eq_some_iff.1 hx).1
                        have hy' : k < g.mt.length := (List.getElem?_eq_some_iff.1 hy).1
                        rw [List.take_succ_eq_append_getElem hx', List.take_succ_eq_append_getElem hy', HA.out, (List.getElem?_eq_some_iff.1 hx).2, (List.getElem?_eq_some_iff.1 hy).2, e])
                      clear hcx hcy hx hy old
                      obtain ⟨x1, x2⟩ := x
                      obtain ⟨y1, y2⟩ := y
                      dsimp only at hs6 ht6 HM0 HL0 HM1 HL1 HM2 HL2 HM3 HL3 HM4 HL4 HM5 HL5
                      have HS6 := Lib.hid hs6
                      have HS7 := Lib.hid ht6
                      clear hs6 ht6
                      by_cases b0 : x2 = y2
                      rotate_left
                      · have HNO := Lib.hid (HN.out (fun e => b0 (by simp only [Prod.mk.injEq] at e; exact e.2)))
                        have tn := tne b0
                        clear b0 HN HY HA HS6 HS7
                        go_upto_region 30 with fail
                        refine wp_region_held_drew (S := fun z => TwS w.heap.size X1 X2 w z) (by kernel_rfl) ?_ (fun hHeld => ?_)
                        · exact HT.out.dr
                        refine wpAnyH_take (i := 0) (v := ?_) rfl (by kernel_rfl) (by kernel_rfl) (by kernel_rfl) (fun _ _ _ h => h) (Or.inl ⟨by rfl, ?_⟩) (by assumption) ?_
                        rotate_left
                        focus (intro w hSw; have p0 := hSw.f.cell 8; have q0 := hSw.g.cell 8; simp only [HX1.out, HX2.out, List.getElem?_cons_zero, List.getElem?_cons_succ] at p0 q0; have s0 := HM0.out w hSw.below; have t0 := HL0.out w hSw.below; have s1 := HM1.out w hSw.below; have t1 := HL1.out w hSw.below; have s2 := HM2.out w hSw.below; have t2 := HL2.out w hSw.below; have s3 := HM3.out w hSw.below; have t3 := HL3.out w hSw.below; have s4 := HM4.out w hSw.below; have t4 := HL4.out w hSw.below; have s5 := HM5.out w hSw.below; have t5 := HL5.out w hSw.below; go_simp; first | done | with_reducible rfl)
                        simp only [Act.put, List.getElem_toArray, List.getElem_cons_zero, List.setIfInBounds_toArray, List.set_cons_zero, List.set_cons_succ]
                        refine wpAnyH_take (i := 1) (v := ?_) rfl (by kernel_rfl) (by kernel_rfl) (by kernel_rfl) (fun _ _ _ h => h) (Or.inl ⟨by rfl, ?_⟩) (by assumption) ?_
                        rotate_left
                        focus (intro w hSw; have p0 := hSw.f.cell 8; have q0 := hSw.g.cell 8; simp only [HX1.out, HX2.out, List.getElem?_cons_zero, List.getElem?_cons_succ] at p0 q0; have s0 := HM0.out w hSw.below; have t0 := HL0.out w hSw.below; have s1 := HM1.out w hSw.below; have t1 := HL1.out w hSw.below; have s2 := HM2.out w hSw.below; have t2 := HL2.out w hSw.below; have s3 := HM3.out w hSw.below; have t3 := HL3.out w hSw.below; have s4 := HM4.out w hSw.below; have t4 := HL4.out w hSw.below; have s5 := HM5.out w hSw.below; have t5 := HL5.out w hSw.below; go_simp; first | done | with_reducible rfl)
                        simp only [Act.put, List.getElem_toArray, List.getElem_cons_zero, List.getElem_cons_succ, List.setIfInBounds_toArray, List.set_cons_zero, List.set_cons_succ]
                        refine wpAnyH_take (i := 2) (v := ?_) rfl (by kernel_rfl) (by kernel_rfl) (by kernel_rfl) (fun _ _ _ h => h) (Or.inl ⟨by rfl, ?_⟩) (by assumption) ?_
                        rotate_left
                        focus (intro w hSw; have p0 := hSw.f.cell 8; have q0 := hSw.g.cell 8; simp only [HX1.out, HX2.out, List.getElem?_cons_zero, List.getElem?_cons_succ] at p0 q0; have s0 := HM0.out w hSw.below; have t0 := HL0.out w hSw.below; have s1 := HM1.out w hSw.below; have t1 := HL1.out w hSw.below; have s2 := HM2.out w hSw.below; have t2 := HL2.out w hSw.below; have s3 := HM3.out w hSw.below; have t3 := HL3.out w hSw.below; have s4 := HM4.out w hSw.below; have t4 := HL4.out w hSw.below; have s5 := HM5.out w hSw.below; have t5 := HL5.out w hSw.below; go_simp; first | done | with_reducible rfl)
                        simp only [Act.put, List.getElem_toArray, List.getElem_cons_zero, List.getElem_cons_succ, List.setIfInBounds_toArray, List.set_cons_zero, List.set_cons_succ]
                        refine wpAnyH_take (i := 3) (v := ?_) rfl (by kernel_rfl) (by kernel_rfl) (by kernel_rfl) (fun _ _ _ h => h) (Or.inl ⟨by rfl, ?_⟩) (by assumption) ?_
                        rotate_left
                        focus (intro w hSw; have p0 := hSw.f.cell 8; have q0 := hSw.g.cell 8; simp only [HX1.out, HX2.out, List.getElem?_cons_zero, List.getElem?_cons_succ] at p0 q0; have s0 := HM0.out w hSw.below; have t0 := HL0.out w hSw.below; have s1 := HM1.out w hSw.below; have t1 := HL1.out w hSw.below; have s2 := HM2.out w hSw.below; have t2 := HL2.out w hSw.below; have s3 := HM3.out w hSw.below; have t3 := HL3.out w hSw.below; have s4 := HM4.out w hSw.below; have t4 := HL4.out w hSw.below; have s5 := HM5.out w hSw.below; have t5 := HL5.out w hSw.below; go_simp; first | done | with_reducible rfl)
                        simp only [Act.put, List.getElem_toArray, List.getElem_cons_zero, List.getElem_cons_succ, List.setIfInBounds_toArray, List.set_cons_zero, List.set_cons_succ]
                        refine wpAnyH_take (i := 4) (v := ?_) rfl (by kernel_rfl) (by kernel_rfl) (by kernel_rfl) (fun _ _ _ h => h) (Or.inl ⟨by rfl, ?_⟩) (by assumption) ?_
                        rotate_left
                        focus (intro w hSw; have p0 := hSw.f.cell 8; have q0 := hSw.g.cell 8; simp only [HX1.out, HX2.out, List.getElem?_cons_zero, List.getElem?_cons_succ] at p0 q0; have s0 := HM0.out w hSw.below; have t0 := HL0.out w hSw.below; have s1 := HM1.out w hSw.below; have t1 := HL1.out w hSw.below; have s2 := HM2.out w hSw.below; have t2 := HL2.out w hSw.below; have s3 := HM3.out w hSw.below; have t3 := HL3.out w hSw.below; have s4 := HM4.out w hSw.below; have t4 := HL4.out w hSw.below; have s5 := HM5.out w hSw.below; have t5 := HL5.out w hSw.below; go_simp; first | done | with_reducible rfl)
                        simp only [Act.put, List.getElem_toArray, List.getElem_cons_zero, List.getElem_cons_succ, List.setIfInBounds_toArray, List.set_cons_zero, List.set_cons_succ]
                        refine wpAnyH_take (i := 5) (v := ?_) rfl (by kernel_rfl) (by kernel_rfl) (by kernel_rfl) (fun _ _ _ h => h) (Or.inl ⟨by rfl, ?_⟩) (by assumption) ?_
                        rotate_left
                        focus (intro w hSw; have p0 := hSw.f.cell 8; have q0 := hSw.g.cell 8; simp only [HX1.out, HX2.out, List.getElem?_cons_zero, List.getElem?_cons_succ] at p0 q0; have s0 := HM0.out w hSw.below; have t0 := HL0.out w hSw.below; have s1 := HM1.out w hSw.below; have t1 := HL1.out w hSw.below; have s2 := HM2.out w hSw.below; have t2 := HL2.out w hSw.below; have s3 := HM3.out w hSw.below; have t3 := HL3.out w hSw.below; have s4 := HM4.out w hSw.below; have t4 := HL4.out w hSw.below; have s5 := HM5.out w hSw.below; have t5 := HL5.out w hSw.below; go_simp; first | done | with_reducible rfl)
                        simp only [Act.put, List.getElem_toArray, List.getElem_cons_zero, List.getElem_cons_succ, List.setIfInBounds_toArray, List.set_cons_zero, List.set_cons_succ]
                        refine wpAnyH_take (i := 6) (v := ?_) rfl (by kernel_rfl) (by kernel_rfl) (by kernel_rfl) (fun _ _ _ h => h) (Or.inl ⟨by rfl, ?_⟩) (by assumption) ?_
                        rotate_left
                        focus (intro w hSw; have p0 := hSw.f.cell 8; have q0 := hSw.g.cell 8; simp only [HX1.out, HX2.out, List.getElem?_cons_zero, List.getElem?_cons_succ] at p0 q0; have s0 := HM0.out w hSw.below; have t0 := HL0.out w hSw.below; have s1 := HM1.out w hSw.below; have t1 := HL1.out w hSw.below; have s2 := HM2.out w hSw.below; have t2 := HL2.out w hSw.below; have s3 := HM3.out w hSw.below; have t3 := HL3.out w hSw.below; have s4 := HM4.out w hSw.below; have t4 := HL4.out w hSw.below; have s5 := HM5.out w hSw.below; have t5 := HL5.out w hSw.below; go_simp; first | done | with_reducible rfl)
                        simp only [Act.put, List.getElem_toArray, List.getElem_cons_zero, List.getElem_cons_succ, List.setIfInBounds_toArray, List.set_cons_zero, List.set_cons_succ]
                        refine wpAnyH_take (i := 7) (v := ?_) rfl (by kernel_rfl) (by kernel_rfl) (by kernel_rfl) (fun _ _ _ h => h) (Or.inl ⟨by rfl, ?_⟩) (by assumption) ?_
                        rotate_left
                        focus (intro w hSw; have p0 := hSw.f.cell 8; have q0 := hSw.g.cell 8; simp only [HX1.out, HX2.out, List.getElem?_cons_zero, List.getElem?_cons_succ] at p0 q0; have s0 := HM0.out w hSw.below; have t0 := HL0.out w hSw.below; have s1 := HM1.out w hSw.below; have t1 := HL1.out w hSw.below; have s2 := HM2.out w hSw.below; have t2 := HL2.out w hSw.below; have s3 := HM3.out w hSw.below; have t3 := HL3.out w hSw.below; have s4 := HM4.out w hSw.below; have t4 := HL4.out w hSw.below; have s5 := HM5.out w hSw.below; have t5 := HL5.out w hSw.below; go_simp; first | done | with_reducible rfl)
                        simp only [Act.put, List.getElem_toArray, List.getElem_cons_zero, List.getElem_cons_succ, List.setIfInBounds_toArray, List.set_cons_zero, List.set_cons_succ]
                        refine wpAnyH_take (i := 8) (v := ?_) rfl (by kernel_rfl) (by kernel_rfl) (by kernel_rfl) (fun _ _ _ h => h) (Or.inl ⟨by rfl, ?_⟩) (by assumption) ?_
                        rotate_left
                        focus (intro w hSw; have p0 := hSw.f.cell 8; have q0 := hSw.g.cell 8; simp only [HX1.out, HX2.out, List.getElem?_cons_zero, List.getElem?_cons_succ] at p0 q0; have s0 := HM0.out w hSw.below; have t0 := HL0.out w hSw.below; have s1 := HM1.out w hSw.below; have t1 := HL1.out w hSw.below; have s2 := HM2.out w hSw.below; have t2 := HL2.out w hSw.below; have s3 := HM3.out w hSw.below; have t3 := HL3.out w hSw.below; have s4 := HM4.out w hSw.below; have t4 := HL4.out w hSw.below; have s5 := HM5.out w hSw.below; have t5 := HL5.out w hSw.below; go_simp; first | done | with_reducible rfl)
                        simp only [Act.put, List.getElem_toArray, List.getElem_cons_zero, List.getElem_cons_succ, List.setIfInBounds_toArray, List.set_cons_zero, List.set_cons_succ]
                        refine wpAnyH_take (i := 9) (v := ?_) rfl (by kernel_rfl) (by kernel_rfl) (by kernel_rfl) (fun _ _ _ h => h) (Or.inl ⟨by rfl, ?_⟩) (by assumption) ?_
                        rotate_left
                        focus (intro w hSw; have p0 := hSw.f.cell 8; have q0 := hSw.g.cell 8; simp only [HX1.out, HX2.out, List.getElem?_cons_zero, List.getElem?_cons_succ] at p0 q0; have s0 := HM0.out w hSw.below; have t0 := HL0.out w hSw.below; have s1 := HM1.out w hSw.below; have t1 := HL1.out w hSw.below; have s2 := HM2.out w hSw.below; have t2 := HL2.out w hSw.below; have s3 := HM3.out w hSw.below; have t3 := HL3.out w hSw.below; have s4 := HM4.out w hSw.below; have t4 := HL4.out w hSw.below; have s5 := HM5.out w hSw.below; have t5 := HL5.out w hSw.below; go_simp; first | done | with_reducible rfl)
                        simp only [Act.put, List.getElem_toArray, List.getElem_cons_zero, List.getElem_cons_succ, List.setIfInBounds_toArray, List.set_cons_zero, List.set_cons_succ]
                        refine wpAnyH_take (i := 10) (v := ?_) rfl (by kernel_rfl) (by kernel_rfl) (by kernel_rfl) (fun _ _ _ h => h) (Or.inl ⟨by rfl, ?_⟩) (by assumption) ?_
                        rotate_left
                        focus (intro w hSw; have p0 := hSw.f.cell 8; have q0 := hSw.g.cell 8; simp only [HX1.out, HX2.out, List.getElem?_cons_zero, List.getElem?_cons_succ] at p0 q0; have s0 := HM0.out w hSw.below; have t0 := HL0.out w hSw.below; have s1 := HM1.out w hSw.below; have t1 := HL1.out w hSw.below; have s2 := HM2.out w hSw.below; have t2 := HL2.out w hSw.below; have s3 := HM3.out w hSw.below; have t3 := HL3.out w hSw.below; have s4 := HM4.out w hSw.below; have t4 := HL4.out w hSw.below; have s5 := HM5.out w hSw.below; have t5 := HL5.out w hSw.below; go_simp; first | done | with_reducible rfl)
                        simp only [Act.put, List.getElem_toArray, List.getElem_cons_zero, List.getElem_cons_succ, List.setIfInBounds_toArray, List.set_cons_zero, List.set_cons_succ]
                        refine wpAnyH_take (i := 11) (v := ?_) rfl (by kernel_rfl) (by kernel_rfl) (by kernel_rfl) (fun _ _ _ h => h) (Or.inl ⟨by rfl, ?_⟩) (by assumption) ?_
                        rotate_left
                        focus (intro w hSw; have p0 := hSw.f.cell 8; have q0 := hSw.g.cell 8; simp only [HX1.out, HX2.out, List.getElem?_cons_zero, List.getElem?_cons_succ] at p0 q0; have s0 := HM0.out w hSw.below; have t0 := HL0.out w hSw.below; have s1 := HM1.out w hSw.below; have t1 := HL1.out w hSw.below; have s2 := HM2.out w hSw.below; have t2 := HL2.out w hSw.below; have s3 := HM3.out w hSw.below; have t3 := HL3.out w hSw.below; have s4 := HM4.out w hSw.below; have t4 := HL4.out w hSw.below; have s5 := HM5.out w hSw.below; have t5 := HL5.out w hSw.below; go_simp; first | done | with_reducible rfl)
                        simp only [Act.put, List.getElem_toArray, List.getElem_cons_zero, List.getElem_cons_succ, List.setIfInBounds_toArray, List.set_cons_zero, List.set_cons_succ]
                        refine wpAnyH_take (i := 12) (v := ?_) rfl (by kernel_rfl) (by kernel_rfl) (by kernel_rfl) (fun _ _ _ h => h) (Or.inl ⟨by rfl, ?_⟩) (by assumption) ?_
                        rotate_left
                        focus (intro w hSw; have p0 := hSw.f.cell 8; have q0 := hSw.g.cell 8; simp only [HX1.out, HX2.out, List.getElem?_cons_zero, List.getElem?_cons_succ] at p0 q0; have s0 := HM0.out w hSw.below; have t0 := HL0.out w hSw.below; have s1 := HM1.out w hSw.below; have t1 := HL1.out w hSw.below; have s2 := HM2.out w hSw.below; have t2 := HL2.out w hSw.below; have s3 := HM3.out w hSw.below; have t3 := HL3.out w hSw.below; have s4 := HM4.out w hSw.below; have t4 := HL4.out w hSw.below; have s5 := HM5.out w hSw.below; have t5 := HL5.out w hSw.below; go_simp; first | done | with_reducible rfl)
                        simp only [Act.put, List.getElem_toArray, List.getElem_cons_zero, List.getElem_cons_succ, List.setIfInBounds_toArray, List.set_cons_zero, List.set_cons_succ]
                        refine wpAnyH_take (i := 13) (v := ?_) rfl (by kernel_rfl) (by kernel_rfl) (by kernel_rfl) (fun _ _ _ h => h) (Or.inl ⟨by rfl, ?_⟩) (by assumption) ?_
                        rotate_left
                        focus (intro w hSw; have p0 := hSw.f.cell 8; have q0 := hSw.g.cell 8; simp only [HX1.out, HX2.out, List.getElem?_cons_zero, List.getElem?_cons_succ] at p0 q0; have s0 := HM0.out w hSw.below; have t0 := HL0.out w hSw.below; have s1 := HM1.out w hSw.below; have t1 := HL1.out w hSw.below; have s2 := HM2.out w hSw.below; have t2 := HL2.out w hSw.below; have s3 := HM3.out w hSw.below; have t3 := HL3.out w hSw.below; have s4 := HM4.out w hSw.below; have t4 := HL4.out w hSw.below; have s5 := HM5.out w hSw.below; have t5 := HL5.out w hSw.below; go_simp; first | done | with_reducible rfl)
                        simp only [Act.put, List.getElem_toArray, List.getElem_cons_zero, List.getElem_cons_succ, List.setIfInBounds_toArray, List.set_cons_zero, List.set_cons_succ]
                        refine wpAnyH_take (i := 14) (v := ?_) rfl (by kernel_rfl) (by kernel_rfl) (by kernel_rfl) (fun _ _ _ h => h) (Or.inl ⟨by rfl, ?_⟩) (by assumption) ?_
                        rotate_left
                        focus (intro w hSw; have p0 := hSw.f.cell 8; have q0 := hSw.g.cell 8; simp only [HX1.out, HX2.out, List.getElem?_cons_zero, List.getElem?_cons_succ] at p0 q0; have s0 := HM0.out w hSw.below; have t0 := HL0.out w hSw.below; have s1 := HM1.out w hSw.below; have t1 := HL1.out w hSw.below; have s2 := HM2.out w hSw.below; have t2 := HL2.out w hSw.below; have s3 := HM3.out w hSw.below; have t3 := HL3.out w hSw.below; have s4 := HM4.out w hSw.below; have t4 := HL4.out w hSw.below; have s5 := HM5.out w hSw.below; have t5 := HL5.out w hSw.below; go_simp; first | done | with_reducible rfl)
                        simp only [Act.put, List.getElem_toArray, List.getElem_cons_zero, List.getElem_cons_succ, List.setIfInBounds_toArray, List.set_cons_zero, List.set_cons_succ]
                        refine wpAnyH_take (i := 15) (v := ?_) rfl (by kernel_rfl) (by kernel_rfl) (by kernel_rfl) (fun _ _ _ h => h) (Or.inl ⟨by rfl, ?_⟩) (by assumption) ?_
                        rotate_left
                        focus (intro w hSw; have p0 := hSw.f.cell 8; have q0 := hSw.g.cell 8; simp only [HX1.out, HX2.out, List.getElem?_cons_zero, List.getElem?_cons_succ] at p0 q0; have s0 := HM0.out w hSw.below; have t0 := HL0.out w hSw.below; have s1 := HM1.out w hSw.below; have t1 := HL1.out w hSw.below; have s2 := HM2.out w hSw.below; have t2 := HL2.out w hSw.below; have s3 := HM3.out w hSw.below; have t3 := HL3.out w hSw.below; have s4 := HM4.out w hSw.below; have t4 := HL4.out w hSw.below; have s5 := HM5.out w hSw.below; have t5 := HL5.out w hSw.below; go_simp; first | done | with_reducible rfl)
                        simp only [Act.put, List.getElem_toArray, List.getElem_cons_zero, List.getElem_cons_succ, List.setIfInBounds_toArray, List.set_cons_zero, List.set_cons_succ]
                        refine wpAnyH_take (i := 16) (v := undef) rfl (by kernel_rfl) (by kernel_rfl) (by kernel_rfl) (fun _ _ _ h => h) (Or.inr ⟨by rfl, rfl⟩) (by assumption) ?_
                        try simp only [Act.put, List.getElem_toArray, List.getElem_cons_zero, List.getElem_cons_succ, List.setIfInBounds_toArray, List.set_cons_zero, List.set_cons_succ]
                        refine wpAnyH_take (i := 17) (v := undef) rfl (by kernel_rfl) (by kernel_rfl) (by kernel_rfl) (fun _ _ _ h => h) (Or.inr ⟨by rfl, rfl⟩) (by assumption) ?_
                        try simp only [Act.put, List.getElem_toArray, List.getElem_cons_zero, List.getElem_cons_succ, List.setIfInBounds_toArray, List.set_cons_zero, List.set_cons_succ]
                        refine wpAnyH_take (i := 18) (v := undef) rfl (by kernel_rfl) (by kernel_rfl) (by kernel_rfl) (fun _ _ _ h => h) (Or.inr ⟨by rfl, rfl⟩) (by assumption) ?_
                        try simp only [Act.put, List.getElem_toArray, List.getElem_cons_zero, List.getElem_cons_succ, List.setIfInBounds_toArray, List.set_cons_zero, List.set_cons_succ]
                        refine wpAnyH_take (i := 19) (v := undef) rfl (by kernel_rfl) (by kernel_rfl) (by kernel_rfl) (fun _ _ _ h => h) (Or.inr ⟨by rfl, rfl⟩) (by assumption) ?_
                        try simp only [Act.put, List.getElem_toArray, List.getElem_cons_zero, List.getElem_cons_succ, List.setIfInBounds_toArray, List.set_cons_zero, List.set_cons_succ]
                        refine wpAnyH_take (i := 20) (v := undef) rfl (by kernel_rfl) (by kernel_rfl) (by kernel_rfl) (fun _ _ _ h => h) (Or.inr ⟨by rfl, rfl⟩) (by assumption) ?_
                        try simp only [Act.put, List.getElem_toArray, List.getElem_cons_zero, List.getElem_cons_succ, List.setIfInBounds_toArray, List.set_cons_zero, List.set_cons_succ]
                        refine wpAnyH_take (i := 21) (v := undef) rfl (by kernel_rfl) (by kernel_rfl) (by kernel_rfl) (fun _ _ _ h => h) (Or.inr ⟨by rfl, rfl⟩) (by assumption) ?_
                        try simp only [Act.put, List.getElem_toArray, List.getElem_cons_zero, List.getElem_cons_succ, List.setIfInBounds_toArray, List.set_cons_zero, List.set_cons_succ]
                        refine wpAnyH_take (i := 22) (v := undef) rfl (by kernel_rfl) (by kernel_rfl) (by kernel_rfl) (fun _ _ _ h => h) (Or.inr ⟨by rfl, rfl⟩) (by assumption) ?_
                        try simp only [Act.put, List.getElem_toArray, List.getElem_cons_zero, List.getElem_cons_succ, List.setIfInBounds_toArray, List.set_cons_zero, List.set_cons_succ]
                        refine wpAnyH_take (i := 23) (v := undef) rfl (by kernel_rfl) (by kernel_rfl) (by kernel_rfl) (fun _ _ _ h => h) (Or.inr ⟨by rfl, rfl⟩) (by assumption) ?_
                        try simp only [Act.put, List.getElem_toArray, List.getElem_cons_zero, List.getElem_cons_succ, List.setIfInBounds_toArray, List.set_cons_zero, List.set_cons_succ]
                        refine wpAnyH_take (i := 24) (v := undef) rfl (by kernel_rfl) (by kernel_rfl) (by kernel_rfl) (fun _ _ _ h => h) (Or.inr ⟨by rfl, rfl⟩) (by assumption) ?_
                        try simp only [Act.put, List.getElem_toArray, List.getElem_cons_zero, List.getElem_cons_succ, List.setIfInBounds_toArray, List.set_cons_zero, List.set_cons_succ]
                        refine wpAnyH_take (i := 25) (v := undef) rfl (by kernel_rfl) (by kernel_rfl) (by kernel_rfl) (fun _ _ _ h => h) (Or.inr ⟨by rfl, rfl⟩) (by assumption) ?_
                        try simp only [Act.put, List.getElem_toArray, List.getElem_cons_zero, List.getElem_cons_succ, List.setIfInBounds_toArray, List.set_cons_zero, List.set_cons_succ]
                        refine wpAnyH_take (i := 26) (v := undef) rfl (by kernel_rfl) (by kernel_rfl) (by kernel_rfl) (fun _ _ _ h => h) (Or.inr ⟨by rfl, rfl⟩) (by assumption) ?_
                        try simp only [Act.put, List.getElem_toArray, List.getElem_cons_zero, List.getElem_cons_succ, List.setIfInBounds_toArray, List.set_cons_zero, List.set_cons_succ]
                        refine wpAnyH_take (i := 27) (v := undef) rfl (by kernel_rfl) (by kernel_rfl) (by kernel_rfl) (fun _ _ _ h => h) (Or.inr ⟨by rfl, rfl⟩) (by assumption) ?_
                        try simp only [Act.put, List.getElem_toArray, List.getElem_cons_zero, List.getElem_cons_succ, List.setIfInBounds_toArray, List.set_cons_zero, List.set_cons_succ]
                        refine wpAnyH_take (i := 28) (v := undef) rfl (by kernel_rfl) (by kernel_rfl) (by kernel_rfl) (fun _ _ _ h => h) (Or.inr ⟨by rfl, rfl⟩) (by assumption) ?_
                        try simp only [Act.put, List.getElem_toArray, List.getElem_cons_zero, List.getElem_cons_succ, List.setIfInBounds_toArray, List.set_cons_zero, List.set_cons_succ]
                        refine wpAnyH_take (i := 29) (v := undef) rfl (by kernel_rfl) (by kernel_rfl) (by kernel_rfl) (fun _ _ _ h => h) (Or.inr ⟨by rfl, rfl⟩) (by assumption) ?_
                        try simp only [Act.put, List.getElem_toArray, List.getElem_cons_zero, List.getElem_cons_succ, List.setIfInBounds_toArray, List.set_cons_zero, List.set_cons_succ]
                        refine wpAnyH_take (i := 30) (v := undef) rfl (by kernel_rfl) (by kernel_rfl) (by kernel_rfl) (fun _ _ _ h => h) (Or.inr ⟨by rfl, rfl⟩) (by assumption) ?_
                        try simp only [Act.put, List.getElem_toArray, List.getElem_cons_zero, List.getElem_cons_succ, List.setIfInBounds_toArray, List.set_cons_zero, List.set_cons_succ]
                        refine wpAnyH_take (i := 31) (v := undef) rfl (by kernel_rfl) (by kernel_rfl) (by kernel_rfl) (fun _ _ _ h => h) (Or.inr ⟨by rfl, rfl⟩) (by assumption) ?_
                        try simp only [Act.put, List.getElem_toArray, List.getElem_cons_zero, List.getElem_cons_succ, List.setIfInBounds_toArray, List.set_cons_zero, List.set_cons_succ]
                        refine wpAnyH_take (i := 32) (v := ?_) rfl (by kernel_rfl) (by kernel_rfl) (by kernel_rfl) (fun _ _ _ h => h) (Or.inl ⟨by rfl, ?_⟩) (by assumption) ?_
                        rotate_left
                        focus (intro w hSw; have p0 := hSw.f.cell 8; have q0 := hSw.g.cell 8; simp only [HX1.out, HX2.out, List.getElem?_cons_zero, List.getElem?_cons_succ] at p0 q0; have s0 := HM0.out w hSw.below; have t0 := HL0.out w hSw.below; have s1 := HM1.out w hSw.below; have t1 := HL1.out w hSw.below; have s2 := HM2.out w hSw.below; have t2 := HL2.out w hSw.below; have s3 := HM3.out w hSw.below; have t3 := HL3.out w hSw.below; have s4 := HM4.out w hSw.below; have t4 := HL4.out w hSw.below; have s5 := HM5.out w hSw.below; have t5 := HL5.out w hSw.below; go_simp; first | done | with_reducible rfl)
                        simp only [Act.put, List.getElem_toArray, List.getElem_cons_zero, List.getElem_cons_succ, List.setIfInBounds_toArray, List.set_cons_zero, List.set_cons_succ]
                        refine wpAnyH_done (by kernel_rfl) ?_ _
                        have HH := Lib.hid hHeld
                        clear hHeld
                        go_wp2
                        go_ret
                        exact IffP.no rfl HNO.out HH.out.below
                      subst b0
                      have tn := teq (rfl : x2 = x2)
                      have HC : Hid (∀ z, TwS w.heap.size X1 X2 w z → Calls Tryd.prog 31 #[.agg #[.string x1.name, .bool x1.st, .slice a6 n6 c6, .string x1.rn, .bool x1.ra], .agg #[.string y1.name, .bool y1.st, .slice b6 m6 d6, .string y1.rn, .bool y1.ra]] z (IffP (x1 = y1) z)) := Lib.hid (fun z hz => (same24 x1 y1 a6 n6 c6 b6 m6 d6 z (tys_keep (Keeps.of_below hz.below) HS6.out) (tys_keep (Keeps.of_below hz.below) HS7.out)).mono fun e w' h => ⟨_, h.1, by simp, h.2⟩)
                      clear HS6 HS7
                      go_upto_region 30 with fail
                      refine wp_region_held_drew (S := fun z => TwS w.heap.size X1 X2 w z) (by kernel_rfl) ?_ (fun hHeld => ?_)
                      · exact HT.out.dr
                      refine wpAnyH_take (i := 0) (v := ?_) rfl (by kernel_rfl) (by kernel_rfl) (by kernel_rfl) (fun _ _ _ h => h) (Or.inl ⟨by rfl, ?_⟩) (by assumption) ?_
                      rotate_left
                      focus (intro w hSw; have p0 := hSw.f.cell 8; have q0 := hSw.g.cell 8; simp only [HX1.out, HX2.out, List.getElem?_cons_zero, List.getElem?_cons_succ] at p0 q0; have s0 := HM0.out w hSw.below; have t0 := HL0.out w hSw.below; have s1 := HM1.out w hSw.below; have t1 := HL1.out w hSw.below; have s2 := HM2.out w hSw.below; have t2 := HL2.out w hSw.below; have s3 := HM3.out w hSw.below; have t3 := HL3.out w hSw.below; have s4 := HM4.out w hSw.below; have t4 := HL4.out w hSw.below; have s5 := HM5.out w hSw.below; have t5 := HL5.out w hSw.below; go_simp; first | done | with_reducible rfl)
                      simp only [Act.put, List.getElem_toArray, List.getElem_cons_zero, List.setIfInBounds_toArray, List.set_cons_zero, List.set_cons_succ]
                      refine wpAnyH_take (i := 1) (v := ?_) rfl (by kernel_rfl) (by kernel_rfl) (by kernel_rfl) (fun _ _ _ h => h) (Or.inl ⟨by rfl, ?_⟩) (by assumption) ?_
                      rotate_left
                      focus (intro w hSw; have p0 := hSw.f.cell 8; have q0 := hSw.g.cell 8; simp only [HX1.out, HX2.out, List.getElem?_cons_zero, List.getElem?_cons_succ] at p0 q0; have s0 := HM0.out w hSw.below; have t0 := HL0.out w hSw.below; have s1 := HM1.out w hSw.below; have t1 := HL1.out w hSw.below; have s2 := HM2.out w hSw.below; have t2 := HL2.out w hSw.below; have s3 := HM3.out w hSw.below; have t3 := HL3.out w hSw.below; have s4 := HM4.out w hSw.below; have t4 := HL4.out w hSw.below; have s5 := HM5.out w hSw.below; have t5 := HL5.out w hSw.below; go_simp; first | done | with_reducible rfl)
                      simp only [Act.put, List.getElem_toArray, List.getElem_cons_zero, List.getElem_cons_succ, List.setIfInBounds_toArray, List.set_cons_zero, List.set_cons_succ]
                      refine wpAnyH_take (i := 2) (v := ?_) rfl (by kernel_rfl) (by kernel_rfl) (by kernel_rfl) (fun _ _ _ h => h) (Or.inl ⟨by rfl, ?_⟩) (by assumption) ?_
                      rotate_left
                      focus (intro w hSw; have p0 := hSw.f.cell 8; have q0 := hSw.g.cell 8; simp only [HX1.out, HX2.out, List.getElem?_cons_zero, List.getElem?_cons_succ] at p0 q0; have s0 := HM0.out w hSw.below; have t0 := HL0.out w hSw.below; have s1 := HM1.out w hSw.below; have t1 := HL1.out w hSw.below; have s2 := HM2.out w hSw.below; have t2 := HL2.out w hSw.below; have s3 := HM3.out w hSw.below; have t3 := HL3.out w hSw.below; have s4 := HM4.out w hSw.below; have t4 := HL4.out w hSw.below; have s5 := HM5.out w hSw.below; have t5 := HL5.out w hSw.below; go_simp; first | done | with_reducible rfl)
                      simp only [Act.put, List.getElem_toArray, List.getElem_cons_zero, List.getElem_cons_succ, List.setIfInBounds_toArray, List.set_cons_zero, List.set_cons_succ]
                      refine wpAnyH_take (i := 3) (v := ?_) rfl (by kernel_rfl) (by kernel_rfl) (by kernel_rfl) (fun _ _ _ h => h) (Or.inl ⟨by rfl, ?_⟩) (by assumption) ?_
                      rotate_left
                      focus (intro w hSw; have p0 := hSw.f.cell 8; have q0 := hSw.g.cell 8; simp only [HX1.out, HX2.out, List.getElem?_cons_zero, List.getElem?_cons_succ] at p0 q0; have s0 := HM0.out w hSw.below; have t0 := HL0.out w hSw.below; have s1 := HM1.out w hSw.below; have t1 := HL1.out w hSw.below; have s2 := HM2.out w hSw.below; have t2 := HL2.out w hSw.below; have s3 := HM3.out w hSw.below; have t3 := HL3.out w hSw.below; have s4 := HM4.out w hSw.below; have t4 := HL4.out w hSw.below; have s5 := HM5.out w hSw.below; have t5 := HL5.out w hSw.below; go_simp; first | done | with_reducible rfl)
                      simp only [Act.put, List.getElem_toArray, List.getElem_cons_zero, List.getElem_cons_succ, List.setIfInBounds_toArray, List.set_cons_zero, List.set_cons_succ]
                      refine wpAnyH_take (i := 4) (v := ?_) rfl (by kernel_rfl) (by kernel_rfl) (by kernel_rfl) (fun _ _ _ h => h) (Or.inl ⟨by rfl, ?_⟩) (by assumption) ?_
                      rotate_left
                      focus (intro w hSw; have p0 := hSw.f.cell 8; have q0 := hSw.g.cell 8; simp only [HX1.out, HX2.out, List.getElem?_cons_zero, List.getElem?_cons_succ] at p0 q0; have s0 := HM0.out w hSw.below; have t0 := HL0.out w hSw.below; have s1 := HM1.out w hSw.below; have t1 := HL1.out w hSw.below; have s2 := HM2.out w hSw.below; have t2 := HL2.out w hSw.below; have s3 := HM3.out w hSw.below; have t3 := HL3.out w hSw.below; have s4 := HM4.out w hSw.below; have t4 := HL4.out w hSw.below; have s5 := HM5.out w hSw.below; have t5 := HL5.out w hSw.below; go_simp; first | done | with_reducible rfl)
                      simp only [Act.put, List.getElem_toArray, List.getElem_cons_zero, List.getElem_cons_succ, List.setIfInBounds_toArray, List.set_cons_zero, List.set_cons_succ]
                      refine wpAnyH_take (i := 5) (v := ?_) rfl (by kernel_rfl) (by kernel_rfl) (by kernel_rfl) (fun _ _ _ h => h) (Or.inl ⟨by rfl, ?_⟩) (by assumption) ?_
                      rotate_left
                      focus (intro w hSw; have p0 := hSw.f.cell 8; have q0 := hSw.g.cell 8; simp only [HX1.out, HX2.out, List.getElem?_cons_zero, List.getElem?_cons_succ] at p0 q0; have s0 := HM0.out w hSw.below; have t0 := HL0.out w hSw.below; have s1 := HM1.out w hSw.below; have t1 := HL1.out w hSw.below; have s2 := HM2.out w hSw.below; have t2 := HL2.out w hSw.below; have s3 := HM3.out w hSw.below; have t3 := HL3.out w hSw.below; have s4 := HM4.out w hSw.below; have t4 := HL4.out w hSw.below; have s5 := HM5.out w hSw.below; have t5 := HL5.out w hSw.below; go_simp; first | done | with_reducible rfl)
                      simp only [Act.put, List.getElem_toArray, List.getElem_cons_zero, List.getElem_cons_succ, List.setIfInBounds_toArray, List.set_cons_zero, List.set_cons_succ]
                      refine wpAnyH_take (i := 6) (v := ?_) rfl (by kernel_rfl) (by kernel_rfl) (by kernel_rfl) (fun _ _ _ h => h) (Or.inl ⟨by rfl, ?_⟩) (by assumption) ?_
                      rotate_left
                      focus (intro w hSw; have p0 := hSw.f.cell 8; have q0 := hSw.g.cell 8; simp only [HX1.out, HX2.out, List.getElem?_cons_zero, List.getElem?_cons_succ] at p0 q0; have s0 := HM0.out w hSw.below; have t0 := HL0.out w hSw.below; have s1 := HM1.out w hSw.below; have t1 := HL1.out w hSw.below; have s2 := HM2.out w hSw.below; have t2 := HL2.out w hSw.below; have s3 := HM3.out w hSw.below; have t3 := HL3.out w hSw.below; have s4 := HM4.out w hSw.below; have t4 := HL4.out w hSw.below; have s5 := HM5.out w hSw.below; have t5 := HL5.out w hSw.below; go_simp; first | done | with_reducible rfl)
                      simp only [Act.put, List.getElem_toArray, List.getElem_cons_zero, List.getElem_cons_succ, List.setIfInBounds_toArray, List.set_cons_zero, List.set_cons_succ]
                      refine wpAnyH_take (i := 7) (v := ?_) rfl (by kernel_rfl) (by kernel_rfl) (by kernel_rfl) (fun _ _ _ h => h) (Or.inl ⟨by rfl, ?_⟩) (by assumption) ?_
                      rotate_left
                      focus (intro w hSw; have p0 := hSw.f.cell 8; have q0 := hSw.g.cell 8; simp only [HX1.out, HX2.out, List.getElem?_cons_zero, List.getElem?_cons_succ] at p0 q0; have s0 := HM0.out w hSw.below; have t0 := HL0.out w hSw.below; have s1 := HM1.out w hSw.below; have t1 := HL1.out w hSw.below; have s2 := HM2.out w hSw.below; have t2 := HL2.out w hSw.below; have s3 := HM3.out w hSw.below; have t3 := HL3.out w hSw.below; have s4 := HM4.out w hSw.below; have t4 := HL4.out w hSw.below; have s5 := HM5.out w hSw.below; have t5 := HL5.out w hSw.below; go_simp; first | done | with_reducible rfl)
                      simp only [Act.put, List.getElem_toArray, List.getElem_cons_zero, List.getElem_cons_succ, List.setIfInBounds_toArray, List.set_cons_zero, List.set_cons_succ]
                      refine wpAnyH_take (i := 8) (v := ?_) rfl (by kernel_rfl) (by kernel_rfl) (by kernel_rfl) (fun _ _ _ h => h) (Or.inl ⟨by rfl, ?_⟩) (by assumption) ?_
                      rotate_left
                      focus (intro w hSw; have p0 := hSw.f.cell 8; have q0 := hSw.g.cell 8; simp only [HX1.out, HX2.out, List.getElem?_cons_zero, List.getElem?_cons_succ] at p0 q0; have s0 := HM0.out w hSw.below; have t0 := HL0.out w hSw.below; have s1 := HM1.out w hSw.below; have t1 := HL1.out w hSw.below; have s2 := HM2.out w hSw.below; have t2 := HL2.out w hSw.below; have s3 := HM3.out w hSw.below; have t3 := HL3.out w hSw.below; have s4 := HM4.out w hSw.below; have t4 := HL4.out w hSw.below; have s5 := HM5.out w hSw.below; have t5 := HL5.out w hSw.below; go_simp; first | done | with_reducible rfl)
                      simp only [Act.put, List.getElem_toArray, List.getElem_cons_zero, List.getElem_cons_succ, List.setIfInBounds_toArray, List.set_cons_zero, List.set_cons_succ]
                      refine wpAnyH_take (i := 9) (v := ?_) rfl (by kernel_rfl) (by kernel_rfl) (by kernel_rfl) (fun _ _ _ h => h) (Or.inl ⟨by rfl, ?_⟩) (by assumption) ?_
                      rotate_left
                      focus (intro w hSw; have p0 := hSw.f.cell 8; have q0 := hSw.g.cell 8; simp only [HX1.out, HX2.out, List.getElem?_cons_zero, List.getElem?_cons_succ] at p0 q0; have s0 := HM0.out w hSw.below; have t0 := HL0.out w hSw.below; have s1 := HM1.out w hSw.below; have t1 := HL1.out w hSw.below; have s2 := HM2.out w hSw.below; have t2 := HL2.out w hSw.below; have s3 := HM3.out w hSw.below; have t3 := HL3.out w hSw.below; have s4 := HM4.out w hSw.below; have t4 := HL4.out w hSw.below; have s5 := HM5.out w hSw.below; have t5 := HL5.out w hSw.below; go_simp; first | done | with_reducible rfl)
                      simp only [Act.put, List.getElem_toArray, List.getElem_cons_zero, List.getElem_cons_succ, List.setIfInBounds_toArray, List.set_cons_zero, List.set_cons_succ]
                      refine wpAnyH_take (i := 10) (v := ?_) rfl (by kernel_rfl) (by kernel_rfl) (by kernel_rfl) (fun _ _ _ h => h) (Or.inl ⟨by rfl, ?_⟩) (by assumption) ?_
                      rotate_left
                      focus (intro w hSw; have p0 := hSw.f.cell 8; have q0 := hSw.g.cell 8; simp only [HX1.out, HX2.out, List.getElem?_cons_zero, List.getElem?_cons_succ] at p0 q0; have s0 := HM0.out w hSw.below; have t0 := HL0.out w hSw.below; have s1 := HM1.out w hSw.below; have t1 := HL1.out w hSw.below; have s2 := HM2.out w hSw.below; have t2 := HL2.out w hSw.below; have s3 := HM3.out w hSw.below; have t3 := HL3.out w hSw.below; have s4 := HM4.out w hSw.below; have t4 := HL4.out w hSw.below; have s5 := HM5.out w hSw.below; have t5 := HL5.out w hSw.below; go_simp; first | done | with_reducible rfl)
                      simp only [Act.put, List.getElem_toArray, List.getElem_cons_zero, List.getElem_cons_succ, List.setIfInBounds_toArray, List.set_cons_zero, List.set_cons_succ]
                      refine wpAnyH_take (i := 11) (v := ?_) rfl (by kernel_rfl) (by kernel_rfl) (by kernel_rfl) (fun _ _ _ h => h) (Or.inl ⟨by rfl, ?_⟩) (by assumption) ?_
                      rotate_left
                      focus (intro w hSw; have p0 := hSw.f.cell 8; have q0 := hSw.g.cell 8; simp only [HX1.out, HX2.out, List.getElem?_cons_zero, List.getElem?_cons_succ] at p0 q0; have s0 := HM0.out w hSw.below; have t0 := HL0.out w hSw.below; have s1 := HM1.out w hSw.below; have t1 := HL1.out w hSw.below; have s2 := HM2.out w hSw.below; have t2 := HL2.out w hSw.below; have s3 := HM3.out w hSw.below; have t3 := HL3.out w hSw.below; have s4 := HM4.out w hSw.below; have t4 := HL4.out w hSw.below; have s5 := HM5.out w hSw.below; have t5 := HL5.out w hSw.below; go_simp; first | done | with_reducible rfl)
                      simp only [Act.put, List.getElem_toArray, List.getElem_cons_zero, List.getElem_cons_succ, List.setIfInBounds_toArray, List.set_cons_zero, List.set_cons_succ]
                      refine wpAnyH_take (i := 12) (v := ?_) rfl (by kernel_rfl) (by kernel_rfl) (by kernel_rfl) (fun _ _ _ h => h) (Or.inl ⟨by rfl, ?_⟩) (by assumption) ?_
                      rotate_left
                      focus (intro w hSw; have p0 := hSw.f.cell 8; have q0 := hSw.g.cell 8; simp only [HX1.out, HX2.out, List.getElem?_cons_zero, List.getElem?_cons_succ] at p0 q0; have s0 := HM0.out w hSw.below; have t0 := HL0.out w hSw.below; have s1 := HM1.out w hSw.below; have t1 := HL1.out w hSw.below; have s2 := HM2.out w hSw.below; have t2 := HL2.out w hSw.below; have s3 := HM3.out w hSw.below; have t3 := HL3.out w hSw.below; have s4 := HM4.out w hSw.below; have t4 := HL4.out w hSw.below; have s5 := HM5.out w hSw.below; have t5 := HL5.out w hSw.below; go_simp; first | done | with_reducible rfl)
                      simp only [Act.put, List.getElem_toArray, List.getElem_cons_zero, List.getElem_cons_succ, List.setIfInBounds_toArray, List.set_cons_zero, List.set_cons_succ]
                      refine wpAnyH_take (i := 13) (v := ?_) rfl (by kernel_rfl) (by kernel_rfl) (by kernel_rfl) (fun _ _ _ h => h) (Or.inl ⟨by rfl, ?_⟩) (by assumption) ?_
                      rotate_left
                      focus (intro w hSw; have p0 := hSw.f.cell 8; have q0 := hSw.g.cell 8; simp only [HX1.out, HX2.out, List.getElem?_cons_zero, List.getElem?_cons_succ] at p0 q0; have s0 := HM0.out w hSw.below; have t0 := HL0.out w hSw.below; have s1 := HM1.out w hSw.below; have t1 := HL1.out w hSw.below; have s2 := HM2.out w hSw.below; have t2 := HL2.out w hSw.below; have s3 := HM3.out w hSw.below; have t3 := HL3.out w hSw.below; have s4 := HM4.out w hSw.below; have t4 := HL4.out w hSw.below; have s5 := HM5.out w hSw.below; have t5 := HL5.out w hSw.below; go_simp; first | done | with_reducible rfl)
                      simp only [Act.put, List.getElem_toArray, List.getElem_cons_zero, List.getElem_cons_succ, List.setIfInBounds_toArray, List.set_cons_zero, List.set_cons_succ]
                      refine wpAnyH_take (i := 14) (v := ?_) rfl (by kernel_rfl) (by kernel_rfl) (by kernel_rfl) (fun _ _ _ h => h) (Or.inl ⟨by rfl, ?_⟩) (by assumption) ?_
                      rotate_left
                      focus (intro w hSw; have p0 := hSw.f.cell 8; have q0 := hSw.g.cell 8; simp only [HX1.out, HX2.out, List.getElem?_cons_zero, List.getElem?_cons_succ] at p0 q0; have s0 := HM0.out w hSw.below; have t0 := HL0.out w hSw.below; have s1 := HM1.out w hSw.below; have t1 := HL1.out w hSw.below; have s2 := HM2.out w hSw.below; have t2 := HL2.out w hSw.below; have s3 := HM3.out w hSw.below; have t3 := HL3.out w hSw.below; have s4 := HM4.out w hSw.below; have t4 := HL4.out w hSw.below; have s5 := HM5.out w hSw.below; have t5 := HL5.out w hSw.below; go_simp; first | done | with_reducible rfl)
                      simp only [Act.put, List.getElem_toArray, List.getElem_cons_zero, List.getElem_cons_succ, List.setIfInBounds_toArray, List.set_cons_zero, List.set_cons_succ]
                      refine wpAnyH_take (i := 15) (v := ?_) rfl (by kernel_rfl) (by kernel_rfl) (by kernel_rfl) (fun _ _ _ h => h) (Or.inl ⟨by rfl, ?_⟩) (by assumption) ?_
                      rotate_left
                      focus (intro w hSw; have p0 := hSw.f.cell 8; have q0 := hSw.g.cell 8; simp only [HX1.out, HX2.out, List.getElem?_cons_zero, List.getElem?_cons_succ] at p0 q0; have s0 := HM0.out w hSw.below; have t0 := HL0.out w hSw.below; have s1 := HM1.out w hSw.below; have t1 := HL1.out w hSw.below; have s2 := HM2.out w hSw.below; have t2 := HL2.out w hSw.below; have s3 := HM3.out w hSw.below; have t3 := HL3.out w hSw.below; have s4 := HM4.out w hSw.below; have t4 := HL4.out w hSw.below; have s5 := HM5.out w hSw.below; have t5 := HL5.out w hSw.below; go_simp; first | done | with_reducible rfl)
                      simp only [Act.put, List.getElem_toArray, List.getElem_cons_zero, List.getElem_cons_succ, List.setIfInBounds_toArray, List.set_cons_zero, List.set_cons_succ]
                      refine wpAnyH_take (i := 16) (v := ?_) rfl (by kernel_rfl) (by kernel_rfl) (by kernel_rfl) (fun _ _ _ h => h) (Or.inl ⟨by rfl, ?_⟩) (by assumption) ?_
                      rotate_left
                      focus (intro w hSw; have p0 := hSw.f.cell 8; have q0 := hSw.g.cell 8; simp only [HX1.out, HX2.out, List.getElem?_cons_zero, List.getElem?_cons_succ] at p0 q0; have s0 := HM0.out w hSw.below; have t0 := HL0.out w hSw.below; have s1 := HM1.out w hSw.below; have t1 := HL1.out w hSw.below; have s2 := HM2.out w hSw.below; have t2 := HL2.out w hSw.below; have s3 := HM3.out w hSw.below; have t3 := HL3.out w hSw.below; have s4 := HM4.out w hSw.below; have t4 := HL4.out w hSw.below; have s5 := HM5.out w hSw.below; have t5 := HL5.out w hSw.below; go_simp; first | done | with_reducible rfl)
                      simp only [Act.put, List.getElem_toArray, List.getElem_cons_zero, List.getElem_cons_succ, List.setIfInBounds_toArray, List.set_cons_zero, List.set_cons_succ]
                      refine wpAnyH_take (i := 17) (v := ?_) rfl (by kernel_rfl) (by kernel_rfl) (by kernel_rfl) (fun _ _ _ h => h) (Or.inl ⟨by rfl, ?_⟩) (by assumption) ?_
                      rotate_left
                      focus (intro w hSw; have p0 := hSw.f.cell 8; have q0 := hSw.g.cell 8; simp only [HX1.out, HX2.out, List.getElem?_cons_zero, List.getElem?_cons_succ] at p0 q0; have s0 := HM0.out w hSw.below; have t0 := HL0.out w hSw.below; have s1 := HM1.out w hSw.below; have t1 := HL1.out w hSw.below; have s2 := HM2.out w hSw.below; have t2 := HL2.out w hSw.below; have s3 := HM3.out w hSw.below; have t3 := HL3.out w hSw.below; have s4 := HM4.out w hSw.below; have t4 := HL4.out w hSw.below; have s5 := HM5.out w hSw.below; have t5 := HL5.out w hSw.below; go_simp; first | done | with_reducible rfl)
                      simp only [Act.put, List.getElem_toArray, List.getElem_cons_zero, List.getElem_cons_succ, List.setIfInBounds_toArray, List.set_cons_zero, List.set_cons_succ]
                      refine wpAnyH_take (i := 18) (v := ?_) rfl (by kernel_rfl) (by kernel_rfl) (by kernel_rfl) (fun _ _ _ h => h) (Or.inl ⟨by rfl, ?_⟩) (by assumption) ?_
                      rotate_left
                      focus (intro w hSw; have p0 := hSw.f.cell 8; have q0 := hSw.g.cell 8; simp only [HX1.out, HX2.out, List.getElem?_cons_zero, List.getElem?_cons_succ] at p0 q0; have s0 := HM0.out w hSw.below; have t0 := HL0.out w hSw.below; have s1 := HM1.out w hSw.below; have t1 := HL1.out w hSw.below; have s2 := HM2.out w hSw.below; have t2 := HL2.out w hSw.below; have s3 := HM3.out w hSw.below; have t3 := HL3.out w hSw.below; have s4 := HM4.out w hSw.below; have t4 := HL4.out w hSw.below; have s5 := HM5.out w hSw.below; have t5 := HL5.out w hSw.below; go_simp; first | done | with_reducible rfl)
                      simp only [Act.put, List.getElem_toArray, List.getElem_cons_zero, List.getElem_cons_succ, List.setIfInBounds_toArray, List.set_cons_zero, List.set_cons_succ]
                      refine wpAnyH_take (i := 19) (v := ?_) rfl (by kernel_rfl) (by kernel_rfl) (by kernel_rfl) (fun _ _ _ h => h) (Or.inl ⟨by rfl, ?_⟩) (by assumption) ?_
                      rotate_left
                      focus (intro w hSw; have p0 := hSw.f.cell 8; have q0 := hSw.g.cell 8; simp only [HX1.out, HX2.out, List.getElem?_cons_zero, List.getElem?_cons_succ] at p0 q0; have s0 := HM0.out w hSw.below; have t0 := HL0.out w hSw.below; have s1 := HM1.out w hSw.below; have t1 := HL1.out w hSw.below; have s2 := HM2.out w hSw.below; have t2 := HL2.out w hSw.below; have s3 := HM3.out w hSw.below; have t3 := HL3.out w hSw.below; have s4 := HM4.out w hSw.below; have t4 := HL4.out w hSw.below; have s5 := HM5.out w hSw.below; have t5 := HL5.out w hSw.below; go_simp; first | done | with_reducible rfl)
                      simp only [Act.put, List.getElem_toArray, List.getElem_cons_zero, List.getElem_cons_succ, List.setIfInBounds_toArray, List.set_cons_zero, List.set_cons_succ]
                      refine wpAnyH_take (i := 20) (v := ?_) rfl (by kernel_rfl) (by kernel_rfl) (by kernel_rfl) (fun _ _ _ h => h) (Or.inl ⟨by rfl, ?_⟩) (by assumption) ?_
                      rotate_left
                      focus (intro w hSw; have p0 := hSw.f.cell 8; have q0 := hSw.g.cell 8; simp only [HX1.out, HX2.out, List.getElem?_cons_zero, List.getElem?_cons_succ] at p0 q0; have s0 := HM0.out w hSw.below; have t0 := HL0.out w hSw.below; have s1 := HM1.out w hSw.below; have t1 := HL1.out w hSw.below; have s2 := HM2.out w hSw.below; have t2 := HL2.out w hSw.below; have s3 := HM3.out w hSw.below; have t3 := HL3.out w hSw.below; have s4 := HM4.out w hSw.below; have t4 := HL4.out w hSw.below; have s5 := HM5.out w hSw.below; have t5 := HL5.out w hSw.below; go_simp; first | done | with_reducible rfl)
                      simp only [Act.put, List.getElem_toArray, List.getElem_cons_zero, List.getElem_cons_succ, List.setIfInBounds_toArray, List.set_cons_zero, List.set_cons_succ]
                      refine wpAnyH_take (i := 21) (v := ?_) rfl (by kernel_rfl) (by kernel_rfl) (by kernel_rfl) (fun _ _ _ h => h) (Or.inl ⟨by rfl, ?_⟩) (by assumption) ?_
                      rotate_left
                      focus (intro w hSw; have p0 := hSw.f.cell 8; have q0 := hSw.g.cell 8; simp only [HX1.out, HX2.out, List.getElem?_cons_zero, List.getElem?_cons_succ] at p0 q0; have s0 := HM0.out w hSw.below; have t0 := HL0.out w hSw.below; have s1 := HM1.out w hSw.below; have t1 := HL1.out w hSw.below; have s2 := HM2.out w hSw.below; have t2 := HL2.out w hSw.below; have s3 := HM3.out w hSw.below; have t3 := HL3.out w hSw.below; have s4 := HM4.out w hSw.below; have t4 := HL4.out w hSw.below; have s5 := HM5.out w hSw.below; have t5 := HL5.out w hSw.below; go_simp; first | done | with_reducible rfl)
                      simp only [Act.put, List.getElem_toArray, List.getElem_cons_zero, List.getElem_cons_succ, List.setIfInBounds_toArray, List.set_cons_zero, List.set_cons_succ]
                      refine wpAnyH_take (i := 22) (v := ?_) rfl (by kernel_rfl) (by kernel_rfl) (by kernel_rfl) (fun _ _ _ h => h) (Or.inl ⟨by rfl, ?_⟩) (by assumption) ?_
                      rotate_left
                      focus (intro w hSw; have p0 := hSw.f.cell 8; have q0 := hSw.g.cell 8; simp only [HX1.out, HX2.out, List.getElem?_cons_zero, List.getElem?_cons_succ] at p0 q0; have s0 := HM0.out w hSw.below; have t0 := HL0.out w hSw.below; have s1 := HM1.out w hSw.below; have t1 := HL1.out w hSw.below; have s2 := HM2.out w hSw.below; have t2 := HL2.out w hSw.below; have s3 := HM3.out w hSw.below; have t3 := HL3.out w hSw.below; have s4 := HM4.out w hSw.below; have t4 := HL4.out w hSw.below; have s5 := HM5.out w hSw.below; have t5 := HL5.out w hSw.below; go_simp; first | done | with_reducible rfl)
                      simp only [Act.put, List.getElem_toArray, List.getElem_cons_zero, List.getElem_cons_succ, List.setIfInBounds_toArray, List.set_cons_zero, List.set_cons_succ]
                      refine wpAnyH_take (i := 23) (v := ?_) rfl (by kernel_rfl) (by kernel_rfl) (by kernel_rfl) (fun _ _ _ h => h) (Or.inl ⟨by rfl, ?_⟩) (by assumption) ?_
                      rotate_left
                      focus (intro w hSw; have p0 := hSw.f.cell 8; have q0 := hSw.g.cell 8; simp only [HX1.out, HX2.out, List.getElem?_cons_zero, List.getElem?_cons_succ] at p0 q0; have s0 := HM0.out w hSw.below; have t0 := HL0.out w hSw.below; have s1 := HM1.out w hSw.below; have t1 := HL1.out w hSw.below; have s2 := HM2.out w hSw.below; have t2 := HL2.out w hSw.below; have s3 := HM3.out w hSw.below; have t3 := HL3.out w hSw.below; have s4 := HM4.out w hSw.below; have t4 := HL4.out w hSw.below; have s5 := HM5.out w hSw.below; have t5 := HL5.out w hSw.below; go_simp; first | done | with_reducible rfl)
                      simp only [Act.put, List.getElem_toArray, List.getElem_cons_zero, List.getElem_cons_succ, List.setIfInBounds_toArray, List.set_cons_zero, List.set_cons_succ]
                      refine wpAnyH_take (i := 24) (v := ?_) rfl (by kernel_rfl) (by kernel_rfl) (by kernel_rfl) (fun _ _ _ h => h) (Or.inl ⟨by rfl, ?_⟩) (by assumption) ?_
                      rotate_left
                      focus (intro w hSw; have p0 := hSw.f.cell 8; have q0 := hSw.g.cell 8; simp only [HX1.out, HX2.out, List.getElem?_cons_zero, List.getElem?_cons_succ] at p0 q0; have s0 := HM0.out w hSw.below; have t0 := HL0.out w hSw.below; have s1 := HM1.out w hSw.below; have t1 := HL1.out w hSw.below; have s2 := HM2.out w hSw.below; have t2 := HL2.out w hSw.below; have s3 := HM3.out w hSw.below; have t3 := HL3.out w hSw.below; have s4 := HM4.out w hSw.below; have t4 := HL4.out w hSw.below; have s5 := HM5.out w hSw.below; have t5 := HL5.out w hSw.below; go_simp; first | done | with_reducible rfl)
                      simp only [Act.put, List.getElem_toArray, List.getElem_cons_zero, List.getElem_cons_succ, List.setIfInBounds_toArray, List.set_cons_zero, List.set_cons_succ]
                      refine wpAnyH_take (i := 25) (v := ?_) rfl (by kernel_rfl) (by kernel_rfl) (by kernel_rfl) (fun _ _ _ h => h) (Or.inl ⟨by rfl, ?_⟩) (by assumption) ?_
                      rotate_left
                      focus (intro w hSw; have p0 := hSw.f.cell 8; have q0 := hSw.g.cell 8; simp only [HX1.out, HX2.out, List.getElem?_cons_zero, List.getElem?_cons_succ] at p0 q0; have s0 := HM0.out w hSw.below; have t0 := HL0.out w hSw.below; have s1 := HM1.out w hSw.below; have t1 := HL1.out w hSw.below; have s2 := HM2.out w hSw.below; have t2 := HL2.out w hSw.below; have s3 := HM3.out w hSw.below; have t3 := HL3.out w hSw.below; have s4 := HM4.out w hSw.below; have t4 := HL4.out w hSw.below; have s5 := HM5.out w hSw.below; have t5 := HL5.out w hSw.below; go_simp; first | done | with_reducible rfl)
                      simp only [Act.put, List.getElem_toArray, List.getElem_cons_zero, List.getElem_cons_succ, List.setIfInBounds_toArray, List.set_cons_zero, List.set_cons_succ]
                      refine wpAnyH_take (i := 26) (v := ?_) rfl (by kernel_rfl) (by kernel_rfl) (by kernel_rfl) (fun _ _ _ h => h) (Or.inl ⟨by rfl, ?_⟩) (by assumption) ?_
                      rotate_left
                      focus (intro w hSw; have p0 := hSw.f.cell 8; have q0 := hSw.g.cell 8; simp only [HX1.out, HX2.out, List.getElem?_cons_zero, List.getElem?_cons_succ] at p0 q0; have s0 := HM0.out w hSw.below; have t0 := HL0.out w hSw.below; have s1 := HM1.out w hSw.below; have t1 := HL1.out w hSw.below; have s2 := HM2.out w hSw.below; have t2 := HL2.out w hSw.below; have s3 := HM3.out w hSw.below; have t3 := HL3.out w hSw.below; have s4 := HM4.out w hSw.below; have t4 := HL4.out w hSw.below; have s5 := HM5.out w hSw.below; have t5 := HL5.out w hSw.below; go_simp; first | done | with_reducible rfl)
                      simp only [Act.put, List.getElem_toArray, List.getElem_cons_zero, List.getElem_cons_succ, List.setIfInBounds_toArray, List.set_cons_zero, List.set_cons_succ]
                      refine wpAnyH_take (i := 27) (v := ?_) rfl (by kernel_rfl) (by kernel_rfl) (by kernel_rfl) (fun _ _ _ h => h) (Or.inl ⟨by rfl, ?_⟩) (by assumption) ?_
                      rotate_left
                      focus (intro w hSw; have p0 := hSw.f.cell 8; have q0 := hSw.g.cell 8; simp only [HX1.out, HX2.out, List.getElem?_cons_zero, List.getElem?_cons_succ] at p0 q0; have s0 := HM0.out w hSw.below; have t0 := HL0.out w hSw.below; have s1 := HM1.out w hSw.below; have t1 := HL1.out w hSw.below; have s2 := HM2.out w hSw.below; have t2 := HL2.out w hSw.below; have s3 := HM3.out w hSw.below; have t3 := HL3.out w hSw.below; have s4 := HM4.out w hSw.below; have t4 := HL4.out w hSw.below; have s5 := HM5.out w hSw.below; have t5 := HL5.out w hSw.below; go_simp; first | done | with_reducible rfl)
                      simp only [Act.put, List.getElem_toArray, List.getElem_cons_zero, List.getElem_cons_succ, List.setIfInBounds_toArray, List.set_cons_zero, List.set_cons_succ]
                      refine wpAnyH_take (i := 28) (v := ?_) rfl (by kernel_rfl) (by kernel_rfl) (by kernel_rfl) (fun _ _ _ h => h) (Or.inl ⟨by rfl, ?_⟩) (by assumption) ?_
                      rotate_left
                      focus (intro w hSw; have p0 := hSw.f.cell 8; have q0 := hSw.g.cell 8; simp only [HX1.out, HX2.out, List.getElem?_cons_zero, List.getElem?_cons_succ] at p0 q0; have s0 := HM0.out w hSw.below; have t0 := HL0.out w hSw.below; have s1 := HM1.out w hSw.below; have t1 := HL1.out w hSw.below; have s2 := HM2.out w hSw.below; have t2 := HL2.out w hSw.below; have s3 := HM3.out w hSw.below; have t3 := HL3.out w hSw.below; have s4 := HM4.out w hSw.below; have t4 := HL4.out w hSw.below; have s5 := HM5.out w hSw.below; have t5 := HL5.out w hSw.below; go_simp; first | done | with_reducible rfl)
                      simp only [Act.put, List.getElem_toArray, List.getElem_cons_zero, List.getElem_cons_succ, List.setIfInBounds_toArray, List.set_cons_zero, List.set_cons_succ]
                      refine wpAnyH_take (i := 29) (v := ?_) rfl (by kernel_rfl) (by kernel_rfl) (by kernel_rfl) (fun _ _ _ h => h) (Or.inl ⟨by rfl, ?_⟩) (by assumption) ?_
                      rotate_left
                      focus (intro w hSw; have p0 := hSw.f.cell 8; have q0 := hSw.g.cell 8; simp only [HX1.out, HX2.out, List.getElem?_cons_zero, List.getElem?_cons_succ] at p0 q0; have s0 := HM0.out w hSw.below; have t0 := HL0.out w hSw.below; have s1 := HM1.out w hSw.below; have t1 := HL1.out w hSw.below; have s2 := HM2.out w hSw.below; have t2 := HL2.out w hSw.below; have s3 := HM3.out w hSw.below; have t3 := HL3.out w hSw.below; have s4 := HM4.out w hSw.below; have t4 := HL4.out w hSw.below; have s5 := HM5.out w hSw.below; have t5 := HL5.out w hSw.below; go_simp; first | done | with_reducible rfl)
                      simp only [Act.put, List.getElem_toArray, List.getElem_cons_zero, List.getElem_cons_succ, List.setIfInBounds_toArray, List.set_cons_zero, List.set_cons_succ]
                      refine wpAnyH_ready (rs := [30]) (by kernel_rfl) (by simp) ?_
                      refine AllReadyH.cons (o := _) rfl (fun K hK => ?_) AllReadyH.nil
                      go_simp
                      with_reducible refine (HC.out _ hHeld).mono ?_
                      rintro e z1 ⟨r, rfl, hr, hz1⟩
                      have HR := Lib.hid hr
                      clear hr
                      go_simp
                      refine hK.out _ _ (hHeld.next hz1) (fun hHeld => ?_)
                      clear hK K
                      try simp only [Act.put, List.getElem_toArray, List.getElem_cons_zero, List.getElem_cons_succ, List.setIfInBounds_toArray, List.set_cons_zero, List.set_cons_succ]
                      refine wpAnyH_take (i := 31) (v := ?_) rfl (by kernel_rfl) (by kernel_rfl) (by kernel_rfl) (fun _ _ _ h => h) (Or.inl ⟨by rfl, ?_⟩) (by assumption) ?_
                      rotate_left
                      focus (intro w hSw; have p0 := hSw.f.cell 8; have q0 := hSw.g.cell 8; simp only [HX1.out, HX2.out, List.getElem?_cons_zero, List.getElem?_cons_succ] at p0 q0; have s0 := HM0.out w hSw.below; have t0 := HL0.out w hSw.below; have s1 := HM1.out w hSw.below; have t1 := HL1.out w hSw.below; have s2 := HM2.out w hSw.below; have t2 := HL2.out w hSw.below; have s3 := HM3.out w hSw.below; have t3 := HL3.out w hSw.below; have s4 := HM4.out w hSw.below; have t4 := HL4.out w hSw.below; have s5 := HM5.out w hSw.below; have t5 := HL5.out w hSw.below; go_simp; first | done | with_reducible rfl)
                      simp only [Act.put, List.getElem_toArray, List.getElem_cons_zero, List.getElem_cons_succ, List.setIfInBounds_toArray, List.set_cons_zero, List.set_cons_succ]
                      refine wpAnyH_take (i := 32) (v := ?_) rfl (by kernel_rfl) (by kernel_rfl) (by kernel_rfl) (fun _ _ _ h => h) (Or.inl ⟨by rfl, ?_⟩) (by assumption) ?_
                      rotate_left
                      focus (intro w hSw; have p0 := hSw.f.cell 8; have q0 := hSw.g.cell 8; simp only [HX1.out, HX2.out, List.getElem?_cons_zero, List.getElem?_cons_succ] at p0 q0; have s0 := HM0.out w hSw.below; have t0 := HL0.out w hSw.below; have s1 := HM1.out w hSw.below; have t1 := HL1.out w hSw.below; have s2 := HM2.out w hSw.below; have t2 := HL2.out w hSw.below; have s3 := HM3.out w hSw.below; have t3 := HL3.out w hSw.below; have s4 := HM4.out w hSw.below; have t4 := HL4.out w hSw.below; have s5 := HM5.out w hSw.below; have t5 := HL5.out w hSw.below; go_simp; first | done | with_reducible rfl)
                      simp only [Act.put, List.getElem_toArray, List.getElem_cons_zero, List.getElem_cons_succ, List.setIfInBounds_toArray, List.set_cons_zero, List.set_cons_succ]
                      refine wpAnyH_done (by kernel_rfl) ?_ _
                      have HH := Lib.hid hHeld
                      clear hHeld hz1 HC
                      cases r with
                      | false =>
                        have HNO := Lib.hid (HN.out (fun e => by have := HR.out.2 (by simp only [Prod.mk.injEq] at e; exact e.1); cases this))
                        go_wp2
                        go_ret
                        exact IffP.no rfl HNO.out HH.out.below
                      | true =>
                        have HA2 := Lib.hid (HY.out (by rw [HR.out.1 rfl]))
                        clear HN HY HA HR
                        go_wp2
                        go_roundw
                        case rel => exact ⟨k + 1, by omega, by go_num, HA2, HH⟩
                        case measure => simp [intOf]; omega
                    · have HE5 : Hid (f.mt = g.mt) := Lib.hid (by
                        have := HA.out
                        rwa [List.take_of_length_le (by have := E5.out; omega), List.take_of_length_le (by have := D5.out; omega)] at this)
                      obtain ⟨wq, hwq⟩ : ∃ wq, wq = wr := ⟨_, rfl⟩
                      subst hwq
                      clear HA hsr
                      have p0 := HT.out.f.cell 9
                      simp only [HX1.out, List.getElem?_cons_zero, List.getElem?_cons_succ] at p0
                      go_wp2
                      clear p0
                      go_loopw [212] (fun i wr => ∃ k : Nat, k ≤ n0 ∧ i = .int .i64 k ∧ Hid (f.bd.take k = g.bd.take k) ∧ Hid (TwS w.heap.size X1 X2 w wr)) (fun i _ => n0 - (intOf i).toNat)
                      case atStart => exact ⟨0, Nat.zero_le _, rfl, Lib.hid (by simp), HT⟩
                      case round =>
                        clear HT
                        obtain ⟨k, hk, rfl, HA, HT⟩ := hrel
                        have hsr := HT.out.below.size
                        by_cases hkl : k < n0
                        · obtain ⟨x, hx⟩ : ∃ v, f.bd[k]? = some v := ⟨_, List.getElem?_eq_getElem (by have := E0.out; omega)⟩
                          obtain ⟨y, hy⟩ : ∃ v, g.bd[k]? = some v := ⟨_, List.getElem?_eq_getElem (by have := D0.out; omega)⟩
                          obtain ⟨gx, ox, cs, rfl, hcx, a6, n6, c6, rfl, hs6⟩ := HK0.out k x hx
                          obtain ⟨gy, oy, cs, rfl, hcy, b6, m6, d6, rfl, ht6⟩ := HJ0.out k y hy
                          have old : ∀ {p : Addr} {v : Value} (z : World), Below w.heap.size w z → w.cell? p = some v → z.cell? p = some v := fun z hz h => (hz.cell (World.block_lt_of_cell? _ _ h)).trans h
                          have HM0 : Hid (∀ z, Below w.heap.size w z → z.cell? ⟨gx, ox + k * 3, none⟩ = some (.int .i64 x.lo)) := Lib.hid (fun z hz => old z hz (hcx 0 _ rfl))
                          have HL0 : Hid (∀ z, Below w.heap.size w z → z.cell? ⟨gy, oy + k * 3, none⟩ = some (.int .i64 y.lo)) := Lib.hid (fun z hz => old z hz (hcy 0 _ rfl))
                          have HM1 : Hid (∀ z, Below w.heap.size w z → z.cell? ⟨gx, ox + k * 3 + 1, none⟩ = some (.int .i64 x.st)) := Lib.hid (fun z hz => old z hz (hcx 1 _ rfl))
                          have HL1 : Hid (∀ z, Below w.heap.size w z → z.cell? ⟨gy, oy + k * 3 + 1, none⟩ = some (.int .i64 y.st)) := Lib.hid (fun z hz => old z hz (hcy 1 _ rfl))
                          have HM2 : Hid (∀ z, Below w.heap.size w z → z.cell? ⟨gx, ox + k * 3 + 2, none⟩ = some (.slice a6 n6 c6)) := Lib.hid (fun z hz => old z hz (hcx 2 _ rfl))
                          have HL2 : Hid (∀ z, Below w.heap.size w z → z.cell? ⟨gy, oy + k * 3 + 2, none⟩ = some (.slice b6 m6 d6)) := Lib.hid (fun z hz => old z hz (hcy 2 _ rfl))
                          have HN : Hid (x ≠ y → ¬ f = g) := Lib.hid (fun hne e => hne (by rw [e, hy] at hx; exact (Option.some.inj hx).symm))
                          have HY : Hid (x = y → f.bd.take (k + 1) = g.bd.take (k + 1)) := Lib.hid (fun e => by
                            have hx' : k < f.bd.length := (List.getElem?_eq_some_iff.1 hx).1
                            have hy' : k < g.bd.length := (List.getElem?_eq_some_iff.1 hy).1
                            rw [List.take_succ_eq_append_getElem hx', List.take_succ_eq_append_getElem hy', HA.out, (List.getElem?_eq_some_iff.1 hx).2, (List.getElem?_eq_some_iff.1 hy).2, e])
                          clear hcx hcy hx hy old
                          obtain ⟨x0, x1, x2⟩ := x
                          obtain ⟨y0, y1, y2⟩ := y
                          dsimp only at hs6 ht6 HM0 HL0 HM1 HL1 HM2 HL2
                          obtain ⟨e6, l6, k6, hk6⟩ := hs6.at
                          obtain ⟨d6', i6, j6, hj6⟩ := ht6.at
                          unfold maxLen at k6 j6
                          have E6 := Lib.hid e6
                          have HK6 := Lib.hid hk6
                          have D6 := Lib.hid d6'
                          have HJ6 := Lib.hid hj6
                          clear e6 hk6 d6' hj6 hs6 ht6
                          have p0 := HM0.out wr HT.out.below
                          have p1 := HM1.out wr HT.out.below
                          have p2 := HM2.out wr HT.out.below
                          have q0 := HL0.out wr HT.out.below
                          have q1 := HL1.out wr HT.out.below
                          have q2 := HL2.out wr HT.out.below
                          have z9 := HT.out.g.cell 9
                          simp only [HX2.out, List.getElem?_cons_zero, List.getElem?_cons_succ] at z9
                          have g1 := World.block_lt_of_cell? _ _ p0
                          have g2 := World.block_lt_of_cell? _ _ q0
                          have g3 := World.block_lt_of_cell? _ _ z9
                          clear HM0 HM1 HM2 HL0 HL1 HL2
                          have HB2 : Hid (Below w.heap.size w ((wr.alloc (.cells #[.int .i64 x0, .int .i64 x1, .slice a6 n6 c6] 54)).alloc (.cells #[.int .i64 y0, .int .i64 y1, .slice b6 m6 d6] 54))) := Lib.hid (HT.out.below.trans ((below2 wr _ _).mono hsr))
                          by_cases c0 : x0 = y0
                          rotate_left
                          · have HNO := Lib.hid (HN.out (fun e => c0 (by simp only [Bd.mk.injEq] at e; exact e.1)))
                            have tnc0 : ((x0 : Int) == y0) = false := by simpa using c0
                            clear HN HY HA
                            go_wp2
                            try (any_goals (exfalso; simp at tnc0; done))
                            go_ret
                            exact IffP.no rfl HNO.out HB2.out
                          subst c0
                          have tnc0 : ((x0 : Int) == x0) = true := by simp
                          by_cases c1 : x1 = y1
                          rotate_left
                          · have HNO := Lib.hid (HN.out (fun e => c1 (by simp only [Bd.mk.injEq] at e; exact e.2.1)))
                            have tnc1 : ((x1 : Int) == y1) = false := by simpa using c1
                            clear HN HY HA
                            go_wp2
                            try (any_goals (exfalso; simp at tnc1; done))
                            go_ret
                            exact IffP.no rfl HNO.out HB2.out
                          subst c1
                          have tnc1 : ((x1 : Int) == x1) = true := by simp
                          by_cases c2 : n6 = m6
                          rotate_left
                          · have HNO := Lib.hid (HN.out (fun e => c2 (by simp only [Bd.mk.injEq] at e; rw [E6.out, D6.out, e.2.2])))
                            have tnc2 : ((n6 : Int) == (m6 : Int)) = false := by simp; omega
                            have c3 : ¬ ((n6 : Int) = (m6 : Int)) := by omega
                            clear HN HY HA
                            go_wp2
                            try (any_goals (exfalso; simp at tnc2; done))
                            go_ret
                            exact IffP.no rfl HNO.out HB2.out
                          subst c2
                          have tnc2 : ((n6 : Int) == (n6 : Int)) = true := by simp
                          obtain ⟨Y1, HY1⟩ : ∃ X : List Value, Hid (X = [.int .i64 x0, .int .i64 x1, .slice a6 n6 c6]) := ⟨_, Lib.hid rfl⟩
                          obtain ⟨Y2, HY2⟩ : ∃ X : List Value, Hid (X = [.int .i64 x0, .int .i64 x1, .slice b6 n6 d6]) := ⟨_, Lib.hid rfl⟩
                          obtain ⟨W2, HW2⟩ : ∃ W, Hid (W = (wr.alloc (.cells #[.int .i64 x0, .int .i64 x1, .slice a6 n6 c6] 54)).alloc (.cells #[.int .i64 x0, .int .i64 x1, .slice b6 n6 d6] 54)) := ⟨_, Lib.hid rfl⟩
                          have HTB : Hid (TwB w.heap.size wr.heap.size X1 X2 Y1 Y2 w W2) := Lib.hid (by
                            rw [HW2.out, HY1.out, HY2.out]
                            refine ⟨HT.out.next (below2 wr _ _), (Blk.new wr _ 54).below (below1 _ _), ?_⟩
                            have := Blk.new (wr.alloc (.cells #[.int .i64 x0, .int .i64 x1, .slice a6 n6 c6] 54)) [.int .i64 x0, .int .i64 x1, .slice b6 n6 d6] 54
                            simpa using this)
                          go_upto_region 37 with fail
                          rw [← HW2.out]
                          clear HW2 p0 p1 p2 q0 q1 q2 z9 g1 g2 g3 HB2 HT hsr
                          generalize wr.heap.size = B at *
                          have p0 := HTB.out.f.cell 0
                          have p1 := HTB.out.f.cell 1
                          have p2 := HTB.out.f.cell 2
                          have q0 := HTB.out.g.cell 0
                          have q1 := HTB.out.g.cell 1
                          have q2 := HTB.out.g.cell 2
                          simp only [HY1.out, HY2.out, List.getElem?_cons_zero, List.getElem?_cons_succ] at p0 p1 p2 q0 q1 q2
                          go_wp2
                          clear p0 p1 p2 q0 q1 q2 tnc0 tnc1 tnc2
                          go_loopw [246] (fun i wr => ∃ j : Nat, j ≤ n6 ∧ i = .int .i64 j ∧ Hid (x2.take j = y2.take j) ∧ Hid (TwB w.heap.size B X1 X2 Y1 Y2 w wr)) (fun i _ => n6 - (intOf i).toNat)
                          case atStart => exact ⟨0, Nat.zero_le _, rfl, Lib.hid (by simp), HTB⟩
                          case round =>
                            clear HTB
                            obtain ⟨j, hj, rfl, HAJ, HT⟩ := hrel
                            by_cases hjl : j < n6
                            · obtain ⟨x, hx⟩ : ∃ v, x2[j]? = some v := ⟨_, List.getElem?_eq_getElem (by have := E6.out; omega)⟩
                              obtain ⟨y, hy⟩ : ∃ v, y2[j]? = some v := ⟨_, List.getElem?_eq_getElem (by have := D6.out; omega)⟩
                              obtain ⟨gu, ou, cs, rfl, hcx, rfl⟩ := HK6.out j x hx
                              obtain ⟨gv, ov, cs, rfl, hcy, rfl⟩ := HJ6.out j y hy
                              have old : ∀ {p : Addr} {v : Value} (z : World), Below w.heap.size w z → w.cell? p = some v → z.cell? p = some v := fun z hz h => (hz.cell (World.block_lt_of_cell? _ _ h)).trans h
                              have HM0 : Hid (∀ z, Below w.heap.size w z → z.cell? ⟨gu, ou + j * 2, none⟩ = some (.int .i64 x.1)) := Lib.hid (fun z hz => old z hz (hcx 0 _ rfl))
                              have HL0 : Hid (∀ z, Below w.heap.size w z → z.cell? ⟨gv, ov + j * 2, none⟩ = some (.int .i64 y.1)) := Lib.hid (fun z hz => old z hz (hcy 0 _ rfl))
                              have HM1 : Hid (∀ z, Below w.heap.size w z → z.cell? ⟨gu, ou + j * 2 + 1, none⟩ = some (.int .i64 x.2)) := Lib.hid (fun z hz => old z hz (hcx 1 _ rfl))
                              have HL1 : Hid (∀ z, Below w.heap.size w z → z.cell? ⟨gv, ov + j * 2 + 1, none⟩ = some (.int .i64 y.2)) := Lib.hid (fun z hz => old z hz (hcy 1 _ rfl))
                              have HNJ : Hid (x ≠ y → ¬ f = g) := Lib.hid (fun hne => HN.out (fun e => hne (by simp only [Bd.mk.injEq] at e; rw [e.2.2, hy] at hx; exact (Option.some.inj hx).symm)))
                              have HYJ : Hid (x = y → x2.take (j + 1) = y2.take (j + 1)) := Lib.hid (fun e => by
                                have hx' : j < x2.length := (List.getElem?_eq_some_iff.1 hx).1
                                have hy' : j < y2.length := (List.getElem?_eq_some_iff.1 hy).1
                                rw [List.take_succ_eq_append_getElem hx', List.take_succ_eq_append_getElem hy', HAJ.out, (List.getElem?_eq_some_iff.1 hx).2, (List.getElem?_eq_some_iff.1 hy).2, e])
                              clear hcx hcy hx hy old HAJ
                              obtain ⟨u0, u1⟩ := x
                              obtain ⟨v0, v1⟩ := y
                              dsimp only at HM0 HL0 HM1 HL1
                              by_cases c0 : u0 = v0
                              rotate_left
                              · have HNO := Lib.hid (HNJ.out (fun e => c0 (by simp only [Prod.mk.injEq] at e; exact e.1)))
                                have tnc0 : ((u0 : Int) == v0) = false := by simpa using c0
                                go_upto_region 42 with fail
                                refine wp_region_held_drew (S := fun z => TwB w.heap.size B X1 X2 Y1 Y2 w z) (by kernel_rfl) ?_ (fun hHeld => ?_)
                                · exact HT.out.dr
                                refine wpAnyH_take (i := 0) (v := ?_) rfl (by kernel_rfl) (by kernel_rfl) (by kernel_rfl) (fun _ _ _ h => h) (Or.inl ⟨by rfl, ?_⟩) (by assumption) ?_
                                rotate_left
                                focus (intro w hSw; have p0 := hSw.f.cell 2; have q0 := hSw.g.cell 2; simp only [HY1.out, HY2.out, List.getElem?_cons_zero, List.getElem?_cons_succ] at p0 q0; have s0 := HM0.out w hSw.t.below; have t0 := HL0.out w hSw.t.below; have s1 := HM1.out w hSw.t.below; have t1 := HL1.out w hSw.t.below; go_simp; first | done | with_reducible rfl)
                                simp only [Act.put, List.getElem_toArray, List.getElem_cons_zero, List.setIfInBounds_toArray, List.set_cons_zero, List.set_cons_succ]
                                refine wpAnyH_take (i := 1) (v := ?_) rfl (by kernel_rfl) (by kernel_rfl) (by kernel_rfl) (fun _ _ _ h => h) (Or.inl ⟨by rfl, ?_⟩) (by assumption) ?_
                                rotate_left
                                focus (intro w hSw; have p0 := hSw.f.cell 2; have q0 := hSw.g.cell 2; simp only [HY1.out, HY2.out, List.getElem?_cons_zero, List.getElem?_cons_succ] at p0 q0; have s0 := HM0.out w hSw.t.below; have t0 := HL0.out w hSw.t.below; have s1 := HM1.out w hSw.t.below; have t1 := HL1.out w hSw.t.below; go_simp; first | done | with_reducible rfl)
                                simp only [Act.put, List.getElem_toArray, List.getElem_cons_zero, List.getElem_cons_succ, List.setIfInBounds_toArray, List.set_cons_zero, List.set_cons_succ]
                                refine wpAnyH_take (i := 2) (v := ?_) rfl (by kernel_rfl) (by kernel_rfl) (by kernel_rfl) (fun _ _ _ h => h) (Or.inl ⟨by rfl, ?_⟩) (by assumption) ?_
                                rotate_left
                                focus (intro w hSw; have p0 := hSw.f.cell 2; have q0 := hSw.g.cell 2; simp only [HY1.out, HY2.out, List.getElem?_cons_zero, List.getElem?_cons_succ] at p0 q0; have s0 := HM0.out w hSw.t.below; have t0 := HL0.out w hSw.t.below; have s1 := HM1.out w hSw.t.below; have t1 := HL1.out w hSw.t.below; go_simp; first | done | with_reducible rfl)
                                simp only [Act.put, List.getElem_toArray, List.getElem_cons_zero, List.getElem_cons_succ, List.setIfInBounds_toArray, List.set_cons_zero, List.set_cons_succ]
                                refine wpAnyH_take (i := 3) (v := ?_) rfl (by kernel_rfl) (by kernel_rfl) (by kernel_rfl) (fun _ _ _ h => h) (Or.inl ⟨by rfl, ?_⟩) (by assumption) ?_
                                rotate_left
                                focus (intro w hSw; have p0 := hSw.f.cell 2; have q0 := hSw.g.cell 2; simp only [HY1.out, HY2.out, List.getElem?_cons_zero, List.getElem?_cons_succ] at p0 q0; have s0 := HM0.out w hSw.t.below; have t0 := HL0.out w hSw.t.below; have s1 := HM1.out w hSw.t.below; have t1 := HL1.out w hSw.t.below; go_simp; first | done | with_reducible rfl)
                                simp only [Act.put, List.getElem_toArray, List.getElem_cons_zero, List.getElem_cons_succ, List.setIfInBounds_toArray, List.set_cons_zero, List.set_cons_succ]
                                refine wpAnyH_take (i := 4) (v := ?_) rfl (by kernel_rfl) (by kernel_rfl) (by kernel_rfl) (fun _ _ _ h => h) (Or.inl ⟨by rfl, ?_⟩) (by assumption) ?_
                                rotate_left
                                focus (intro w hSw; have p0 := hSw.f.cell 2; have q0 := hSw.g.cell 2; simp only [HY1.out, HY2.out, List.getElem?_cons_zero, List.getElem?_cons_succ] at p0 q0; have s0 := HM0.out w hSw.t.below; have t0 := HL0.out w hSw.t.below; have s1 := HM1.out w hSw.t.below; have t1 := HL1.out w hSw.t.below; go_simp; first | done | with_reducible rfl)
                                simp only [Act.put, List.getElem_toArray, List.getElem_cons_zero, List.getElem_cons_succ, List.setIfInBounds_toArray, List.set_cons_zero, List.set_cons_succ]
                                refine wpAnyH_take (i := 5) (v := ?_) rfl (by kernel_rfl) (by kernel_rfl) (by kernel_rfl) (fun _ _ _ h => h) (Or.inl ⟨by rfl, ?_⟩) (by assumption) ?_
                                rotate_left
                                focus (intro w hSw; have p0 := hSw.f.cell 2; have q0 := hSw.g.cell 2; simp only [HY1.out, HY2.out, List.getElem?_cons_zero, List.getElem?_cons_succ] at p0 q0; have s0 := HM0.out w hSw.t.below; have t0 := HL0.out w hSw.t.below; have s1 := HM1.out w hSw.t.below; have t1 := HL1.out w hSw.t.below; go_simp; first | done | with_reducible rfl)
                                simp only [Act.put, List.getElem_toArray, List.getElem_cons_zero, List.getElem_cons_succ, List.setIfInBounds_toArray, List.set_cons_zero, List.set_cons_succ]
                                refine wpAnyH_take (i := 6) (v := ?_) rfl (by kernel_rfl) (by kernel_rfl) (by kernel_rfl) (fun _ _ _ h => h) (Or.inl ⟨by rfl, ?_⟩) (by assumption) ?_
                                rotate_left
                                focus (intro w hSw; have p0 := hSw.f.cell 2; have q0 := hSw.g.cell 2; simp only [HY1.out, HY2.out, List.getElem?_cons_zero, List.getElem?_cons_succ] at p0 q0; have s0 := HM0.out w hSw.t.below; have t0 := HL0.out w hSw.t.below; have s1 := HM1.out w hSw.t.below; have t1 := HL1.out w hSw.t.below; go_simp; first | done | with_reducible rfl)
                                simp only [Act.put, List.getElem_toArray, List.getElem_cons_zero, List.getElem_cons_succ, List.setIfInBounds_toArray, List.set_cons_zero, List.set_cons_succ]
                                refine wpAnyH_take (i := 7) (v := ?_) rfl (by kernel_rfl) (by kernel_rfl) (by kernel_rfl) (fun _ _ _ h => h) (Or.inl ⟨by rfl, ?_⟩) (by assumption) ?_
                                rotate_left
                                focus (intro w hSw; have p0 := hSw.f.cell 2; have q0 := hSw.g.cell 2; simp only [HY1.out, HY2.out, List.getElem?_cons_zero, List.getElem?_cons_succ] at p0 q0; have s0 := HM0.out w hSw.t.below; have t0 := HL0.out w hSw.t.below; have s1 := HM1.out w hSw.t.below; have t1 := HL1.out w hSw.t.below; go_simp; first | done | with_reducible rfl)
                                simp only [Act.put, List.getElem_toArray, List.getElem_cons_zero, List.getElem_cons_succ, List.setIfInBounds_toArray, List.set_cons_zero, List.set_cons_succ]
                                refine wpAnyH_take (i := 8) (v := ?_) rfl (by kernel_rfl) (by kernel_rfl) (by kernel_rfl) (fun _ _ _ h => h) (Or.inl ⟨by rfl, ?_⟩) (by assumption) ?_
                                rotate_left
                                focus (intro w hSw; have p0 := hSw.f.cell 2; have q0 := hSw.g.cell 2; simp only [HY1.out, HY2.out, List.getElem?_cons_zero, List.getElem?_cons_succ] at p0 q0; have s0 := HM0.out w hSw.t.below; have t0 := HL0.out w hSw.t.below; have s1 := HM1.out w hSw.t.below; have t1 := HL1.out w hSw.t.below; go_simp; first | done | with_reducible rfl)
                                simp only [Act.put, List.getElem_toArray, List.getElem_cons_zero, List.getElem_cons_succ, List.setIfInBounds_toArray, List.set_cons_zero, List.set_cons_succ]
                                refine wpAnyH_take (i := 9) (v := ?_) rfl (by kernel_rfl) (by kernel_rfl) (by kernel_rfl) (fun _ _ _ h => h) (Or.inl ⟨by rfl, ?_⟩) (by assumption) ?_
                                rotate_left
                                focus (intro w hSw; have p0 := hSw.f.cell 2; have q0 := hSw.g.cell 2; simp only [HY1.out, HY2.out, List.getElem?_cons_zero, List.getElem?_cons_succ] at p0 q0; have s0 := HM0.out w hSw.t.below; have t0 := HL0.out w hSw.t.below; have s1 := HM1.out w hSw.t.below; have t1 := HL1.out w hSw.t.below; go_simp; first | done | with_reducible rfl)
                                simp only [Act.put, List.getElem_toArray, List.getElem_cons_zero, List.getElem_cons_succ, List.setIfInBounds_toArray, List.set_cons_zero, List.set_cons_succ]
                                refine wpAnyH_take (i := 10) (v := ?_) rfl (by kernel_rfl) (by kernel_rfl) (by kernel_rfl) (fun _ _ _ h => h) (Or.inl ⟨by rfl, ?_⟩) (by assumption) ?_
                                rotate_left
                                focus (intro w hSw; have p0 := hSw.f.cell 2; have q0 := hSw.g.cell 2; simp only [HY1.out, HY2.out, List.getElem?_cons_zero, List.getElem?_cons_succ] at p0 q0; have s0 := HM0.out w hSw.t.below; have t0 := HL0.out w hSw.t.below; have s1 := HM1.out w hSw.t.below; have t1 := HL1.out w hSw.t.below; go_simp; first | done | with_reducible rfl)
                                simp only [Act.put, List.getElem_toArray, List.getElem_cons_zero, List.getElem_cons_succ, List.setIfInBounds_toArray, List.set_cons_zero, List.set_cons_succ]
                                refine wpAnyH_done (by kernel_rfl) ?_ _
                                have HH := Lib.hid hHeld
                                clear hHeld
                                go_wp2
                                go_ret
                                exact IffP.no rfl HNO.out HH.out.t.below
                              subst c0
                              have tnc0 : ((u0 : Int) == u0) = true := by simp
                              by_cases c1 : u1 = v1
                              rotate_left
                              · have HNO := Lib.hid (HNJ.out (fun e => c1 (by simp only [Prod.mk.injEq] at e; exact e.2)))
                                have tnc1 : ((u1 : Int) == v1) = false := by simpa using c1
                                go_upto_region 42 with fail
                                refine wp_region_held_drew (S := fun z => TwB w.heap.size B X1 X2 Y1 Y2 w z) (by kernel_rfl) ?_ (fun hHeld => ?_)
                                · exact HT.out.dr
                                refine wpAnyH_take (i := 0) (v := ?_) rfl (by kernel_rfl) (by kernel_rfl) (by kernel_rfl) (fun _ _ _ h => h) (Or.inl ⟨by rfl, ?_⟩) (by assumption) ?_
                                rotate_left
                                focus (intro w hSw; have p0 := hSw.f.cell 2; have q0 := hSw.g.cell 2; simp only [HY1.out, HY2.out, List.getElem?_cons_zero, List.getElem?_cons_succ] at p0 q0; have s0 := HM0.out w hSw.t.below; have t0 := HL0.out w hSw.t.below; have s1 := HM1.out w hSw.t.below; have t1 := HL1.out w hSw.t.below; go_simp; first | done | with_reducible rfl)
                                simp only [Act.put, List.getElem_toArray, List.getElem_cons_zero, List.setIfInBounds_toArray, List.set_cons_zero, List.set_cons_succ]
                                refine wpAnyH_take (i := 1) (v := ?_) rfl (by kernel_rfl) (by kernel_rfl) (by kernel_rfl) (fun _ _ _ h => h) (Or.inl ⟨by rfl, ?_⟩) (by assumption) ?_
                                rotate_left
                                focus (intro w hSw; have p0 := hSw.f.cell 2; have q0 := hSw.g.cell 2; simp only [HY1.out, HY2.out, List.getElem?_cons_zero, List.getElem?_cons_succ] at p0 q0; have s0 := HM0.out w hSw.t.below; have t0 := HL0.out w hSw.t.below; have s1 := HM1.out w hSw.t.below; have t1 := HL1.out w hSw.t.below; go_simp; first | done | with_reducible rfl)
                                simp only [Act.put, List.getElem_toArray, List.getElem_cons_zero, List.getElem_cons_succ, List.setIfInBounds_toArray, List.set_cons_zero, List.set_cons_succ]
                                refine wpAnyH_take (i := 2) (v := ?_) rfl (by kernel_rfl) (by kernel_rfl) (by kernel_rfl) (fun _ _ _ h => h) (Or.inl ⟨by rfl, ?_⟩) (by assumption) ?_
                                rotate_left
                                focus (intro w hSw; have p0 := hSw.f.cell 2; have q0 := hSw.g.cell 2; simp only [HY1.out, HY2.out, List.getElem?_cons_zero, List.getElem?_cons_succ] at p0 q0; have s0 := HM0.out w hSw.t.below; have t0 := HL0.out w hSw.t.below; have s1 := HM1.out w hSw.t.below; have t1 := HL1.out w hSw.t.below; go_simp; first | done | with_reducible rfl)
                                simp only [Act.put, List.getElem_toArray, List.getElem_cons_zero, List.getElem_cons_succ, List.setIfInBounds_toArray, List.set_cons_zero, List.set_cons_succ]
                                refine wpAnyH_take (i := 3) (v := ?_) rfl (by kernel_rfl) (by kernel_rfl) (by kernel_rfl) (fun _ _ _ h => h) (Or.inl ⟨by rfl, ?_⟩) (by assumption) ?_
                                rotate_left
                                focus (intro w hSw; have p0 := hSw.f.cell 2; have q0 := hSw.g.cell 2; simp only [HY1.out, HY2.out, List.getElem?_cons_zero, List.getElem?_cons_succ] at p0 q0; have s0 := HM0.out w hSw.t.below; have t0 := HL0.out w hSw.t.below; have s1 := HM1.out w hSw.t.below; have t1 := HL1.out w hSw.t.below; go_simp; first | done | with_reducible rfl)
                                simp only [Act.put, List.getElem_toArray, List.getElem_cons_zero, List.getElem_cons_succ, List.setIfInBounds_toArray, List.set_cons_zero, List.set_cons_succ]
                                refine wpAnyH_take (i := 4) (v := ?_) rfl (by kernel_rfl) (by kernel_rfl) (by kernel_rfl) (fun _ _ _ h => h) (Or.inl ⟨by rfl, ?_⟩) (by assumption) ?_
                                rotate_left
                                focus (intro w hSw; have p0 := hSw.f.cell 2; have q0 := hSw.g.cell 2; simp only [HY1.out, HY2.out, List.getElem?_cons_zero, List.getElem?_cons_succ] at p0 q0; have s0 := HM0.out w hSw.t.below; have t0 := HL0.out w hSw.t.below; have s1 := HM1.out w hSw.t.below; have t1 := HL1.out w hSw.t.below; go_simp; first | done | with_reducible rfl)
                                simp only [Act.put, List.getElem_toArray, List.getElem_cons_zero, List.getElem_cons_succ, List.setIfInBounds_toArray, List.set_cons_zero, List.set_cons_succ]
                                refine wpAnyH_take (i := 5) (v := ?_) rfl (by kernel_rfl) (by kernel_rfl) (by kernel_rfl) (fun _ _ _ h => h) (Or.inl ⟨by rfl, ?_⟩) (by assumption) ?_
                                rotate_left
                                focus (intro w hSw; have p0 := hSw.f.cell 2; have q0 := hSw.g.cell 2; simp only [HY1.out, HY2.out, List.getElem?_cons_zero, List.getElem?_cons_succ] at p0 q0; have s0 := HM0.out w hSw.t.below; have t0 := HL0.out w hSw.t.below; have s1 := HM1.out w hSw.t.below; have t1 := HL1.out w hSw.t.below; go_simp; first | done | with_reducible rfl)
                                simp only [Act.put, List.getElem_toArray, List.getElem_cons_zero, List.getElem_cons_succ, List.setIfInBounds_toArray, List.set_cons_zero, List.set_cons_succ]
                                refine wpAnyH_take (i := 6) (v := ?_) rfl (by kernel_rfl) (by kernel_rfl) (by kernel_rfl) (fun _ _ _ h => h) (Or.inl ⟨by rfl, ?_⟩) (by assumption) ?_
                                rotate_left
                                focus (intro w hSw; have p0 := hSw.f.cell 2; have q0 := hSw.g.cell 2; simp only [HY1.out, HY2.out, List.getElem?_cons_zero, List.getElem?_cons_succ] at p0 q0; have s0 := HM0.out w hSw.t.below; have t0 := HL0.out w hSw.t.below; have s1 := HM1.out w hSw.t.below; have t1 := HL1.out w hSw.t.below; go_simp; first | done | with_reducible rfl)
                                simp only [Act.put, List.getElem_toArray, List.getElem_cons_zero, List.getElem_cons_succ, List.setIfInBounds_toArray, List.set_cons_zero, List.set_cons_succ]
                                refine wpAnyH_take (i := 7) (v := ?_) rfl (by kernel_rfl) (by kernel_rfl) (by kernel_rfl) (fun _ _ _ h => h) (Or.inl ⟨by rfl, ?_⟩) (by assumption) ?_
                                rotate_left
                                focus (intro w hSw; have p0 := hSw.f.cell 2; have q0 := hSw.g.cell 2; simp only [HY1.out, HY2.out, List.getElem?_cons_zero, List.getElem?_cons_succ] at p0 q0; have s0 := HM0.out w hSw.t.below; have t0 := HL0.out w hSw.t.below; have s1 := HM1.out w hSw.t.below; have t1 := HL1.out w hSw.t.below; go_simp; first | done | with_reducible rfl)
                                simp only [Act.put, List.getElem_toArray, List.getElem_cons_zero, List.getElem_cons_succ, List.setIfInBounds_toArray, List.set_cons_zero, List.set_cons_succ]
                                refine wpAnyH_take (i := 8) (v := ?_) rfl (by kernel_rfl) (by kernel_rfl) (by kernel_rfl) (fun _ _ _ h => h) (Or.inl ⟨by rfl, ?_⟩) (by assumption) ?_
                                rotate_left
                                focus (intro w hSw; have p0 := hSw.f.cell 2; have q0 := hSw.g.cell 2; simp only [HY1.out, HY2.out, List.getElem?_cons_zero, List.getElem?_cons_succ] at p0 q0; have s0 := HM0.out w hSw.t.below; have t0 := HL0.out w hSw.t.below; have s1 := HM1.out w hSw.t.below; have t1 := HL1.out w hSw.t.below; go_simp; first | done | with_reducible rfl)
                                simp only [Act.put, List.getElem_toArray, List.getElem_cons_zero, List.getElem_cons_succ, List.setIfInBounds_toArray, List.set_cons_zero, List.set_cons_succ]
                                refine wpAnyH_take (i := 9) (v := ?_) rfl (by kernel_rfl) (by kernel_rfl) (by kernel_rfl) (fun _ _ _ h => h) (Or.inl ⟨by rfl, ?_⟩) (by assumption) ?_
                                rotate_left
                                focus (intro w hSw; have p0 := hSw.f.cell 2; have q0 := hSw.g.cell 2; simp only [HY1.out, HY2.out, List.getElem?_cons_zero, List.getElem?_cons_succ] at p0 q0; have s0 := HM0.out w hSw.t.below; have t0 := HL0.out w hSw.t.below; have s1 := HM1.out w hSw.t.below; have t1 := HL1.out w hSw.t.below; go_simp; first | done | with_reducible rfl)
                                simp only [Act.put, List.getElem_toArray, List.getElem_cons_zero, List.getElem_cons_succ, List.setIfInBounds_toArray, List.set_cons_zero, List.set_cons_succ]
                                refine wpAnyH_take (i := 10) (v := ?_) rfl (by kernel_rfl) (by kernel_rfl) (by kernel_rfl) (fun _ _ _ h => h) (Or.inl ⟨by rfl, ?_⟩) (by assumption) ?_
                                rotate_left
                                focus (intro w hSw; have p0 := hSw.f.cell 2; have q0 := hSw.g.cell 2; simp only [HY1.out, HY2.out, List.getElem?_cons_zero, List.getElem?_cons_succ] at p0 q0; have s0 := HM0.out w hSw.t.below; have t0 := HL0.out w hSw.t.below; have s1 := HM1.out w hSw.t.below; have t1 := HL1.out w hSw.t.below; go_simp; first | done | with_reducible rfl)
                                simp only [Act.put, List.getElem_toArray, List.getElem_cons_zero, List.getElem_cons_succ, List.setIfInBounds_toArray, List.set_cons_zero, List.set_cons_succ]
                                refine wpAnyH_done (by kernel_rfl) ?_ _
                                have HH := Lib.hid hHeld
                                clear hHeld
                                go_wp2
                                go_ret
                                exact IffP.no rfl HNO.out HH.out.t.below
                              subst c1
                              have tnc1 : ((u1 : Int) == u1) = true := by simp
                              have HA2 := Lib.hid (HYJ.out rfl)
                              clear HNJ HYJ
                              go_upto_region 42 with fail
                              refine wp_region_held_drew (S := fun z => TwB w.heap.size B X1 X2 Y1 Y2 w z) (by kernel_rfl) ?_ (fun hHeld => ?_)
                              · exact HT.out.dr
                              refine wpAnyH_take (i := 0) (v := ?_) rfl (by kernel_rfl) (by kernel_rfl) (by kernel_rfl) (fun _ _ _ h => h) (Or.inl ⟨by rfl, ?_⟩) (by assumption) ?_
                              rotate_left
                              focus (intro w hSw; have p0 := hSw.f.cell 2; have q0 := hSw.g.cell 2; simp only [HY1.out, HY2.out, List.getElem?_cons_zero, List.getElem?_cons_succ] at p0 q0; have s0 := HM0.out w hSw.t.below; have t0 := HL0.out w hSw.t.below; have s1 := HM1.out w hSw.t.below; have t1 := HL1.out w hSw.t.below; go_simp; first | done | with_reducible rfl)
                              simp only [Act.put, List.getElem_toArray, List.getElem_cons_zero, List.setIfInBounds_toArray, List.set_cons_zero, List.set_cons_succ]
                              refine wpAnyH_take (i := 1) (v := ?_) rfl (by kernel_rfl) (by kernel_rfl) (by kernel_rfl) (fun _ _ _ h => h) (Or.inl ⟨by rfl, ?_⟩) (by assumption) ?_
                              rotate_left
                              focus (intro w hSw; have p0 := hSw.f.cell 2; have q0 := hSw.g.cell 2; simp only [HY1.out, HY2.out, List.getElem?_cons_zero, List.getElem?_cons_succ] at p0 q0; have s0 := HM0.out w hSw.t.below; have t0 := HL0.out w hSw.t.below; have s1 := HM1.out w hSw.t.below; have t1 := HL1.out w hSw.t.below; go_simp; first | done | with_reducible rfl)
                              simp only [Act.put, List.getElem_toArray, List.getElem_cons_zero, List.getElem_cons_succ, List.setIfInBounds_toArray, List.set_cons_zero, List.set_cons_succ]
                              refine wpAnyH_take (i := 2) (v := ?_) rfl (by kernel_rfl) (by kernel_rfl) (by kernel_rfl) (fun _ _ _ h => h) (Or.inl ⟨by rfl, ?_⟩) (by assumption) ?_
                              rotate_left
                              focus (intro w hSw; have p0 := hSw.f.cell 2; have q0 := hSw.g.cell 2; simp only [HY1.out, HY2.out, List.getElem?_cons_zero, List.getElem?_cons_succ] at p0 q0; have s0 := HM0.out w hSw.t.below; have t0 := HL0.out w hSw.t.below; have s1 := HM1.out w hSw.t.below; have t1 := HL1.out w hSw.t.below; go_simp; first | done | with_reducible rfl)
                              simp only [Act.put, List.getElem_toArray, List.getElem_cons_zero, List.getElem_cons_succ, List.setIfInBounds_toArray, List.set_cons_zero, List.set_cons_succ]
                              refine wpAnyH_take (i := 3) (v := ?_) rfl (by kernel_rfl) (by kernel_rfl) (by kernel_rfl) (fun _ _ _ h => h) (Or.inl ⟨by rfl, ?_⟩) (by assumption) ?_
                              rotate_left
                              focus (intro w hSw; have p0 := hSw.f.cell 2; have q0 := hSw.g.cell 2; simp only [HY1.out, HY2.out, List.getElem?_cons_zero, List.getElem?_cons_succ] at p0 q0; have s0 := HM0.out w hSw.t.below; have t0 := HL0.out w hSw.t.below; have s1 := HM1.out w hSw.t.below; have t1 := HL1.out w hSw.t.below; go_simp; first | done | with_reducible rfl)
                              simp only [Act.put, List.getElem_toArray, List.getElem_cons_zero, List.getElem_cons_succ, List.setIfInBounds_toArray, List.set_cons_zero, List.set_cons_succ]
                              refine wpAnyH_take (i := 4) (v := ?_) rfl (by kernel_rfl) (by kernel_rfl) (by kernel_rfl) (fun _ _ _ h => h) (Or.inl ⟨by rfl, ?_⟩) (by assumption) ?_
                              rotate_left
                              focus (intro w hSw; have p0 := hSw.f.cell 2; have q0 := hSw.g.cell 2; simp only [HY1.out, HY2.out, List.getElem?_cons_zero, List.getElem?_cons_succ] at p0 q0; have s0 := HM0.out w hSw.t.below; have t0 := HL0.out w hSw.t.below; have s1 := HM1.out w hSw.t.below; have t1 := HL1.out w hSw.t.below; go_simp; first | done | with_reducible rfl)
                              simp only [Act.put, List.getElem_toArray, List.getElem_cons_zero, List.getElem_cons_succ, List.setIfInBounds_toArray, List.set_cons_zero, List.set_cons_succ]
                              refine wpAnyH_take (i := 5) (v := ?_) rfl (by kernel_rfl) (by kernel_rfl) (by kernel_rfl) (fun _ _ _ h => h) (Or.inl ⟨by rfl, ?_⟩) (by assumption) ?_
                              rotate_left
                              focus (intro w hSw; have p0 := hSw.f.cell 2; have q0 := hSw.g.cell 2; simp only [HY1.out, HY2.out, List.getElem?_cons_zero, List.getElem?_cons_succ] at p0 q0; have s0 := HM0.out w hSw.t.below; have t0 := HL0.out w hSw.t.below; have s1 := HM1.out w hSw.t.below; have t1 := HL1.out w hSw.t.below; go_simp; first | done | with_reducible rfl)
                              simp only [Act.put, List.getElem_toArray, List.getElem_cons_zero, List.getElem_cons_succ, List.setIfInBounds_toArray, List.set_cons_zero, List.set_cons_succ]
                              refine wpAnyH_take (i := 6) (v := ?_) rfl (by kernel_rfl) (by kernel_rfl) (by kernel_rfl) (fun _ _ _ h => h) (Or.inl ⟨by rfl, ?_⟩) (by assumption) ?_
                              rotate_left
                              focus (intro w hSw; have p0 := hSw.f.cell 2; have q0 := hSw.g.cell 2; simp only [HY1.out, HY2.out, List.getElem?_cons_zero, List.getElem?_cons_succ] at p0 q0; have s0 := HM0.out w hSw.t.below; have t0 := HL0.out w hSw.t.below; have s1 := HM1.out w hSw.t.below; have t1 := HL1.out w hSw.t.below; go_simp; first | done | with_reducible rfl)
                              simp only [Act.put, List.getElem_toArray, List.getElem_cons_zero, List.getElem_cons_succ, List.setIfInBounds_toArray, List.set_cons_zero, List.set_cons_succ]
                              refine wpAnyH_take (i := 7) (v := ?_) rfl (by kernel_rfl) (by kernel_rfl) (by kernel_rfl) (fun _ _ _ h => h) (Or.inl ⟨by rfl, ?_⟩) (by assumption) ?_
                              rotate_left
                              focus (intro w hSw; have p0 := hSw.f.cell 2; have q0 := hSw.g.cell 2; simp only [HY1.out, HY2.out, List.getElem?_cons_zero, List.getElem?_cons_succ] at p0 q0; have s0 := HM0.out w hSw.t.below; have t0 := HL0.out w hSw.t.below; have s1 := HM1.out w hSw.t.below; have t1 := HL1.out w hSw.t.below; go_simp; first | done | with_reducible rfl)
                              simp only [Act.put, List.getElem_toArray, List.getElem_cons_zero, List.getElem_cons_succ, List.setIfInBounds_toArray, List.set_cons_zero, List.set_cons_succ]
                              refine wpAnyH_take (i := 8) (v := ?_) rfl (by kernel_rfl) (by kernel_rfl) (by kernel_rfl) (fun _ _ _ h => h) (Or.inl ⟨by rfl, ?_⟩) (by assumption) ?_
                              rotate_left
                              focus (intro w hSw; have p0 := hSw.f.cell 2; have q0 := hSw.g.cell 2; simp only [HY1.out, HY2.out, List.getElem?_cons_zero, List.getElem?_cons_succ] at p0 q0; have s0 := HM0.out w hSw.t.below; have t0 := HL0.out w hSw.t.below; have s1 := HM1.out w hSw.t.below; have t1 := HL1.out w hSw.t.below; go_simp; first | done | with_reducible rfl)
                              simp only [Act.put, List.getElem_toArray, List.getElem_cons_zero, List.getElem_cons_succ, List.setIfInBounds_toArray, List.set_cons_zero, List.set_cons_succ]
                              refine wpAnyH_take (i := 9) (v := ?_) rfl (by kernel_rfl) (by kernel_rfl) (by kernel_rfl) (fun _ _ _ h => h) (Or.inl ⟨by rfl, ?_⟩) (by assumption) ?_
                              rotate_left
                              focus (intro w hSw; have p0 := hSw.f.cell 2; have q0 := hSw.g.cell 2; simp only [HY1.out, HY2.out, List.getElem?_cons_zero, List.getElem?_cons_succ] at p0 q0; have s0 := HM0.out w hSw.t.below; have t0 := HL0.out w hSw.t.below; have s1 := HM1.out w hSw.t.below; have t1 := HL1.out w hSw.t.below; go_simp; first | done | with_reducible rfl)
                              simp only [Act.put, List.getElem_toArray, List.getElem_cons_zero, List.getElem_cons_succ, List.setIfInBounds_toArray, List.set_cons_zero, List.set_cons_succ]
                              refine wpAnyH_take (i := 10) (v := ?_) rfl (by kernel_rfl) (by kernel_rfl) (by kernel_rfl) (fun _ _ _ h => h) (Or.inl ⟨by rfl, ?_⟩) (by assumption) ?_
                              rotate_left
                              focus (intro w hSw; have p0 := hSw.f.cell 2; have q0 := hSw.g.cell 2; simp only [HY1.out, HY2.out, List.getElem?_cons_zero, List.getElem?_cons_succ] at p0 q0; have s0 := HM0.out w hSw.t.below; have t0 := HL0.out w hSw.t.below; have s1 := HM1.out w hSw.t.below; have t1 := HL1.out w hSw.t.below; go_simp; first | done | with_reducible rfl)
                              simp only [Act.put, List.getElem_toArray, List.getElem_cons_zero, List.getElem_cons_succ, List.setIfInBounds_toArray, List.set_cons_zero, List.set_cons_succ]
                              refine wpAnyH_done (by kernel_rfl) ?_ _
                              have HH := Lib.hid hHeld
                              clear hHeld
                              go_wp2
                              go_roundw
                              case rel => exact ⟨j + 1, by omega, by go_num, HA2, HH⟩
                              case measure => simp [intOf]; omega
                            · have HA2 := Lib.hid (HY.out (by
                                have := HAJ.out
                                rw [List.take_of_length_le (by have := E6.out; omega), List.take_of_length_le (by have := D6.out; omega)] at this
                                rw [this]))
                              have HH := Lib.hid HT.out.t
                              go_wp2
                              go_roundw
                              case rel => exact ⟨k + 1, by omega, by go_num, HA2, HH⟩
                              case measure => simp [intOf]; omega
                        · have HE0 : Hid (f.bd = g.bd) := Lib.hid (by
                            have := HA.out
                            rwa [List.take_of_length_le (by have := E0.out; omega), List.take_of_length_le (by have := D0.out; omega)] at this)
                          obtain ⟨wq, hwq⟩ : ∃ wq, wq = wr := ⟨_, rfl⟩
                          subst hwq
                          clear HA hsr
                          go_wp2
                          go_ret
                          exact IffP.yes rfl (fl_eq HEFC.out HE1.out HE2.out HE3.out HE4.out HE5.out HE0.out) HT.out.below
end Go.Proofs.YthimpjfmelmhpaaDoor.Fc
