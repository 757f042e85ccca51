/-
  Few: where it says yes, a file has few parts.
-/
import Derived.Test.YthimpjfmelmhpaaDoorCsRight
namespace Go.Proofs.YthimpjfmelmhpaaDoor.Fc
open Go.RowKit
set_option linter.unusedVariables false

theorem all_snk2 {α : Type} {P : α → Prop} {xs : List α} {k : Nat} {x : α} (hx : xs[k]? = some x) (h : ∀ y ∈ xs.take k, P y) (hp : P x) : ∀ y ∈ xs.take (k + 1), P y := by
  obtain ⟨hk, rfl⟩ := List.getElem?_eq_some_iff.1 hx
  rw [List.take_succ_eq_append_getElem hk]
  intro y hy
  simp only [List.mem_append, List.mem_singleton] at hy
  rcases hy with hy | rfl
  · exact h y hy
  · exact hp
/-- a file with few parts -/
structure FewF (f : Fl) : Prop where
  fc : Small f.fc
  nu : f.nu.length ≤ 20
  cl : f.cl.length ≤ 20
  ty : f.ty.length ≤ 20
  fd : f.fd.length ≤ 20
  mt : f.mt.length ≤ 20
  bd : f.bd.length ≤ 12
  c1 : ∀ y ∈ f.cl, y.size ≤ 60
  t1 : ∀ y ∈ f.ty, y.n.size ≤ 60
  m1 : ∀ y ∈ f.mt, y.2.size ≤ 60 ∧ Small ⟨⟨#[]⟩, ⟨#[]⟩, [], [y.1]⟩
  b1 : ∀ y ∈ f.bd, y.co.length ≤ 60
set_option maxHeartbeats 4000000 in
set_option maxRecDepth 100000 in
theorem few10m (f : Fl) (cs : List Value) (w : World) (hf : FlR w f cs) : Calls Tryd.prog 21 #[.agg cs.toArray] w (FewP (FewF f) w) := by
  obtain ⟨a8, n8, c8, a9, n9, c9, a1, n1, c1, a2, n2, c2, a3, n3, c3, a4, n4, c4, a5, n5, c5, a0, n0, c0, rfl, hfc, hpo, hbd⟩ := hf
  obtain ⟨_, _, _, _, _, _, he, hf8, hf9⟩ := id hfc
  simp only [List.cons.injEq, Value.slice.injEq, true_and, and_true] at he
  obtain ⟨⟨rfl, rfl, rfl⟩, rfl, rfl, rfl⟩ := he
  obtain ⟨e1, l1, k1, hk1⟩ := hpo.nu.at
  obtain ⟨e2, l2, k2, hk2⟩ := hpo.cl.at
  obtain ⟨e3, l3, k3, hk3⟩ := hpo.ty.at
  obtain ⟨e4, l4, k4, hk4⟩ := hpo.fd.at
  obtain ⟨e5, l5, k5, hk5⟩ := hpo.mt.at
  obtain ⟨e0, l0, k0, hk0⟩ := hbd.at
  unfold maxLen at k1 k2 k3 k4 k5 k0
  have E1 := Lib.hid e1
  have HK1 := Lib.hid hk1
  have E2 := Lib.hid e2
  have HK2 := Lib.hid hk2
  have E3 := Lib.hid e3
  have HK3 := Lib.hid hk3
  have E4 := Lib.hid e4
  have HK4 := Lib.hid hk4
  have E5 := Lib.hid e5
  have HK5 := Lib.hid hk5
  have E0 := Lib.hid e0
  have HK0 := Lib.hid hk0
  clear e1 e2 e3 e4 e5 e0 hk1 hk2 hk3 hk4 hk5 hk0
  obtain ⟨W0, HW0⟩ : ∃ W0, Hid (W0 = w.alloc (.cells #[.string f.fc.name, .string f.fc.sup, .slice a8 n8 c8, .slice a9 n9 c9, .slice a1 n1 c1, .slice a2 n2 c2, .slice a3 n3 c3, .slice a4 n4 c4, .slice a5 n5 c5, .slice a0 n0 c0] 44)) := ⟨_, Lib.hid rfl⟩
  have F0 : Hid (Blk W0 w.heap.size [.string f.fc.name, .string f.fc.sup, .slice a8 n8 c8, .slice a9 n9 c9, .slice a1 n1 c1, .slice a2 n2 c2, .slice a3 n3 c3, .slice a4 n4 c4, .slice a5 n5 c5, .slice a0 n0 c0] 44) := Lib.hid (by rw [HW0.out]; exact Blk.new w [.string f.fc.name, .string f.fc.sup, .slice a8 n8 c8, .slice a9 n9 c9, .slice a1 n1 c1, .slice a2 n2 c2, .slice a3 n3 c3, .slice a4 n4 c4, .slice a5 n5 c5, .slice a0 n0 c0] 44)
  have HB0 : Hid (Below w.heap.size w W0) := Lib.hid (by rw [HW0.out]; exact below1 w _)
  have HFW : Hid (Calls Tryd.prog 37 #[.agg #[.string f.fc.name, .string f.fc.sup, .slice a8 n8 c8, .slice a9 n9 c9]] W0 (FewP (Small f.fc) W0)) := Lib.hid (few31 f.fc a8 n8 c8 a9 n9 c9 W0 (vrs_keep (Keeps.of_below HB0.out) hf8) (sgs_keep (Keeps.of_below HB0.out) hf9))
  clear hfc hpo hbd hf8 hf9
  go_enter Tryd.func21, Tryd.ntmps21
  go_upto_region 1 with fail
  rw [← HW0.out]
  clear HW0
  have p0 := F0.out.cell 0
  have p1 := F0.out.cell 1
  have p2 := F0.out.cell 2
  have p3 := F0.out.cell 3
  have p4 := F0.out.cell 4
  have p5 := F0.out.cell 5
  have p6 := F0.out.cell 6
  have p7 := F0.out.cell 7
  have p8 := F0.out.cell 8
  have p9 := F0.out.cell 9
  simp only [List.getElem?_cons_succ, List.getElem?_cons_zero] at p0 p1 p2 p3 p4 p5 p6 p7 p8 p9
  go_wp2_with fail
  refine HFW.out.mono ?_
  rintro e w1 ⟨r1, rfl, hsm0, hb1⟩
  have HSM0 := Lib.hid hsm0
  clear hsm0
  have HBQ : Hid (Below w.heap.size w w1) := Lib.hid (HB0.out.trans (hb1.mono HB0.out.size))
  have FQ := Lib.hid (F0.out.below hb1)
  clear hb1 HFW p0 p1 p2 p3 p4 p5 p6 p7 p8 p9 F0 HB0
  have p0 := FQ.out.cell 0
  have p1 := FQ.out.cell 1
  have p2 := FQ.out.cell 2
  have p3 := FQ.out.cell 3
  have p4 := FQ.out.cell 4
  have p5 := FQ.out.cell 5
  have p6 := FQ.out.cell 6
  have p7 := FQ.out.cell 7
  have p8 := FQ.out.cell 8
  have p9 := FQ.out.cell 9
  simp only [List.getElem?_cons_succ, List.getElem?_cons_zero] at p0 p1 p2 p3 p4 p5 p6 p7 p8 p9
  cases r1 with
  | false =>
    go_wp2
    go_ret
    exact FewP.no rfl HBQ.out
  | true =>
  by_cases t1 : 20 < n1
  · go_wp2
    go_ret
    exact FewP.no rfl HBQ.out
  by_cases t2 : 20 < n2
  · go_wp2
    go_ret
    exact FewP.no rfl HBQ.out
  by_cases t3 : 20 < n3
  · go_wp2
    go_ret
    exact FewP.no rfl HBQ.out
  by_cases t4 : 20 < n4
  · go_wp2
    go_ret
    exact FewP.no rfl HBQ.out
  by_cases t5 : 20 < n5
  · go_wp2
    go_ret
    exact FewP.no rfl HBQ.out
  by_cases t0 : 12 < n0
  · go_wp2
    go_ret
    exact FewP.no rfl HBQ.out
  go_wp2
  clear p0 p1 p2 p3 p4 p5 p6 p7 p8 p9
  go_loopw [62] (fun i wr => ∃ k : Nat, k ≤ n2 ∧ i = .int .i64 k ∧ Hid (Blk wr w.heap.size [.string f.fc.name, .string f.fc.sup, .slice a8 n8 c8, .slice a9 n9 c9, .slice a1 n1 c1, .slice a2 n2 c2, .slice a3 n3 c3, .slice a4 n4 c4, .slice a5 n5 c5, .slice a0 n0 c0] 44) ∧ Hid (∀ y ∈ f.cl.take k, y.size ≤ 60) ∧ Below w.heap.size w wr) (fun i _ => n2 - (intOf i).toNat)
  case atStart => exact ⟨0, Nat.zero_le _, rfl, FQ, Lib.hid (by intro y hy; simp at hy), HBQ.out⟩
  case round =>
    clear FQ HBQ
    obtain ⟨k, hk, rfl, HB, HAL, hbr⟩ := hrel
    have hsr := hbr.size
    by_cases hkl : k < n2
    · obtain ⟨x, hx⟩ : ∃ v, f.cl[k]? = some v := ⟨_, List.getElem?_eq_getElem (by have := E2.out; omega)⟩
      obtain ⟨g, o, cs, rfl, hcell, rfl⟩ := HK2.out k x hx
      simp only [Nat.mul_one] at hcell
      have q0 : wr.cell? ⟨g, o + k, none⟩ = some (.string x) := (hbr.cell (World.block_lt_of_cell? _ _ (hcell 0 _ rfl))).trans (hcell 0 _ rfl)
      have HX := Lib.hid hx
      clear hcell hx
      by_cases s1 : 60 < x.size
      · go_wp2
        go_ret
        exact FewP.no rfl hbr
      go_wp2
      go_roundw
      case rel => exact ⟨k + 1, by omega, by go_num, HB, Lib.hid (all_snk2 HX.out HAL.out (by omega)), hbr⟩
      case measure => simp [intOf]; omega
    · obtain ⟨wq, hwq⟩ : ∃ wq, wq = wr := ⟨_, rfl⟩
      subst hwq
      have FQ := HB
      have HBQ := Lib.hid hbr
      have HALL0 : Hid (∀ y ∈ f.cl, y.size ≤ 60) := Lib.hid (by have h := HAL.out; rwa [List.take_of_length_le (by have := E2.out; omega)] at h)
      clear HB hbr hsr HAL
      have p0 := FQ.out.cell 0
      have p1 := FQ.out.cell 1
      have p2 := FQ.out.cell 2
      have p3 := FQ.out.cell 3
      have p4 := FQ.out.cell 4
      have p5 := FQ.out.cell 5
      have p6 := FQ.out.cell 6
      have p7 := FQ.out.cell 7
      have p8 := FQ.out.cell 8
      have p9 := FQ.out.cell 9
      simp only [List.getElem?_cons_succ, List.getElem?_cons_zero] at p0 p1 p2 p3 p4 p5 p6 p7 p8 p9
      go_wp2
      clear p0 p1 p2 p3 p4 p5 p6 p7 p8 p9
      go_loopw [74] (fun i wr => ∃ k : Nat, k ≤ n3 ∧ i = .int .i64 k ∧ Hid (Blk wr w.heap.size [.string f.fc.name, .string f.fc.sup, .slice a8 n8 c8, .slice a9 n9 c9, .slice a1 n1 c1, .slice a2 n2 c2, .slice a3 n3 c3, .slice a4 n4 c4, .slice a5 n5 c5, .slice a0 n0 c0] 44) ∧ Hid (∀ y ∈ f.ty.take k, y.n.size ≤ 60) ∧ Below w.heap.size w wr) (fun i _ => n3 - (intOf i).toNat)
      case atStart => exact ⟨0, Nat.zero_le _, rfl, FQ, Lib.hid (by intro y hy; simp at hy), HBQ.out⟩
      case round =>
        clear FQ HBQ
        obtain ⟨k, hk, rfl, HB, HAL, hbr⟩ := hrel
        have hsr := hbr.size
        by_cases hkl : k < n3
        · obtain ⟨x, hx⟩ : ∃ v, f.ty[k]? = some v := ⟨_, List.getElem?_eq_getElem (by have := E3.out; omega)⟩
          obtain ⟨g, o, cs, rfl, hcell, rfl⟩ := HK3.out k x hx
          have q0 : wr.cell? ⟨g, o + k * 2, none⟩ = some (.string x.n) := (hbr.cell (World.block_lt_of_cell? _ _ (hcell 0 _ rfl))).trans (hcell 0 _ rfl)
          have q1 : wr.cell? ⟨g, o + k * 2 + 1, none⟩ = some (.bool x.a) := (hbr.cell (World.block_lt_of_cell? _ _ (hcell 1 _ rfl))).trans (hcell 1 _ rfl)
          have HX := Lib.hid hx
          clear hcell hx
          by_cases s1 : 60 < x.n.size
          · go_wp2
            go_ret
            exact FewP.no rfl (hbr.trans ((below1 wr _).mono hsr))
          go_wp2
          go_roundw
          case rel => exact ⟨k + 1, by omega, by go_num, Lib.hid (HB.out.below (below1 _ _)), Lib.hid (all_snk2 HX.out HAL.out (by omega)), (hbr.trans ((below1 wr _).mono hsr))⟩
          case measure => simp [intOf]; omega
        · obtain ⟨wq, hwq⟩ : ∃ wq, wq = wr := ⟨_, rfl⟩
          subst hwq
          have FQ := HB
          have HBQ := Lib.hid hbr
          have HALL1 : Hid (∀ y ∈ f.ty, y.n.size ≤ 60) := Lib.hid (by have h := HAL.out; rwa [List.take_of_length_le (by have := E3.out; omega)] at h)
          clear HB hbr hsr HAL
          have p0 := FQ.out.cell 0
          have p1 := FQ.out.cell 1
          have p2 := FQ.out.cell 2
          have p3 := FQ.out.cell 3
          have p4 := FQ.out.cell 4
          have p5 := FQ.out.cell 5
          have p6 := FQ.out.cell 6
          have p7 := FQ.out.cell 7
          have p8 := FQ.out.cell 8
          have p9 := FQ.out.cell 9
          simp only [List.getElem?_cons_succ, List.getElem?_cons_zero] at p0 p1 p2 p3 p4 p5 p6 p7 p8 p9
          go_wp2
          clear p0 p1 p2 p3 p4 p5 p6 p7 p8 p9
          go_loopw [87] (fun i wr => ∃ k : Nat, k ≤ n4 ∧ i = .int .i64 k ∧ Hid (Blk wr w.heap.size [.string f.fc.name, .string f.fc.sup, .slice a8 n8 c8, .slice a9 n9 c9, .slice a1 n1 c1, .slice a2 n2 c2, .slice a3 n3 c3, .slice a4 n4 c4, .slice a5 n5 c5, .slice a0 n0 c0] 44) ∧ Hid (∀ y ∈ f.fd.take k, True) ∧ Below w.heap.size w wr) (fun i _ => n4 - (intOf i).toNat)
          case atStart => exact ⟨0, Nat.zero_le _, rfl, FQ, Lib.hid (by intro y hy; simp at hy), HBQ.out⟩
          case round =>
            clear FQ HBQ
            obtain ⟨k, hk, rfl, HB, HAL, hbr⟩ := hrel
            have hsr := hbr.size
            by_cases hkl : k < n4
            · obtain ⟨x, hx⟩ : ∃ v, f.fd[k]? = some v := ⟨_, List.getElem?_eq_getElem (by have := E4.out; omega)⟩
              obtain ⟨g, o, cs, rfl, hcell, rfl⟩ := HK4.out k x hx
              have q0 : wr.cell? ⟨g, o + k * 4, none⟩ = some (.string x.1.name) := (hbr.cell (World.block_lt_of_cell? _ _ (hcell 0 _ rfl))).trans (hcell 0 _ rfl)
              have q1 : wr.cell? ⟨g, o + k * 4 + 1, none⟩ = some (.string x.1.tn) := (hbr.cell (World.block_lt_of_cell? _ _ (hcell 1 _ rfl))).trans (hcell 1 _ rfl)
              have q2 : wr.cell? ⟨g, o + k * 4 + 2, none⟩ = some (.bool x.1.ta) := (hbr.cell (World.block_lt_of_cell? _ _ (hcell 2 _ rfl))).trans (hcell 2 _ rfl)
              have q3 : wr.cell? ⟨g, o + k * 4 + 3, none⟩ = some (.string x.2) := (hbr.cell (World.block_lt_of_cell? _ _ (hcell 3 _ rfl))).trans (hcell 3 _ rfl)
              have HX := Lib.hid hx
              clear hcell hx
              go_wp2
              · go_ret
                exact FewP.no rfl (hbr.trans ((below1 wr _).mono hsr))
              · go_roundw
                case rel => exact ⟨k + 1, by omega, by go_num, Lib.hid (HB.out.below (below1 _ _)), Lib.hid (all_snk2 HX.out HAL.out trivial), (hbr.trans ((below1 wr _).mono hsr))⟩
                case measure => simp [intOf]; omega
            · obtain ⟨wq, hwq⟩ : ∃ wq, wq = wr := ⟨_, rfl⟩
              subst hwq
              have FQ := HB
              have HBQ := Lib.hid hbr
              have HALL2 : Hid (∀ y ∈ f.fd, True) := Lib.hid (by have h := HAL.out; rwa [List.take_of_length_le (by have := E4.out; omega)] at h)
              clear HB hbr hsr HAL
              have p0 := FQ.out.cell 0
              have p1 := FQ.out.cell 1
              have p2 := FQ.out.cell 2
              have p3 := FQ.out.cell 3
              have p4 := FQ.out.cell 4
              have p5 := FQ.out.cell 5
              have p6 := FQ.out.cell 6
              have p7 := FQ.out.cell 7
              have p8 := FQ.out.cell 8
              have p9 := FQ.out.cell 9
              simp only [List.getElem?_cons_succ, List.getElem?_cons_zero] at p0 p1 p2 p3 p4 p5 p6 p7 p8 p9
              go_wp2
              clear p0 p1 p2 p3 p4 p5 p6 p7 p8 p9
              go_loopw [111] (fun i wr => ∃ k : Nat, k ≤ n5 ∧ i = .int .i64 k ∧ Hid (Blk wr w.heap.size [.string f.fc.name, .string f.fc.sup, .slice a8 n8 c8, .slice a9 n9 c9, .slice a1 n1 c1, .slice a2 n2 c2, .slice a3 n3 c3, .slice a4 n4 c4, .slice a5 n5 c5, .slice a0 n0 c0] 44) ∧ Hid (∀ y ∈ f.mt.take k, y.2.size ≤ 60 ∧ Small ⟨⟨#[]⟩, ⟨#[]⟩, [], [y.1]⟩) ∧ Below w.heap.size w wr) (fun i _ => n5 - (intOf i).toNat)
              case atStart => exact ⟨0, Nat.zero_le _, rfl, FQ, Lib.hid (by intro y hy; simp at hy), HBQ.out⟩
              case round =>
                clear FQ HBQ
                obtain ⟨k, hk, rfl, HB, HAL, hbr⟩ := hrel
                have hsr := hbr.size
                by_cases hkl : k < n5
                · obtain ⟨x, hx⟩ : ∃ v, f.mt[k]? = some v := ⟨_, List.getElem?_eq_getElem (by have := E5.out; omega)⟩
                  obtain ⟨g, o, cs, rfl, hcell, a7, n7, c7, rfl, hps⟩ := HK5.out k x hx
                  have q0 : wr.cell? ⟨g, o + k * 6, none⟩ = some (.string x.1.name) := (hbr.cell (World.block_lt_of_cell? _ _ (hcell 0 _ rfl))).trans (hcell 0 _ rfl)
                  have q1 : wr.cell? ⟨g, o + k * 6 + 1, none⟩ = some (.bool x.1.st) := (hbr.cell (World.block_lt_of_cell? _ _ (hcell 1 _ rfl))).trans (hcell 1 _ rfl)
                  have q2 : wr.cell? ⟨g, o + k * 6 + 2, none⟩ = some (.slice a7 n7 c7) := (hbr.cell (World.block_lt_of_cell? _ _ (hcell 2 _ rfl))).trans (hcell 2 _ rfl)
                  have q3 : wr.cell? ⟨g, o + k * 6 + 3, none⟩ = some (.string x.1.rn) := (hbr.cell (World.block_lt_of_cell? _ _ (hcell 3 _ rfl))).trans (hcell 3 _ rfl)
                  have q4 : wr.cell? ⟨g, o + k * 6 + 4, none⟩ = some (.bool x.1.ra) := (hbr.cell (World.block_lt_of_cell? _ _ (hcell 4 _ rfl))).trans (hcell 4 _ rfl)
                  have q5 : wr.cell? ⟨g, o + k * 6 + 5, none⟩ = some (.string x.2) := (hbr.cell (World.block_lt_of_cell? _ _ (hcell 5 _ rfl))).trans (hcell 5 _ rfl)
                  have HPS := Lib.hid hps
                  have HBR := Lib.hid hbr
                  have HX := Lib.hid hx
                  clear hcell hx hps
                  by_cases s1 : 60 < x.2.size
                  · go_wp2
                    go_ret
                    exact FewP.no rfl (hbr.trans ((below1 wr _).mono hsr))
                  have HZ : Hid (∀ W b, Blk W b [.string x.1.name, .bool x.1.st, .slice a7 n7 c7, .string x.1.rn, .bool x.1.ra] 51 → Below w.heap.size w W → Calls Tryd.prog 37 #[.agg #[.string ⟨#[]⟩, .string ⟨#[]⟩, .slice none 0 0, .slice (some ⟨b, 0, none⟩) 1 1]] W (FewP (Small ⟨⟨#[]⟩, ⟨#[]⟩, [], [x.1]⟩) W)) := Lib.hid (fun W b hB hW => few31 ⟨⟨#[]⟩, ⟨#[]⟩, [], [x.1]⟩ none 0 0 (some ⟨b, 0, none⟩) 1 1 W (Sl.nil _ _ _) (Sl.one hB ⟨a7, n7, c7, rfl, tys_keep (Keeps.of_below hW) HPS.out⟩))
                  go_wp2_with fail
                  have hZ := HZ.out ((wr.alloc (.cells #[.string x.1.name, .bool x.1.st, .slice a7 n7 c7, .string x.1.rn, .bool x.1.ra, .string x.2] 58)).alloc (.cells #[.string x.1.name, .bool x.1.st, .slice a7 n7 c7, .string x.1.rn, .bool x.1.ra] 51)) (wr.heap.size + 1) (by simpa using Blk.new (wr.alloc (.cells #[.string x.1.name, .bool x.1.st, .slice a7 n7 c7, .string x.1.rn, .bool x.1.ra, .string x.2] 58)) [.string x.1.name, .bool x.1.st, .slice a7 n7 c7, .string x.1.rn, .bool x.1.ra] 51) (HBR.out.trans ((below2 wr _ _).mono hsr))
                  refine hZ.mono ?_
                  rintro e w2 ⟨r2, rfl, hsm, hb2⟩
                  have HSM := Lib.hid hsm
                  clear hsm
                  have hb3 := below_r hb2
                  have HB3 : Hid (Below w.heap.size w w2) := Lib.hid (hbr.trans (hb3.mono hsr))
                  have HBB := Lib.hid (HB.out.below hb3)
                  clear hZ hb2 hb3 q0 q1 q2 q3 q4 q5 HB hbr HBR HPS HZ
                  cases r2 with
                  | false =>
                    go_wp2
                    go_ret
                    exact FewP.no rfl HB3.out
                  | true =>
                  go_wp2
                  go_roundw
                  case rel => exact ⟨k + 1, by omega, by go_num, HBB, Lib.hid (all_snk2 HX.out HAL.out ⟨by omega, HSM.out (by simp)⟩), HB3.out⟩
                  case measure => simp [intOf]; omega
                · obtain ⟨wq, hwq⟩ : ∃ wq, wq = wr := ⟨_, rfl⟩
                  subst hwq
                  have FQ := HB
                  have HBQ := Lib.hid hbr
                  have HALL3 : Hid (∀ y ∈ f.mt, y.2.size ≤ 60 ∧ Small ⟨⟨#[]⟩, ⟨#[]⟩, [], [y.1]⟩) := Lib.hid (by have h := HAL.out; rwa [List.take_of_length_le (by have := E5.out; omega)] at h)
                  clear HB hbr hsr HAL
                  have p0 := FQ.out.cell 0
                  have p1 := FQ.out.cell 1
                  have p2 := FQ.out.cell 2
                  have p3 := FQ.out.cell 3
                  have p4 := FQ.out.cell 4
                  have p5 := FQ.out.cell 5
                  have p6 := FQ.out.cell 6
                  have p7 := FQ.out.cell 7
                  have p8 := FQ.out.cell 8
                  have p9 := FQ.out.cell 9
                  simp only [List.getElem?_cons_succ, List.getElem?_cons_zero] at p0 p1 p2 p3 p4 p5 p6 p7 p8 p9
                  go_wp2
                  clear p0 p1 p2 p3 p4 p5 p6 p7 p8 p9
                  go_loopw [131] (fun i wr => ∃ k : Nat, k ≤ n0 ∧ i = .int .i64 k ∧ Hid (Blk wr w.heap.size [.string f.fc.name, .string f.fc.sup, .slice a8 n8 c8, .slice a9 n9 c9, .slice a1 n1 c1, .slice a2 n2 c2, .slice a3 n3 c3, .slice a4 n4 c4, .slice a5 n5 c5, .slice a0 n0 c0] 44) ∧ Hid (∀ y ∈ f.bd.take k, y.co.length ≤ 60) ∧ Below w.heap.size w wr) (fun i _ => n0 - (intOf i).toNat)
                  case atStart => exact ⟨0, Nat.zero_le _, rfl, FQ, Lib.hid (by intro y hy; simp at hy), HBQ.out⟩
                  case round =>
                    clear FQ HBQ
                    obtain ⟨k, hk, rfl, HB, HAL, hbr⟩ := hrel
                    have hsr := hbr.size
                    by_cases hkl : k < n0
                    · obtain ⟨x, hx⟩ : ∃ v, f.bd[k]? = some v := ⟨_, List.getElem?_eq_getElem (by have := E0.out; omega)⟩
                      obtain ⟨g, o, cs, rfl, hcell, a6, n6, c6, rfl, hsl⟩ := HK0.out k x hx
                      have q0 : wr.cell? ⟨g, o + k * 3, none⟩ = some (.int .i64 x.lo) := (hbr.cell (World.block_lt_of_cell? _ _ (hcell 0 _ rfl))).trans (hcell 0 _ rfl)
                      have q1 : wr.cell? ⟨g, o + k * 3 + 1, none⟩ = some (.int .i64 x.st) := (hbr.cell (World.block_lt_of_cell? _ _ (hcell 1 _ rfl))).trans (hcell 1 _ rfl)
                      have q2 : wr.cell? ⟨g, o + k * 3 + 2, none⟩ = some (.slice a6 n6 c6) := (hbr.cell (World.block_lt_of_cell? _ _ (hcell 2 _ rfl))).trans (hcell 2 _ rfl)
                      obtain ⟨_, l6, k6, _⟩ := hsl.at
                      unfold maxLen at k6
                      have HX := Lib.hid hx
                      have HE6 := Lib.hid hsl.at.1
                      clear hcell hx hsl
                      by_cases s1 : 60 < n6
                      · go_wp2
                        go_ret
                        exact FewP.no rfl (hbr.trans ((below1 wr _).mono hsr))
                      go_wp2
                      go_roundw
                      case rel => exact ⟨k + 1, by omega, by go_num, Lib.hid (HB.out.below (below1 _ _)), Lib.hid (all_snk2 HX.out HAL.out (by have := HE6.out; omega)), (hbr.trans ((below1 wr _).mono hsr))⟩
                      case measure => simp [intOf]; omega
                    · obtain ⟨wq, hwq⟩ : ∃ wq, wq = wr := ⟨_, rfl⟩
                      subst hwq
                      have FQ := HB
                      have HBQ := Lib.hid hbr
                      have HALL4 : Hid (∀ y ∈ f.bd, y.co.length ≤ 60) := Lib.hid (by have h := HAL.out; rwa [List.take_of_length_le (by have := E0.out; omega)] at h)
                      clear HB hbr hsr HAL
                      go_wp2
                      go_ret
                      exact FewP.yes rfl ⟨HSM0.out (by simp), by have := E1.out; omega, by have := E2.out; omega, by have := E3.out; omega, by have := E4.out; omega, by have := E5.out; omega, by have := E0.out; omega, HALL0.out, HALL1.out, HALL3.out, HALL4.out⟩ HBQ.out
end Go.Proofs.YthimpjfmelmhpaaDoor.Fc
