/-
  LinkErrors: the walk.
-/
import Derived.Test.YthimpjfmelmhpaaDoorLkV
import Derived.Test.YthimpjfmelmhpaaDoorCsSame
namespace Go.Proofs.YthimpjfmelmhpaaDoor.Fc
open Go.RowKit
set_option linter.unusedVariables false
set_option linter.unusedSimpArgs false

theorem fits_zero {fs : List Fl} : ∀ {l : List Fl}, fitsE fs l = 0 → ∀ f ∈ l, fitE fs f = 0
  | [], _, f, hf => by cases hf
  | g :: r, h, f, hf => by
    rw [fitsE] at h
    by_cases h0 : fitE fs g = 0
    · rw [if_neg (by simpa using h0)] at h
      rcases List.mem_cons.1 hf with rfl | h2
      · exact h0
      · exact fits_zero h f h2
    · rw [if_pos h0] at h
      exact absurd h h0
theorem fit_lack {fs : List Fl} {f : Fl} (h : fitE fs f = 0) : lackB fs f = false := by
  unfold fitE at h
  split at h
  · rename_i h0; exact absurd h h0
  · cases hl : lackB fs f with
    | false => rfl
    | true => rw [hl] at h; simp at h
theorem lack_find {fs : List Fl} {f : Fl} (h : lackB fs f = false) : ∀ y ∈ f.mt, ∃ t, fdM fs y = some t := by
  intro y hy
  unfold lackB at h
  simp only [Bool.or_eq_false_iff] at h
  have := List.any_eq_false.1 h.2 y hy
  cases hf : fdM fs y with
  | some t => exact ⟨t, rfl⟩
  | none => rw [hf] at this; simp at this
theorem lk_all {fs : List Fl} (h : lkE fs = 0) : gat [] fs = 0 ∧ ∀ f ∈ fs, fitE fs f = 0 := by
  have hg : gat [] fs = 0 := by
    by_cases h0 : gat [] fs = 0
    · exact h0
    · rw [lkE_gat h0] at h; exact absurd h h0
  rw [lkE_fit hg] at h
  exact ⟨hg, fits_zero h⟩
theorem FewF.fwc {f : Fl} (h : FewF f) : FwC f := ⟨h.fc, by have := h.cl; omega, by have := h.ty; omega, by have := h.fd; omega, by have := h.mt; omega⟩
theorem flAt_once {fs : List Fl} (h : Once fs) {f : Fl} (hf : f ∈ fs) : flAt fs f.fc.name = some f := by
  cases h1 : flAt fs f.fc.name with
  | none => exact absurd rfl (flAt_none h1 f hf)
  | some g =>
    obtain ⟨hg, hn⟩ := flAt_mem h1
    rw [once_eq h hg hf hn]
def noSuch : ByteArray := ⟨#[110, 111, 32, 115, 117, 99, 104]⟩
theorem flAt_noSuch {fs : List Fl} (h : ∀ f ∈ fs, RightF f) : flAt fs noSuch = none := by
  cases h1 : flAt fs noSuch with
  | none => rfl
  | some g =>
    obtain ⟨hg, hn⟩ := flAt_mem h1
    have := (h g hg).fc.name
    rw [hn] at this
    exact absurd this (by decide)
set_option maxHeartbeats 16000000 in
set_option maxRecDepth 100000 in
theorem errors3 (fs : List Fl) (a : Option Addr) (n cp : Nat) (W : World) (h : Sl W 10 (FlR W) fs (.slice a n cp)) (hT : TabR W) :
    Calls Tryd.prog 3 #[.slice a n cp] W fun e w' => e = .returned (.bool true) ∧ Below W.heap.size W w' := by
  have HSL := Lib.hid h
  have HTB := Lib.hid hT
  obtain ⟨hnn, hl, hcp, hkk⟩ := h.at
  unfold maxLen at hcp
  have HN := Lib.hid hnn
  have HK := Lib.hid hkk
  clear h hT hnn hkk
  go_enter Tryd.func3, Tryd.ntmps3
  go_wp2_with fail
  refine (head6 W HTB.out).mono ?_
  rintro e w1 ⟨rfl, hb1⟩
  have HB1 := Lib.hid hb1
  clear hb1
  go_wp2_with fail
  refine (few7 fs a n cp w1 (fls_keep (Keeps.of_below HB1.out) HSL.out)).mono ?_
  rintro e w2 ⟨r, rfl, hr, hb2⟩
  have HB2 : Hid (Below W.heap.size W w2) := Lib.hid (HB1.out.trans (hb2.mono HB1.out.size))
  clear hb2
  cases r with
  | false =>
    clear hr
    go_wp2
    go_ret
    exact ⟨rfl, HB2.out⟩
  | true =>
  have HFF := Lib.hid (hr rfl)
  clear hr
  have HLK := Lib.hid (link8 fs a n cp w2 (fls_keep (Keeps.of_below HB2.out) HSL.out) (HTB.out.bel HB2.out) (fun f hf => (HFF.out.1 f hf).fwc))
  have hn8 : n ≤ 8 := by have := HN.out; have := HFF.out.2; omega
  go_wp2_with fail
  refine HLK.out.mono ?_
  have HCK : Hid (∀ z, Below W.heap.size W z → Calls Tryd.prog 9 #[.slice a n cp] z (CPost fs z)) := Lib.hid (fun z hz => check9 fs a n cp z (fls_keep (Keeps.of_below hz) HSL.out) (by omega) (HTB.out.bel hz) (fun f hf => (HFF.out.1 f hf).fwc))
  clear HLK
  rintro e w3 (⟨h200, _⟩ | ⟨_, hne, rfl, hb3⟩ | ⟨_, hz, i, sv, c, hW, hF, rfl, hI, hc⟩)
  · exfalso
    have := HFF.out.2
    omega
  · have HB3 : Hid (Below W.heap.size W w3) := Lib.hid (HB2.out.trans (hb3.mono HB2.out.size))
    have HC3 := Lib.hid (HCK.out w3 HB3.out)
    have HEQ : Hid (ckE fs = lkE fs) := Lib.hid (lk_ck fs).symm
    have tz : (lkE fs == 0) = false := by simp [hne]
    have tz2 : (lkE fs != 0) = true := by simp [hne]
    clear hb3 hne HCK
    generalize lkE fs = le at *
    go_wp2_with fail
    refine HC3.out.mono ?_
    rintro e w4 ⟨rfl, hb4⟩
    have HB4 : Hid (Below W.heap.size W w4) := Lib.hid (HB3.out.trans (hb4.mono HB3.out.size))
    rw [HEQ.out]
    clear hb4 HC3
    go_wp2
    go_ret
    exact ⟨rfl, HB4.out⟩
  · have HI := Lib.hid hI
    have hbf := hI.below
    rw [hW] at hbf
    have HBF : Hid (Below W.heap.size W w3) := Lib.hid (HB2.out.trans (hbf.mono HB2.out.size))
    have HC3 := Lib.hid (HCK.out w3 HBF.out)
    have HEQ : Hid (ckE fs = 0) := Lib.hid (by rw [← lk_ck fs]; exact hz)
    have HALL := Lib.hid (lk_all hz)
    have HOK := Lib.hid (gat_ok HALL.out.1)
    have hlf : i.fs.length ≤ 300 := by rw [hF]; have := HFF.out.2; omega
    have HWZ : Hid (∀ {sv' : Value} {c' : Nat} {z : World}, Im i sv' c' z → Below W.heap.size W z) := Lib.hid (fun h => by have h2 := h.below; rw [hW] at h2; exact HB2.out.trans (h2.mono HB2.out.size))
    subst hF
    clear hbf hI hW hz HCK
    go_wp2_with fail
    refine HC3.out.mono ?_
    rintro e w4 ⟨rfl, hb4⟩
    rw [HEQ.out]
    have HI4' := Lib.hid (HI.out.bel hb4)
    have HNA := Lib.hid (names10 i hlf sv c w4 HI4'.out)
    clear hb4 HC3 HI
    go_wp2_with fail
    refine HNA.out.mono ?_
    rintro e w5 ⟨nv, rfl, hnv, hb5⟩
    have HI5 := Lib.hid (HI4'.out.bel hb5)
    obtain ⟨na, nc, rfl⟩ := hnv.form
    obtain ⟨_, hnl, hncc, hnk⟩ := hnv.at
    unfold maxLen at hncc
    have HNK := Lib.hid hnk
    have hlen : (List.map (fun f : Fl => f.fc.name) i.fs).length = n := by rw [List.length_map]; exact HN.out.symm
    rw [hlen] at hnl ⊢
    clear hnv hnk hb5 HNA HI4' hlen
    go_wp2
    go_loopw [56] (fun ii wr => ∃ (k : Nat) (sv1 : Value) (q1 : Nat), k ≤ n ∧ ii = .int .i64 k ∧ Hid (Im i sv1 q1 wr ∧ Keeps w5 wr) ∧ q1 ≤ 1000000000 + k * 20000) (fun ii _ => n - (intOf ii).toNat)
    case atStart => exact ⟨0, sv, c, Nat.zero_le _, rfl, Lib.hid ⟨HI5.out, Keeps.refl _⟩, by omega⟩
    case round =>
      obtain ⟨k, sv1, q1, hk, rfl, HS, hq1⟩ := hrel
      obtain ⟨wq, hwq⟩ : ∃ wq, wq = wr := ⟨_, rfl⟩
      subst hwq
      have hwr := HWZ.out HS.out.1
      by_cases hlt : k < n
      · obtain ⟨x, hx⟩ : ∃ x, i.fs[k]? = some x := ⟨_, List.getElem?_eq_getElem (by have := HN.out; omega)⟩
        obtain ⟨b, o, cs, hab, hcell, hF⟩ := HK.out k x hx
        have hFw := hF.keep (Keeps.of_below hwr)
        obtain ⟨a8, n8, c8, a9, n9, c9, a1, n1, c1, a2, n2, c2, a3, n3, c3, a4, n4, c4, a5, n5, c5, a0, n0, c0, rfl, _⟩ := id hF
        subst hab
        have k0 : wq.cell? ⟨b, o + k * 10, none⟩ = some (.string x.fc.name) := (hwr.cell (World.block_lt_of_cell? _ _ (hcell 0 _ rfl))).trans (hcell 0 _ rfl)
        have k1 := (hwr.cell (World.block_lt_of_cell? _ _ (hcell 1 _ rfl))).trans (hcell 1 _ rfl)
        have k2 := (hwr.cell (World.block_lt_of_cell? _ _ (hcell 2 _ rfl))).trans (hcell 2 _ rfl)
        have k3 := (hwr.cell (World.block_lt_of_cell? _ _ (hcell 3 _ rfl))).trans (hcell 3 _ rfl)
        have k4 := (hwr.cell (World.block_lt_of_cell? _ _ (hcell 4 _ rfl))).trans (hcell 4 _ rfl)
        have k5 := (hwr.cell (World.block_lt_of_cell? _ _ (hcell 5 _ rfl))).trans (hcell 5 _ rfl)
        have k6 := (hwr.cell (World.block_lt_of_cell? _ _ (hcell 6 _ rfl))).trans (hcell 6 _ rfl)
        have k7 := (hwr.cell (World.block_lt_of_cell? _ _ (hcell 7 _ rfl))).trans (hcell 7 _ rfl)
        have k8 := (hwr.cell (World.block_lt_of_cell? _ _ (hcell 8 _ rfl))).trans (hcell 8 _ rfl)
        have k9 := (hwr.cell (World.block_lt_of_cell? _ _ (hcell 9 _ rfl))).trans (hcell 9 _ rfl)
        have hgl : b < wq.heap.size := World.block_lt_of_cell? _ _ k0
        have hm := List.mem_of_getElem? hx
        have HRF := Lib.hid (HOK.out.1 x hm).1
        have HFW := Lib.hid (HFF.out.1 x hm)
        have HFA := Lib.hid (flAt_once HOK.out.2 hm)
        have HLB := Lib.hid (lack_find (fit_lack (HALL.out.2 x hm)))
        have hnm : x.fc.name.size ≤ maxLen := by have := HFW.out.fc.name; unfold maxLen; omega
        obtain ⟨g5, o5, cs5, hg5, hc5, rfl⟩ := HNK.out k x.fc.name (by simp [hx])
        subst hg5
        have HNM0 : Hid (w5.cell? ⟨g5, o5 + k * 1, none⟩ = some (.string x.fc.name)) := Lib.hid (hc5 0 _ rfl)
        have HF6 := Lib.hid (file11 i sv1 q1 (wq.alloc (.cells #[.string x.fc.name, .string x.fc.sup, .slice a8 n8 c8, .slice a9 n9 c9, .slice a1 n1 c1, .slice a2 n2 c2, .slice a3 n3 c3, .slice a4 n4 c4, .slice a5 n5 c5, .slice a0 n0 c0] 44)) (HS.out.1.bel (below1 wq _)) x.fc.name hnm)
        have HFLW := Lib.hid hFw
        have HBX0 : Hid (Bx wq.heap.size [Value.string x.fc.name, .string x.fc.sup, .slice a8 n8 c8, .slice a9 n9 c9, .slice a1 n1 c1, .slice a2 n2 c2, .slice a3 n3 c3, .slice a4 n4 c4, .slice a5 n5 c5, .slice a0 n0 c0] (wq.alloc (.cells #[.string x.fc.name, .string x.fc.sup, .slice a8 n8 c8, .slice a9 n9 c9, .slice a1 n1 c1, .slice a2 n2 c2, .slice a3 n3 c3, .slice a4 n4 c4, .slice a5 n5 c5, .slice a0 n0 c0] 44))) := Lib.hid (Bx.new (by
          intro v hv
          simp only [List.mem_cons, List.not_mem_nil, or_false] at hv
          rcases hv with rfl | rfl | rfl | rfl | rfl | rfl | rfl | rfl | rfl | rfl
          all_goals first | exact pl_str _ | exact pl_bool _ | exact pl_slice _ _ _ | exact pl_int _ _))
        clear hcell hF hFw hx hm hc5
        go_wp2_with fail
        refine HF6.out.mono ?_
        rintro e w6 ⟨cs, rfl, hfl, hb6⟩
        rw [HFA.out] at hfl
        rw [HFA.out]
        simp only [Option.getD_some] at hfl
        obtain ⟨ay8, ny8, cy8, ay9, ny9, cy9, ay1, ny1, cy1, ay2, ny2, cy2, ay3, ny3, cy3, ay4, ny4, cy4, ay5, ny5, cy5, ay0, ny0, cy0, rfl, _⟩ := id hfl
        obtain ⟨W7, HW7⟩ : ∃ W7, Hid (W7 = w6.alloc (.cells #[.string x.fc.name, .string x.fc.sup, .slice ay8 ny8 cy8, .slice ay9 ny9 cy9, .slice ay1 ny1 cy1, .slice ay2 ny2 cy2, .slice ay3 ny3 cy3, .slice ay4 ny4 cy4, .slice ay5 ny5 cy5, .slice ay0 ny0 cy0] 44)) := ⟨_, Lib.hid rfl⟩
        have HB67 : Hid (Below w6.heap.size w6 W7) := Lib.hid (by rw [HW7.out]; exact below1 w6 _)
        have hbq6 := (below1 wq (.cells #[.string x.fc.name, .string x.fc.sup, .slice a8 n8 c8, .slice a9 n9 c9, .slice a1 n1 c1, .slice a2 n2 c2, .slice a3 n3 c3, .slice a4 n4 c4, .slice a5 n5 c5, .slice a0 n0 c0] 44)).trans (hb6.mono (by simp))
        have HBQ7 : Hid (Below wq.heap.size wq W7) := Lib.hid (hbq6.trans (HB67.out.mono hbq6.size))
        have HBX7 : Hid (Bx wq.heap.size [Value.string x.fc.name, .string x.fc.sup, .slice a8 n8 c8, .slice a9 n9 c9, .slice a1 n1 c1, .slice a2 n2 c2, .slice a3 n3 c3, .slice a4 n4 c4, .slice a5 n5 c5, .slice a0 n0 c0] W7) := Lib.hid ((HBX0.out.bel hb6).bel HB67.out)
        have HBX8 : Hid (Bx w6.heap.size [Value.string x.fc.name, .string x.fc.sup, .slice ay8 ny8 cy8, .slice ay9 ny9 cy9, .slice ay1 ny1 cy1, .slice ay2 ny2 cy2, .slice ay3 ny3 cy3, .slice ay4 ny4 cy4, .slice ay5 ny5 cy5, .slice ay0 ny0 cy0] W7) := Lib.hid (by rw [HW7.out]; exact Bx.new (by
          intro v hv
          simp only [List.mem_cons, List.not_mem_nil, or_false] at hv
          rcases hv with rfl | rfl | rfl | rfl | rfl | rfl | rfl | rfl | rfl | rfl
          all_goals first | exact pl_str _ | exact pl_bool _ | exact pl_slice _ _ _ | exact pl_int _ _))
        have HNM : Hid (W7.cell? ⟨g5, o5 + k, none⟩ = some (.string x.fc.name)) := Lib.hid (by
          have h1 := HNM0.out
          rw [Nat.mul_one] at h1
          have h2 := HS.out.2 _ _ h1 (pl_str _)
          exact (HBQ7.out.cell (World.block_lt_of_cell? _ _ h2)).trans h2)
        have HI7 := Lib.hid (HS.out.1.bel HBQ7.out)
        have HK7 := Lib.hid (HS.out.2.trans (Keeps.of_below HBQ7.out))
        have HFLX := Lib.hid (HFLW.out.keep (Keeps.of_below HBQ7.out))
        have HSAME : Hid (∀ z, Below W7.heap.size W7 z → Calls Tryd.prog 12 #[.agg #[.string x.fc.name, .string x.fc.sup, .slice a8 n8 c8, .slice a9 n9 c9, .slice a1 n1 c1, .slice a2 n2 c2, .slice a3 n3 c3, .slice a4 n4 c4, .slice a5 n5 c5, .slice a0 n0 c0], .agg #[.string x.fc.name, .string x.fc.sup, .slice ay8 ny8 cy8, .slice ay9 ny9 cy9, .slice ay1 ny1 cy1, .slice ay2 ny2 cy2, .slice ay3 ny3 cy3, .slice ay4 ny4 cy4, .slice ay5 ny5 cy5, .slice ay0 ny0 cy0]] z (IffP (x = x) z)) := Lib.hid (fun z hz => same16 x x _ _ z (HFLX.out.keep (Keeps.of_below hz)) ((hfl.keep (Keeps.of_below HB67.out)).keep (Keeps.of_below hz)))
        have hsz7 := HBQ7.out.size
        have hlt7 := HBX7.out.lt rfl
        have hlt8 := HBX8.out.lt rfl
        clear HF6 hfl hb6 hbq6 HBX0 k0 k1 k2 k3 k4 k5 k6 k7 k8 k9 hwr
        go_upto_region 17 with fail
        rw [← HW7.out]
        refine wp_region_held_drew (S := fun z => Below W7.heap.size W7 z) (by kernel_rfl) ?_ (fun hHeld => ?_)
        · exact belowD W7
        refine wpAnyH_take (i := 0) (v := ?_) rfl (by kernel_rfl) (by kernel_rfl) (by kernel_rfl) (fun _ _ _ h => h) (Or.inl ⟨by rfl, ?_⟩) (by assumption) ?_
        rotate_left
        focus (intro w hSw; have bx7 := HBX7.out.bel hSw; have bx8 := HBX8.out.bel hSw; have a0 := bx7.box 0 _ rfl; have a1 := bx7.box 1 _ rfl; have a2 := bx7.box 2 _ rfl; have a3 := bx7.box 3 _ rfl; have a4 := bx7.box 4 _ rfl; have a5 := bx7.box 5 _ rfl; have a6 := bx7.box 6 _ rfl; have a7 := bx7.box 7 _ rfl; have a8 := bx7.box 8 _ rfl; have a9 := bx7.box 9 _ rfl; have d0 := bx8.box 0 _ rfl; have d1 := bx8.box 1 _ rfl; have d2 := bx8.box 2 _ rfl; have d3 := bx8.box 3 _ rfl; have d4 := bx8.box 4 _ rfl; have d5 := bx8.box 5 _ rfl; have d6 := bx8.box 6 _ rfl; have d7 := bx8.box 7 _ rfl; have d8 := bx8.box 8 _ rfl; have d9 := bx8.box 9 _ rfl; have nn := (hSw.cell (World.block_lt_of_cell? _ _ HNM.out)).trans HNM.out; go_simp; first | done | with_reducible rfl)
        simp only [Act.put, List.getElem_toArray, List.getElem_cons_zero, List.setIfInBounds_toArray, List.set_cons_zero, List.set_cons_succ]
        refine wpAnyH_take (i := 1) (v := ?_) rfl (by kernel_rfl) (by kernel_rfl) (by kernel_rfl) (fun _ _ _ h => h) (Or.inl ⟨by rfl, ?_⟩) (by assumption) ?_
        rotate_left
        focus (intro w hSw; have bx7 := HBX7.out.bel hSw; have bx8 := HBX8.out.bel hSw; have a0 := bx7.box 0 _ rfl; have a1 := bx7.box 1 _ rfl; have a2 := bx7.box 2 _ rfl; have a3 := bx7.box 3 _ rfl; have a4 := bx7.box 4 _ rfl; have a5 := bx7.box 5 _ rfl; have a6 := bx7.box 6 _ rfl; have a7 := bx7.box 7 _ rfl; have a8 := bx7.box 8 _ rfl; have a9 := bx7.box 9 _ rfl; have d0 := bx8.box 0 _ rfl; have d1 := bx8.box 1 _ rfl; have d2 := bx8.box 2 _ rfl; have d3 := bx8.box 3 _ rfl; have d4 := bx8.box 4 _ rfl; have d5 := bx8.box 5 _ rfl; have d6 := bx8.box 6 _ rfl; have d7 := bx8.box 7 _ rfl; have d8 := bx8.box 8 _ rfl; have d9 := bx8.box 9 _ rfl; have nn := (hSw.cell (World.block_lt_of_cell? _ _ HNM.out)).trans HNM.out; go_simp; first | done | with_reducible rfl)
        simp only [Act.put, List.getElem_toArray, List.getElem_cons_zero, List.getElem_cons_succ, List.setIfInBounds_toArray, List.set_cons_zero, List.set_cons_succ]
        refine wpAnyH_take (i := 2) (v := ?_) rfl (by kernel_rfl) (by kernel_rfl) (by kernel_rfl) (fun _ _ _ h => h) (Or.inl ⟨by rfl, ?_⟩) (by assumption) ?_
        rotate_left
        focus (intro w hSw; have bx7 := HBX7.out.bel hSw; have bx8 := HBX8.out.bel hSw; have a0 := bx7.box 0 _ rfl; have a1 := bx7.box 1 _ rfl; have a2 := bx7.box 2 _ rfl; have a3 := bx7.box 3 _ rfl; have a4 := bx7.box 4 _ rfl; have a5 := bx7.box 5 _ rfl; have a6 := bx7.box 6 _ rfl; have a7 := bx7.box 7 _ rfl; have a8 := bx7.box 8 _ rfl; have a9 := bx7.box 9 _ rfl; have d0 := bx8.box 0 _ rfl; have d1 := bx8.box 1 _ rfl; have d2 := bx8.box 2 _ rfl; have d3 := bx8.box 3 _ rfl; have d4 := bx8.box 4 _ rfl; have d5 := bx8.box 5 _ rfl; have d6 := bx8.box 6 _ rfl; have d7 := bx8.box 7 _ rfl; have d8 := bx8.box 8 _ rfl; have d9 := bx8.box 9 _ rfl; have nn := (hSw.cell (World.block_lt_of_cell? _ _ HNM.out)).trans HNM.out; go_simp; first | done | with_reducible rfl)
        simp only [Act.put, List.getElem_toArray, List.getElem_cons_zero, List.getElem_cons_succ, List.setIfInBounds_toArray, List.set_cons_zero, List.set_cons_succ]
        refine wpAnyH_take (i := 3) (v := ?_) rfl (by kernel_rfl) (by kernel_rfl) (by kernel_rfl) (fun _ _ _ h => h) (Or.inl ⟨by rfl, ?_⟩) (by assumption) ?_
        rotate_left
        focus (intro w hSw; have bx7 := HBX7.out.bel hSw; have bx8 := HBX8.out.bel hSw; have a0 := bx7.box 0 _ rfl; have a1 := bx7.box 1 _ rfl; have a2 := bx7.box 2 _ rfl; have a3 := bx7.box 3 _ rfl; have a4 := bx7.box 4 _ rfl; have a5 := bx7.box 5 _ rfl; have a6 := bx7.box 6 _ rfl; have a7 := bx7.box 7 _ rfl; have a8 := bx7.box 8 _ rfl; have a9 := bx7.box 9 _ rfl; have d0 := bx8.box 0 _ rfl; have d1 := bx8.box 1 _ rfl; have d2 := bx8.box 2 _ rfl; have d3 := bx8.box 3 _ rfl; have d4 := bx8.box 4 _ rfl; have d5 := bx8.box 5 _ rfl; have d6 := bx8.box 6 _ rfl; have d7 := bx8.box 7 _ rfl; have d8 := bx8.box 8 _ rfl; have d9 := bx8.box 9 _ rfl; have nn := (hSw.cell (World.block_lt_of_cell? _ _ HNM.out)).trans HNM.out; go_simp; first | done | with_reducible rfl)
        simp only [Act.put, List.getElem_toArray, List.getElem_cons_zero, List.getElem_cons_succ, List.setIfInBounds_toArray, List.set_cons_zero, List.set_cons_succ]
        refine wpAnyH_take (i := 4) (v := ?_) rfl (by kernel_rfl) (by kernel_rfl) (by kernel_rfl) (fun _ _ _ h => h) (Or.inl ⟨by rfl, ?_⟩) (by assumption) ?_
        rotate_left
        focus (intro w hSw; have bx7 := HBX7.out.bel hSw; have bx8 := HBX8.out.bel hSw; have a0 := bx7.box 0 _ rfl; have a1 := bx7.box 1 _ rfl; have a2 := bx7.box 2 _ rfl; have a3 := bx7.box 3 _ rfl; have a4 := bx7.box 4 _ rfl; have a5 := bx7.box 5 _ rfl; have a6 := bx7.box 6 _ rfl; have a7 := bx7.box 7 _ rfl; have a8 := bx7.box 8 _ rfl; have a9 := bx7.box 9 _ rfl; have d0 := bx8.box 0 _ rfl; have d1 := bx8.box 1 _ rfl; have d2 := bx8.box 2 _ rfl; have d3 := bx8.box 3 _ rfl; have d4 := bx8.box 4 _ rfl; have d5 := bx8.box 5 _ rfl; have d6 := bx8.box 6 _ rfl; have d7 := bx8.box 7 _ rfl; have d8 := bx8.box 8 _ rfl; have d9 := bx8.box 9 _ rfl; have nn := (hSw.cell (World.block_lt_of_cell? _ _ HNM.out)).trans HNM.out; go_simp; first | done | with_reducible rfl)
        simp only [Act.put, List.getElem_toArray, List.getElem_cons_zero, List.getElem_cons_succ, List.setIfInBounds_toArray, List.set_cons_zero, List.set_cons_succ]
        refine wpAnyH_take (i := 5) (v := ?_) rfl (by kernel_rfl) (by kernel_rfl) (by kernel_rfl) (fun _ _ _ h => h) (Or.inl ⟨by rfl, ?_⟩) (by assumption) ?_
        rotate_left
        focus (intro w hSw; have bx7 := HBX7.out.bel hSw; have bx8 := HBX8.out.bel hSw; have a0 := bx7.box 0 _ rfl; have a1 := bx7.box 1 _ rfl; have a2 := bx7.box 2 _ rfl; have a3 := bx7.box 3 _ rfl; have a4 := bx7.box 4 _ rfl; have a5 := bx7.box 5 _ rfl; have a6 := bx7.box 6 _ rfl; have a7 := bx7.box 7 _ rfl; have a8 := bx7.box 8 _ rfl; have a9 := bx7.box 9 _ rfl; have d0 := bx8.box 0 _ rfl; have d1 := bx8.box 1 _ rfl; have d2 := bx8.box 2 _ rfl; have d3 := bx8.box 3 _ rfl; have d4 := bx8.box 4 _ rfl; have d5 := bx8.box 5 _ rfl; have d6 := bx8.box 6 _ rfl; have d7 := bx8.box 7 _ rfl; have d8 := bx8.box 8 _ rfl; have d9 := bx8.box 9 _ rfl; have nn := (hSw.cell (World.block_lt_of_cell? _ _ HNM.out)).trans HNM.out; go_simp; first | done | with_reducible rfl)
        simp only [Act.put, List.getElem_toArray, List.getElem_cons_zero, List.getElem_cons_succ, List.setIfInBounds_toArray, List.set_cons_zero, List.set_cons_succ]
        refine wpAnyH_take (i := 6) (v := ?_) rfl (by kernel_rfl) (by kernel_rfl) (by kernel_rfl) (fun _ _ _ h => h) (Or.inl ⟨by rfl, ?_⟩) (by assumption) ?_
        rotate_left
        focus (intro w hSw; have bx7 := HBX7.out.bel hSw; have bx8 := HBX8.out.bel hSw; have a0 := bx7.box 0 _ rfl; have a1 := bx7.box 1 _ rfl; have a2 := bx7.box 2 _ rfl; have a3 := bx7.box 3 _ rfl; have a4 := bx7.box 4 _ rfl; have a5 := bx7.box 5 _ rfl; have a6 := bx7.box 6 _ rfl; have a7 := bx7.box 7 _ rfl; have a8 := bx7.box 8 _ rfl; have a9 := bx7.box 9 _ rfl; have d0 := bx8.box 0 _ rfl; have d1 := bx8.box 1 _ rfl; have d2 := bx8.box 2 _ rfl; have d3 := bx8.box 3 _ rfl; have d4 := bx8.box 4 _ rfl; have d5 := bx8.box 5 _ rfl; have d6 := bx8.box 6 _ rfl; have d7 := bx8.box 7 _ rfl; have d8 := bx8.box 8 _ rfl; have d9 := bx8.box 9 _ rfl; have nn := (hSw.cell (World.block_lt_of_cell? _ _ HNM.out)).trans HNM.out; go_simp; first | done | with_reducible rfl)
        simp only [Act.put, List.getElem_toArray, List.getElem_cons_zero, List.getElem_cons_succ, List.setIfInBounds_toArray, List.set_cons_zero, List.set_cons_succ]
        refine wpAnyH_take (i := 7) (v := ?_) rfl (by kernel_rfl) (by kernel_rfl) (by kernel_rfl) (fun _ _ _ h => h) (Or.inl ⟨by rfl, ?_⟩) (by assumption) ?_
        rotate_left
        focus (intro w hSw; have bx7 := HBX7.out.bel hSw; have bx8 := HBX8.out.bel hSw; have a0 := bx7.box 0 _ rfl; have a1 := bx7.box 1 _ rfl; have a2 := bx7.box 2 _ rfl; have a3 := bx7.box 3 _ rfl; have a4 := bx7.box 4 _ rfl; have a5 := bx7.box 5 _ rfl; have a6 := bx7.box 6 _ rfl; have a7 := bx7.box 7 _ rfl; have a8 := bx7.box 8 _ rfl; have a9 := bx7.box 9 _ rfl; have d0 := bx8.box 0 _ rfl; have d1 := bx8.box 1 _ rfl; have d2 := bx8.box 2 _ rfl; have d3 := bx8.box 3 _ rfl; have d4 := bx8.box 4 _ rfl; have d5 := bx8.box 5 _ rfl; have d6 := bx8.box 6 _ rfl; have d7 := bx8.box 7 _ rfl; have d8 := bx8.box 8 _ rfl; have d9 := bx8.box 9 _ rfl; have nn := (hSw.cell (World.block_lt_of_cell? _ _ HNM.out)).trans HNM.out; go_simp; first | done | with_reducible rfl)
        simp only [Act.put, List.getElem_toArray, List.getElem_cons_zero, List.getElem_cons_succ, List.setIfInBounds_toArray, List.set_cons_zero, List.set_cons_succ]
        refine wpAnyH_take (i := 8) (v := ?_) rfl (by kernel_rfl) (by kernel_rfl) (by kernel_rfl) (fun _ _ _ h => h) (Or.inl ⟨by rfl, ?_⟩) (by assumption) ?_
        rotate_left
        focus (intro w hSw; have bx7 := HBX7.out.bel hSw; have bx8 := HBX8.out.bel hSw; have a0 := bx7.box 0 _ rfl; have a1 := bx7.box 1 _ rfl; have a2 := bx7.box 2 _ rfl; have a3 := bx7.box 3 _ rfl; have a4 := bx7.box 4 _ rfl; have a5 := bx7.box 5 _ rfl; have a6 := bx7.box 6 _ rfl; have a7 := bx7.box 7 _ rfl; have a8 := bx7.box 8 _ rfl; have a9 := bx7.box 9 _ rfl; have d0 := bx8.box 0 _ rfl; have d1 := bx8.box 1 _ rfl; have d2 := bx8.box 2 _ rfl; have d3 := bx8.box 3 _ rfl; have d4 := bx8.box 4 _ rfl; have d5 := bx8.box 5 _ rfl; have d6 := bx8.box 6 _ rfl; have d7 := bx8.box 7 _ rfl; have d8 := bx8.box 8 _ rfl; have d9 := bx8.box 9 _ rfl; have nn := (hSw.cell (World.block_lt_of_cell? _ _ HNM.out)).trans HNM.out; go_simp; first | done | with_reducible rfl)
        simp only [Act.put, List.getElem_toArray, List.getElem_cons_zero, List.getElem_cons_succ, List.setIfInBounds_toArray, List.set_cons_zero, List.set_cons_succ]
        refine wpAnyH_take (i := 9) (v := ?_) rfl (by kernel_rfl) (by kernel_rfl) (by kernel_rfl) (fun _ _ _ h => h) (Or.inl ⟨by rfl, ?_⟩) (by assumption) ?_
        rotate_left
        focus (intro w hSw; have bx7 := HBX7.out.bel hSw; have bx8 := HBX8.out.bel hSw; have a0 := bx7.box 0 _ rfl; have a1 := bx7.box 1 _ rfl; have a2 := bx7.box 2 _ rfl; have a3 := bx7.box 3 _ rfl; have a4 := bx7.box 4 _ rfl; have a5 := bx7.box 5 _ rfl; have a6 := bx7.box 6 _ rfl; have a7 := bx7.box 7 _ rfl; have a8 := bx7.box 8 _ rfl; have a9 := bx7.box 9 _ rfl; have d0 := bx8.box 0 _ rfl; have d1 := bx8.box 1 _ rfl; have d2 := bx8.box 2 _ rfl; have d3 := bx8.box 3 _ rfl; have d4 := bx8.box 4 _ rfl; have d5 := bx8.box 5 _ rfl; have d6 := bx8.box 6 _ rfl; have d7 := bx8.box 7 _ rfl; have d8 := bx8.box 8 _ rfl; have d9 := bx8.box 9 _ rfl; have nn := (hSw.cell (World.block_lt_of_cell? _ _ HNM.out)).trans HNM.out; go_simp; first | done | with_reducible rfl)
        simp only [Act.put, List.getElem_toArray, List.getElem_cons_zero, List.getElem_cons_succ, List.setIfInBounds_toArray, List.set_cons_zero, List.set_cons_succ]
        refine wpAnyH_take (i := 10) (v := ?_) rfl (by kernel_rfl) (by kernel_rfl) (by kernel_rfl) (fun _ _ _ h => h) (Or.inl ⟨by rfl, ?_⟩) (by assumption) ?_
        rotate_left
        focus (intro w hSw; have bx7 := HBX7.out.bel hSw; have bx8 := HBX8.out.bel hSw; have a0 := bx7.box 0 _ rfl; have a1 := bx7.box 1 _ rfl; have a2 := bx7.box 2 _ rfl; have a3 := bx7.box 3 _ rfl; have a4 := bx7.box 4 _ rfl; have a5 := bx7.box 5 _ rfl; have a6 := bx7.box 6 _ rfl; have a7 := bx7.box 7 _ rfl; have a8 := bx7.box 8 _ rfl; have a9 := bx7.box 9 _ rfl; have d0 := bx8.box 0 _ rfl; have d1 := bx8.box 1 _ rfl; have d2 := bx8.box 2 _ rfl; have d3 := bx8.box 3 _ rfl; have d4 := bx8.box 4 _ rfl; have d5 := bx8.box 5 _ rfl; have d6 := bx8.box 6 _ rfl; have d7 := bx8.box 7 _ rfl; have d8 := bx8.box 8 _ rfl; have d9 := bx8.box 9 _ rfl; have nn := (hSw.cell (World.block_lt_of_cell? _ _ HNM.out)).trans HNM.out; go_simp; first | done | with_reducible rfl)
        simp only [Act.put, List.getElem_toArray, List.getElem_cons_zero, List.getElem_cons_succ, List.setIfInBounds_toArray, List.set_cons_zero, List.set_cons_succ]
        refine wpAnyH_take (i := 11) (v := ?_) rfl (by kernel_rfl) (by kernel_rfl) (by kernel_rfl) (fun _ _ _ h => h) (Or.inl ⟨by rfl, ?_⟩) (by assumption) ?_
        rotate_left
        focus (intro w hSw; have bx7 := HBX7.out.bel hSw; have bx8 := HBX8.out.bel hSw; have a0 := bx7.box 0 _ rfl; have a1 := bx7.box 1 _ rfl; have a2 := bx7.box 2 _ rfl; have a3 := bx7.box 3 _ rfl; have a4 := bx7.box 4 _ rfl; have a5 := bx7.box 5 _ rfl; have a6 := bx7.box 6 _ rfl; have a7 := bx7.box 7 _ rfl; have a8 := bx7.box 8 _ rfl; have a9 := bx7.box 9 _ rfl; have d0 := bx8.box 0 _ rfl; have d1 := bx8.box 1 _ rfl; have d2 := bx8.box 2 _ rfl; have d3 := bx8.box 3 _ rfl; have d4 := bx8.box 4 _ rfl; have d5 := bx8.box 5 _ rfl; have d6 := bx8.box 6 _ rfl; have d7 := bx8.box 7 _ rfl; have d8 := bx8.box 8 _ rfl; have d9 := bx8.box 9 _ rfl; have nn := (hSw.cell (World.block_lt_of_cell? _ _ HNM.out)).trans HNM.out; go_simp; first | done | with_reducible rfl)
        simp only [Act.put, List.getElem_toArray, List.getElem_cons_zero, List.getElem_cons_succ, List.setIfInBounds_toArray, List.set_cons_zero, List.set_cons_succ]
        refine wpAnyH_take (i := 12) (v := ?_) rfl (by kernel_rfl) (by kernel_rfl) (by kernel_rfl) (fun _ _ _ h => h) (Or.inl ⟨by rfl, ?_⟩) (by assumption) ?_
        rotate_left
        focus (intro w hSw; have bx7 := HBX7.out.bel hSw; have bx8 := HBX8.out.bel hSw; have a0 := bx7.box 0 _ rfl; have a1 := bx7.box 1 _ rfl; have a2 := bx7.box 2 _ rfl; have a3 := bx7.box 3 _ rfl; have a4 := bx7.box 4 _ rfl; have a5 := bx7.box 5 _ rfl; have a6 := bx7.box 6 _ rfl; have a7 := bx7.box 7 _ rfl; have a8 := bx7.box 8 _ rfl; have a9 := bx7.box 9 _ rfl; have d0 := bx8.box 0 _ rfl; have d1 := bx8.box 1 _ rfl; have d2 := bx8.box 2 _ rfl; have d3 := bx8.box 3 _ rfl; have d4 := bx8.box 4 _ rfl; have d5 := bx8.box 5 _ rfl; have d6 := bx8.box 6 _ rfl; have d7 := bx8.box 7 _ rfl; have d8 := bx8.box 8 _ rfl; have d9 := bx8.box 9 _ rfl; have nn := (hSw.cell (World.block_lt_of_cell? _ _ HNM.out)).trans HNM.out; go_simp; first | done | with_reducible rfl)
        simp only [Act.put, List.getElem_toArray, List.getElem_cons_zero, List.getElem_cons_succ, List.setIfInBounds_toArray, List.set_cons_zero, List.set_cons_succ]
        refine wpAnyH_take (i := 13) (v := ?_) rfl (by kernel_rfl) (by kernel_rfl) (by kernel_rfl) (fun _ _ _ h => h) (Or.inl ⟨by rfl, ?_⟩) (by assumption) ?_
        rotate_left
        focus (intro w hSw; have bx7 := HBX7.out.bel hSw; have bx8 := HBX8.out.bel hSw; have a0 := bx7.box 0 _ rfl; have a1 := bx7.box 1 _ rfl; have a2 := bx7.box 2 _ rfl; have a3 := bx7.box 3 _ rfl; have a4 := bx7.box 4 _ rfl; have a5 := bx7.box 5 _ rfl; have a6 := bx7.box 6 _ rfl; have a7 := bx7.box 7 _ rfl; have a8 := bx7.box 8 _ rfl; have a9 := bx7.box 9 _ rfl; have d0 := bx8.box 0 _ rfl; have d1 := bx8.box 1 _ rfl; have d2 := bx8.box 2 _ rfl; have d3 := bx8.box 3 _ rfl; have d4 := bx8.box 4 _ rfl; have d5 := bx8.box 5 _ rfl; have d6 := bx8.box 6 _ rfl; have d7 := bx8.box 7 _ rfl; have d8 := bx8.box 8 _ rfl; have d9 := bx8.box 9 _ rfl; have nn := (hSw.cell (World.block_lt_of_cell? _ _ HNM.out)).trans HNM.out; go_simp; first | done | with_reducible rfl)
        simp only [Act.put, List.getElem_toArray, List.getElem_cons_zero, List.getElem_cons_succ, List.setIfInBounds_toArray, List.set_cons_zero, List.set_cons_succ]
        refine wpAnyH_take (i := 14) (v := ?_) rfl (by kernel_rfl) (by kernel_rfl) (by kernel_rfl) (fun _ _ _ h => h) (Or.inl ⟨by rfl, ?_⟩) (by assumption) ?_
        rotate_left
        focus (intro w hSw; have bx7 := HBX7.out.bel hSw; have bx8 := HBX8.out.bel hSw; have a0 := bx7.box 0 _ rfl; have a1 := bx7.box 1 _ rfl; have a2 := bx7.box 2 _ rfl; have a3 := bx7.box 3 _ rfl; have a4 := bx7.box 4 _ rfl; have a5 := bx7.box 5 _ rfl; have a6 := bx7.box 6 _ rfl; have a7 := bx7.box 7 _ rfl; have a8 := bx7.box 8 _ rfl; have a9 := bx7.box 9 _ rfl; have d0 := bx8.box 0 _ rfl; have d1 := bx8.box 1 _ rfl; have d2 := bx8.box 2 _ rfl; have d3 := bx8.box 3 _ rfl; have d4 := bx8.box 4 _ rfl; have d5 := bx8.box 5 _ rfl; have d6 := bx8.box 6 _ rfl; have d7 := bx8.box 7 _ rfl; have d8 := bx8.box 8 _ rfl; have d9 := bx8.box 9 _ rfl; have nn := (hSw.cell (World.block_lt_of_cell? _ _ HNM.out)).trans HNM.out; go_simp; first | done | with_reducible rfl)
        simp only [Act.put, List.getElem_toArray, List.getElem_cons_zero, List.getElem_cons_succ, List.setIfInBounds_toArray, List.set_cons_zero, List.set_cons_succ]
        refine wpAnyH_ready (rs := [15]) (by kernel_rfl) (by simp) ?_
        refine AllReadyH.cons (o := _) rfl (fun K hK => ?_) AllReadyH.nil
        go_simp
        refine (HSAME.out _ hHeld).mono ?_
        rintro e z1 ⟨r, rfl, hr, hz1⟩
        obtain rfl : r = true := by simpa using hr
        have HZ1 := Lib.hid (hHeld.trans (hz1.mono hHeld.size))
        clear hr hz1
        go_simp
        refine hK.out _ _ HZ1.out (fun hHeld => ?_)
        clear hK K
        try simp only [Act.put, List.getElem_toArray, List.getElem_cons_zero, List.getElem_cons_succ, List.setIfInBounds_toArray, List.set_cons_zero, List.set_cons_succ]
        refine wpAnyH_take (i := 16) (v := ?_) rfl (by kernel_rfl) (by kernel_rfl) (by kernel_rfl) (fun _ _ _ h => h) (Or.inl ⟨by rfl, ?_⟩) (by assumption) ?_
        rotate_left
        focus (intro w hSw; have bx7 := HBX7.out.bel hSw; have bx8 := HBX8.out.bel hSw; have a0 := bx7.box 0 _ rfl; have a1 := bx7.box 1 _ rfl; have a2 := bx7.box 2 _ rfl; have a3 := bx7.box 3 _ rfl; have a4 := bx7.box 4 _ rfl; have a5 := bx7.box 5 _ rfl; have a6 := bx7.box 6 _ rfl; have a7 := bx7.box 7 _ rfl; have a8 := bx7.box 8 _ rfl; have a9 := bx7.box 9 _ rfl; have d0 := bx8.box 0 _ rfl; have d1 := bx8.box 1 _ rfl; have d2 := bx8.box 2 _ rfl; have d3 := bx8.box 3 _ rfl; have d4 := bx8.box 4 _ rfl; have d5 := bx8.box 5 _ rfl; have d6 := bx8.box 6 _ rfl; have d7 := bx8.box 7 _ rfl; have d8 := bx8.box 8 _ rfl; have d9 := bx8.box 9 _ rfl; have nn := (hSw.cell (World.block_lt_of_cell? _ _ HNM.out)).trans HNM.out; go_simp; first | done | with_reducible rfl)
        simp only [Act.put, List.getElem_toArray, List.getElem_cons_zero, List.getElem_cons_succ, List.setIfInBounds_toArray, List.set_cons_zero, List.set_cons_succ]
        refine wpAnyH_take (i := 17) (v := ?_) rfl (by kernel_rfl) (by kernel_rfl) (by kernel_rfl) (fun _ _ _ h => h) (Or.inl ⟨by rfl, ?_⟩) (by assumption) ?_
        rotate_left
        focus (intro w hSw; have bx7 := HBX7.out.bel hSw; have bx8 := HBX8.out.bel hSw; have a0 := bx7.box 0 _ rfl; have a1 := bx7.box 1 _ rfl; have a2 := bx7.box 2 _ rfl; have a3 := bx7.box 3 _ rfl; have a4 := bx7.box 4 _ rfl; have a5 := bx7.box 5 _ rfl; have a6 := bx7.box 6 _ rfl; have a7 := bx7.box 7 _ rfl; have a8 := bx7.box 8 _ rfl; have a9 := bx7.box 9 _ rfl; have d0 := bx8.box 0 _ rfl; have d1 := bx8.box 1 _ rfl; have d2 := bx8.box 2 _ rfl; have d3 := bx8.box 3 _ rfl; have d4 := bx8.box 4 _ rfl; have d5 := bx8.box 5 _ rfl; have d6 := bx8.box 6 _ rfl; have d7 := bx8.box 7 _ rfl; have d8 := bx8.box 8 _ rfl; have d9 := bx8.box 9 _ rfl; have nn := (hSw.cell (World.block_lt_of_cell? _ _ HNM.out)).trans HNM.out; go_simp; first | done | with_reducible rfl)
        simp only [Act.put, List.getElem_toArray, List.getElem_cons_zero, List.getElem_cons_succ, List.setIfInBounds_toArray, List.set_cons_zero, List.set_cons_succ]
        refine wpAnyH_done (by kernel_rfl) ?_ _
        have HZ := Lib.hid hHeld
        clear hHeld HSAME
        obtain ⟨z2, hz2⟩ : ∃ z2, z2 = z1 := ⟨_, rfl⟩
        subst hz2
        have HI8 := Lib.hid (HI7.out.bel HZ.out)
        have HK8 := Lib.hid (HK7.out.trans (Keeps.of_below HZ.out))
        have HBX9 := Lib.hid (HBX7.out.bel HZ.out)
        have HFL9 := Lib.hid (HFLX.out.keep (Keeps.of_below HZ.out))
        have HPB : Hid (PoR z2 x (.slice a1 n1 c1) (.slice a2 n2 c2) (.slice a3 n3 c3) (.slice a4 n4 c4) (.slice a5 n5 c5) ∧ Sl z2 3 (BdR z2) x.bd (.slice a0 n0 c0) ∧ Sl z2 5 (SgR z2) x.fc.ms (.slice a9 n9 c9)) := Lib.hid (by
          obtain ⟨az8, nz8, cz8, az9, nz9, cz9, az1, nz1, cz1, az2, nz2, cz2, az3, nz3, cz3, az4, nz4, cz4, az5, nz5, cz5, az0, nz0, cz0, he, hfc, hpo, hbd⟩ := HFL9.out
          simp only [List.cons.injEq, Value.slice.injEq, Value.string.injEq, true_and, and_true] at he
          obtain ⟨⟨rfl, rfl, rfl⟩, ⟨rfl, rfl, rfl⟩, ⟨rfl, rfl, rfl⟩, ⟨rfl, rfl, rfl⟩, ⟨rfl, rfl, rfl⟩, ⟨rfl, rfl, rfl⟩, ⟨rfl, rfl, rfl⟩, rfl, rfl, rfl⟩ := he
          obtain ⟨_, _, _, _, _, _, he, _, hf9⟩ := hfc
          simp only [List.cons.injEq, Value.slice.injEq, true_and, and_true] at he
          obtain ⟨⟨rfl, rfl, rfl⟩, rfl, rfl, rfl⟩ := he
          exact ⟨hpo, hbd, hf9⟩)
        obtain ⟨em, lm, qm, hkm⟩ := HPB.out.2.2.at
        obtain ⟨eb, lb, qb, hkb⟩ := HPB.out.2.1.at
        obtain ⟨ep, lp, qp, hkp⟩ := HPB.out.1.mt.at
        unfold maxLen at qm qb qp
        have EM := Lib.hid em
        have EB := Lib.hid eb
        have EP := Lib.hid ep
        have HKM := Lib.hid hkm
        have HKB := Lib.hid hkb
        have HKP := Lib.hid hkp
        clear em eb ep hkm hkb hkp
        have b3 := HBX9.out.box 3 _ rfl
        go_wp2
        go_loopw [91] (fun ii wr => ∃ q : Nat, q ≤ n9 ∧ ii = .int .i64 q ∧ Hid (Below z2.heap.size z2 wr)) (fun ii _ => n9 - (intOf ii).toNat)
        case atStart => exact ⟨0, Nat.zero_le _, rfl, Lib.hid (Below.refl _ _)⟩
        case round =>
          obtain ⟨q, hq, rfl, HBR⟩ := hrel
          have hbr := HBR.out
          have hsr := hbr.size
          by_cases hlq : q < n9
          · obtain ⟨m, hm⟩ : ∃ m, x.fc.ms[q]? = some m := ⟨_, List.getElem?_eq_getElem (by have := EM.out; omega)⟩
            obtain ⟨g2, o2, cs2, hg2, hcell2, am, nm, cm, rfl, _⟩ := HKM.out q m hm
            cases hg2
            obtain ⟨bd, hbd1, hbd2⟩ := bdy_right HRF.out hm
            obtain ⟨g3, o3, cs3, hg3, hcell3, ac, nk, ck, rfl, hco⟩ := HKB.out q bd hbd1
            have hnk : nk = bd.co.length := hco.at.1
            have hq0 : q < n0 := by have := EB.out; have := (List.getElem?_eq_some_iff.1 hbd1).1; omega
            cases hg3
            have y0 : wr.cell? ⟨g2, o2 + q * 5, none⟩ = some (.string m.name) := (hbr.cell (World.block_lt_of_cell? _ _ (hcell2 0 _ rfl))).trans (hcell2 0 _ rfl)
            have y1 := (hbr.cell (World.block_lt_of_cell? _ _ (hcell2 1 _ rfl))).trans (hcell2 1 _ rfl)
            have y2 := (hbr.cell (World.block_lt_of_cell? _ _ (hcell2 2 _ rfl))).trans (hcell2 2 _ rfl)
            have y3 := (hbr.cell (World.block_lt_of_cell? _ _ (hcell2 3 _ rfl))).trans (hcell2 3 _ rfl)
            have y4 := (hbr.cell (World.block_lt_of_cell? _ _ (hcell2 4 _ rfl))).trans (hcell2 4 _ rfl)
            have hgl2 : g2 < wr.heap.size := World.block_lt_of_cell? _ _ y0
            have HI9 := Lib.hid ((HI8.out.bel hbr).bel (below1 wr (.cells #[.string m.name, .bool m.st, .slice am nm cm, .string m.rn, .bool m.ra] 51)))
            have HBD := Lib.hid (body13 i sv1 q1 _ HI9.out x.fc.name m.name hnm (by rw [HFA.out]; exact HRF.out.ln))
            rw [HFA.out] at HBD
            simp only [Option.getD_some] at HBD
            rw [hbd2] at HBD
            have HBXa := Lib.hid ((HBX9.out.bel hbr).bel (below1 wr (.cells #[.string m.name, .bool m.st, .slice am nm cm, .string m.rn, .bool m.ra] 51)))
            have a0x := HBXa.out.box 0 _ rfl
            have HD0 : Hid (z2.cell? ⟨g3, o3 + q * 3, none⟩ = some (.int .i64 bd.lo)) := Lib.hid (hcell3 0 _ rfl)
            have HD2 : Hid (z2.cell? ⟨g3, o3 + q * 3 + 2, none⟩ = some (.slice ac nk ck)) := Lib.hid (hcell3 2 _ rfl)
            have HMM := Lib.hid hm
            have HNKE := Lib.hid hnk
            clear hcell2 hcell3 hm hbd1 hbd2 hco hbr hnk
            go_wp2_with fail
            refine HBD.out.mono ?_
            rintro e w8 ⟨ab, cb, rfl, hb8⟩
            simp only [Option.getD_some, Option.isSome_some]
            obtain ⟨W9, HW9⟩ : ∃ W9, Hid (W9 = w8.alloc (.cells #[.int .i64 bd.lo, .int .i64 bd.st, .slice ab bd.co.length cb] 54)) := ⟨_, Lib.hid rfl⟩
            have HB89 : Hid (Below w8.heap.size w8 W9) := Lib.hid (by rw [HW9.out]; exact below1 w8 _)
            have HBZ9 : Hid (Below z2.heap.size z2 W9) := Lib.hid (HBR.out.trans ((((below1 wr (.cells #[.string m.name, .bool m.st, .slice am nm cm, .string m.rn, .bool m.ra] 51)).trans (hb8.mono (by simp))).trans (HB89.out.mono (by have := hb8.size; simp at this; omega))).mono hsr))
            have HBX79 := Lib.hid ((HBXa.out.bel hb8).bel HB89.out)
            have HBT : Hid (Bx w8.heap.size [Value.int .i64 bd.lo, .int .i64 bd.st, .slice ab bd.co.length cb] W9) := Lib.hid (by rw [HW9.out]; exact Bx.new (by
              intro v hv
              simp only [List.mem_cons, List.not_mem_nil, or_false] at hv
              rcases hv with rfl | rfl | rfl
              all_goals first | exact pl_str _ | exact pl_bool _ | exact pl_slice _ _ _ | exact pl_int _ _))
            have HE0 : Hid (W9.cell? ⟨g3, o3 + q * 3, none⟩ = some (.int .i64 bd.lo)) := Lib.hid ((HBZ9.out.cell (World.block_lt_of_cell? _ _ HD0.out)).trans HD0.out)
            have HE2 : Hid (W9.cell? ⟨g3, o3 + q * 3 + 2, none⟩ = some (.slice ac bd.co.length ck)) := Lib.hid (by
              have h1 := HD2.out
              rw [HNKE.out] at h1
              exact (HBZ9.out.cell (World.block_lt_of_cell? _ _ h1)).trans h1)
            have hg3l : g3 < W9.heap.size := World.block_lt_of_cell? _ _ HE0.out
            have hltb := HBT.out.lt rfl
            clear HBD hb8 HD0 HD2 HNKE y0 y1 y2 y3 y4 a0x
            go_upto_region 23 with fail
            rw [← HW9.out]
            refine wp_region_held_drew (S := fun z => Below W9.heap.size W9 z) (by kernel_rfl) ?_ (fun hHeld => ?_)
            · exact belowD W9
            refine wpAnyH_take (i := 0) (v := ?_) rfl (by kernel_rfl) (by kernel_rfl) (by kernel_rfl) (fun _ _ _ h => h) (Or.inl ⟨by rfl, ?_⟩) (by assumption) ?_
            rotate_left
            focus (intro w hSw; have bx7 := HBX79.out.bel hSw; have a9 := bx7.box 9 _ rfl; have bt := HBT.out.bel hSw; have t0 := bt.box 0 _ rfl; have t2 := bt.box 2 _ rfl; have e0 := (hSw.cell (World.block_lt_of_cell? _ _ HE0.out)).trans HE0.out; have e2 := (hSw.cell (World.block_lt_of_cell? _ _ HE2.out)).trans HE2.out; go_simp; first | done | with_reducible rfl)
            simp only [Act.put, List.getElem_toArray, List.getElem_cons_zero, List.setIfInBounds_toArray, List.set_cons_zero, List.set_cons_succ]
            refine wpAnyH_take (i := 1) (v := ?_) rfl (by kernel_rfl) (by kernel_rfl) (by kernel_rfl) (fun _ _ _ h => h) (Or.inl ⟨by rfl, ?_⟩) (by assumption) ?_
            rotate_left
            focus (intro w hSw; have bx7 := HBX79.out.bel hSw; have a9 := bx7.box 9 _ rfl; have bt := HBT.out.bel hSw; have t0 := bt.box 0 _ rfl; have t2 := bt.box 2 _ rfl; have e0 := (hSw.cell (World.block_lt_of_cell? _ _ HE0.out)).trans HE0.out; have e2 := (hSw.cell (World.block_lt_of_cell? _ _ HE2.out)).trans HE2.out; go_simp; first | done | with_reducible rfl)
            simp only [Act.put, List.getElem_toArray, List.getElem_cons_zero, List.getElem_cons_succ, List.setIfInBounds_toArray, List.set_cons_zero, List.set_cons_succ]
            refine wpAnyH_take (i := 2) (v := ?_) rfl (by kernel_rfl) (by kernel_rfl) (by kernel_rfl) (fun _ _ _ h => h) (Or.inl ⟨by rfl, ?_⟩) (by assumption) ?_
            rotate_left
            focus (intro w hSw; have bx7 := HBX79.out.bel hSw; have a9 := bx7.box 9 _ rfl; have bt := HBT.out.bel hSw; have t0 := bt.box 0 _ rfl; have t2 := bt.box 2 _ rfl; have e0 := (hSw.cell (World.block_lt_of_cell? _ _ HE0.out)).trans HE0.out; have e2 := (hSw.cell (World.block_lt_of_cell? _ _ HE2.out)).trans HE2.out; go_simp; first | done | with_reducible rfl)
            simp only [Act.put, List.getElem_toArray, List.getElem_cons_zero, List.getElem_cons_succ, List.setIfInBounds_toArray, List.set_cons_zero, List.set_cons_succ]
            refine wpAnyH_take (i := 3) (v := ?_) rfl (by kernel_rfl) (by kernel_rfl) (by kernel_rfl) (fun _ _ _ h => h) (Or.inl ⟨by rfl, ?_⟩) (by assumption) ?_
            rotate_left
            focus (intro w hSw; have bx7 := HBX79.out.bel hSw; have a9 := bx7.box 9 _ rfl; have bt := HBT.out.bel hSw; have t0 := bt.box 0 _ rfl; have t2 := bt.box 2 _ rfl; have e0 := (hSw.cell (World.block_lt_of_cell? _ _ HE0.out)).trans HE0.out; have e2 := (hSw.cell (World.block_lt_of_cell? _ _ HE2.out)).trans HE2.out; go_simp; first | done | with_reducible rfl)
            simp only [Act.put, List.getElem_toArray, List.getElem_cons_zero, List.getElem_cons_succ, List.setIfInBounds_toArray, List.set_cons_zero, List.set_cons_succ]
            refine wpAnyH_take (i := 4) (v := ?_) rfl (by kernel_rfl) (by kernel_rfl) (by kernel_rfl) (fun _ _ _ h => h) (Or.inl ⟨by rfl, ?_⟩) (by assumption) ?_
            rotate_left
            focus (intro w hSw; have bx7 := HBX79.out.bel hSw; have a9 := bx7.box 9 _ rfl; have bt := HBT.out.bel hSw; have t0 := bt.box 0 _ rfl; have t2 := bt.box 2 _ rfl; have e0 := (hSw.cell (World.block_lt_of_cell? _ _ HE0.out)).trans HE0.out; have e2 := (hSw.cell (World.block_lt_of_cell? _ _ HE2.out)).trans HE2.out; go_simp; first | done | with_reducible rfl)
            simp only [Act.put, List.getElem_toArray, List.getElem_cons_zero, List.getElem_cons_succ, List.setIfInBounds_toArray, List.set_cons_zero, List.set_cons_succ]
            refine wpAnyH_take (i := 5) (v := ?_) rfl (by kernel_rfl) (by kernel_rfl) (by kernel_rfl) (fun _ _ _ h => h) (Or.inl ⟨by rfl, ?_⟩) (by assumption) ?_
            rotate_left
            focus (intro w hSw; have bx7 := HBX79.out.bel hSw; have a9 := bx7.box 9 _ rfl; have bt := HBT.out.bel hSw; have t0 := bt.box 0 _ rfl; have t2 := bt.box 2 _ rfl; have e0 := (hSw.cell (World.block_lt_of_cell? _ _ HE0.out)).trans HE0.out; have e2 := (hSw.cell (World.block_lt_of_cell? _ _ HE2.out)).trans HE2.out; go_simp; first | done | with_reducible rfl)
            simp only [Act.put, List.getElem_toArray, List.getElem_cons_zero, List.getElem_cons_succ, List.setIfInBounds_toArray, List.set_cons_zero, List.set_cons_succ]
            refine wpAnyH_take (i := 6) (v := ?_) rfl (by kernel_rfl) (by kernel_rfl) (by kernel_rfl) (fun _ _ _ h => h) (Or.inl ⟨by rfl, ?_⟩) (by assumption) ?_
            rotate_left
            focus (intro w hSw; have bx7 := HBX79.out.bel hSw; have a9 := bx7.box 9 _ rfl; have bt := HBT.out.bel hSw; have t0 := bt.box 0 _ rfl; have t2 := bt.box 2 _ rfl; have e0 := (hSw.cell (World.block_lt_of_cell? _ _ HE0.out)).trans HE0.out; have e2 := (hSw.cell (World.block_lt_of_cell? _ _ HE2.out)).trans HE2.out; go_simp; first | done | with_reducible rfl)
            simp only [Act.put, List.getElem_toArray, List.getElem_cons_zero, List.getElem_cons_succ, List.setIfInBounds_toArray, List.set_cons_zero, List.set_cons_succ]
            refine wpAnyH_take (i := 7) (v := ?_) rfl (by kernel_rfl) (by kernel_rfl) (by kernel_rfl) (fun _ _ _ h => h) (Or.inl ⟨by rfl, ?_⟩) (by assumption) ?_
            rotate_left
            focus (intro w hSw; have bx7 := HBX79.out.bel hSw; have a9 := bx7.box 9 _ rfl; have bt := HBT.out.bel hSw; have t0 := bt.box 0 _ rfl; have t2 := bt.box 2 _ rfl; have e0 := (hSw.cell (World.block_lt_of_cell? _ _ HE0.out)).trans HE0.out; have e2 := (hSw.cell (World.block_lt_of_cell? _ _ HE2.out)).trans HE2.out; go_simp; first | done | with_reducible rfl)
            simp only [Act.put, List.getElem_toArray, List.getElem_cons_zero, List.getElem_cons_succ, List.setIfInBounds_toArray, List.set_cons_zero, List.set_cons_succ]
            refine wpAnyH_take (i := 8) (v := ?_) rfl (by kernel_rfl) (by kernel_rfl) (by kernel_rfl) (fun _ _ _ h => h) (Or.inl ⟨by rfl, ?_⟩) (by assumption) ?_
            rotate_left
            focus (intro w hSw; have bx7 := HBX79.out.bel hSw; have a9 := bx7.box 9 _ rfl; have bt := HBT.out.bel hSw; have t0 := bt.box 0 _ rfl; have t2 := bt.box 2 _ rfl; have e0 := (hSw.cell (World.block_lt_of_cell? _ _ HE0.out)).trans HE0.out; have e2 := (hSw.cell (World.block_lt_of_cell? _ _ HE2.out)).trans HE2.out; go_simp; first | done | with_reducible rfl)
            simp only [Act.put, List.getElem_toArray, List.getElem_cons_zero, List.getElem_cons_succ, List.setIfInBounds_toArray, List.set_cons_zero, List.set_cons_succ]
            refine wpAnyH_take (i := 9) (v := ?_) rfl (by kernel_rfl) (by kernel_rfl) (by kernel_rfl) (fun _ _ _ h => h) (Or.inl ⟨by rfl, ?_⟩) (by assumption) ?_
            rotate_left
            focus (intro w hSw; have bx7 := HBX79.out.bel hSw; have a9 := bx7.box 9 _ rfl; have bt := HBT.out.bel hSw; have t0 := bt.box 0 _ rfl; have t2 := bt.box 2 _ rfl; have e0 := (hSw.cell (World.block_lt_of_cell? _ _ HE0.out)).trans HE0.out; have e2 := (hSw.cell (World.block_lt_of_cell? _ _ HE2.out)).trans HE2.out; go_simp; first | done | with_reducible rfl)
            simp only [Act.put, List.getElem_toArray, List.getElem_cons_zero, List.getElem_cons_succ, List.setIfInBounds_toArray, List.set_cons_zero, List.set_cons_succ]
            refine wpAnyH_take (i := 10) (v := ?_) rfl (by kernel_rfl) (by kernel_rfl) (by kernel_rfl) (fun _ _ _ h => h) (Or.inl ⟨by rfl, ?_⟩) (by assumption) ?_
            rotate_left
            focus (intro w hSw; have bx7 := HBX79.out.bel hSw; have a9 := bx7.box 9 _ rfl; have bt := HBT.out.bel hSw; have t0 := bt.box 0 _ rfl; have t2 := bt.box 2 _ rfl; have e0 := (hSw.cell (World.block_lt_of_cell? _ _ HE0.out)).trans HE0.out; have e2 := (hSw.cell (World.block_lt_of_cell? _ _ HE2.out)).trans HE2.out; go_simp; first | done | with_reducible rfl)
            simp only [Act.put, List.getElem_toArray, List.getElem_cons_zero, List.getElem_cons_succ, List.setIfInBounds_toArray, List.set_cons_zero, List.set_cons_succ]
            refine wpAnyH_take (i := 11) (v := ?_) rfl (by kernel_rfl) (by kernel_rfl) (by kernel_rfl) (fun _ _ _ h => h) (Or.inl ⟨by rfl, ?_⟩) (by assumption) ?_
            rotate_left
            focus (intro w hSw; have bx7 := HBX79.out.bel hSw; have a9 := bx7.box 9 _ rfl; have bt := HBT.out.bel hSw; have t0 := bt.box 0 _ rfl; have t2 := bt.box 2 _ rfl; have e0 := (hSw.cell (World.block_lt_of_cell? _ _ HE0.out)).trans HE0.out; have e2 := (hSw.cell (World.block_lt_of_cell? _ _ HE2.out)).trans HE2.out; go_simp; first | done | with_reducible rfl)
            simp only [Act.put, List.getElem_toArray, List.getElem_cons_zero, List.getElem_cons_succ, List.setIfInBounds_toArray, List.set_cons_zero, List.set_cons_succ]
            refine wpAnyH_take (i := 12) (v := ?_) rfl (by kernel_rfl) (by kernel_rfl) (by kernel_rfl) (fun _ _ _ h => h) (Or.inl ⟨by rfl, ?_⟩) (by assumption) ?_
            rotate_left
            focus (intro w hSw; have bx7 := HBX79.out.bel hSw; have a9 := bx7.box 9 _ rfl; have bt := HBT.out.bel hSw; have t0 := bt.box 0 _ rfl; have t2 := bt.box 2 _ rfl; have e0 := (hSw.cell (World.block_lt_of_cell? _ _ HE0.out)).trans HE0.out; have e2 := (hSw.cell (World.block_lt_of_cell? _ _ HE2.out)).trans HE2.out; go_simp; first | done | with_reducible rfl)
            simp only [Act.put, List.getElem_toArray, List.getElem_cons_zero, List.getElem_cons_succ, List.setIfInBounds_toArray, List.set_cons_zero, List.set_cons_succ]
            refine wpAnyH_take (i := 13) (v := ?_) rfl (by kernel_rfl) (by kernel_rfl) (by kernel_rfl) (fun _ _ _ h => h) (Or.inl ⟨by rfl, ?_⟩) (by assumption) ?_
            rotate_left
            focus (intro w hSw; have bx7 := HBX79.out.bel hSw; have a9 := bx7.box 9 _ rfl; have bt := HBT.out.bel hSw; have t0 := bt.box 0 _ rfl; have t2 := bt.box 2 _ rfl; have e0 := (hSw.cell (World.block_lt_of_cell? _ _ HE0.out)).trans HE0.out; have e2 := (hSw.cell (World.block_lt_of_cell? _ _ HE2.out)).trans HE2.out; go_simp; first | done | with_reducible rfl)
            simp only [Act.put, List.getElem_toArray, List.getElem_cons_zero, List.getElem_cons_succ, List.setIfInBounds_toArray, List.set_cons_zero, List.set_cons_succ]
            refine wpAnyH_take (i := 14) (v := ?_) rfl (by kernel_rfl) (by kernel_rfl) (by kernel_rfl) (fun _ _ _ h => h) (Or.inl ⟨by rfl, ?_⟩) (by assumption) ?_
            rotate_left
            focus (intro w hSw; have bx7 := HBX79.out.bel hSw; have a9 := bx7.box 9 _ rfl; have bt := HBT.out.bel hSw; have t0 := bt.box 0 _ rfl; have t2 := bt.box 2 _ rfl; have e0 := (hSw.cell (World.block_lt_of_cell? _ _ HE0.out)).trans HE0.out; have e2 := (hSw.cell (World.block_lt_of_cell? _ _ HE2.out)).trans HE2.out; go_simp; first | done | with_reducible rfl)
            simp only [Act.put, List.getElem_toArray, List.getElem_cons_zero, List.getElem_cons_succ, List.setIfInBounds_toArray, List.set_cons_zero, List.set_cons_succ]
            refine wpAnyH_take (i := 15) (v := ?_) rfl (by kernel_rfl) (by kernel_rfl) (by kernel_rfl) (fun _ _ _ h => h) (Or.inl ⟨by rfl, ?_⟩) (by assumption) ?_
            rotate_left
            focus (intro w hSw; have bx7 := HBX79.out.bel hSw; have a9 := bx7.box 9 _ rfl; have bt := HBT.out.bel hSw; have t0 := bt.box 0 _ rfl; have t2 := bt.box 2 _ rfl; have e0 := (hSw.cell (World.block_lt_of_cell? _ _ HE0.out)).trans HE0.out; have e2 := (hSw.cell (World.block_lt_of_cell? _ _ HE2.out)).trans HE2.out; go_simp; first | done | with_reducible rfl)
            simp only [Act.put, List.getElem_toArray, List.getElem_cons_zero, List.getElem_cons_succ, List.setIfInBounds_toArray, List.set_cons_zero, List.set_cons_succ]
            refine wpAnyH_take (i := 16) (v := ?_) rfl (by kernel_rfl) (by kernel_rfl) (by kernel_rfl) (fun _ _ _ h => h) (Or.inl ⟨by rfl, ?_⟩) (by assumption) ?_
            rotate_left
            focus (intro w hSw; have bx7 := HBX79.out.bel hSw; have a9 := bx7.box 9 _ rfl; have bt := HBT.out.bel hSw; have t0 := bt.box 0 _ rfl; have t2 := bt.box 2 _ rfl; have e0 := (hSw.cell (World.block_lt_of_cell? _ _ HE0.out)).trans HE0.out; have e2 := (hSw.cell (World.block_lt_of_cell? _ _ HE2.out)).trans HE2.out; go_simp; first | done | with_reducible rfl)
            simp only [Act.put, List.getElem_toArray, List.getElem_cons_zero, List.getElem_cons_succ, List.setIfInBounds_toArray, List.set_cons_zero, List.set_cons_succ]
            refine wpAnyH_take (i := 17) (v := ?_) rfl (by kernel_rfl) (by kernel_rfl) (by kernel_rfl) (fun _ _ _ h => h) (Or.inl ⟨by rfl, ?_⟩) (by assumption) ?_
            rotate_left
            focus (intro w hSw; have bx7 := HBX79.out.bel hSw; have a9 := bx7.box 9 _ rfl; have bt := HBT.out.bel hSw; have t0 := bt.box 0 _ rfl; have t2 := bt.box 2 _ rfl; have e0 := (hSw.cell (World.block_lt_of_cell? _ _ HE0.out)).trans HE0.out; have e2 := (hSw.cell (World.block_lt_of_cell? _ _ HE2.out)).trans HE2.out; go_simp; first | done | with_reducible rfl)
            simp only [Act.put, List.getElem_toArray, List.getElem_cons_zero, List.getElem_cons_succ, List.setIfInBounds_toArray, List.set_cons_zero, List.set_cons_succ]
            refine wpAnyH_take (i := 18) (v := ?_) rfl (by kernel_rfl) (by kernel_rfl) (by kernel_rfl) (fun _ _ _ h => h) (Or.inl ⟨by rfl, ?_⟩) (by assumption) ?_
            rotate_left
            focus (intro w hSw; have bx7 := HBX79.out.bel hSw; have a9 := bx7.box 9 _ rfl; have bt := HBT.out.bel hSw; have t0 := bt.box 0 _ rfl; have t2 := bt.box 2 _ rfl; have e0 := (hSw.cell (World.block_lt_of_cell? _ _ HE0.out)).trans HE0.out; have e2 := (hSw.cell (World.block_lt_of_cell? _ _ HE2.out)).trans HE2.out; go_simp; first | done | with_reducible rfl)
            simp only [Act.put, List.getElem_toArray, List.getElem_cons_zero, List.getElem_cons_succ, List.setIfInBounds_toArray, List.set_cons_zero, List.set_cons_succ]
            refine wpAnyH_take (i := 19) (v := ?_) rfl (by kernel_rfl) (by kernel_rfl) (by kernel_rfl) (fun _ _ _ h => h) (Or.inl ⟨by rfl, ?_⟩) (by assumption) ?_
            rotate_left
            focus (intro w hSw; have bx7 := HBX79.out.bel hSw; have a9 := bx7.box 9 _ rfl; have bt := HBT.out.bel hSw; have t0 := bt.box 0 _ rfl; have t2 := bt.box 2 _ rfl; have e0 := (hSw.cell (World.block_lt_of_cell? _ _ HE0.out)).trans HE0.out; have e2 := (hSw.cell (World.block_lt_of_cell? _ _ HE2.out)).trans HE2.out; go_simp; first | done | with_reducible rfl)
            simp only [Act.put, List.getElem_toArray, List.getElem_cons_zero, List.getElem_cons_succ, List.setIfInBounds_toArray, List.set_cons_zero, List.set_cons_succ]
            refine wpAnyH_take (i := 20) (v := ?_) rfl (by kernel_rfl) (by kernel_rfl) (by kernel_rfl) (fun _ _ _ h => h) (Or.inl ⟨by rfl, ?_⟩) (by assumption) ?_
            rotate_left
            focus (intro w hSw; have bx7 := HBX79.out.bel hSw; have a9 := bx7.box 9 _ rfl; have bt := HBT.out.bel hSw; have t0 := bt.box 0 _ rfl; have t2 := bt.box 2 _ rfl; have e0 := (hSw.cell (World.block_lt_of_cell? _ _ HE0.out)).trans HE0.out; have e2 := (hSw.cell (World.block_lt_of_cell? _ _ HE2.out)).trans HE2.out; go_simp; first | done | with_reducible rfl)
            simp only [Act.put, List.getElem_toArray, List.getElem_cons_zero, List.getElem_cons_succ, List.setIfInBounds_toArray, List.set_cons_zero, List.set_cons_succ]
            refine wpAnyH_take (i := 21) (v := ?_) rfl (by kernel_rfl) (by kernel_rfl) (by kernel_rfl) (fun _ _ _ h => h) (Or.inl ⟨by rfl, ?_⟩) (by assumption) ?_
            rotate_left
            focus (intro w hSw; have bx7 := HBX79.out.bel hSw; have a9 := bx7.box 9 _ rfl; have bt := HBT.out.bel hSw; have t0 := bt.box 0 _ rfl; have t2 := bt.box 2 _ rfl; have e0 := (hSw.cell (World.block_lt_of_cell? _ _ HE0.out)).trans HE0.out; have e2 := (hSw.cell (World.block_lt_of_cell? _ _ HE2.out)).trans HE2.out; go_simp; first | done | with_reducible rfl)
            simp only [Act.put, List.getElem_toArray, List.getElem_cons_zero, List.getElem_cons_succ, List.setIfInBounds_toArray, List.set_cons_zero, List.set_cons_succ]
            refine wpAnyH_take (i := 22) (v := ?_) rfl (by kernel_rfl) (by kernel_rfl) (by kernel_rfl) (fun _ _ _ h => h) (Or.inl ⟨by rfl, ?_⟩) (by assumption) ?_
            rotate_left
            focus (intro w hSw; have bx7 := HBX79.out.bel hSw; have a9 := bx7.box 9 _ rfl; have bt := HBT.out.bel hSw; have t0 := bt.box 0 _ rfl; have t2 := bt.box 2 _ rfl; have e0 := (hSw.cell (World.block_lt_of_cell? _ _ HE0.out)).trans HE0.out; have e2 := (hSw.cell (World.block_lt_of_cell? _ _ HE2.out)).trans HE2.out; go_simp; first | done | with_reducible rfl)
            simp only [Act.put, List.getElem_toArray, List.getElem_cons_zero, List.getElem_cons_succ, List.setIfInBounds_toArray, List.set_cons_zero, List.set_cons_succ]
            refine wpAnyH_take (i := 23) (v := ?_) rfl (by kernel_rfl) (by kernel_rfl) (by kernel_rfl) (fun _ _ _ h => h) (Or.inl ⟨by rfl, ?_⟩) (by assumption) ?_
            rotate_left
            focus (intro w hSw; have bx7 := HBX79.out.bel hSw; have a9 := bx7.box 9 _ rfl; have bt := HBT.out.bel hSw; have t0 := bt.box 0 _ rfl; have t2 := bt.box 2 _ rfl; have e0 := (hSw.cell (World.block_lt_of_cell? _ _ HE0.out)).trans HE0.out; have e2 := (hSw.cell (World.block_lt_of_cell? _ _ HE2.out)).trans HE2.out; go_simp; first | done | with_reducible rfl)
            simp only [Act.put, List.getElem_toArray, List.getElem_cons_zero, List.getElem_cons_succ, List.setIfInBounds_toArray, List.set_cons_zero, List.set_cons_succ]
            refine wpAnyH_take (i := 24) (v := ?_) rfl (by kernel_rfl) (by kernel_rfl) (by kernel_rfl) (fun _ _ _ h => h) (Or.inl ⟨by rfl, ?_⟩) (by assumption) ?_
            rotate_left
            focus (intro w hSw; have bx7 := HBX79.out.bel hSw; have a9 := bx7.box 9 _ rfl; have bt := HBT.out.bel hSw; have t0 := bt.box 0 _ rfl; have t2 := bt.box 2 _ rfl; have e0 := (hSw.cell (World.block_lt_of_cell? _ _ HE0.out)).trans HE0.out; have e2 := (hSw.cell (World.block_lt_of_cell? _ _ HE2.out)).trans HE2.out; go_simp; first | done | with_reducible rfl)
            simp only [Act.put, List.getElem_toArray, List.getElem_cons_zero, List.getElem_cons_succ, List.setIfInBounds_toArray, List.set_cons_zero, List.set_cons_succ]
            refine wpAnyH_take (i := 25) (v := ?_) rfl (by kernel_rfl) (by kernel_rfl) (by kernel_rfl) (fun _ _ _ h => h) (Or.inl ⟨by rfl, ?_⟩) (by assumption) ?_
            rotate_left
            focus (intro w hSw; have bx7 := HBX79.out.bel hSw; have a9 := bx7.box 9 _ rfl; have bt := HBT.out.bel hSw; have t0 := bt.box 0 _ rfl; have t2 := bt.box 2 _ rfl; have e0 := (hSw.cell (World.block_lt_of_cell? _ _ HE0.out)).trans HE0.out; have e2 := (hSw.cell (World.block_lt_of_cell? _ _ HE2.out)).trans HE2.out; go_simp; first | done | with_reducible rfl)
            simp only [Act.put, List.getElem_toArray, List.getElem_cons_zero, List.getElem_cons_succ, List.setIfInBounds_toArray, List.set_cons_zero, List.set_cons_succ]
            refine wpAnyH_done (by kernel_rfl) ?_ _
            have HFIN := Lib.hid (HBZ9.out.trans (hHeld.mono HBZ9.out.size))
            clear hHeld
            go_wp2
            go_roundw
            case rel => exact ⟨q + 1, by omega, by go_num, HFIN⟩
            case measure => simp [intOf]; omega
          · obtain ⟨z3, hz3⟩ : ∃ z3, z3 = wr := ⟨_, rfl⟩
            subst hz3
            have HIa := Lib.hid (HI8.out.bel hbr)
            have HKa := Lib.hid (HK8.out.trans (Keeps.of_below hbr))
            have HBXb := Lib.hid (HBX9.out.bel hbr)
            have HKZ := Lib.hid (Keeps.of_below hbr)
            have hn5 : n5 ≤ 20 := by have := EP.out; have := HFW.out.mt; omega
            have b8 := HBXb.out.box 8 _ rfl
            clear hbr
            go_wp2
            go_loopw [137] (fun ii wr => ∃ (q : Nat) (sv2 : Value) (q2 : Nat), q ≤ n5 ∧ ii = .int .i64 q ∧ Hid (Im i sv2 q2 wr ∧ Keeps z3 wr) ∧ q2 ≤ q1 + q * 903) (fun ii _ => n5 - (intOf ii).toNat)
            case atStart => exact ⟨0, sv1, q1, Nat.zero_le _, rfl, Lib.hid ⟨HIa.out, Keeps.refl _⟩, by omega⟩
            case round =>
              obtain ⟨q, sv2, q2, hq, rfl, HS2, hq2⟩ := hrel
              by_cases hlq : q < n5
              · obtain ⟨y, hyx⟩ : ∃ y, x.mt[q]? = some y := ⟨_, List.getElem?_eq_getElem (by have := EP.out; omega)⟩
                obtain ⟨g2, o2, cs2, hg2, hcell2, au, nu, cu, rfl, hps⟩ := HKP.out q y hyx
                cases hg2
                have hkz := HKZ.out.trans HS2.out.2
                have y0 : wr.cell? ⟨g2, o2 + q * 6, none⟩ = some (.string y.1.name) := hkz _ _ (hcell2 0 _ rfl) (pl_str _)
                have y1 := hkz _ _ (hcell2 1 _ rfl) (pl_bool _)
                have y2 := hkz _ _ (hcell2 2 _ rfl) (pl_slice _ _ _)
                have y3 := hkz _ _ (hcell2 3 _ rfl) (pl_str _)
                have y4 := hkz _ _ (hcell2 4 _ rfl) (pl_bool _)
                have y5 := hkz _ _ (hcell2 5 _ rfl) (pl_str _)
                have hgl2 : g2 < wr.heap.size := World.block_lt_of_cell? _ _ y0
                have hym := List.mem_of_getElem? hyx
                have hys : y.2.size ≤ maxLen := by have := (HFW.out.m1 y hym).1; unfold maxLen; omega
                obtain ⟨t, ht⟩ := HLB.out y hym
                have htL : fdL (faces i.fs) y = some t := by rw [← fdM_eq HOK.out.2]; exact ht
                have hba := below1 wr (.cells #[.string y.1.name, .bool y.1.st, .slice au nu cu, .string y.1.rn, .bool y.1.ra, .string y.2] 58)
                have hpw := tys_keep (hkz.trans (Keeps.of_below hba)) hps
                have HPW := Lib.hid hpw
                have HIb := Lib.hid (HS2.out.1.bel hba)
                have HFM := Lib.hid (find14 i hlf sv2 q2 _ HIb.out (by omega) y au nu cu hpw hys)
                rw [ht] at HFM
                simp only [Option.getD_some, Option.isSome_some] at HFM
                have HPLP : Hid (∀ v ∈ [Value.string y.1.name, .bool y.1.st, .slice au nu cu, .string y.1.rn, .bool y.1.ra, .string y.2], Pl v) := Lib.hid (by
                  intro v hv
                  simp only [List.mem_cons, List.not_mem_nil, or_false] at hv
                  rcases hv with rfl | rfl | rfl | rfl | rfl | rfl
                  all_goals first | exact pl_str _ | exact pl_bool _ | exact pl_slice _ _ _ | exact pl_int _ _)
                have HBY : Hid (Bx wr.heap.size [Value.string y.1.name, .bool y.1.st, .slice au nu cu, .string y.1.rn, .bool y.1.ra, .string y.2] (wr.alloc (.cells #[.string y.1.name, .bool y.1.st, .slice au nu cu, .string y.1.rn, .bool y.1.ra, .string y.2] 58))) := Lib.hid (Bx.new HPLP.out)
                have HTL := Lib.hid htL
                have HKZ2 := Lib.hid (HS2.out.2.trans (Keeps.of_below hba))
                have HLL : Hid ((faces i.fs).length ≤ 300) := Lib.hid (by simpa [faces] using hlf)
                clear hcell2 hyx hps hpw hba hkz ht htL hym
                go_wp2_with fail
                refine HFM.out.mono ?_
                rintro e w10 ⟨sv4, q4, rfl, hI4, hk4, hb4, hq4⟩
                have HI4 := Lib.hid (hI4.bel (belowD w10))
                have HK4 := Lib.hid (HKZ2.out.trans (hk4.trans (Keeps.of_below (belowD w10))))
                have HBY4 := Lib.hid ((HBY.out.keep hk4).bel (belowD w10))
                have HFT := Lib.hid (find15 i.B i.tb i.fm (faces i.fs) HLL.out y au nu cu w10.drew sv4 q4 (tys_keep (hk4.trans (Keeps.of_below (belowD w10))) HPW.out) hys HI4.out.hB HI4.out.tab (by omega))
                rw [HTL.out] at HFT
                simp only [Option.getD_some, Option.isSome_some] at HFT
                have hw10 : wr.heap.size < w10.heap.size := (HBY.out.keep hk4).lt rfl
                clear hI4 hk4 hb4 HFM y0 y1 y2 y3 y4 y5
                go_upto_region 30 with fail
                refine wp_region_held_drew (S := fun z => LS i wr.heap.size [Value.string y.1.name, .bool y.1.st, .slice au nu cu, .string y.1.rn, .bool y.1.ra, .string y.2] z) (by kernel_rfl) ?_ (fun hHeld => ?_)
                · exact ⟨HI4.out.ptr, HBY4.out.box⟩
                refine wpAnyH_take (i := 0) (v := ?_) rfl (by kernel_rfl) (by kernel_rfl) (by kernel_rfl) (fun _ _ _ h => h) (Or.inl ⟨by rfl, ?_⟩) (by assumption) ?_
                rotate_left
                focus (intro w hSw; have p := hSw.ptr; have b0 := hSw.box 0 _ rfl; have b1 := hSw.box 1 _ rfl; have b2 := hSw.box 2 _ rfl; have b3 := hSw.box 3 _ rfl; have b4 := hSw.box 4 _ rfl; have b5 := hSw.box 5 _ rfl; go_simp; first | done | with_reducible rfl)
                simp only [Act.put, List.getElem_toArray, List.getElem_cons_zero, List.setIfInBounds_toArray, List.set_cons_zero, List.set_cons_succ]
                refine wpAnyH_take (i := 1) (v := ?_) rfl (by kernel_rfl) (by kernel_rfl) (by kernel_rfl) (fun _ _ _ h => h) (Or.inl ⟨by rfl, ?_⟩) (by assumption) ?_
                rotate_left
                focus (intro w hSw; have p := hSw.ptr; have b0 := hSw.box 0 _ rfl; have b1 := hSw.box 1 _ rfl; have b2 := hSw.box 2 _ rfl; have b3 := hSw.box 3 _ rfl; have b4 := hSw.box 4 _ rfl; have b5 := hSw.box 5 _ rfl; go_simp; first | done | with_reducible rfl)
                simp only [Act.put, List.getElem_toArray, List.getElem_cons_zero, List.getElem_cons_succ, List.setIfInBounds_toArray, List.set_cons_zero, List.set_cons_succ]
                refine wpAnyH_take (i := 2) (v := ?_) rfl (by kernel_rfl) (by kernel_rfl) (by kernel_rfl) (fun _ _ _ h => h) (Or.inl ⟨by rfl, ?_⟩) (by assumption) ?_
                rotate_left
                focus (intro w hSw; have p := hSw.ptr; have b0 := hSw.box 0 _ rfl; have b1 := hSw.box 1 _ rfl; have b2 := hSw.box 2 _ rfl; have b3 := hSw.box 3 _ rfl; have b4 := hSw.box 4 _ rfl; have b5 := hSw.box 5 _ rfl; go_simp; first | done | with_reducible rfl)
                simp only [Act.put, List.getElem_toArray, List.getElem_cons_zero, List.getElem_cons_succ, List.setIfInBounds_toArray, List.set_cons_zero, List.set_cons_succ]
                refine wpAnyH_take (i := 3) (v := ?_) rfl (by kernel_rfl) (by kernel_rfl) (by kernel_rfl) (fun _ _ _ h => h) (Or.inl ⟨by rfl, ?_⟩) (by assumption) ?_
                rotate_left
                focus (intro w hSw; have p := hSw.ptr; have b0 := hSw.box 0 _ rfl; have b1 := hSw.box 1 _ rfl; have b2 := hSw.box 2 _ rfl; have b3 := hSw.box 3 _ rfl; have b4 := hSw.box 4 _ rfl; have b5 := hSw.box 5 _ rfl; go_simp; first | done | with_reducible rfl)
                simp only [Act.put, List.getElem_toArray, List.getElem_cons_zero, List.getElem_cons_succ, List.setIfInBounds_toArray, List.set_cons_zero, List.set_cons_succ]
                refine wpAnyH_take (i := 4) (v := ?_) rfl (by kernel_rfl) (by kernel_rfl) (by kernel_rfl) (fun _ _ _ h => h) (Or.inl ⟨by rfl, ?_⟩) (by assumption) ?_
                rotate_left
                focus (intro w hSw; have p := hSw.ptr; have b0 := hSw.box 0 _ rfl; have b1 := hSw.box 1 _ rfl; have b2 := hSw.box 2 _ rfl; have b3 := hSw.box 3 _ rfl; have b4 := hSw.box 4 _ rfl; have b5 := hSw.box 5 _ rfl; go_simp; first | done | with_reducible rfl)
                simp only [Act.put, List.getElem_toArray, List.getElem_cons_zero, List.getElem_cons_succ, List.setIfInBounds_toArray, List.set_cons_zero, List.set_cons_succ]
                refine wpAnyH_ready (rs := [5]) (by kernel_rfl) (by simp) ?_
                refine AllReadyH.cons (o := _) rfl (fun K hK => ?_) AllReadyH.nil
                go_simp
                with_reducible refine HFT.out.mono ?_
                intro e w11 hp11
                obtain ⟨sv5, q5, rfl, hI5, hk5, hb5, hq5⟩ := HI4.out.ends hp11
                have HI5 := Lib.hid hI5
                have HK5 := Lib.hid hk5
                have HL5 := Lib.hid (hHeld.keep HPLP.out hk5)
                clear hI5 hk5 hb5 hp11 HFT
                go_simp
                refine hK.out _ _ HL5.out (fun hHeld => ?_)
                clear hK K
                try simp only [Act.put, List.getElem_toArray, List.getElem_cons_zero, List.getElem_cons_succ, List.setIfInBounds_toArray, List.set_cons_zero, List.set_cons_succ]
                refine wpAnyH_take (i := 6) (v := ?_) rfl (by kernel_rfl) (by kernel_rfl) (by kernel_rfl) (fun _ _ _ h => h) (Or.inl ⟨by rfl, ?_⟩) (by assumption) ?_
                rotate_left
                focus (intro w hSw; have p := hSw.ptr; have b0 := hSw.box 0 _ rfl; have b1 := hSw.box 1 _ rfl; have b2 := hSw.box 2 _ rfl; have b3 := hSw.box 3 _ rfl; have b4 := hSw.box 4 _ rfl; have b5 := hSw.box 5 _ rfl; go_simp; first | done | with_reducible rfl)
                simp only [Act.put, List.getElem_toArray, List.getElem_cons_zero, List.getElem_cons_succ, List.setIfInBounds_toArray, List.set_cons_zero, List.set_cons_succ]
                refine wpAnyH_take (i := 7) (v := ?_) rfl (by kernel_rfl) (by kernel_rfl) (by kernel_rfl) (fun _ _ _ h => h) (Or.inl ⟨by rfl, ?_⟩) (by assumption) ?_
                rotate_left
                focus (intro w hSw; have p := hSw.ptr; have b0 := hSw.box 0 _ rfl; have b1 := hSw.box 1 _ rfl; have b2 := hSw.box 2 _ rfl; have b3 := hSw.box 3 _ rfl; have b4 := hSw.box 4 _ rfl; have b5 := hSw.box 5 _ rfl; go_simp; first | done | with_reducible rfl)
                simp only [Act.put, List.getElem_toArray, List.getElem_cons_zero, List.getElem_cons_succ, List.setIfInBounds_toArray, List.set_cons_zero, List.set_cons_succ]
                refine wpAnyH_take (i := 8) (v := ?_) rfl (by kernel_rfl) (by kernel_rfl) (by kernel_rfl) (fun _ _ _ h => h) (Or.inl ⟨by rfl, ?_⟩) (by assumption) ?_
                rotate_left
                focus (intro w hSw; have p := hSw.ptr; have b0 := hSw.box 0 _ rfl; have b1 := hSw.box 1 _ rfl; have b2 := hSw.box 2 _ rfl; have b3 := hSw.box 3 _ rfl; have b4 := hSw.box 4 _ rfl; have b5 := hSw.box 5 _ rfl; go_simp; first | done | with_reducible rfl)
                simp only [Act.put, List.getElem_toArray, List.getElem_cons_zero, List.getElem_cons_succ, List.setIfInBounds_toArray, List.set_cons_zero, List.set_cons_succ]
                refine wpAnyH_take (i := 9) (v := ?_) rfl (by kernel_rfl) (by kernel_rfl) (by kernel_rfl) (fun _ _ _ h => h) (Or.inl ⟨by rfl, ?_⟩) (by assumption) ?_
                rotate_left
                focus (intro w hSw; have p := hSw.ptr; have b0 := hSw.box 0 _ rfl; have b1 := hSw.box 1 _ rfl; have b2 := hSw.box 2 _ rfl; have b3 := hSw.box 3 _ rfl; have b4 := hSw.box 4 _ rfl; have b5 := hSw.box 5 _ rfl; go_simp; first | done | with_reducible rfl)
                simp only [Act.put, List.getElem_toArray, List.getElem_cons_zero, List.getElem_cons_succ, List.setIfInBounds_toArray, List.set_cons_zero, List.set_cons_succ]
                refine wpAnyH_take (i := 10) (v := ?_) rfl (by kernel_rfl) (by kernel_rfl) (by kernel_rfl) (fun _ _ _ h => h) (Or.inl ⟨by rfl, ?_⟩) (by assumption) ?_
                rotate_left
                focus (intro w hSw; have p := hSw.ptr; have b0 := hSw.box 0 _ rfl; have b1 := hSw.box 1 _ rfl; have b2 := hSw.box 2 _ rfl; have b3 := hSw.box 3 _ rfl; have b4 := hSw.box 4 _ rfl; have b5 := hSw.box 5 _ rfl; go_simp; first | done | with_reducible rfl)
                simp only [Act.put, List.getElem_toArray, List.getElem_cons_zero, List.getElem_cons_succ, List.setIfInBounds_toArray, List.set_cons_zero, List.set_cons_succ]
                refine wpAnyH_done (by kernel_rfl) ?_ _
                have HSN : Hid (Im i sv5 q5 w11 ∧ Keeps z3 w11) := Lib.hid ⟨HI5.out, HK4.out.trans HK5.out⟩
                clear hHeld
                go_wp2
                go_roundw
                case rel => exact ⟨q + 1, sv5, q5, by omega, by go_num, HSN, by omega⟩
                case measure => simp [intOf]; omega
              · have HSN : Hid (Im i sv2 q2 wr ∧ Keeps w5 wr) := Lib.hid ⟨HS2.out.1, HKa.out.trans HS2.out.2⟩
                go_wp2
                go_roundw
                case rel => exact ⟨k + 1, sv2, q2, by omega, by go_num, HSN, by omega⟩
                case measure => simp [intOf]; omega
      · have HNS : Hid (flAt i.fs noSuch = none) := Lib.hid (flAt_noSuch (fun f hf => (HOK.out.1 f hf).1))
        have HFZ := Lib.hid (file11 i sv1 q1 wq HS.out.1 noSuch (by decide))
        clear hwr
        go_wp2_with fail
        refine HFZ.out.mono ?_
        rintro e w6 ⟨cs, rfl, hfl, hb6⟩
        rw [HNS.out] at hfl
        rw [HNS.out]
        obtain ⟨ay8, ny8, cy8, ay9, ny9, cy9, ay1, ny1, cy1, ay2, ny2, cy2, ay3, ny3, cy3, ay4, ny4, cy4, ay5, ny5, cy5, ay0, ny0, cy0, rfl, _⟩ := id hfl
        have HI6 := Lib.hid ((HS.out.1.bel hb6).bel (below1 w6 (.cells #[.string zFl.fc.name, .string zFl.fc.sup, .slice ay8 ny8 cy8, .slice ay9 ny9 cy9, .slice ay1 ny1 cy1, .slice ay2 ny2 cy2, .slice ay3 ny3 cy3, .slice ay4 ny4 cy4, .slice ay5 ny5 cy5, .slice ay0 ny0 cy0] 44)))
        have HBD := Lib.hid (body13 i sv1 q1 _ HI6.out noSuch ⟨#[109]⟩ (by decide) (by rw [HNS.out]; rfl))
        rw [HNS.out] at HBD
        clear HFZ hfl hb6
        simp only [Option.getD_none]
        go_wp2_with fail
        refine HBD.out.mono ?_
        rintro e w7 ⟨ab, cb, rfl, hb7⟩
        have HBZ := Lib.hid (HWZ.out ((HI6.out.bel hb7).bel (below1 w7 (.cells #[.int .i64 0, .int .i64 0, .slice ab 0 cb] 54))))
        clear HBD hb7
        rw [show bdyF ((none : Option Fl).getD zFl) ⟨#[109]⟩ = none from rfl]
        simp only [Option.getD_none, zBd, List.length_nil, Option.isSome_none]
        go_wp2
        go_ret
        exact ⟨rfl, HBZ.out⟩
end Go.Proofs.YthimpjfmelmhpaaDoor.Fc
