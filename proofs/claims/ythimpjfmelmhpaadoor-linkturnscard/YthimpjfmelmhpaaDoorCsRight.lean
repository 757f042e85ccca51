/-
  Whether a file is right.
-/
import Derived.Test.YthimpjfmelmhpaaDoorCsBody
namespace Go.Proofs.YthimpjfmelmhpaaDoor.Fc
open Go.RowKit
set_option linter.unusedVariables false

/-- a file's ten cells -/
def FlR (W : World) (f : Fl) (cs : List Value) : Prop := ∃ a8 n8 c8 a9 n9 c9 a1 n1 c1 a2 n2 c2 a3 n3 c3 a4 n4 c4 a5 n5 c5 a0 n0 c0,
  cs = [.string f.fc.name, .string f.fc.sup, .slice a8 n8 c8, .slice a9 n9 c9, .slice a1 n1 c1, .slice a2 n2 c2, .slice a3 n3 c3, .slice a4 n4 c4, .slice a5 n5 c5, .slice a0 n0 c0] ∧ FcR W f.fc [.string f.fc.name, .string f.fc.sup, .slice a8 n8 c8, .slice a9 n9 c9] ∧ PoR W f (.slice a1 n1 c1) (.slice a2 n2 c2) (.slice a3 n3 c3) (.slice a4 n4 c4) (.slice a5 n5 c5) ∧ Sl W 3 (BdR W) f.bd (.slice a0 n0 c0)
theorem FlR.keep {W w : World} {f : Fl} {cs : List Value} (hw : Keeps W w) (h : FlR W f cs) : FlR w f cs := by
  obtain ⟨a8, n8, c8, a9, n9, c9, a1, n1, c1, a2, n2, c2, a3, n3, c3, a4, n4, c4, a5, n5, c5, a0, n0, c0, e, h1, h2, h3⟩ := h
  exact ⟨a8, n8, c8, a9, n9, c9, a1, n1, c1, a2, n2, c2, a3, n3, c3, a4, n4, c4, a5, n5, c5, a0, n0, c0, e, h1.keep hw, h2.keep hw, bds_keep hw h3⟩
/-- a right file -/
structure RightF (f : Fl) : Prop where
  fc : RightP f.fc
  po : PoolP f
  ln : f.bd.length = f.fc.ms.length
  bd : ∀ (i : Nat) s b, f.fc.ms[i]? = some s → f.bd[i]? = some b → BodyP f.nu.length f.cl.length f.ty.length f.fd.length f.mt.length s b
/-- a file, and a body, each in its own block -/
structure LpS (X F : Nat) (fs bs : List Value) (w z : World) : Prop where
  f : Blk z F fs 44
  b : Blk z X bs 54
  below : Below w.heap.size w z
theorem LpS.next {X F : Nat} {fs bs : List Value} {w z z' : World} (h : LpS X F fs bs w z) (hb : Below z.heap.size z z') : LpS X F fs bs w z' := ⟨h.f.below hb, h.b.below hb, h.below.trans (hb.mono h.below.size)⟩
theorem LpS.dr {X F : Nat} {fs bs : List Value} {w z : World} (h : LpS X F fs bs w z) : LpS X F fs bs w z.drew := ⟨h.f, h.b, h.below.drew⟩

set_option maxHeartbeats 4000000 in
set_option maxRecDepth 100000 in
theorem right11 (f : Fl) (cs : List Value) (w : World) (hf : FlR w f cs) (hT : TabR w) : Calls Tryd.prog 24 #[.agg cs.toArray] w (IffP (RightF f) w) := by
  obtain ⟨a8, n8, c8, a9, n9, c9, a1, n1, c1, a2, n2, c2, a3, n3, c3, a4, n4, c4, a5, n5, c5, a0, n0, c0, rfl, hfc, hpo, hbd⟩ := hf
  obtain ⟨_, _, _, _, _, _, he, hf8, hf9⟩ := id hfc
  simp only [List.cons.injEq, Value.slice.injEq, true_and, and_true] at he
  obtain ⟨⟨rfl, rfl, rfl⟩, rfl, rfl, rfl⟩ := he
  obtain ⟨e9, l9, k9, hk9⟩ := hf9.at
  obtain ⟨e0, l0, k0, hk0⟩ := hbd.at
  have HN1 := Lib.hid hpo.nu.at.1
  have HN2 := Lib.hid hpo.cl.at.1
  have HN3 := Lib.hid hpo.ty.at.1
  have HN4 := Lib.hid hpo.fd.at.1
  have HN5 := Lib.hid hpo.mt.at.1
  unfold maxLen at k9 k0
  have E9 := Lib.hid e9
  have E0 := Lib.hid e0
  have HK9 := Lib.hid hk9
  have HK0 := Lib.hid hk0
  have HF := Lib.hid hfc
  have HP := Lib.hid hpo
  have HT := Lib.hid hT
  clear e9 e0 hk9 hk0 hfc hpo hbd hf8 hf9 hT
  obtain ⟨W0, HW0⟩ : ∃ W0, Hid (W0 = w.alloc (.cells #[.string f.fc.name, .string f.fc.sup, .slice a8 n8 c8, .slice a9 n9 c9, .slice a1 n1 c1, .slice a2 n2 c2, .slice a3 n3 c3, .slice a4 n4 c4, .slice a5 n5 c5, .slice a0 n0 c0] 44)) := ⟨_, Lib.hid rfl⟩
  have F0 : Hid (Blk W0 w.heap.size [.string f.fc.name, .string f.fc.sup, .slice a8 n8 c8, .slice a9 n9 c9, .slice a1 n1 c1, .slice a2 n2 c2, .slice a3 n3 c3, .slice a4 n4 c4, .slice a5 n5 c5, .slice a0 n0 c0] 44) := Lib.hid (by rw [HW0.out]; exact Blk.new w [.string f.fc.name, .string f.fc.sup, .slice a8 n8 c8, .slice a9 n9 c9, .slice a1 n1 c1, .slice a2 n2 c2, .slice a3 n3 c3, .slice a4 n4 c4, .slice a5 n5 c5, .slice a0 n0 c0] 44)
  have HB0 : Hid (Below w.heap.size w W0) := Lib.hid (by rw [HW0.out]; exact below1 w _)
  go_enter Tryd.func24, Tryd.ntmps24
  go_upto_region 1 with fail
  rw [← HW0.out]
  clear HW0
  have p0 := F0.out.cell 0
  have p1 := F0.out.cell 1
  have p2 := F0.out.cell 2
  have p3 := F0.out.cell 3
  simp only [List.getElem?_cons_succ, List.getElem?_cons_zero] at p0 p1 p2 p3
  go_wp2_with fail
  refine (right10 f.fc _ W0 (HF.out.keep (Keeps.of_below HB0.out))).mono ?_
  rintro e w1 ⟨r1, rfl, hr1, hb1⟩
  have HB1 : Hid (Below w.heap.size w w1) := Lib.hid (HB0.out.trans (hb1.mono HB0.out.size))
  have F1 := Lib.hid (F0.out.below hb1)
  have HR1 := Lib.hid hr1
  clear hr1 hb1 p0 p1 p2 p3 F0 HB0
  cases r1 with
  | false =>
    go_wp2
    go_ret
    exact IffP.no rfl (fun h => by have := HR1.out.2 h.fc; cases this) HB1.out
  | true =>
  have p4 := F1.out.cell 4
  have p5 := F1.out.cell 5
  have p6 := F1.out.cell 6
  have p7 := F1.out.cell 7
  have p8 := F1.out.cell 8
  simp only [List.getElem?_cons_succ, List.getElem?_cons_zero] at p4 p5 p6 p7 p8
  go_wp2_with fail
  refine (pool27 f a1 n1 c1 a2 n2 c2 a3 n3 c3 a4 n4 c4 a5 n5 c5 w1 (HP.out.keep (Keeps.of_below HB1.out))).mono ?_
  rintro e w2 ⟨r2, rfl, hr2, hb2⟩
  have HB2 : Hid (Below w.heap.size w w2) := Lib.hid (HB1.out.trans (hb2.mono HB1.out.size))
  have F2 := Lib.hid (F1.out.below hb2)
  have HR2 := Lib.hid hr2
  clear hr2 hb2 p4 p5 p6 p7 p8 F1 HB1
  cases r2 with
  | false =>
    go_wp2
    go_ret
    exact IffP.no rfl (fun h => by have := HR2.out.2 h.po; cases this) HB2.out
  | true =>
  have p9 := F2.out.cell 9
  have p3 := F2.out.cell 3
  simp only [List.getElem?_cons_succ, List.getElem?_cons_zero] at p9 p3
  have HRP := Lib.hid (HR1.out.1 (by simp))
  have HPP := Lib.hid (HR2.out.1 (by simp))
  clear HR1 HR2
  by_cases hln : n0 = n9
  rotate_left
  · have hln' : ((n0 : Int) == (n9 : Int)) = false := by simp; omega
    go_wp2
    go_ret
    exact IffP.no rfl (fun h => by have := h.ln; have := E9.out; have := E0.out; omega) HB2.out
  subst hln
  have hnn : ((n0 : Int) == n0) = true := by simp
  go_wp2
  clear p9 p3
  obtain ⟨FB, HFB⟩ : ∃ b, Hid (b = w.heap.size) := ⟨_, Lib.hid rfl⟩
  rw [← HFB.out] at F2 ⊢
  go_loopw [28] (fun i wr => ∃ k : Nat, k ≤ n0 ∧ i = .int .i64 k ∧ Hid (∀ j s b, j < k → f.fc.ms[j]? = some s → f.bd[j]? = some b → BodyP n1 n2 n3 n4 n5 s b) ∧ Hid (Blk wr FB [.string f.fc.name, .string f.fc.sup, .slice a8 n8 c8, .slice a9 n0 c9, .slice a1 n1 c1, .slice a2 n2 c2, .slice a3 n3 c3, .slice a4 n4 c4, .slice a5 n5 c5, .slice a0 n0 c0] 44) ∧ Below w.heap.size w wr) (fun i _ => n0 - (intOf i).toNat)
  case atStart => exact ⟨0, Nat.zero_le _, rfl, Lib.hid (by intro j s b h; omega), F2, HB2.out⟩
  case round =>
    clear F2 HB2
    obtain ⟨k, hk, rfl, HA, HF, hbr⟩ := hrel
    have hsr := hbr.size
    by_cases hkl : k < n0
    · obtain ⟨s, hs⟩ : ∃ v, f.fc.ms[k]? = some v := ⟨_, List.getElem?_eq_getElem (by have := E9.out; omega)⟩
      obtain ⟨b, hbk⟩ : ∃ v, f.bd[k]? = some v := ⟨_, List.getElem?_eq_getElem (by have := E0.out; omega)⟩
      obtain ⟨g9, o9, cs9, rfl, hc9, a7, n7, c7, rfl, hsl7⟩ := HK9.out k s hs
      obtain ⟨g0, o0, cs0, rfl, hc0, a6, n6, c6, rfl, hsl6⟩ := HK0.out k b hbk
      have old : ∀ {p : Addr} {v : Value} (z : World), Below w.heap.size w z → w.cell? p = some v → z.cell? p = some v := fun z hz h => (hz.cell (World.block_lt_of_cell? _ _ h)).trans h
      have HM0 : Hid (∀ z, Below w.heap.size w z → z.cell? ⟨g9, o9 + k * 5, none⟩ = some (.string s.name)) := Lib.hid (fun z hz => old z hz (hc9 0 _ rfl))
      have HM1 : Hid (∀ z, Below w.heap.size w z → z.cell? ⟨g9, o9 + k * 5 + 1, none⟩ = some (.bool s.st)) := Lib.hid (fun z hz => old z hz (hc9 1 _ rfl))
      have HM2 : Hid (∀ z, Below w.heap.size w z → z.cell? ⟨g9, o9 + k * 5 + 2, none⟩ = some (.slice a7 n7 c7)) := Lib.hid (fun z hz => old z hz (hc9 2 _ rfl))
      have HM3 : Hid (∀ z, Below w.heap.size w z → z.cell? ⟨g9, o9 + k * 5 + 3, none⟩ = some (.string s.rn)) := Lib.hid (fun z hz => old z hz (hc9 3 _ rfl))
      have HM4 : Hid (∀ z, Below w.heap.size w z → z.cell? ⟨g9, o9 + k * 5 + 4, none⟩ = some (.bool s.ra)) := Lib.hid (fun z hz => old z hz (hc9 4 _ rfl))
      have q0 := old wr hbr (hc0 0 _ rfl)
      have q1 := old wr hbr (hc0 1 _ rfl)
      have q2 := old wr hbr (hc0 2 _ rfl)
      simp only [Nat.add_zero] at q0
      have HS7 := Lib.hid hsl7
      have HS6 := Lib.hid hsl6
      have H7 : Hid (n7 ≤ 200) := Lib.hid (by have := (HRP.out.ms k s hs).2.2.2.1; have := hsl7.at.1; omega)
      have HSK := Lib.hid hs
      have HBK := Lib.hid hbk
      obtain ⟨X1, HX1⟩ : ∃ X : List Value, Hid (X = [.string f.fc.name, .string f.fc.sup, .slice a8 n8 c8, .slice (some ⟨g9, o9, none⟩) n0 c9, .slice a1 n1 c1, .slice a2 n2 c2, .slice a3 n3 c3, .slice a4 n4 c4, .slice a5 n5 c5, .slice (some ⟨g0, o0, none⟩) n0 c0]) := ⟨_, Lib.hid rfl⟩
      obtain ⟨X2, HX2⟩ : ∃ X : List Value, Hid (X = [.int .i64 b.lo, .int .i64 b.st, .slice a6 n6 c6]) := ⟨_, Lib.hid rfl⟩
      have HL : Hid (LpS wr.heap.size FB X1 X2 w (wr.alloc (.cells #[.int .i64 b.lo, .int .i64 b.st, .slice a6 n6 c6] 54))) := Lib.hid ⟨by rw [HX1.out]; exact HF.out.below (below1 wr _), by rw [HX2.out]; exact Blk.new wr [.int .i64 b.lo, .int .i64 b.st, .slice a6 n6 c6] 54, bl_al' hbr⟩
      have HC : Hid (∀ z, LpS wr.heap.size FB X1 X2 w z → Calls Tryd.prog 42 #[.agg #[.slice a1 n1 c1, .slice a2 n2 c2, .slice a3 n3 c3, .slice a4 n4 c4, .slice a5 n5 c5], .agg #[.string s.name, .bool s.st, .slice a7 n7 c7, .string s.rn, .bool s.ra], .agg #[.int .i64 b.lo, .int .i64 b.st, .slice a6 n6 c6]] z (IffP (BodyP n1 n2 n3 n4 n5 s b) z)) := Lib.hid (fun z hz => body28 a1 n1 c1 a2 n2 c2 a3 n3 c3 a4 n4 c4 a5 n5 c5 s a7 n7 c7 b a6 n6 c6 z (tys_keep (Keeps.of_below hz.below) HS7.out) H7.out (HT.out.below hz.below) (ins_keep (Keeps.of_below hz.below) HS6.out))
      clear hc9 hc0 hsl7 hsl6 old hs hbk
      go_upto_region 6 with fail
      refine wp_region_held_drew (S := fun z => LpS wr.heap.size FB X1 X2 w z) (by kernel_rfl) ?_ (fun hHeld => ?_)
      · exact HL.out.dr
      refine wpAnyH_take (i := 0) (v := ?_) rfl (by kernel_rfl) (by kernel_rfl) (by kernel_rfl) (fun _ _ _ h => h) (Or.inl ⟨by rfl, ?_⟩) (by assumption) ?_
      rotate_left
      focus (intro w hSw; have p0 := hSw.f.cell 3; have p1 := hSw.f.cell 4; have p2 := hSw.f.cell 5; have p3 := hSw.f.cell 6; have p4 := hSw.f.cell 7; have p5 := hSw.f.cell 8; have q0 := hSw.b.cell 0; have q1 := hSw.b.cell 1; have q2 := hSw.b.cell 2; simp only [HX1.out, HX2.out, List.getElem?_cons_zero, List.getElem?_cons_succ] at p0 p1 p2 p3 p4 p5 q0 q1 q2; have s0 := HM0.out w hSw.below; have s1 := HM1.out w hSw.below; have s2 := HM2.out w hSw.below; have s3 := HM3.out w hSw.below; have s4 := HM4.out w hSw.below; go_simp; first | done | with_reducible rfl)
      simp only [Act.put, List.getElem_toArray, List.getElem_cons_zero, List.setIfInBounds_toArray, List.set_cons_zero, List.set_cons_succ]
      refine wpAnyH_take (i := 1) (v := ?_) rfl (by kernel_rfl) (by kernel_rfl) (by kernel_rfl) (fun _ _ _ h => h) (Or.inl ⟨by rfl, ?_⟩) (by assumption) ?_
      rotate_left
      focus (intro w hSw; have p0 := hSw.f.cell 3; have p1 := hSw.f.cell 4; have p2 := hSw.f.cell 5; have p3 := hSw.f.cell 6; have p4 := hSw.f.cell 7; have p5 := hSw.f.cell 8; have q0 := hSw.b.cell 0; have q1 := hSw.b.cell 1; have q2 := hSw.b.cell 2; simp only [HX1.out, HX2.out, List.getElem?_cons_zero, List.getElem?_cons_succ] at p0 p1 p2 p3 p4 p5 q0 q1 q2; have s0 := HM0.out w hSw.below; have s1 := HM1.out w hSw.below; have s2 := HM2.out w hSw.below; have s3 := HM3.out w hSw.below; have s4 := HM4.out w hSw.below; go_simp; first | done | with_reducible rfl)
      simp only [Act.put, List.getElem_toArray, List.getElem_cons_zero, List.getElem_cons_succ, List.setIfInBounds_toArray, List.set_cons_zero, List.set_cons_succ]
      refine wpAnyH_take (i := 2) (v := ?_) rfl (by kernel_rfl) (by kernel_rfl) (by kernel_rfl) (fun _ _ _ h => h) (Or.inl ⟨by rfl, ?_⟩) (by assumption) ?_
      rotate_left
      focus (intro w hSw; have p0 := hSw.f.cell 3; have p1 := hSw.f.cell 4; have p2 := hSw.f.cell 5; have p3 := hSw.f.cell 6; have p4 := hSw.f.cell 7; have p5 := hSw.f.cell 8; have q0 := hSw.b.cell 0; have q1 := hSw.b.cell 1; have q2 := hSw.b.cell 2; simp only [HX1.out, HX2.out, List.getElem?_cons_zero, List.getElem?_cons_succ] at p0 p1 p2 p3 p4 p5 q0 q1 q2; have s0 := HM0.out w hSw.below; have s1 := HM1.out w hSw.below; have s2 := HM2.out w hSw.below; have s3 := HM3.out w hSw.below; have s4 := HM4.out w hSw.below; go_simp; first | done | with_reducible rfl)
      simp only [Act.put, List.getElem_toArray, List.getElem_cons_zero, List.getElem_cons_succ, List.setIfInBounds_toArray, List.set_cons_zero, List.set_cons_succ]
      refine wpAnyH_take (i := 3) (v := ?_) rfl (by kernel_rfl) (by kernel_rfl) (by kernel_rfl) (fun _ _ _ h => h) (Or.inl ⟨by rfl, ?_⟩) (by assumption) ?_
      rotate_left
      focus (intro w hSw; have p0 := hSw.f.cell 3; have p1 := hSw.f.cell 4; have p2 := hSw.f.cell 5; have p3 := hSw.f.cell 6; have p4 := hSw.f.cell 7; have p5 := hSw.f.cell 8; have q0 := hSw.b.cell 0; have q1 := hSw.b.cell 1; have q2 := hSw.b.cell 2; simp only [HX1.out, HX2.out, List.getElem?_cons_zero, List.getElem?_cons_succ] at p0 p1 p2 p3 p4 p5 q0 q1 q2; have s0 := HM0.out w hSw.below; have s1 := HM1.out w hSw.below; have s2 := HM2.out w hSw.below; have s3 := HM3.out w hSw.below; have s4 := HM4.out w hSw.below; go_simp; first | done | with_reducible rfl)
      simp only [Act.put, List.getElem_toArray, List.getElem_cons_zero, List.getElem_cons_succ, List.setIfInBounds_toArray, List.set_cons_zero, List.set_cons_succ]
      refine wpAnyH_take (i := 4) (v := ?_) rfl (by kernel_rfl) (by kernel_rfl) (by kernel_rfl) (fun _ _ _ h => h) (Or.inl ⟨by rfl, ?_⟩) (by assumption) ?_
      rotate_left
      focus (intro w hSw; have p0 := hSw.f.cell 3; have p1 := hSw.f.cell 4; have p2 := hSw.f.cell 5; have p3 := hSw.f.cell 6; have p4 := hSw.f.cell 7; have p5 := hSw.f.cell 8; have q0 := hSw.b.cell 0; have q1 := hSw.b.cell 1; have q2 := hSw.b.cell 2; simp only [HX1.out, HX2.out, List.getElem?_cons_zero, List.getElem?_cons_succ] at p0 p1 p2 p3 p4 p5 q0 q1 q2; have s0 := HM0.out w hSw.below; have s1 := HM1.out w hSw.below; have s2 := HM2.out w hSw.below; have s3 := HM3.out w hSw.below; have s4 := HM4.out w hSw.below; go_simp; first | done | with_reducible rfl)
      simp only [Act.put, List.getElem_toArray, List.getElem_cons_zero, List.getElem_cons_succ, List.setIfInBounds_toArray, List.set_cons_zero, List.set_cons_succ]
      refine wpAnyH_take (i := 5) (v := ?_) rfl (by kernel_rfl) (by kernel_rfl) (by kernel_rfl) (fun _ _ _ h => h) (Or.inl ⟨by rfl, ?_⟩) (by assumption) ?_
      rotate_left
      focus (intro w hSw; have p0 := hSw.f.cell 3; have p1 := hSw.f.cell 4; have p2 := hSw.f.cell 5; have p3 := hSw.f.cell 6; have p4 := hSw.f.cell 7; have p5 := hSw.f.cell 8; have q0 := hSw.b.cell 0; have q1 := hSw.b.cell 1; have q2 := hSw.b.cell 2; simp only [HX1.out, HX2.out, List.getElem?_cons_zero, List.getElem?_cons_succ] at p0 p1 p2 p3 p4 p5 q0 q1 q2; have s0 := HM0.out w hSw.below; have s1 := HM1.out w hSw.below; have s2 := HM2.out w hSw.below; have s3 := HM3.out w hSw.below; have s4 := HM4.out w hSw.below; go_simp; first | done | with_reducible rfl)
      simp only [Act.put, List.getElem_toArray, List.getElem_cons_zero, List.getElem_cons_succ, List.setIfInBounds_toArray, List.set_cons_zero, List.set_cons_succ]
      refine wpAnyH_take (i := 6) (v := ?_) rfl (by kernel_rfl) (by kernel_rfl) (by kernel_rfl) (fun _ _ _ h => h) (Or.inl ⟨by rfl, ?_⟩) (by assumption) ?_
      rotate_left
      focus (intro w hSw; have p0 := hSw.f.cell 3; have p1 := hSw.f.cell 4; have p2 := hSw.f.cell 5; have p3 := hSw.f.cell 6; have p4 := hSw.f.cell 7; have p5 := hSw.f.cell 8; have q0 := hSw.b.cell 0; have q1 := hSw.b.cell 1; have q2 := hSw.b.cell 2; simp only [HX1.out, HX2.out, List.getElem?_cons_zero, List.getElem?_cons_succ] at p0 p1 p2 p3 p4 p5 q0 q1 q2; have s0 := HM0.out w hSw.below; have s1 := HM1.out w hSw.below; have s2 := HM2.out w hSw.below; have s3 := HM3.out w hSw.below; have s4 := HM4.out w hSw.below; go_simp; first | done | with_reducible rfl)
      simp only [Act.put, List.getElem_toArray, List.getElem_cons_zero, List.getElem_cons_succ, List.setIfInBounds_toArray, List.set_cons_zero, List.set_cons_succ]
      refine wpAnyH_take (i := 7) (v := ?_) rfl (by kernel_rfl) (by kernel_rfl) (by kernel_rfl) (fun _ _ _ h => h) (Or.inl ⟨by rfl, ?_⟩) (by assumption) ?_
      rotate_left
      focus (intro w hSw; have p0 := hSw.f.cell 3; have p1 := hSw.f.cell 4; have p2 := hSw.f.cell 5; have p3 := hSw.f.cell 6; have p4 := hSw.f.cell 7; have p5 := hSw.f.cell 8; have q0 := hSw.b.cell 0; have q1 := hSw.b.cell 1; have q2 := hSw.b.cell 2; simp only [HX1.out, HX2.out, List.getElem?_cons_zero, List.getElem?_cons_succ] at p0 p1 p2 p3 p4 p5 q0 q1 q2; have s0 := HM0.out w hSw.below; have s1 := HM1.out w hSw.below; have s2 := HM2.out w hSw.below; have s3 := HM3.out w hSw.below; have s4 := HM4.out w hSw.below; go_simp; first | done | with_reducible rfl)
      simp only [Act.put, List.getElem_toArray, List.getElem_cons_zero, List.getElem_cons_succ, List.setIfInBounds_toArray, List.set_cons_zero, List.set_cons_succ]
      refine wpAnyH_take (i := 8) (v := ?_) rfl (by kernel_rfl) (by kernel_rfl) (by kernel_rfl) (fun _ _ _ h => h) (Or.inl ⟨by rfl, ?_⟩) (by assumption) ?_
      rotate_left
      focus (intro w hSw; have p0 := hSw.f.cell 3; have p1 := hSw.f.cell 4; have p2 := hSw.f.cell 5; have p3 := hSw.f.cell 6; have p4 := hSw.f.cell 7; have p5 := hSw.f.cell 8; have q0 := hSw.b.cell 0; have q1 := hSw.b.cell 1; have q2 := hSw.b.cell 2; simp only [HX1.out, HX2.out, List.getElem?_cons_zero, List.getElem?_cons_succ] at p0 p1 p2 p3 p4 p5 q0 q1 q2; have s0 := HM0.out w hSw.below; have s1 := HM1.out w hSw.below; have s2 := HM2.out w hSw.below; have s3 := HM3.out w hSw.below; have s4 := HM4.out w hSw.below; go_simp; first | done | with_reducible rfl)
      simp only [Act.put, List.getElem_toArray, List.getElem_cons_zero, List.getElem_cons_succ, List.setIfInBounds_toArray, List.set_cons_zero, List.set_cons_succ]
      refine wpAnyH_ready (rs := [9]) (by kernel_rfl) (by simp) ?_
      refine AllReadyH.cons (o := _) rfl (fun K hK => ?_) AllReadyH.nil
      go_simp
      with_reducible refine (HC.out _ hHeld).mono ?_
      rintro e z1 ⟨r, rfl, hr, hz1⟩
      have HR := Lib.hid hr
      clear hr
      go_simp
      refine hK.out _ _ (hHeld.next hz1) (fun hHeld => ?_)
      clear hK K
      try simp only [Act.put, List.getElem_toArray, List.getElem_cons_zero, List.getElem_cons_succ, List.setIfInBounds_toArray, List.set_cons_zero, List.set_cons_succ]
      refine wpAnyH_take (i := 10) (v := ?_) rfl (by kernel_rfl) (by kernel_rfl) (by kernel_rfl) (fun _ _ _ h => h) (Or.inl ⟨by rfl, ?_⟩) (by assumption) ?_
      rotate_left
      focus (intro w hSw; have p0 := hSw.f.cell 3; have p1 := hSw.f.cell 4; have p2 := hSw.f.cell 5; have p3 := hSw.f.cell 6; have p4 := hSw.f.cell 7; have p5 := hSw.f.cell 8; have q0 := hSw.b.cell 0; have q1 := hSw.b.cell 1; have q2 := hSw.b.cell 2; simp only [HX1.out, HX2.out, List.getElem?_cons_zero, List.getElem?_cons_succ] at p0 p1 p2 p3 p4 p5 q0 q1 q2; have s0 := HM0.out w hSw.below; have s1 := HM1.out w hSw.below; have s2 := HM2.out w hSw.below; have s3 := HM3.out w hSw.below; have s4 := HM4.out w hSw.below; go_simp; first | done | with_reducible rfl)
      simp only [Act.put, List.getElem_toArray, List.getElem_cons_zero, List.getElem_cons_succ, List.setIfInBounds_toArray, List.set_cons_zero, List.set_cons_succ]
      refine wpAnyH_done (by kernel_rfl) ?_ _
      have HS2 : Hid (Below w.heap.size w z1) := Lib.hid hHeld.below
      have HF2 := Lib.hid hHeld.f
      rw [HX1.out] at HF2
      clear hHeld hz1 HC HL HX1 HX2 HM0 HM1 HM2 HM3 HM4 HF q0 q1 q2
      cases r with
      | false =>
        go_wp2
        go_ret
        exact IffP.no rfl (fun h => by
          have := h.bd k s b HSK.out HBK.out
          rw [← HN1.out, ← HN2.out, ← HN3.out, ← HN4.out, ← HN5.out] at this
          have := HR.out.2 this
          cases this) HS2.out
      | true =>
        have HA2 : Hid (∀ j s' b', j < k + 1 → f.fc.ms[j]? = some s' → f.bd[j]? = some b' → BodyP n1 n2 n3 n4 n5 s' b') := Lib.hid (fun j s' b' hj h1 h2 => by
          rcases Nat.lt_succ_iff_lt_or_eq.1 hj with hj | rfl
          · exact HA.out j s' b' hj h1 h2
          · rw [HSK.out] at h1; rw [HBK.out] at h2; cases h1; cases h2; exact HR.out.1 (by simp))
        go_wp2
        go_roundw
        case rel => exact ⟨k + 1, by omega, by go_num, HA2, HF2, HS2.out⟩
        case measure => simp [intOf]; omega
    · have HE : Hid (RightF f) := Lib.hid ⟨HRP.out, HPP.out, by have := E9.out; have := E0.out; omega, fun i s b h1 h2 => by
        have hl := (List.getElem?_eq_some_iff.1 h2).1
        rw [← HN1.out, ← HN2.out, ← HN3.out, ← HN4.out, ← HN5.out]
        exact HA.out i s b (by have := E0.out; omega) h1 h2⟩
      go_wp2
      go_ret
      exact IffP.yes rfl HE.out hbr
end Go.Proofs.YthimpjfmelmhpaaDoor.Fc
