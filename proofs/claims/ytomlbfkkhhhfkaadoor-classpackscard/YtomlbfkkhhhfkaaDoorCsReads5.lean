/-
  A method of a pool, as it is read.
-/
import Derived.Test.YtomlbfkkhhhfkaaDoorCsReads4
import Derived.Test.YtomlbfkkhhhfkaaDoorCsReads3
namespace Go.Proofs.YtomlbfkkhhhfkaaDoor.Fc
open Go.RowKit
set_option linter.unusedVariables false

theorem st6_mods {w : World} {fb : Nat} (v0 v1 v2 v3 v4 v5 : Value) : Mods (· = fb) w ((((((w.setCell ⟨fb, 0, none⟩ v0).setCell ⟨fb, 1, none⟩ v1).setCell ⟨fb, 2, none⟩ v2).setCell ⟨fb, 3, none⟩ v3).setCell ⟨fb, 4, none⟩ v4).setCell ⟨fb, 5, none⟩ v5) :=
  (st5_mods v0 v1 v2 v3 v4).setCell (p := ⟨fb, 5, none⟩) (.inl rfl) _
set_option maxHeartbeats 2000000 in
set_option maxRecDepth 100000 in
theorem method95 (br : Nat) (st : Pk.St) (w : World) (h : Pk.RAt br w st) (hs : st.s.length ≤ 140737488355328) :
    Calls Tryd.prog 95 #[.pointer (some ⟨br, 0, none⟩)] w fun e w' => ∃ a n c, e = .returned (.agg #[.string (rdMt st).1.1.name, .bool (rdMt st).1.1.st, .slice a n c, .string (rdMt st).1.1.rn, .bool (rdMt st).1.1.ra, .string (rdMt st).1.2]) ∧ Sl w' 2 TyR (rdMt st).1.1.ps (.slice a n c) ∧ Own w.heap.size w' 60 a ∧ Pk.RAt br w' (rdMt st).2 ∧ Mods (· = br) w w' := by
  have hlt := rat_lt h
  have H1 := Lib.hid (read17o br st (w.alloc (.cells #[.string ⟨#[]⟩, .bool false, .slice none 0 0, .string ⟨#[]⟩, .bool false, .string ⟨#[]⟩] 79)) (rat_al h _) hs)
  have R0 : Hid (Blk (w.alloc (.cells #[.string ⟨#[]⟩, .bool false, .slice none 0 0, .string ⟨#[]⟩, .bool false, .string ⟨#[]⟩] 79)) w.heap.size [.string ⟨#[]⟩, .bool false, .slice none 0 0, .string ⟨#[]⟩, .bool false, .string ⟨#[]⟩] 79) := Lib.hid (Blk.new w [.string ⟨#[]⟩, .bool false, .slice none 0 0, .string ⟨#[]⟩, .bool false, .string ⟨#[]⟩] 79)
  unfold rdMt
  generalize rdFc 40 200 st = r at *
  obtain ⟨f, st1⟩ := r
  dsimp only at H1 ⊢
  clear h hs
  go_enter Tryd.func95, Tryd.ntmps95
  go_wp2_with fail
  refine H1.out.mono ?_
  rintro e w1 ⟨a, n, c, a', n', c', ps, rfl, hS1, hG1, hps, hP1, hO1, hQ1, hr1, hm1⟩
  have hs1 := hm1.size
  simp at hs1
  have R1 := Lib.hid (R0.out.keep hm1 (by omega))
  have HM1 := Lib.hid (mods_new hm1)
  obtain ⟨en, ln, kn, hkn⟩ := hG1.at
  unfold maxLen at kn
  obtain ⟨W2, HW2⟩ : ∃ W, Hid (W = (w1.alloc (.cells #[.string f.name, .string f.sup, .slice a n c, .slice a' n' c'] 25)).alloc (.cells #[.string ⟨#[]⟩, .bool false, .slice none 0 0, .string ⟨#[]⟩, .bool false, .string f.name] 79)) := ⟨_, Lib.hid rfl⟩
  have hb2 : Below w1.heap.size w1 W2 := by rw [HW2.out]; exact below2 w1 _ _
  have hs2 := hb2.size
  have X2 : Hid (Blk W2 w1.heap.size [.string f.name, .string f.sup, .slice a n c, .slice a' n' c'] 25) := Lib.hid (by rw [HW2.out]; exact (Blk.new w1 _ 25).below (below1 _ _))
  have Y2 : Hid (Blk W2 (w1.heap.size + 1) [.string ⟨#[]⟩, .bool false, .slice none 0 0, .string ⟨#[]⟩, .bool false, .string f.name] 79) := Lib.hid (by rw [HW2.out]; have := Blk.new (w1.alloc (.cells #[.string f.name, .string f.sup, .slice a n c, .slice a' n' c'] 25)) [.string ⟨#[]⟩, .bool false, .slice none 0 0, .string ⟨#[]⟩, .bool false, .string f.name] 79; simpa using this)
  have R2 : Hid (Blk W2 w.heap.size [.string ⟨#[]⟩, .bool false, .slice none 0 0, .string ⟨#[]⟩, .bool false, .string ⟨#[]⟩] 79) := Lib.hid (R1.out.below hb2)
  have HM2 : Hid (Mods (· = br) w W2) := Lib.hid (by rw [HW2.out]; exact (HM1.out.alloc _).alloc _)
  have hr2 : Pk.RAt br W2 st1 := by rw [HW2.out]; exact rat_al (rat_al hr1 _) _
  have hY := lt_of_block Y2.out
  have HPS := Lib.hid hps
  have HP2 : Hid (PsR w.heap.size W2 ps) := Lib.hid ((hP1.mono (by simp)).keep (fun b cur _ hb => hb2.block b (lt_of_block hb)))
  cases ps with
  | nil =>
    have hn0 : n' = 0 := by simpa using en
    subst hn0
    have hms : f.ms = [] := by rw [← HPS.out]; rfl
    have HMS := Lib.hid hms
    clear hG1 hps hP1 hO1 hQ1 hr1 hm1 hS1 hkn hms en R0 H1 HP2 HPS
    go_upto_region 3 with fail
    rw [← HW2.out]
    have x0 := X2.out.cell 0
    have x1 := X2.out.cell 1
    have x2 := X2.out.cell 2
    have x3 := X2.out.cell 3
    simp only [List.getElem?_cons_succ, List.getElem?_cons_zero] at x0 x1 x2 x3
    have y0 := Y2.out.cell 0
    have y1 := Y2.out.cell 1
    have y2 := Y2.out.cell 2
    have y3 := Y2.out.cell 3
    have y4 := Y2.out.cell 4
    have y5 := Y2.out.cell 5
    simp only [List.getElem?_cons_succ, List.getElem?_cons_zero] at y0 y1 y2 y3 y4 y5
    have r0 := R2.out.cell 0
    have r1 := R2.out.cell 1
    have r2 := R2.out.cell 2
    have r3 := R2.out.cell 3
    have r4 := R2.out.cell 4
    have r5 := R2.out.cell 5
    simp only [List.getElem?_cons_succ, List.getElem?_cons_zero] at r0 r1 r2 r3 r4 r5
    have s0 := R2.out.frozen 0
    have s1 := R2.out.frozen 1
    have s2 := R2.out.frozen 2
    have s3 := R2.out.frozen 3
    have s4 := R2.out.frozen 4
    have s5 := R2.out.frozen 5
    have M := st6_mods (w := W2) (fb := w.heap.size) (.string ⟨#[]⟩) (.bool false) (.slice none 0 0) (.string ⟨#[]⟩) (.bool false) (.string f.name)
    have Z := (((((R2.out.set 0 (.string ⟨#[]⟩)).set 1 (.bool false)).set 2 (.slice none 0 0)).set 3 (.string ⟨#[]⟩)).set 4 (.bool false)).set 5 (.string f.name)
    have z0 := Z.cell 0
    have z1 := Z.cell 1
    have z2 := Z.cell 2
    have z3 := Z.cell 3
    have z4 := Z.cell 4
    have z5 := Z.cell 5
    simp only [List.set_cons_zero, List.set_cons_succ, List.getElem?_cons_succ, List.getElem?_cons_zero] at z0 z1 z2 z3 z4 z5
    have HMF := Lib.hid (mods_more HM2.out M (Nat.le_refl _))
    have HRF := Lib.hid (rat_keep hr2 M (by omega))
    clear R1 R2 X2 Y2 HM1 HM2 hb2 hr2 M Z HW2
    go_wp2
    refine bodyPost_ret (v := .agg #[.string ⟨#[]⟩, .bool false, .slice none 0 0, .string ⟨#[]⟩, .bool false, .string f.name]) (by simp [results, Tryd.results95, go_sem, z0, z1, z2, z3, z4, z5]) rfl ?_
    rw [HMS.out]
    exact ⟨none, 0, 0, rfl, Sl.nil _ _ _, (fun _ e => by cases e), HRF.out, HMF.out⟩
  | cons p ps' =>
    obtain ⟨⟨mn, ms', mp, mr, ma⟩, a2, n2, c2⟩ := p
    have hms : f.ms = ⟨mn, ms', mp, mr, ma⟩ :: ps'.map Prod.fst := by rw [← HPS.out]; rfl
    have HMS := Lib.hid hms
    have hn1 : 0 < n' := by simp at en; omega
    have hn2 : (0 : Int) < (n' : Int) := by omega
    obtain ⟨g, o, cs, rfl, hcell, hgp⟩ := hkn 0 _ rfl
    have hgp' : cs = [.string mn, .bool ms', .slice a2 n2 c2, .string mr, .bool ma] := hgp
    subst hgp'
    simp only [Nat.zero_mul, Nat.add_zero] at hcell
    have old : ∀ {p : Addr} {v : Value}, w1.cell? p = some v → W2.cell? p = some v := fun h => (hb2.cell (World.block_lt_of_cell? _ _ h)).trans h
    have h0 : W2.cell? ⟨g, o, none⟩ = some (.string mn) := old (hcell 0 _ rfl)
    have h1 : W2.cell? ⟨g, o + 1, none⟩ = some (.bool ms') := old (hcell 1 _ rfl)
    have h2 : W2.cell? ⟨g, o + 2, none⟩ = some (.slice a2 n2 c2) := old (hcell 2 _ rfl)
    have h3 : W2.cell? ⟨g, o + 3, none⟩ = some (.string mr) := old (hcell 3 _ rfl)
    have h4 : W2.cell? ⟨g, o + 4, none⟩ = some (.bool ma) := old (hcell 4 _ rfl)
    obtain ⟨hsp, hop⟩ := HP2.out _ (List.mem_cons_self ..)
    dsimp only at hsp hop
    have HSP := Lib.hid hsp
    have HOP1 : Hid (Own (w.heap.size + 1) W2 60 a2) := Lib.hid (by
      have h1 := (hP1 _ (List.mem_cons_self ..)).2
      intro ad ha
      obtain ⟨b, e1, hb1, cur, hb2'⟩ := h1 ad ha
      exact ⟨b, e1, by simpa using hb1, cur, (hb2.block b (lt_of_block hb2')).trans hb2'⟩)
    have HAP1 : Hid (∀ ad, a2 = some ad → ad.block ≠ w1.heap.size + 1) := Lib.hid (fun ad ha => by
      obtain ⟨b, e1, hb1, cur, hb2'⟩ := (hP1 _ (List.mem_cons_self ..)).2 ad ha
      have := lt_of_block hb2'
      rw [e1]
      show b ≠ _
      omega)
    clear hG1 hps hP1 hO1 hQ1 hr1 hm1 hS1 hkn hms en R0 H1 HP2 HPS hcell hgp hsp hop old
    go_upto_region 3 with fail
    rw [← HW2.out]
    have x0 := X2.out.cell 0
    have x1 := X2.out.cell 1
    have x2 := X2.out.cell 2
    have x3 := X2.out.cell 3
    simp only [List.getElem?_cons_succ, List.getElem?_cons_zero] at x0 x1 x2 x3
    have y0 := Y2.out.cell 0
    have y1 := Y2.out.cell 1
    have y2 := Y2.out.cell 2
    have y3 := Y2.out.cell 3
    have y4 := Y2.out.cell 4
    have y5 := Y2.out.cell 5
    simp only [List.getElem?_cons_succ, List.getElem?_cons_zero] at y0 y1 y2 y3 y4 y5
    have t0 := Y2.out.frozen 0
    have t1 := Y2.out.frozen 1
    have t2 := Y2.out.frozen 2
    have t3 := Y2.out.frozen 3
    have t4 := Y2.out.frozen 4
    go_upto_region 5 with fail
    obtain ⟨W3, HW3⟩ : ∃ W, Hid (W = ((((W2.setCell ⟨w1.heap.size + 1, 0, none⟩ (.string mn)).setCell ⟨w1.heap.size + 1, 1, none⟩ (.bool ms')).setCell ⟨w1.heap.size + 1, 2, none⟩ (.slice a2 n2 c2)).setCell ⟨w1.heap.size + 1, 3, none⟩ (.string mr)).setCell ⟨w1.heap.size + 1, 4, none⟩ (.bool ma)) := ⟨_, Lib.hid rfl⟩
    rw [← HW3.out]
    have N3 : Mods (· = w1.heap.size + 1) W2 W3 := by rw [HW3.out]; exact st5_mods _ _ _ _ _
    have Y3 : Blk W3 (w1.heap.size + 1) [.string mn, .bool ms', .slice a2 n2 c2, .string mr, .bool ma, .string f.name] 79 := by rw [HW3.out]; exact ((((Y2.out.set 0 (.string mn)).set 1 (.bool ms')).set 2 (.slice a2 n2 c2)).set 3 (.string mr)).set 4 (.bool ma)
    have R3 := R2.out.keep N3 (by omega)
    have HSP3 := HSP.out.mods N3 HAP1.out
    have HOP3 := own_mods HOP1.out N3 HAP1.out
    have hr3 := rat_keep hr2 N3 (by omega)
    have HM3 := mods_more HM2.out N3 (by omega)
    clear h0 h1 h2 h3 h4 x0 x1 x2 x3 y0 y1 y2 y3 y4 y5 t0 t1 t2 t3 t4
    have y0 := Y3.cell 0
    have y1 := Y3.cell 1
    have y2 := Y3.cell 2
    have y3 := Y3.cell 3
    have y4 := Y3.cell 4
    have y5 := Y3.cell 5
    simp only [List.getElem?_cons_succ, List.getElem?_cons_zero] at y0 y1 y2 y3 y4 y5
    have r0 := R3.cell 0
    have r1 := R3.cell 1
    have r2 := R3.cell 2
    have r3 := R3.cell 3
    have r4 := R3.cell 4
    have r5 := R3.cell 5
    simp only [List.getElem?_cons_succ, List.getElem?_cons_zero] at r0 r1 r2 r3 r4 r5
    have s0 := R3.frozen 0
    have s1 := R3.frozen 1
    have s2 := R3.frozen 2
    have s3 := R3.frozen 3
    have s4 := R3.frozen 4
    have s5 := R3.frozen 5
    have M := st6_mods (w := W3) (fb := w.heap.size) (.string mn) (.bool ms') (.slice a2 n2 c2) (.string mr) (.bool ma) (.string f.name)
    have Z := (((((R3.set 0 (.string mn)).set 1 (.bool ms')).set 2 (.slice a2 n2 c2)).set 3 (.string mr)).set 4 (.bool ma)).set 5 (.string f.name)
    have z0 := Z.cell 0
    have z1 := Z.cell 1
    have z2 := Z.cell 2
    have z3 := Z.cell 3
    have z4 := Z.cell 4
    have z5 := Z.cell 5
    simp only [List.set_cons_zero, List.set_cons_succ, List.getElem?_cons_succ, List.getElem?_cons_zero] at z0 z1 z2 z3 z4 z5
    have AP := own_apart HOP3 (show w.heap.size < w.heap.size + 1 by omega)
    have HMF := Lib.hid (mods_more HM3 M (Nat.le_refl _))
    have HRF := Lib.hid (rat_keep hr3 M (by omega))
    have HSF := Lib.hid (HSP3.mods M AP)
    have HOF := Lib.hid (own_mono (own_mods HOP3 M AP) (show w.heap.size ≤ w.heap.size + 1 by omega))
    clear R1 R2 R3 X2 Y2 Y3 HM1 HM2 HM3 hb2 hr2 hr3 M N3 Z HW2 HW3 HSP HSP3 HOP1 HOP3 AP HAP1
    go_wp2
    refine bodyPost_ret (v := .agg #[.string mn, .bool ms', .slice a2 n2 c2, .string mr, .bool ma, .string f.name]) (by simp [results, Tryd.results95, go_sem, z0, z1, z2, z3, z4, z5]) rfl ?_
    rw [HMS.out]
    exact ⟨a2, n2, c2, rfl, HSF.out, HOF.out, HRF.out, HMF.out⟩
end Go.Proofs.YtomlbfkkhhhfkaaDoor.Fc
