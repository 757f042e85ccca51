/-
  A pool, as it is read.
-/
import Derived.Test.YtomlbfkkhhhfkaaDoorCsReads6
namespace Go.Proofs.YtomlbfkkhhhfkaaDoor.Fc
open Go.RowKit
set_option linter.unusedVariables false

/-- a pool's pieces, each in memory of its own -/
structure PoO (B : Nat) (w : World) (p : Po) (ps : List MpP) (a1 : Option Addr) (n1 c1 : Nat) (a2 : Option Addr) (n2 c2 : Nat) (a3 : Option Addr) (n3 c3 : Nat) (a4 : Option Addr) (n4 c4 : Nat) (a5 : Option Addr) (n5 c5 : Nat) : Prop where
  nu : Sl w 1 NmR p.nu (.slice a1 n1 c1)
  cl : Sl w 1 StrR p.cl (.slice a2 n2 c2)
  ty : Sl w 2 TyR p.ty (.slice a3 n3 c3)
  fd : Sl w 4 FdR p.fd (.slice a4 n4 c4)
  gm : Sl w 6 GmR ps (.slice a5 n5 c5)
  mt : ps.map Prod.fst = p.mt
  pm : PmR B w ps
  o1 : Own B w 2 a1
  o2 : Own B w 9 a2
  o3 : Own B w 60 a3
  o4 : Own B w 77 a4
  o5 : Own B w 79 a5
theorem PmR.mono {B B' : Nat} {w : World} {ps : List MpP} (h : PmR B w ps) (hb : B' ≤ B) : PmR B' w ps := fun p hp => ⟨(h p hp).1, own_mono (h p hp).2 hb⟩
set_option maxHeartbeats 4000000 in
set_option maxRecDepth 100000 in
theorem pool68 (br : Nat) (st : Pk.St) (w : World) (h : Pk.RAt br w st) (hs : st.s.length ≤ 140737488355328) :
    Calls Tryd.prog 68 #[.pointer (some ⟨br, 0, none⟩)] w fun e w' => ∃ a1 n1 c1 a2 n2 c2 a3 n3 c3 a4 n4 c4 a5 n5 c5 ps, e = .returned (.agg #[.slice a1 n1 c1, .slice a2 n2 c2, .slice a3 n3 c3, .slice a4 n4 c4, .slice a5 n5 c5]) ∧ PoO w.heap.size w' (rdPo st).1 ps a1 n1 c1 a2 n2 c2 a3 n3 c3 a4 n4 c4 a5 n5 c5 ∧ Pk.RAt br w' (rdPo st).2 ∧ Mods (· = br) w w' := by
  have hlt := rat_lt h
  have hE : rdPo st = (⟨(rdNu st).1, (rdCl (rdNu st).2).1, (rdTs (rdCl (rdNu st).2).2).1, (rdFs (rdTs (rdCl (rdNu st).2).2).2).1, (rdMs (rdFs (rdTs (rdCl (rdNu st).2).2).2).2).1⟩, (rdMs (rdFs (rdTs (rdCl (rdNu st).2).2).2).2).2) := rfl
  rw [hE]
  clear hE
  have L1 : (rdNu st).2.s.length ≤ (st).s.length := (bk_int.many intB_pos 16384).len st
  have H1 : Hid (∀ w1, Pk.RAt br w1 st → Calls Tryd.prog 86 #[.pointer (some ⟨br, 0, none⟩), .func (.func 87) #[] #[]] w1 fun e w' => ∃ a n c, e = .returned (.slice a n c) ∧ Sl w' 1 NmR (rdNu st).1 (.slice a n c) ∧ Own w1.heap.size w' 2 a ∧ Pk.RAt br w' (rdNu st).2 ∧ Mods (· = br) w1 w') := Lib.hid (fun w1 h1 => many86 br st w1 h1 (by omega))
  generalize rdNu st = r1 at *
  have L2 : (rdCl r1.2).2.s.length ≤ (r1.2).s.length := ((cod_s 40).bk.many sB_pos 16384).len r1.2
  have H2 : Hid (∀ w1, Pk.RAt br w1 r1.2 → Calls Tryd.prog 88 #[.pointer (some ⟨br, 0, none⟩), .func (.func 89) #[] #[]] w1 fun e w' => ∃ a n c, e = .returned (.slice a n c) ∧ Sl w' 1 StrR (rdCl r1.2).1 (.slice a n c) ∧ Own w1.heap.size w' 9 a ∧ Pk.RAt br w' (rdCl r1.2).2 ∧ Mods (· = br) w1 w') := Lib.hid (fun w1 h1 => many88 br r1.2 w1 h1 (by omega))
  generalize rdCl r1.2 = r2 at *
  have L3 : (rdTs r2.2).2.s.length ≤ (r2.2).s.length := ((cod_ty 40).bk.many tyB_pos 16384).len r2.2
  have H3 : Hid (∀ w1, Pk.RAt br w1 r2.2 → Calls Tryd.prog 90 #[.pointer (some ⟨br, 0, none⟩), .func (.func 91) #[] #[]] w1 fun e w' => ∃ a n c, e = .returned (.slice a n c) ∧ Sl w' 2 TyR (rdTs r2.2).1 (.slice a n c) ∧ Own w1.heap.size w' 60 a ∧ Pk.RAt br w' (rdTs r2.2).2 ∧ Mods (· = br) w1 w') := Lib.hid (fun w1 h1 => many90 br r2.2 w1 h1 (by omega))
  generalize rdTs r2.2 = r3 at *
  have L4 : (rdFs r3.2).2.s.length ≤ (r3.2).s.length := (bk_fd.many fdB_pos 16384).len r3.2
  have H4 : Hid (∀ w1, Pk.RAt br w1 r3.2 → Calls Tryd.prog 92 #[.pointer (some ⟨br, 0, none⟩), .func (.func 93) #[] #[]] w1 fun e w' => ∃ a n c, e = .returned (.slice a n c) ∧ Sl w' 4 FdR (rdFs r3.2).1 (.slice a n c) ∧ Own w1.heap.size w' 77 a ∧ Pk.RAt br w' (rdFs r3.2).2 ∧ Mods (· = br) w1 w') := Lib.hid (fun w1 h1 => many92 br r3.2 w1 h1 (by omega))
  generalize rdFs r3.2 = r4 at *
  have L5 : (rdMs r4.2).2.s.length ≤ (r4.2).s.length := (bk_mt.many mtB_pos 16384).len r4.2
  have H5 : Hid (∀ w1, Pk.RAt br w1 r4.2 → Calls Tryd.prog 94 #[.pointer (some ⟨br, 0, none⟩), .func (.func 95) #[] #[]] w1 fun e w' => ∃ a n c ps, e = .returned (.slice a n c) ∧ Sl w' 6 GmR ps (.slice a n c) ∧ ps.map Prod.fst = (rdMs r4.2).1 ∧ PmR w1.heap.size w' ps ∧ Own w1.heap.size w' 79 a ∧ Pk.RAt br w' (rdMs r4.2).2 ∧ Mods (· = br) w1 w') := Lib.hid (fun w1 h1 => many94 br r4.2 w1 h1 (by omega))
  generalize rdMs r4.2 = r5 at *
  obtain ⟨w0, HW0⟩ : ∃ W, Hid (W = w.alloc (.cells #[.slice none 0 0, .slice none 0 0, .slice none 0 0, .slice none 0 0, .slice none 0 0] 32)) := ⟨_, Lib.hid rfl⟩
  have R0 : Hid (Blk w0 w.heap.size [.slice none 0 0, .slice none 0 0, .slice none 0 0, .slice none 0 0, .slice none 0 0] 32) := Lib.hid (by rw [HW0.out]; exact Blk.new w [.slice none 0 0, .slice none 0 0, .slice none 0 0, .slice none 0 0, .slice none 0 0] 32)
  have hr0 : Pk.RAt br w0 st := by rw [HW0.out]; exact rat_al h _
  have HM0 : Hid (Mods (· = br) w w0) := Lib.hid (by rw [HW0.out]; exact mods_al w _)
  have hs0 : w0.heap.size = w.heap.size + 1 := by rw [HW0.out]; simp
  clear h L1 L2 L3 L4 L5 hs
  go_enter Tryd.func68, Tryd.ntmps68
  go_upto_region 1 with fail
  rw [← HW0.out]
  clear HW0
  go_wp2_with fail
  refine (H1.out w0 hr0).mono ?_
  rintro e w1 ⟨a1, n1, c1, rfl, hS1, hO1, hr1, hm1⟩
  have hs1 := hm1.size
  have R1 := Lib.hid (R0.out.keep hm1 (by omega))
  have HM1 := Lib.hid (HM0.out.trans hm1 (fun _ _ e => e) (fun _ _ e => e))
  have S1_1 := Lib.hid hS1
  have O1_1 := Lib.hid hO1
  clear hS1 hO1 hm1 hr0 R0 HM0 H1
  go_wp2_with fail
  refine (H2.out w1 hr1).mono ?_
  rintro e w2 ⟨a2, n2, c2, rfl, hS2, hO2, hr2, hm2⟩
  have hs2 := hm2.size
  have R2 := Lib.hid (R1.out.keep hm2 (by omega))
  have HM2 := Lib.hid (HM1.out.trans hm2 (fun _ _ e => e) (fun _ _ e => e))
  have S1_2 := Lib.hid (S1_1.out.mods hm2 (own_rat O1_1.out hr1 (by decide)))
  have O1_2 := Lib.hid (own_mods O1_1.out hm2 (own_rat O1_1.out hr1 (by decide)))
  have S2_2 := Lib.hid hS2
  have O2_2 := Lib.hid hO2
  clear hS2 hO2 hm2 hr1 R1 HM1 H2 S1_1 O1_1
  go_wp2_with fail
  refine (H3.out w2 hr2).mono ?_
  rintro e w3 ⟨a3, n3, c3, rfl, hS3, hO3, hr3, hm3⟩
  have hs3 := hm3.size
  have R3 := Lib.hid (R2.out.keep hm3 (by omega))
  have HM3 := Lib.hid (HM2.out.trans hm3 (fun _ _ e => e) (fun _ _ e => e))
  have S1_3 := Lib.hid (S1_2.out.mods hm3 (own_rat O1_2.out hr2 (by decide)))
  have O1_3 := Lib.hid (own_mods O1_2.out hm3 (own_rat O1_2.out hr2 (by decide)))
  have S2_3 := Lib.hid (S2_2.out.mods hm3 (own_rat O2_2.out hr2 (by decide)))
  have O2_3 := Lib.hid (own_mods O2_2.out hm3 (own_rat O2_2.out hr2 (by decide)))
  have S3_3 := Lib.hid hS3
  have O3_3 := Lib.hid hO3
  clear hS3 hO3 hm3 hr2 R2 HM2 H3 S1_2 O1_2 S2_2 O2_2
  go_wp2_with fail
  refine (H4.out w3 hr3).mono ?_
  rintro e w4 ⟨a4, n4, c4, rfl, hS4, hO4, hr4, hm4⟩
  have hs4 := hm4.size
  have R4 := Lib.hid (R3.out.keep hm4 (by omega))
  have HM4 := Lib.hid (HM3.out.trans hm4 (fun _ _ e => e) (fun _ _ e => e))
  have S1_4 := Lib.hid (S1_3.out.mods hm4 (own_rat O1_3.out hr3 (by decide)))
  have O1_4 := Lib.hid (own_mods O1_3.out hm4 (own_rat O1_3.out hr3 (by decide)))
  have S2_4 := Lib.hid (S2_3.out.mods hm4 (own_rat O2_3.out hr3 (by decide)))
  have O2_4 := Lib.hid (own_mods O2_3.out hm4 (own_rat O2_3.out hr3 (by decide)))
  have S3_4 := Lib.hid (S3_3.out.mods hm4 (own_rat O3_3.out hr3 (by decide)))
  have O3_4 := Lib.hid (own_mods O3_3.out hm4 (own_rat O3_3.out hr3 (by decide)))
  have S4_4 := Lib.hid hS4
  have O4_4 := Lib.hid hO4
  clear hS4 hO4 hm4 hr3 R3 HM3 H4 S1_3 O1_3 S2_3 O2_3 S3_3 O3_3
  go_wp2_with fail
  refine (H5.out w4 hr4).mono ?_
  rintro e w5 ⟨a5, n5, c5, ps, rfl, hS5, hps, hP5, hO5, hr5, hm5⟩
  have hs5 := hm5.size
  have R5 := Lib.hid (R4.out.keep hm5 (by omega))
  have HM5 := Lib.hid (HM4.out.trans hm5 (fun _ _ e => e) (fun _ _ e => e))
  have S1_5 := Lib.hid (S1_4.out.mods hm5 (own_rat O1_4.out hr4 (by decide)))
  have O1_5 := Lib.hid (own_mods O1_4.out hm5 (own_rat O1_4.out hr4 (by decide)))
  have S2_5 := Lib.hid (S2_4.out.mods hm5 (own_rat O2_4.out hr4 (by decide)))
  have O2_5 := Lib.hid (own_mods O2_4.out hm5 (own_rat O2_4.out hr4 (by decide)))
  have S3_5 := Lib.hid (S3_4.out.mods hm5 (own_rat O3_4.out hr4 (by decide)))
  have O3_5 := Lib.hid (own_mods O3_4.out hm5 (own_rat O3_4.out hr4 (by decide)))
  have S4_5 := Lib.hid (S4_4.out.mods hm5 (own_rat O4_4.out hr4 (by decide)))
  have O4_5 := Lib.hid (own_mods O4_4.out hm5 (own_rat O4_4.out hr4 (by decide)))
  have S5_5 := Lib.hid hS5
  have O5_5 := Lib.hid hO5
  have HPS := Lib.hid hps
  have HP5 := Lib.hid hP5
  have HR5 := Lib.hid hr5
  clear hS5 hO5 hm5 hr4 R4 HM4 H5 hps hP5 hr5 S1_4 O1_4 S2_4 O2_4 S3_4 O3_4 S4_4 O4_4
  have p0 := R5.out.cell 0
  have p1 := R5.out.cell 1
  have p2 := R5.out.cell 2
  have p3 := R5.out.cell 3
  have p4 := R5.out.cell 4
  simp only [List.getElem?_cons_succ, List.getElem?_cons_zero] at p0 p1 p2 p3 p4
  have s0 := R5.out.frozen 0
  have s1 := R5.out.frozen 1
  have s2 := R5.out.frozen 2
  have s3 := R5.out.frozen 3
  have s4 := R5.out.frozen 4
  have M := st5_mods (w := w5) (fb := w.heap.size) (.slice a1 n1 c1) (.slice a2 n2 c2) (.slice a3 n3 c3) (.slice a4 n4 c4) (.slice a5 n5 c5)
  have Z := (((((R5.out.set 0 (.slice a1 n1 c1)).set 1 (.slice a2 n2 c2)).set 2 (.slice a3 n3 c3)).set 3 (.slice a4 n4 c4)).set 4 (.slice a5 n5 c5))
  have z0 := Z.cell 0
  have z1 := Z.cell 1
  have z2 := Z.cell 2
  have z3 := Z.cell 3
  have z4 := Z.cell 4
  simp only [List.set_cons_zero, List.set_cons_succ, List.getElem?_cons_succ, List.getElem?_cons_zero] at z0 z1 z2 z3 z4
  have AP1 := own_apart O1_5.out (show w.heap.size < w0.heap.size by omega)
  have SF1 := Lib.hid (S1_5.out.mods M AP1)
  have OF1 := Lib.hid (own_mono (own_mods O1_5.out M AP1) (show w.heap.size ≤ w0.heap.size by omega))
  have AP2 := own_apart O2_5.out (show w.heap.size < w1.heap.size by omega)
  have SF2 := Lib.hid (S2_5.out.mods M AP2)
  have OF2 := Lib.hid (own_mono (own_mods O2_5.out M AP2) (show w.heap.size ≤ w1.heap.size by omega))
  have AP3 := own_apart O3_5.out (show w.heap.size < w2.heap.size by omega)
  have SF3 := Lib.hid (S3_5.out.mods M AP3)
  have OF3 := Lib.hid (own_mono (own_mods O3_5.out M AP3) (show w.heap.size ≤ w2.heap.size by omega))
  have AP4 := own_apart O4_5.out (show w.heap.size < w3.heap.size by omega)
  have SF4 := Lib.hid (S4_5.out.mods M AP4)
  have OF4 := Lib.hid (own_mono (own_mods O4_5.out M AP4) (show w.heap.size ≤ w3.heap.size by omega))
  have AP5 := own_apart O5_5.out (show w.heap.size < w4.heap.size by omega)
  have SF5 := Lib.hid (S5_5.out.mods M AP5)
  have OF5 := Lib.hid (own_mono (own_mods O5_5.out M AP5) (show w.heap.size ≤ w4.heap.size by omega))
  have PF := Lib.hid ((HP5.out.mods M (.inl (by omega))).mono (show w.heap.size ≤ w4.heap.size by omega))
  have HMF := Lib.hid (mods_more HM5.out M (Nat.le_refl _))
  have HRF := Lib.hid (rat_keep HR5.out M (by omega))
  clear R5 HM5 HP5 HR5 M Z AP1 AP2 AP3 AP4 AP5 S1_5 O1_5 S2_5 O2_5 S3_5 O3_5 S4_5 O4_5 S5_5 O5_5
  go_wp2
  refine bodyPost_ret (v := .agg #[.slice a1 n1 c1, .slice a2 n2 c2, .slice a3 n3 c3, .slice a4 n4 c4, .slice a5 n5 c5]) (by simp [results, Tryd.results68, go_sem, z0, z1, z2, z3, z4]) rfl ?_
  exact ⟨a1, n1, c1, a2, n2, c2, a3, n3, c3, a4, n4, c4, a5, n5, c5, ps, rfl, ⟨SF1.out, SF2.out, SF3.out, SF4.out, SF5.out, HPS.out, PF.out, OF1.out, OF2.out, OF3.out, OF4.out, OF5.out⟩, HRF.out, HMF.out⟩
end Go.Proofs.YtomlbfkkhhhfkaaDoor.Fc
