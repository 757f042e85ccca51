/-
  A face, as it is read.
-/
import Derived.Test.YtomlbfkkhhhfkaaDoorFcSigs
namespace Go.Proofs.YtomlbfkkhhhfkaaDoor.Fc
open Go.RowKit
set_option linter.unusedVariables false

theorem own_rat {B br : Nat} {w : World} {e : TypeId} {a : Option Addr} {st : Pk.St} (h : Own B w e a) (hr : Pk.RAt br w st) (he : e ≠ 120) : ∀ ad, a = some ad → ad.block ≠ br := fun ad ha => by
  obtain ⟨b, e1, h1, cur, h2⟩ := h ad ha
  rw [e1]
  intro e
  dsimp only at e
  subst e
  exact rat_no hr _ he cur h2
theorem manyV_len (st : Pk.St) : (rdMany (rdVr 40) 200 st).2.s.length ≤ st.s.length := ((cod_vr 40).many vrB_pos 200).len st

set_option maxHeartbeats 2000000 in
set_option maxRecDepth 100000 in
theorem read17 (br : Nat) (st : Pk.St) (w : World) (h : Pk.RAt br w st) (hs : st.s.length ≤ 140737488355328) :
    Calls Tryd.prog 67 #[.pointer (some ⟨br, 0, none⟩)] w fun e w' => ∃ cs, e = .returned (.agg cs.toArray) ∧ FcR w' (rdFc 40 200 st).1 cs ∧ Pk.RAt br w' (rdFc 40 200 st).2 ∧ Mods (· = br) w w' := by
  have hlt := rat_lt h
  have H1 := Lib.hid (name41 br st (w.alloc (.cells zFc.toArray 25)) (rat_al h _) hs)
  have L1 := rdS_len 40 st
  have hE : rdFc 40 200 st = (⟨(rdS 40 st).1, (rdS 40 (rdS 40 st).2).1, (rdMany (rdVr 40) 200 (rdS 40 (rdS 40 st).2).2).1, (rdMany (rdSg 40 200) 200 (rdMany (rdVr 40) 200 (rdS 40 (rdS 40 st).2).2).2).1⟩, (rdMany (rdSg 40 200) 200 (rdMany (rdVr 40) 200 (rdS 40 (rdS 40 st).2).2).2).2) := rfl
  rw [hE]
  clear hE
  generalize rdS 40 st = r at *
  have L2 := rdS_len 40 r.2
  have H2 : Hid (∀ w1, Pk.RAt br w1 r.2 → Calls Tryd.prog 81 #[.pointer (some ⟨br, 0, none⟩)] w1 fun e w' => e = .returned (.string (rdS 40 r.2).1) ∧ Pk.RAt br w' (rdS 40 r.2).2 ∧ Mods (· = br) w1 w') := Lib.hid (fun w1 h1 => name41 br r.2 w1 h1 (by omega))
  generalize rdS 40 r.2 = q at *
  have L3 := manyV_len q.2
  have H3 : Hid (∀ w1, Pk.RAt br w1 q.2 → Calls Tryd.prog 82 #[.pointer (some ⟨br, 0, none⟩), .func (.func 83) #[] #[]] w1 fun e w' => ∃ a n c, e = .returned (.slice a n c) ∧ Sl w' 3 VrR (rdMany (rdVr 40) 200 q.2).1 (.slice a n c) ∧ Own w1.heap.size w' 75 a ∧ Pk.RAt br w' (rdMany (rdVr 40) 200 q.2).2 ∧ Mods (· = br) w1 w') := Lib.hid (fun w1 h1 => many42 br q.2 w1 h1 (by omega))
  generalize rdMany (rdVr 40) 200 q.2 = t at *
  have H4 : Hid (∀ w1, Pk.RAt br w1 t.2 → Calls Tryd.prog 84 #[.pointer (some ⟨br, 0, none⟩), .func (.func 85) #[] #[]] w1 fun e w' => ∃ a n c ps, e = .returned (.slice a n c) ∧ Sl w' 5 GpR ps (.slice a n c) ∧ ps.map Prod.fst = (rdMany (rdSg 40 200) 200 t.2).1 ∧ PsR w1.heap.size w' ps ∧ Own w1.heap.size w' 63 a ∧ Pk.RAt br w' (rdMany (rdSg 40 200) 200 t.2).2 ∧ Mods (· = br) w1 w') := Lib.hid (fun w1 h1 => many44 br t.2 w1 h1 (by omega))
  generalize rdMany (rdSg 40 200) 200 t.2 = u at *
  have R0 : Hid (Blk (w.alloc (.cells zFc.toArray 25)) w.heap.size zFc 25) := Lib.hid (Blk.new w zFc 25)
  clear h L1 L2 L3 hs
  go_enter Tryd.func67, Tryd.ntmps67
  go_wp2_with fail
  refine H1.out.mono ?_
  rintro e w1 ⟨rfl, hr1, hm1⟩
  have hs1 := hm1.size
  simp at hs1
  have R1 := Lib.hid (R0.out.keep hm1 (by omega))
  have HM1 := Lib.hid (mods_new hm1)
  clear hm1 R0 H1
  go_wp2_with fail
  refine (H2.out w1 hr1).mono ?_
  rintro e w2 ⟨rfl, hr2, hm2⟩
  have hs2 := hm2.size
  have R2 := Lib.hid (R1.out.keep hm2 (by omega))
  have HM2 := Lib.hid (HM1.out.trans hm2 (fun _ _ e => e) (fun _ _ e => e))
  clear hm2 R1 HM1 H2 hr1
  go_wp2_with fail
  refine (H3.out _ (rat_al hr2 _)).mono ?_
  rintro e w3 ⟨a, n, c, rfl, hS3, hO3, hr3, hm3⟩
  have hs3 := hm3.size
  simp at hs3
  have F3 := (Blk.new w2 [.string r.1, .string q.1, .slice none 0 0, .slice none 0 0] 25).keep hm3 (by have := rat_lt hr2; omega)
  have R3 := (R2.out.al _).keep hm3 (by omega)
  have HM3 : Hid (Mods (· = br) w w3) := Lib.hid (HM2.out.trans (mods_new hm3) (fun _ _ e => e) (fun _ _ e => e))
  have f2 := F3.frozen 2
  have g2 := F3.cell 2
  simp only [List.getElem?_cons_succ, List.getElem?_cons_zero] at g2
  have HF3 := Lib.hid F3
  have HR3 := Lib.hid R3
  have HSL := Lib.hid hS3
  have HOW := Lib.hid hO3
  have HRA := Lib.hid hr3
  clear F3 R3 hS3 hO3 hr3 hm3 H3 R2 HM2
  go_upto_region 3 with fail
  obtain ⟨w4, HW4⟩ : ∃ w4, Hid (w4 = w3.setCell ⟨w2.heap.size, 2, none⟩ (.slice a n c)) := ⟨_, Lib.hid rfl⟩
  rw [← HW4.out]
  have M4 : Mods (· = w2.heap.size) w3 w4 := by rw [HW4.out]; exact st1_mods _
  have hs4 := M4.size
  have F4 : Blk w4 w2.heap.size [.string r.1, .string q.1, .slice a n c, .slice none 0 0] 25 := by rw [HW4.out]; exact HF3.out.set 2 _
  have R4 := HR3.out.keep M4 (by omega)
  have AP := own_apart HOW.out (show w2.heap.size < (w2.alloc _).heap.size by simp)
  have APR := own_apart HOW.out (show w.heap.size < (w2.alloc _).heap.size by simp; omega)
  have O4 := own_mods HOW.out M4 AP
  have SL4 := HSL.out.mods M4 AP
  have hlt2 := rat_lt hr2
  have RA4 := rat_keep HRA.out M4 (by omega)
  have HM4 := Lib.hid (mods_more HM3.out M4 (by omega))
  have HF4 := Lib.hid F4
  have HR4 := Lib.hid R4
  have HO4 := Lib.hid O4
  have HSL4 := Lib.hid SL4
  have HRA4 := Lib.hid RA4
  have HAP := Lib.hid AP
  have HAPR := Lib.hid APR
  clear F4 R4 O4 SL4 RA4 M4 AP APR HF3 HR3 HSL HOW HRA HM3 HW4 f2 g2
  go_wp2_with fail
  refine (H4.out w4 HRA4.out).mono ?_
  rintro e w5 ⟨a', n', c', ps, rfl, hS5, hps, hP5, hO5, hr5, hm5⟩
  have hs5 := hm5.size
  have F5 := HF4.out.keep hm5 (by omega)
  have R5 := HR4.out.keep hm5 (by omega)
  have SV5 := HSL4.out.mods hm5 (own_rat HO4.out HRA4.out (by decide))
  have HM5 : Hid (Mods (· = br) w w5) := Lib.hid (HM4.out.trans hm5 (fun _ _ e => e) (fun _ _ e => e))
  have f3 := F5.frozen 3
  have g3 := F5.cell 3
  simp only [List.getElem?_cons_succ, List.getElem?_cons_zero] at g3
  have HF5 := Lib.hid F5
  have HR5 := Lib.hid R5
  have HSV5 := Lib.hid SV5
  have HS5 := Lib.hid hS5
  have HPS := Lib.hid hps
  have HP5 := Lib.hid hP5
  have HO5 := Lib.hid hO5
  have HRA5 := Lib.hid hr5
  clear F5 R5 SV5 hS5 hps hP5 hO5 hr5 hm5 HF4 HR4 HSL4 HO4 HM4 HRA4 H4
  go_upto_region 4 with fail
  obtain ⟨w6, HW6⟩ : ∃ w6, Hid (w6 = w5.setCell ⟨w2.heap.size, 3, none⟩ (.slice a' n' c')) := ⟨_, Lib.hid rfl⟩
  rw [← HW6.out]
  have M6 : Mods (· = w2.heap.size) w5 w6 := by rw [HW6.out]; exact st1_mods _
  have S6 : Blk w6 w2.heap.size [.string r.1, .string q.1, .slice a n c, .slice a' n' c'] 25 := by rw [HW6.out]; exact HF5.out.set 3 _
  have R6 := HR5.out.keep M6 (by omega)
  have AP5 := own_apart HO5.out (show w2.heap.size < w4.heap.size by omega)
  have APR5 := own_apart HO5.out (show w.heap.size < w4.heap.size by omega)
  have SV6 := HSV5.out.mods M6 HAP.out
  have SG6 := HS5.out.mods M6 AP5
  have P6 := HP5.out.mods M6 (.inl (by omega))
  have RA6 := rat_keep HRA5.out M6 (by omega)
  have HM6 := mods_more HM5.out M6 (by omega)
  have k0 := S6.cell 0
  have k1 := S6.cell 1
  have k2 := S6.cell 2
  have k3 := S6.cell 3
  have r0 := R6.cell 0
  have r1 := R6.cell 1
  have r2 := R6.cell 2
  have r3 := R6.cell 3
  have s0 := R6.frozen 0
  have s1 := R6.frozen 1
  have s2 := R6.frozen 2
  have s3 := R6.frozen 3
  have M := st4_mods (w := w6) (fb := w.heap.size) (.string r.1) (.string q.1) (.slice a n c) (.slice a' n' c')
  have Z := (((R6.set 0 (.string r.1)).set 1 (.string q.1)).set 2 (.slice a n c)).set 3 (.slice a' n' c')
  have z0 := Z.cell 0
  have z1 := Z.cell 1
  have z2 := Z.cell 2
  have z3 := Z.cell 3
  simp only [List.set_cons_zero, List.set_cons_succ, List.getElem?_cons_succ, List.getElem?_cons_zero] at k0 k1 k2 k3 r0 r1 r2 r3 z0 z1 z2 z3
  have HMF := Lib.hid (mods_more HM6 M (Nat.le_refl _))
  have HRF := Lib.hid (rat_keep RA6 M (by omega))
  have HSF := Lib.hid (SV6.mods M HAPR.out)
  have SGF := SG6.mods M APR5
  have PF := P6.mods M (.inl (by omega))
  have HGF := Lib.hid (sgs_of PF SGF)
  rw [HPS.out] at HGF
  clear M6 S6 R6 SV6 SG6 P6 RA6 HM6 AP5 APR5 M Z SGF PF HF5 HR5 HSV5 HS5 HPS HP5 HO5 HRA5 HM5 HW6 f3 g3
  go_wp2
  refine bodyPost_ret (v := .agg #[.string r.1, .string q.1, .slice a n c, .slice a' n' c']) (by simp [results, Tryd.results67, go_sem, z0, z1, z2, z3]) rfl ?_
  exact ⟨[.string r.1, .string q.1, .slice a n c, .slice a' n' c'], rfl, ⟨a, n, c, a', n', c', rfl, HSF.out, HGF.out⟩, HRF.out, HMF.out⟩
end Go.Proofs.YtomlbfkkhhhfkaaDoor.Fc
