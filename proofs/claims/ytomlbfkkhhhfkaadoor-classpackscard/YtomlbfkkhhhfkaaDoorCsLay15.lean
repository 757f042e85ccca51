/-
  The statements' own lay: a file's bytes.
-/
import Derived.Test.YtomlbfkkhhhfkaaDoorL15
namespace Go.Proofs.YtomlbfkkhhhfkaaDoor.Fc
open Go.RowKit
set_option linter.unusedVariables false
set_option linter.unusedSimpArgs false

set_option maxHeartbeats 16000000 in
set_option maxRecDepth 1000000 in
theorem lay15 (f : Fl) (cs : List Value) (w : World) (hf : FlR w f cs) (hT : TabR w) (hnu : ∀ z ∈ f.nu, OkI z) (hbn : ∀ b ∈ f.bd, OkI b.lo ∧ OkI b.st ∧ ∀ x ∈ b.co, OkI x.1 ∧ OkI x.2) (hlen : (flB f).length ≤ 100000000000000) :
    Calls Tryd.prog 15 #[.agg cs.toArray] w fun e w' => e = .returned (.string ⟨(flB f).toArray⟩) ∧ Below w.heap.size w w' := by
  obtain ⟨a8, n8, c8, a9, n9, c9, a1, n1, c1, a2, n2, c2, a3, n3, c3, a4, n4, c4, a5, n5, c5, a0, n0, c0, rfl, hfc, hpo, hbd⟩ := hf
  obtain ⟨e1, l1, k1, hk1⟩ := hpo.nu.at
  obtain ⟨e2, l2, k2, hk2⟩ := hpo.cl.at
  obtain ⟨e3, l3, k3, hk3⟩ := hpo.ty.at
  obtain ⟨e4, l4, k4, hk4⟩ := hpo.fd.at
  obtain ⟨e5, l5, k5, hk5⟩ := hpo.mt.at
  obtain ⟨e0, l0, k0, hk0⟩ := hbd.at
  unfold maxLen at k1 k2 k3 k4 k5 k0
  have E1 := Lib.hid e1
  have HK1 := Lib.hid hk1
  have OK1 : Hid (OkI (n1 : Int)) := Lib.hid ⟨by omega, by omega⟩
  have E2 := Lib.hid e2
  have HK2 := Lib.hid hk2
  have OK2 : Hid (OkI (n2 : Int)) := Lib.hid ⟨by omega, by omega⟩
  have E3 := Lib.hid e3
  have HK3 := Lib.hid hk3
  have OK3 : Hid (OkI (n3 : Int)) := Lib.hid ⟨by omega, by omega⟩
  have E4 := Lib.hid e4
  have HK4 := Lib.hid hk4
  have OK4 : Hid (OkI (n4 : Int)) := Lib.hid ⟨by omega, by omega⟩
  have E5 := Lib.hid e5
  have HK5 := Lib.hid hk5
  have OK5 : Hid (OkI (n5 : Int)) := Lib.hid ⟨by omega, by omega⟩
  have E0 := Lib.hid e0
  have HK0 := Lib.hid hk0
  have OK0 : Hid (OkI (n0 : Int)) := Lib.hid ⟨by omega, by omega⟩
  have EL1 : Hid ((Pk.encI (n1 : Int)).length = (Pk.enc f.nu.length).length) := Lib.hid (by rw [e1]; rfl)
  have EL2 : Hid ((Pk.encI (n2 : Int)).length = (Pk.enc f.cl.length).length) := Lib.hid (by rw [e2]; rfl)
  have EL3 : Hid ((Pk.encI (n3 : Int)).length = (Pk.enc f.ty.length).length) := Lib.hid (by rw [e3]; rfl)
  have EL4 : Hid ((Pk.encI (n4 : Int)).length = (Pk.enc f.fd.length).length) := Lib.hid (by rw [e4]; rfl)
  have EL5 : Hid ((Pk.encI (n5 : Int)).length = (Pk.enc f.mt.length).length) := Lib.hid (by rw [e5]; rfl)
  have HF := Lib.hid hfc
  have HT := Lib.hid hT
  have HNU := Lib.hid hnu
  have HBD := Lib.hid hbn
  have HLT : Hid ((fcB f.fc).length + ((Pk.enc f.nu.length).length + (f.nu.flatMap Pk.intB).length + ((Pk.enc f.cl.length).length + (f.cl.flatMap sB).length + (Pk.enc f.ty.length).length + (f.ty.flatMap tyB).length + (Pk.enc f.fd.length).length + (f.fd.flatMap fdB).length + (Pk.enc f.mt.length).length + (f.mt.flatMap mtB).length + (f.bd.flatMap bdB).length)) ≤ 100000000000000) := Lib.hid (by simp only [flB, poB, manyB, List.length_append] at hlen; omega)
  clear e1 hk1 e2 hk2 e3 hk3 e4 hk4 e5 hk5 e0 hk0 hfc hpo hbd hT hnu hbn hlen
  obtain ⟨F, HFE⟩ : ∃ b, Hid (b = w.heap.size) := ⟨_, Lib.hid rfl⟩
  obtain ⟨FS, HFS⟩ : ∃ l : List Value, Hid (l = [.string f.fc.name, .string f.fc.sup, .slice a8 n8 c8, .slice a9 n9 c9, .slice a1 n1 c1, .slice a2 n2 c2, .slice a3 n3 c3, .slice a4 n4 c4, .slice a5 n5 c5, .slice a0 n0 c0]) := ⟨_, Lib.hid rfl⟩
  obtain ⟨W1, HW1⟩ : ∃ W, Hid (W = ((w.alloc (.cells #[.string f.fc.name, .string f.fc.sup, .slice a8 n8 c8, .slice a9 n9 c9, .slice a1 n1 c1, .slice a2 n2 c2, .slice a3 n3 c3, .slice a4 n4 c4, .slice a5 n5 c5, .slice a0 n0 c0] 35)).alloc (.cells #[.slice none 0 0] 54)).alloc (.cells #[.pointer (some ⟨w.heap.size + 1, 0, none⟩)] 51)) := ⟨_, Lib.hid rfl⟩
  have HL : Hid (LyS (F + 1) F FS w (([] : List UInt8)) W1) := Lib.hid (by
    rw [HW1.out, HFS.out, HFE.out]
    refine ⟨?_, ?_, ?_, ?_, by simp, by omega, by omega⟩
    · have h := (Pk.WAt.new (w.heap.size + 1 + 2) (w.alloc (.cells #[.string f.fc.name, .string f.fc.sup, .slice a8 n8 c8, .slice a9 n9 c9, .slice a1 n1 c1, .slice a2 n2 c2, .slice a3 n3 c3, .slice a4 n4 c4, .slice a5 n5 c5, .slice a0 n0 c0] 35))).alloc (.cells #[.pointer (some ⟨w.heap.size + 1, 0, none⟩)] 51)
      simpa using h
    · exact ((Blk.new w [.string f.fc.name, .string f.fc.sup, .slice a8 n8 c8, .slice a9 n9 c9, .slice a1 n1 c1, .slice a2 n2 c2, .slice a3 n3 c3, .slice a4 n4 c4, .slice a5 n5 c5, .slice a0 n0 c0] 35).below (below1 _ _)).below (below1 _ _)
    · have h := Blk.new ((w.alloc (.cells #[.string f.fc.name, .string f.fc.sup, .slice a8 n8 c8, .slice a9 n9 c9, .slice a1 n1 c1, .slice a2 n2 c2, .slice a3 n3 c3, .slice a4 n4 c4, .slice a5 n5 c5, .slice a0 n0 c0] 35)).alloc (.cells #[.slice none 0 0] 54)) [.pointer (some ⟨w.heap.size + 1, 0, none⟩)] 51
      simpa using h
    · exact bl_al' (below2 w _ _))
  have hFw : w.heap.size ≤ F := by rw [HFE.out]; exact Nat.le_refl _
  go_enter Tryd.func15, Tryd.ntmps15
  go_upto_region 2 with fail
  try dsimp only [List.append]
  rw [← HW1.out, ← HFE.out]
  clear HW1
  have pp := HL.out.p.cell 0
  simp only [List.getElem?_cons_zero] at pp
  have f0 := (HL.out.f.cell 0).trans (show FS[0]? = some (.string f.fc.name) by rw [HFS.out]; rfl)
  have f1 := (HL.out.f.cell 1).trans (show FS[1]? = some (.string f.fc.sup) by rw [HFS.out]; rfl)
  have f2 := (HL.out.f.cell 2).trans (show FS[2]? = some (.slice a8 n8 c8) by rw [HFS.out]; rfl)
  have f3 := (HL.out.f.cell 3).trans (show FS[3]? = some (.slice a9 n9 c9) by rw [HFS.out]; rfl)
  have hC1 := Lib.hid (lay12 w f.fc _ HF.out (F + 1 + 2) (F + 1) [] W1 HL.out.below (by omega) HL.out.a (by omega) HL.out.size (by have := HLT.out; simp; omega))
  go_wp2_with fail
  refine hC1.out.mono ?_
  rintro e w2 ⟨rfl, hw2, hk2⟩
  have HL2 : Hid (LyS (F + 1) F FS w (fcB f.fc) w2) := Lib.hid (HL.out.kp (by simpa using hw2) hk2)
  clear hw2 hk2 hC1 HL pp f0 f1 f2 f3
  have HL := HL2
  clear HL2
  have pp := HL.out.p.cell 0
  simp only [List.getElem?_cons_zero] at pp
  have f4 := (HL.out.f.cell 4).trans (show FS[4]? = some (.slice a1 n1 c1) by rw [HFS.out]; rfl)
  go_wp2_with fail
  refine (ly_num (n1 : Int) OK1.out _ 1 (HL.out.al _) (Blk.new _ _ 3) (by have := HL.out.size; omega) (by have := HLT.out; omega)).mono ?_
  rintro e z9 ⟨rfl, hL, hk⟩
  have HL9 : Hid (LyS (F + 1) F FS w (fcB f.fc ++ Pk.encI (n1 : Int)) z9) := Lib.hid hL
  clear hL hk HL pp f4
  obtain ⟨P0, HP0⟩ : ∃ q, Hid (q = fcB f.fc ++ Pk.encI (n1 : Int)) := ⟨_, Lib.hid rfl⟩
  rw [← HP0.out] at HL9
  have HPL0 : Hid (P0.length + (f.nu.flatMap Pk.intB).length + ((Pk.enc f.cl.length).length + (f.cl.flatMap sB).length + (Pk.enc f.ty.length).length + (f.ty.flatMap tyB).length + (Pk.enc f.fd.length).length + (f.fd.flatMap fdB).length + (Pk.enc f.mt.length).length + (f.mt.flatMap mtB).length + (f.bd.flatMap bdB).length) ≤ 100000000000000) := Lib.hid (by have h := HLT.out; rw [HP0.out]; simp only [List.length_append]; have := EL1.out; omega)
  have f4 := (HL9.out.f.cell 4).trans (show FS[4]? = some (.slice a1 n1 c1) by rw [HFS.out]; rfl)
  go_wp2
  clear f4
  go_loopw [38] (fun i wr => ∃ k : Nat, k ≤ n1 ∧ i = .int .i64 k ∧ Hid (LyS (F + 1) F FS w (P0 ++ (f.nu.take k).flatMap Pk.intB) wr)) (fun i _ => n1 - (intOf i).toNat)
  case atStart => exact ⟨0, Nat.zero_le _, rfl, Lib.hid (by simpa using HL9.out)⟩
  case round =>
    clear HL9
    obtain ⟨k, hk, rfl, HL⟩ := hrel
    by_cases hkl : k < n1
    · obtain ⟨x, hx⟩ : ∃ v, f.nu[k]? = some v := ⟨_, List.getElem?_eq_getElem (by have := E1.out; omega)⟩
      obtain ⟨g, o, cs, rfl, hcell, rfl⟩ := HK1.out k x hx
      simp only [Nat.mul_one] at hcell
      have q0 : wr.cell? ⟨g, o + k, none⟩ = some (.int .i64 x) := (HL.out.below.cell (World.block_lt_of_cell? _ _ (hcell 0 _ rfl))).trans (hcell 0 _ rfl)
      have HXM := Lib.hid (List.mem_of_getElem? hx)
      have HSN : Hid (P0 ++ (f.nu.take (k + 1)).flatMap Pk.intB = (P0 ++ (f.nu.take k).flatMap Pk.intB) ++ Pk.intB x) := Lib.hid (by rw [flat_snoc Pk.intB hx, List.append_assoc])
      have HLk : Hid ((P0 ++ (f.nu.take k).flatMap Pk.intB).length + (Pk.intB x).length ≤ 100000000000000) := Lib.hid (by
        have h1 := flat_take_le Pk.intB f.nu (k + 1)
        have h2 := HPL0.out
        rw [flat_snoc Pk.intB hx] at h1
        simp only [List.length_append] at h1 h2 ⊢
        omega)
      clear hcell hx
      generalize (P0 ++ (f.nu.take k).flatMap Pk.intB) = Q1 at *
      have hl2 : Q1.length + 60 ≤ 140737488355328 := by have := HLk.out; omega
      have pp := HL.out.p.cell 0
      simp only [List.getElem?_cons_zero] at pp
      go_wp2_with fail
      refine (ly_int x (HNU.out x HXM.out) _ 1 (HL.out.al _) (Blk.new wr _ 2) (by have := HL.out.size; omega) (by omega)).mono ?_
      rintro e z1 ⟨rfl, hL, hk⟩
      have HR := Lib.hid hL
      clear hL hk pp q0 HL
      go_wp2
      go_roundw
      case rel => exact ⟨k + 1, by omega, by go_num, Lib.hid (by rw [HSN.out]; exact HR.out)⟩
      case measure => simp [intOf]; omega
    · have HLn : Hid (LyS (F + 1) F FS w (P0 ++ f.nu.flatMap Pk.intB) wr) := Lib.hid (by have h := HL.out; rwa [List.take_of_length_le (by have := E1.out; omega)] at h)
      obtain ⟨wq, hwq⟩ : ∃ wq, wq = wr := ⟨_, rfl⟩
      subst hwq
      clear HL
      have HL := HLn
      clear HLn
      have pp := HL.out.p.cell 0
      simp only [List.getElem?_cons_zero] at pp
      have f5 := (HL.out.f.cell 5).trans (show FS[5]? = some (.slice a2 n2 c2) by rw [HFS.out]; rfl)
      go_wp2_with fail
      refine (ly_num (n2 : Int) OK2.out _ 1 (HL.out.al _) (Blk.new _ _ 3) (by have := HL.out.size; omega) (by have := HPL0.out; simp only [List.length_append]; omega)).mono ?_
      rintro e z9 ⟨rfl, hL, hk⟩
      have HL9 : Hid (LyS (F + 1) F FS w (P0 ++ f.nu.flatMap Pk.intB ++ Pk.encI (n2 : Int)) z9) := Lib.hid hL
      clear hL hk HL pp f5
      obtain ⟨P1, HP1⟩ : ∃ q, Hid (q = P0 ++ f.nu.flatMap Pk.intB ++ Pk.encI (n2 : Int)) := ⟨_, Lib.hid rfl⟩
      rw [← HP1.out] at HL9
      have HPL1 : Hid (P1.length + (f.cl.flatMap sB).length + ((Pk.enc f.ty.length).length + (f.ty.flatMap tyB).length + (Pk.enc f.fd.length).length + (f.fd.flatMap fdB).length + (Pk.enc f.mt.length).length + (f.mt.flatMap mtB).length + (f.bd.flatMap bdB).length) ≤ 100000000000000) := Lib.hid (by have h := HPL0.out; rw [HP1.out]; simp only [List.length_append]; have := EL2.out; omega)
      have f5 := (HL9.out.f.cell 5).trans (show FS[5]? = some (.slice a2 n2 c2) by rw [HFS.out]; rfl)
      go_wp2
      clear f5
      go_loopw [58] (fun i wr => ∃ k : Nat, k ≤ n2 ∧ i = .int .i64 k ∧ Hid (LyS (F + 1) F FS w (P1 ++ (f.cl.take k).flatMap sB) wr)) (fun i _ => n2 - (intOf i).toNat)
      case atStart => exact ⟨0, Nat.zero_le _, rfl, Lib.hid (by simpa using HL9.out)⟩
      case round =>
        clear HL9
        obtain ⟨k, hk, rfl, HL⟩ := hrel
        by_cases hkl : k < n2
        · obtain ⟨x, hx⟩ : ∃ v, f.cl[k]? = some v := ⟨_, List.getElem?_eq_getElem (by have := E2.out; omega)⟩
          obtain ⟨g, o, cs, rfl, hcell, rfl⟩ := HK2.out k x hx
          simp only [Nat.mul_one] at hcell
          have q0 : wr.cell? ⟨g, o + k, none⟩ = some (.string x) := (HL.out.below.cell (World.block_lt_of_cell? _ _ (hcell 0 _ rfl))).trans (hcell 0 _ rfl)
          have HXM := Lib.hid (List.mem_of_getElem? hx)
          have HSN : Hid (P1 ++ (f.cl.take (k + 1)).flatMap sB = (P1 ++ (f.cl.take k).flatMap sB) ++ sB x) := Lib.hid (by rw [flat_snoc sB hx, List.append_assoc])
          have HLk : Hid ((P1 ++ (f.cl.take k).flatMap sB).length + (sB x).length ≤ 100000000000000) := Lib.hid (by
            have h1 := flat_take_le sB f.cl (k + 1)
            have h2 := HPL1.out
            rw [flat_snoc sB hx] at h1
            simp only [List.length_append] at h1 h2 ⊢
            omega)
          clear hcell hx
          generalize (P1 ++ (f.cl.take k).flatMap sB) = Q1 at *
          have hl2 : Q1.length + (sB x).length + 60 ≤ 140737488355328 := by have := HLk.out; omega
          have pp := HL.out.p.cell 0
          simp only [List.getElem?_cons_zero] at pp
          go_wp2_with fail
          refine (ly_text x _ 1 (HL.out.al _) (Blk.new wr _ 9) (by have := HL.out.size; omega) (by omega)).mono ?_
          rintro e z1 ⟨rfl, hL, hk⟩
          have HR := Lib.hid hL
          clear hL hk pp q0 HL
          go_wp2
          go_roundw
          case rel => exact ⟨k + 1, by omega, by go_num, Lib.hid (by rw [HSN.out]; exact HR.out)⟩
          case measure => simp [intOf]; omega
        · have HLn : Hid (LyS (F + 1) F FS w (P1 ++ f.cl.flatMap sB) wr) := Lib.hid (by have h := HL.out; rwa [List.take_of_length_le (by have := E2.out; omega)] at h)
          obtain ⟨wq, hwq⟩ : ∃ wq, wq = wr := ⟨_, rfl⟩
          subst hwq
          clear HL
          have HL := HLn
          clear HLn
          have pp := HL.out.p.cell 0
          simp only [List.getElem?_cons_zero] at pp
          have f6 := (HL.out.f.cell 6).trans (show FS[6]? = some (.slice a3 n3 c3) by rw [HFS.out]; rfl)
          go_wp2_with fail
          refine (ly_num (n3 : Int) OK3.out _ 1 (HL.out.al _) (Blk.new _ _ 3) (by have := HL.out.size; omega) (by have := HPL1.out; simp only [List.length_append]; omega)).mono ?_
          rintro e z9 ⟨rfl, hL, hk⟩
          have HL9 : Hid (LyS (F + 1) F FS w (P1 ++ f.cl.flatMap sB ++ Pk.encI (n3 : Int)) z9) := Lib.hid hL
          clear hL hk HL pp f6
          obtain ⟨P2, HP2⟩ : ∃ q, Hid (q = P1 ++ f.cl.flatMap sB ++ Pk.encI (n3 : Int)) := ⟨_, Lib.hid rfl⟩
          rw [← HP2.out] at HL9
          have HPL2 : Hid (P2.length + (f.ty.flatMap tyB).length + ((Pk.enc f.fd.length).length + (f.fd.flatMap fdB).length + (Pk.enc f.mt.length).length + (f.mt.flatMap mtB).length + (f.bd.flatMap bdB).length) ≤ 100000000000000) := Lib.hid (by have h := HPL1.out; rw [HP2.out]; simp only [List.length_append]; have := EL3.out; omega)
          have f6 := (HL9.out.f.cell 6).trans (show FS[6]? = some (.slice a3 n3 c3) by rw [HFS.out]; rfl)
          go_wp2
          clear f6
          go_loopw [79] (fun i wr => ∃ k : Nat, k ≤ n3 ∧ i = .int .i64 k ∧ Hid (LyS (F + 1) F FS w (P2 ++ (f.ty.take k).flatMap tyB) wr)) (fun i _ => n3 - (intOf i).toNat)
          case atStart => exact ⟨0, Nat.zero_le _, rfl, Lib.hid (by simpa using HL9.out)⟩
          case round =>
            clear HL9
            obtain ⟨k, hk, rfl, HL⟩ := hrel
            by_cases hkl : k < n3
            · obtain ⟨x, hx⟩ : ∃ v, f.ty[k]? = some v := ⟨_, List.getElem?_eq_getElem (by have := E3.out; omega)⟩
              obtain ⟨g, o, cs, rfl, hcell, rfl⟩ := HK3.out k x hx
              have q0 : wr.cell? ⟨g, o + k * 2, none⟩ = some (.string x.n) := (HL.out.below.cell (World.block_lt_of_cell? _ _ (hcell 0 _ rfl))).trans (hcell 0 _ rfl)
              have q1 : wr.cell? ⟨g, o + k * 2 + 1, none⟩ = some (.bool x.a) := (HL.out.below.cell (World.block_lt_of_cell? _ _ (hcell 1 _ rfl))).trans (hcell 1 _ rfl)
              have HXM := Lib.hid (List.mem_of_getElem? hx)
              have HSN : Hid (P2 ++ (f.ty.take (k + 1)).flatMap tyB = (P2 ++ (f.ty.take k).flatMap tyB) ++ tyB x) := Lib.hid (by rw [flat_snoc tyB hx, List.append_assoc])
              have HLk : Hid ((P2 ++ (f.ty.take k).flatMap tyB).length + (tyB x).length ≤ 100000000000000) := Lib.hid (by
                have h1 := flat_take_le tyB f.ty (k + 1)
                have h2 := HPL2.out
                rw [flat_snoc tyB hx] at h1
                simp only [List.length_append] at h1 h2 ⊢
                omega)
              clear hcell hx
              generalize (P2 ++ (f.ty.take k).flatMap tyB) = Q1 at *
              have hl3 : Q1.length + (sB x.n).length + 30 ≤ 140737488355328 := by have := HLk.out; simp only [tyB, List.length_append, List.length_singleton] at this; omega
              obtain ⟨X, HXE⟩ : ∃ b, Hid (b = wr.heap.size) := ⟨_, Lib.hid rfl⟩
              obtain ⟨W2, HW2⟩ : ∃ W, Hid (W = wr.alloc (.cells #[.string x.n, .bool x.a] 60)) := ⟨_, Lib.hid rfl⟩
              have HX : Hid (Blk W2 X [.string x.n, .bool x.a] 60) := Lib.hid (by rw [HW2.out, HXE.out]; exact Blk.new wr _ 60)
              have HL2 : Hid (LyS (F + 1) F FS w (Q1) W2) := Lib.hid (by rw [HW2.out]; exact HL.out.al _)
              have hX : X ≠ F + 1 := by rw [HXE.out]; have := HL.out.size; omega
              go_upto_region 20 with fail
              rw [← HW2.out, ← HXE.out]
              clear HW2 HXE HL q0 q1
              have c0 := HX.out.cell 0
              have c1 := HX.out.cell 1
              simp only [List.getElem?_cons_succ, List.getElem?_cons_zero] at c0 c1
              have HC := Lib.hid (clos39 (F + 1) F FS w Q1 x.n x.a W2 HL2.out hl3)
              go_wp2_with fail
              refine HC.out.mono ?_
              rintro e z1 ⟨rfl, hL, _⟩
              have HR := Lib.hid hL
              clear hL c0 c1 HL2 HX HC
              go_wp2
              go_roundw
              case rel => exact ⟨k + 1, by omega, by go_num, Lib.hid (by rw [HSN.out]; exact HR.out)⟩
              case measure => simp [intOf]; omega
            · have HLn : Hid (LyS (F + 1) F FS w (P2 ++ f.ty.flatMap tyB) wr) := Lib.hid (by have h := HL.out; rwa [List.take_of_length_le (by have := E3.out; omega)] at h)
              obtain ⟨wq, hwq⟩ : ∃ wq, wq = wr := ⟨_, rfl⟩
              subst hwq
              clear HL
              have HL := HLn
              clear HLn
              have pp := HL.out.p.cell 0
              simp only [List.getElem?_cons_zero] at pp
              have f7 := (HL.out.f.cell 7).trans (show FS[7]? = some (.slice a4 n4 c4) by rw [HFS.out]; rfl)
              go_wp2_with fail
              refine (ly_num (n4 : Int) OK4.out _ 1 (HL.out.al _) (Blk.new _ _ 3) (by have := HL.out.size; omega) (by have := HPL2.out; simp only [List.length_append]; omega)).mono ?_
              rintro e z9 ⟨rfl, hL, hk⟩
              have HL9 : Hid (LyS (F + 1) F FS w (P2 ++ f.ty.flatMap tyB ++ Pk.encI (n4 : Int)) z9) := Lib.hid hL
              clear hL hk HL pp f7
              obtain ⟨P3, HP3⟩ : ∃ q, Hid (q = P2 ++ f.ty.flatMap tyB ++ Pk.encI (n4 : Int)) := ⟨_, Lib.hid rfl⟩
              rw [← HP3.out] at HL9
              have HPL3 : Hid (P3.length + (f.fd.flatMap fdB).length + ((Pk.enc f.mt.length).length + (f.mt.flatMap mtB).length + (f.bd.flatMap bdB).length) ≤ 100000000000000) := Lib.hid (by have h := HPL2.out; rw [HP3.out]; simp only [List.length_append]; have := EL4.out; omega)
              have f7 := (HL9.out.f.cell 7).trans (show FS[7]? = some (.slice a4 n4 c4) by rw [HFS.out]; rfl)
              go_wp2
              clear f7
              go_loopw [98] (fun i wr => ∃ k : Nat, k ≤ n4 ∧ i = .int .i64 k ∧ Hid (LyS (F + 1) F FS w (P3 ++ (f.fd.take k).flatMap fdB) wr)) (fun i _ => n4 - (intOf i).toNat)
              case atStart => exact ⟨0, Nat.zero_le _, rfl, Lib.hid (by simpa using HL9.out)⟩
              case round =>
                clear HL9
                obtain ⟨k, hk, rfl, HL⟩ := hrel
                by_cases hkl : k < n4
                · obtain ⟨x, hx⟩ : ∃ v, f.fd[k]? = some v := ⟨_, List.getElem?_eq_getElem (by have := E4.out; omega)⟩
                  obtain ⟨g, o, cs, rfl, hcell, rfl⟩ := HK4.out k x hx
                  have q0 : wr.cell? ⟨g, o + k * 4, none⟩ = some (.string x.1.name) := (HL.out.below.cell (World.block_lt_of_cell? _ _ (hcell 0 _ rfl))).trans (hcell 0 _ rfl)
                  have q1 : wr.cell? ⟨g, o + k * 4 + 1, none⟩ = some (.string x.1.tn) := (HL.out.below.cell (World.block_lt_of_cell? _ _ (hcell 1 _ rfl))).trans (hcell 1 _ rfl)
                  have q2 : wr.cell? ⟨g, o + k * 4 + 2, none⟩ = some (.bool x.1.ta) := (HL.out.below.cell (World.block_lt_of_cell? _ _ (hcell 2 _ rfl))).trans (hcell 2 _ rfl)
                  have q3 : wr.cell? ⟨g, o + k * 4 + 3, none⟩ = some (.string x.2) := (HL.out.below.cell (World.block_lt_of_cell? _ _ (hcell 3 _ rfl))).trans (hcell 3 _ rfl)
                  have HXM := Lib.hid (List.mem_of_getElem? hx)
                  have HSN : Hid (P3 ++ (f.fd.take (k + 1)).flatMap fdB = (P3 ++ (f.fd.take k).flatMap fdB) ++ fdB x) := Lib.hid (by rw [flat_snoc fdB hx, List.append_assoc])
                  have HLk : Hid ((P3 ++ (f.fd.take k).flatMap fdB).length + (fdB x).length ≤ 100000000000000) := Lib.hid (by
                    have h1 := flat_take_le fdB f.fd (k + 1)
                    have h2 := HPL3.out
                    rw [flat_snoc fdB hx] at h1
                    simp only [List.length_append] at h1 h2 ⊢
                    omega)
                  clear hcell hx
                  generalize (P3 ++ (f.fd.take k).flatMap fdB) = Q1 at *
                  have hl3 : Q1.length + ((sB x.2).length + ((sB x.1.name).length + (sB x.1.tn).length)) + 60 ≤ 140737488355328 := by have := HLk.out; simp only [fdB, vrB, tyB, Vr.ty, List.length_append, List.length_singleton] at this; omega
                  obtain ⟨X, HXE⟩ : ∃ b, Hid (b = wr.heap.size) := ⟨_, Lib.hid rfl⟩
                  obtain ⟨W2, HW2⟩ : ∃ W, Hid (W = wr.alloc (.cells #[.string x.1.name, .string x.1.tn, .bool x.1.ta, .string x.2] 77)) := ⟨_, Lib.hid rfl⟩
                  have HX : Hid (Blk W2 X [.string x.1.name, .string x.1.tn, .bool x.1.ta, .string x.2] 77) := Lib.hid (by rw [HW2.out, HXE.out]; exact Blk.new wr _ 77)
                  have HL2 : Hid (LyS (F + 1) F FS w (Q1) W2) := Lib.hid (by rw [HW2.out]; exact HL.out.al _)
                  have hX : X ≠ F + 1 := by rw [HXE.out]; have := HL.out.size; omega
                  go_upto_region 26 with fail
                  rw [← HW2.out, ← HXE.out]
                  clear HW2 HXE HL q0 q1 q2 q3
                  obtain ⟨PV, HPV⟩ : ∃ f : Nat → Value, Hid (f = (fun k => match k with | 0 => .pointer (some ⟨F + 1, 0, none⟩) | 1 => .pointer (some ⟨X, 3, none⟩) | 2 => .string x.2 | 3 => undef | 4 => .pointer (some ⟨(F + 1), 0, none⟩) | 5 => .pointer (some ⟨X, 0, none⟩) | 6 => .pointer (some ⟨X, 0, none⟩) | 7 => .string x.1.name | 8 => undef | 9 => .pointer (some ⟨(F + 1), 0, none⟩) | _ => undef)) := ⟨_, Lib.hid rfl⟩
                  obtain ⟨BV, HBV⟩ : ∃ f : Nat → Value, Hid (f = (fun k => match k with | 0 => undef | 1 => undef | 2 => undef | 3 => .string x.2 | 4 => undef | 5 => undef | 6 => undef | 7 => undef | 8 => .string x.1.name | 9 => undef | _ => undef)) := ⟨_, Lib.hid rfl⟩
                  obtain ⟨BT, HBT⟩ : ∃ f : Nat → TypeId, Hid (f = (fun k => match k with | 0 => 0 | 1 => 0 | 2 => 0 | 3 => 9 | 4 => 0 | 5 => 0 | 6 => 0 | 7 => 0 | 8 => 9 | 9 => 0 | _ => 0)) := ⟨_, Lib.hid rfl⟩
                  obtain ⟨PC, HPC⟩ : ∃ f : List (List UInt8), Hid (f = [sB x.2, sB x.1.name]) := ⟨_, Lib.hid rfl⟩
                  have HBT5 : Hid (∀ k ∈ [3, 8], BT k ≠ 5) := Lib.hid (by rw [HBT.out]; decide)
                  refine wp_region_chain (by kernel_rfl) (fun k => match k with | 0 => [] | 1 => [] | 2 => [1] | 3 => [2] | 4 => [0, 3] | 5 => [] | 6 => [5] | 7 => [6] | 8 => [7] | 9 => [4, 8] | _ => []) [102, 103, 104, 105, 106, 107, 108, 109, 110, 111] (by kernel_rfl) ?hpre (by kernel_rfl) (by decide) (by intro d hd; have h : d < 225 := (show ∀ d ∈ [102, 103, 104, 105, 106, 107, 108, 109, 110, 111], d < 225 by decide) d hd; exact h) [(3, .pointer (some ⟨F + 1 + 1, 0, none⟩)), (12, .pointer (some ⟨X, 0, none⟩))] ?hbase (fun l T z => ∃ p, ChF (F + 1) F X FS [.string x.1.name, .string x.1.tn, .bool x.1.ta, .string x.2] 77 w Q1 [3, 8] [0, 1, 2, 4, 5, 6, 7, 9] BV PV BT [4, 9] PC W2 l T p z) ?h0 ?step (by kernel_rfl) ?fin
                  case hpre =>
                    intro i j hj
                    show j < 10
                    match i, hj with
                    | 0, hj => cases hj
                    | 1, hj => cases hj
                    | 2, hj => simp at hj; omega
                    | 3, hj => simp at hj; omega
                    | 4, hj => simp at hj; omega
                    | 5, hj => cases hj
                    | 6, hj => simp at hj; omega
                    | 7, hj => simp at hj; omega
                    | 8, hj => simp at hj; omega
                    | 9, hj => simp at hj; omega
                    | i + 10, hj => cases hj
                  case hbase =>
                    intro q hq
                    simp only [List.mem_cons, List.not_mem_nil, or_false] at hq
                    rcases hq with rfl | rfl
                    · exact ⟨rfl, by simp⟩
                    · exact ⟨rfl, by simp⟩
                  case h0 =>
                    exact fun T => ⟨0, ⟨rfl, rfl, rfl, Nat.le_refl _, fun _ _ _ => rfl, fun _ _ _ _ => rfl⟩, fun c k hk => by simp, by simpa using HL2.out.drw, HX.out, fun k _ h => (by cases h), fun k _ h => (by cases h)⟩
                  case step =>
                    rintro l T z ⟨p, hF⟩ i o hi ho hl hpr A hA hB K' hK
                    have hi' : i < 10 := hi
                    rcases (show i = 0 ∨ i = 1 ∨ i = 2 ∨ i = 3 ∨ i = 4 ∨ i = 5 ∨ i = 6 ∨ i = 7 ∨ i = 8 ∨ i = 9 by omega) with rfl | rfl | rfl | rfl | rfl | rfl | rfl | rfl | rfl | rfl
                    · obtain rfl := Option.some.inj (show some _ = some o from ho)
                      dsimp only [List.getElem_toArray, List.getElem_cons_zero, List.getElem_cons_succ] at hK ⊢
                      have h3 : A.tmps.getD 3 undef = .pointer (some ⟨F + 1 + 1, 0, none⟩) := hB (3, .pointer (some ⟨F + 1 + 1, 0, none⟩)) (by simp)
                      have h12 : A.tmps.getD 12 undef = .pointer (some ⟨X, 0, none⟩) := hB (12, .pointer (some ⟨X, 0, none⟩)) (by simp)
                      have c0 := hF.ly.p.cell 0
                      simp only [List.getElem?_cons_zero] at c0
                      clear hA hB
                      go_simp
                      exact hK _ _ ⟨p, by have h := hF.pure (i := 0) (by decide) (by decide); rwa [show PV 0 = .pointer (some ⟨F + 1, 0, none⟩) from by rw [HPV.out]; rfl] at h⟩
                    · obtain rfl := Option.some.inj (show some _ = some o from ho)
                      dsimp only [List.getElem_toArray, List.getElem_cons_zero, List.getElem_cons_succ] at hK ⊢
                      have h3 : A.tmps.getD 3 undef = .pointer (some ⟨F + 1 + 1, 0, none⟩) := hB (3, .pointer (some ⟨F + 1 + 1, 0, none⟩)) (by simp)
                      have h12 : A.tmps.getD 12 undef = .pointer (some ⟨X, 0, none⟩) := hB (12, .pointer (some ⟨X, 0, none⟩)) (by simp)
                      clear hA hB
                      go_simp
                      exact hK _ _ ⟨p, by have h := hF.pure (i := 1) (by decide) (by decide); rwa [show PV 1 = .pointer (some ⟨X, 3, none⟩) from by rw [HPV.out]; rfl] at h⟩
                    · obtain rfl := Option.some.inj (show some _ = some o from ho)
                      dsimp only [List.getElem_toArray, List.getElem_cons_zero, List.getElem_cons_succ] at hK ⊢
                      have g1 : A.tmps.getD 103 undef = .pointer (some ⟨X, 3, none⟩) := (hA 1 103 rfl).trans ((hF.ps 1 (by decide) (hpr 1 (by decide))).trans (by rw [HPV.out]; rfl))
                      have h3 : A.tmps.getD 3 undef = .pointer (some ⟨F + 1 + 1, 0, none⟩) := hB (3, .pointer (some ⟨F + 1 + 1, 0, none⟩)) (by simp)
                      have h12 : A.tmps.getD 12 undef = .pointer (some ⟨X, 0, none⟩) := hB (12, .pointer (some ⟨X, 0, none⟩)) (by simp)
                      have f1 : A.tmps[103]?.getD undef = _ := (Array.getD_eq_getD_getElem? ..).symm.trans g1
                      have c0 := hF.x.cell 3
                      simp only [List.getElem?_cons_succ, List.getElem?_cons_zero] at c0
                      clear hA hB
                      go_simp
                      exact hK _ _ ⟨p, by have h := hF.pure (i := 2) (by decide) (by decide); rwa [show PV 2 = .string x.2 from by rw [HPV.out]; rfl] at h⟩
                    · obtain rfl := Option.some.inj (show some _ = some o from ho)
                      dsimp only [List.getElem_toArray, List.getElem_cons_zero, List.getElem_cons_succ] at hK ⊢
                      have g2 : A.tmps.getD 104 undef = .string x.2 := (hA 2 104 rfl).trans ((hF.ps 2 (by decide) (hpr 2 (by decide))).trans (by rw [HPV.out]; rfl))
                      have h3 : A.tmps.getD 3 undef = .pointer (some ⟨F + 1 + 1, 0, none⟩) := hB (3, .pointer (some ⟨F + 1 + 1, 0, none⟩)) (by simp)
                      have h12 : A.tmps.getD 12 undef = .pointer (some ⟨X, 0, none⟩) := hB (12, .pointer (some ⟨X, 0, none⟩)) (by simp)
                      have f2 : A.tmps[104]?.getD undef = _ := (Array.getD_eq_getD_getElem? ..).symm.trans g2
                      clear hA hB
                      go_simp
                      exact hK _ _ ⟨p, by have h := hF.build (i := 3) (by decide) (by decide); rwa [show BV 3 = .string x.2 from by rw [HBV.out]; rfl, show BT 3 = 9 from by rw [HBT.out]; rfl] at h⟩
                    · obtain rfl := Option.some.inj (show some _ = some o from ho)
                      dsimp only [List.getElem_toArray, List.getElem_cons_zero, List.getElem_cons_succ] at hK ⊢
                      have g0 : A.tmps.getD 102 undef = .pointer (some ⟨F + 1, 0, none⟩) := (hA 0 102 rfl).trans ((hF.ps 0 (by decide) (hpr 0 (by decide))).trans (by rw [HPV.out]; rfl))
                      obtain ⟨b3, gg3, hb3, hn3⟩ := hF.bs 3 (by decide) (hpr 3 (by decide))
                      have g3 : A.tmps.getD 105 undef = .slice (some ⟨b3, 0, none⟩) 1 1 := (hA 3 105 rfl).trans gg3
                      rw [HBV.out, HBT.out] at hb3
                      have h3 : A.tmps.getD 3 undef = .pointer (some ⟨F + 1 + 1, 0, none⟩) := hB (3, .pointer (some ⟨F + 1 + 1, 0, none⟩)) (by simp)
                      have h12 : A.tmps.getD 12 undef = .pointer (some ⟨X, 0, none⟩) := hB (12, .pointer (some ⟨X, 0, none⟩)) (by simp)
                      have f0 : A.tmps[102]?.getD undef = _ := (Array.getD_eq_getD_getElem? ..).symm.trans g0
                      have f3 : A.tmps[105]?.getD undef = _ := (Array.getD_eq_getD_getElem? ..).symm.trans g3
                      obtain rfl : p = 0 := hF.at (c := 0) rfl hl (fun c' k' hc => by omega)
                      clear hA hB
                      have hly := hF.ly
                      have HLY := Lib.hid hly
                      have HT : Hid (PC.take 0 = []) := Lib.hid (by rw [HPC.out]; rfl)
                      go_simp
                      refine (ly_text x.2 b3 1 HLY.out hb3 hn3 (by rw [HT.out]; simp; omega)).mono ?_
                      rintro e z' ⟨rfl, hL, hk⟩
                      go_simp
                      exact hK _ _ ⟨0 + 1, by have h := hF.call (i := 4) rfl (by decide) (by decide) (pc := sB x.2) (by rw [HPC.out]; rfl) hL hk (by decide) hX HBT5.out; rwa [show PV 4 = .pointer (some ⟨(F + 1), 0, none⟩) from by rw [HPV.out]; rfl] at h⟩
                    · obtain rfl := Option.some.inj (show some _ = some o from ho)
                      dsimp only [List.getElem_toArray, List.getElem_cons_zero, List.getElem_cons_succ] at hK ⊢
                      have h3 : A.tmps.getD 3 undef = .pointer (some ⟨F + 1 + 1, 0, none⟩) := hB (3, .pointer (some ⟨F + 1 + 1, 0, none⟩)) (by simp)
                      have h12 : A.tmps.getD 12 undef = .pointer (some ⟨X, 0, none⟩) := hB (12, .pointer (some ⟨X, 0, none⟩)) (by simp)
                      clear hA hB
                      go_simp
                      exact hK _ _ ⟨p, by have h := hF.pure (i := 5) (by decide) (by decide); rwa [show PV 5 = .pointer (some ⟨X, 0, none⟩) from by rw [HPV.out]; rfl] at h⟩
                    · obtain rfl := Option.some.inj (show some _ = some o from ho)
                      dsimp only [List.getElem_toArray, List.getElem_cons_zero, List.getElem_cons_succ] at hK ⊢
                      have g5 : A.tmps.getD 107 undef = .pointer (some ⟨X, 0, none⟩) := (hA 5 107 rfl).trans ((hF.ps 5 (by decide) (hpr 5 (by decide))).trans (by rw [HPV.out]; rfl))
                      have h3 : A.tmps.getD 3 undef = .pointer (some ⟨F + 1 + 1, 0, none⟩) := hB (3, .pointer (some ⟨F + 1 + 1, 0, none⟩)) (by simp)
                      have h12 : A.tmps.getD 12 undef = .pointer (some ⟨X, 0, none⟩) := hB (12, .pointer (some ⟨X, 0, none⟩)) (by simp)
                      have f5 : A.tmps[107]?.getD undef = _ := (Array.getD_eq_getD_getElem? ..).symm.trans g5
                      clear hA hB
                      go_simp
                      exact hK _ _ ⟨p, by have h := hF.pure (i := 6) (by decide) (by decide); rwa [show PV 6 = .pointer (some ⟨X, 0, none⟩) from by rw [HPV.out]; rfl] at h⟩
                    · obtain rfl := Option.some.inj (show some _ = some o from ho)
                      dsimp only [List.getElem_toArray, List.getElem_cons_zero, List.getElem_cons_succ] at hK ⊢
                      have g6 : A.tmps.getD 108 undef = .pointer (some ⟨X, 0, none⟩) := (hA 6 108 rfl).trans ((hF.ps 6 (by decide) (hpr 6 (by decide))).trans (by rw [HPV.out]; rfl))
                      have h3 : A.tmps.getD 3 undef = .pointer (some ⟨F + 1 + 1, 0, none⟩) := hB (3, .pointer (some ⟨F + 1 + 1, 0, none⟩)) (by simp)
                      have h12 : A.tmps.getD 12 undef = .pointer (some ⟨X, 0, none⟩) := hB (12, .pointer (some ⟨X, 0, none⟩)) (by simp)
                      have f6 : A.tmps[108]?.getD undef = _ := (Array.getD_eq_getD_getElem? ..).symm.trans g6
                      have c0 := hF.x.cell 0
                      simp only [List.getElem?_cons_zero] at c0
                      clear hA hB
                      go_simp
                      exact hK _ _ ⟨p, by have h := hF.pure (i := 7) (by decide) (by decide); rwa [show PV 7 = .string x.1.name from by rw [HPV.out]; rfl] at h⟩
                    · obtain rfl := Option.some.inj (show some _ = some o from ho)
                      dsimp only [List.getElem_toArray, List.getElem_cons_zero, List.getElem_cons_succ] at hK ⊢
                      have g7 : A.tmps.getD 109 undef = .string x.1.name := (hA 7 109 rfl).trans ((hF.ps 7 (by decide) (hpr 7 (by decide))).trans (by rw [HPV.out]; rfl))
                      have h3 : A.tmps.getD 3 undef = .pointer (some ⟨F + 1 + 1, 0, none⟩) := hB (3, .pointer (some ⟨F + 1 + 1, 0, none⟩)) (by simp)
                      have h12 : A.tmps.getD 12 undef = .pointer (some ⟨X, 0, none⟩) := hB (12, .pointer (some ⟨X, 0, none⟩)) (by simp)
                      have f7 : A.tmps[109]?.getD undef = _ := (Array.getD_eq_getD_getElem? ..).symm.trans g7
                      clear hA hB
                      go_simp
                      exact hK _ _ ⟨p, by have h := hF.build (i := 8) (by decide) (by decide); rwa [show BV 8 = .string x.1.name from by rw [HBV.out]; rfl, show BT 8 = 9 from by rw [HBT.out]; rfl] at h⟩
                    · obtain rfl := Option.some.inj (show some _ = some o from ho)
                      dsimp only [List.getElem_toArray, List.getElem_cons_zero, List.getElem_cons_succ] at hK ⊢
                      have g4 : A.tmps.getD 106 undef = .pointer (some ⟨(F + 1), 0, none⟩) := (hA 4 106 rfl).trans ((hF.ps 4 (by decide) (hpr 4 (by decide))).trans (by rw [HPV.out]; rfl))
                      obtain ⟨b8, gg8, hb8, hn8⟩ := hF.bs 8 (by decide) (hpr 8 (by decide))
                      have g8 : A.tmps.getD 110 undef = .slice (some ⟨b8, 0, none⟩) 1 1 := (hA 8 110 rfl).trans gg8
                      rw [HBV.out, HBT.out] at hb8
                      have h3 : A.tmps.getD 3 undef = .pointer (some ⟨F + 1 + 1, 0, none⟩) := hB (3, .pointer (some ⟨F + 1 + 1, 0, none⟩)) (by simp)
                      have h12 : A.tmps.getD 12 undef = .pointer (some ⟨X, 0, none⟩) := hB (12, .pointer (some ⟨X, 0, none⟩)) (by simp)
                      have f4 : A.tmps[106]?.getD undef = _ := (Array.getD_eq_getD_getElem? ..).symm.trans g4
                      have f8 : A.tmps[110]?.getD undef = _ := (Array.getD_eq_getD_getElem? ..).symm.trans g8
                      obtain rfl : p = 1 := hF.at (c := 1) rfl hl (fun c' k' hc hk => by (obtain rfl : c' = 0 := (by omega)); (obtain rfl : 4 = k' := (by simpa using hk)); exact hpr 4 (by decide))
                      clear hA hB
                      have hly := hF.ly
                      have HLY := Lib.hid hly
                      have HT : Hid (PC.take 1 = [sB x.2]) := Lib.hid (by rw [HPC.out]; rfl)
                      go_simp
                      refine (ly_text x.1.name b8 1 HLY.out hb8 hn8 (by rw [HT.out]; simp; omega)).mono ?_
                      rintro e z' ⟨rfl, hL, hk⟩
                      go_simp
                      exact hK _ _ ⟨1 + 1, by have h := hF.call (i := 9) rfl (by decide) (by decide) (pc := sB x.1.name) (by rw [HPC.out]; rfl) hL hk (by decide) hX HBT5.out; rwa [show PV 9 = .pointer (some ⟨(F + 1), 0, none⟩) from by rw [HPV.out]; rfl] at h⟩
                  case fin =>
                    rintro l T z ⟨p, hF⟩ hall
                    have h := hF.c 1 9 rfl
                    rw [hall 9 (by show 9 < 10; omega)] at h
                    have h1 : 1 < p := by simpa using h.symm
                    have hQ : PC.take p = [sB x.2, sB x.1.name] := by rw [List.take_of_length_le (by rw [HPC.out]; show 2 ≤ p; omega), HPC.out]
                    have hly := hF.ly
                    have hkp := hF.kp
                    rw [hQ] at hly
                    have hxb := hF.x
                    have e1 : Q1 ++ [sB x.2, sB x.1.name].flatten = Q1 ++ (sB x.2 ++ sB x.1.name) := by simp
                    rw [e1] at hly
                    have HF := Lib.hid hly
                    have HXB := Lib.hid hxb
                    clear hly hxb hkp hF h h1 hQ hall HL2 HX
                    simp only [actA, setAll, List.setIfInBounds_toArray, List.set_cons_zero, List.set_cons_succ, Nat.zero_add, Nat.reduceAdd]
                    have HC := Lib.hid (clos39 (F + 1) F FS w _ x.1.tn x.1.ta z HF.out (by simp; omega))
                    have c0 := HXB.out.cell 0
                    have c1 := HXB.out.cell 1
                    have c2 := HXB.out.cell 2
                    have c3 := HXB.out.cell 3
                    simp only [List.getElem?_cons_succ, List.getElem?_cons_zero] at c0 c1 c2 c3
                    go_wp2_with fail
                    refine HC.out.mono ?_
                    rintro e z1 ⟨rfl, hL, _⟩
                    have HR : Hid (LyS (F + 1) F FS w (Q1 ++ fdB x) z1) := Lib.hid (by have := hL; simpa only [fdB, vrB, Vr.ty, List.append_assoc] using this)
                    clear hL HC HF HXB c0 c1 c2 c3
                    go_wp2
                    go_roundw
                    case rel => exact ⟨k + 1, by omega, by go_num, Lib.hid (by rw [HSN.out]; exact HR.out)⟩
                    case measure => simp [intOf]; omega
                · have HLn : Hid (LyS (F + 1) F FS w (P3 ++ f.fd.flatMap fdB) wr) := Lib.hid (by have h := HL.out; rwa [List.take_of_length_le (by have := E4.out; omega)] at h)
                  obtain ⟨wq, hwq⟩ : ∃ wq, wq = wr := ⟨_, rfl⟩
                  subst hwq
                  clear HL
                  have HL := HLn
                  clear HLn
                  have pp := HL.out.p.cell 0
                  simp only [List.getElem?_cons_zero] at pp
                  have f8 := (HL.out.f.cell 8).trans (show FS[8]? = some (.slice a5 n5 c5) by rw [HFS.out]; rfl)
                  go_wp2_with fail
                  refine (ly_num (n5 : Int) OK5.out _ 1 (HL.out.al _) (Blk.new _ _ 3) (by have := HL.out.size; omega) (by have := HPL3.out; simp only [List.length_append]; omega)).mono ?_
                  rintro e z9 ⟨rfl, hL, hk⟩
                  have HL9 : Hid (LyS (F + 1) F FS w (P3 ++ f.fd.flatMap fdB ++ Pk.encI (n5 : Int)) z9) := Lib.hid hL
                  clear hL hk HL pp f8
                  obtain ⟨P4, HP4⟩ : ∃ q, Hid (q = P3 ++ f.fd.flatMap fdB ++ Pk.encI (n5 : Int)) := ⟨_, Lib.hid rfl⟩
                  rw [← HP4.out] at HL9
                  have HPL4 : Hid (P4.length + (f.mt.flatMap mtB).length + ((f.bd.flatMap bdB).length) ≤ 100000000000000) := Lib.hid (by have h := HPL3.out; rw [HP4.out]; simp only [List.length_append]; have := EL5.out; omega)
                  have f8 := (HL9.out.f.cell 8).trans (show FS[8]? = some (.slice a5 n5 c5) by rw [HFS.out]; rfl)
                  go_wp2
                  clear f8
                  go_loopw [129] (fun i wr => ∃ k : Nat, k ≤ n5 ∧ i = .int .i64 k ∧ Hid (LyS (F + 1) F FS w (P4 ++ (f.mt.take k).flatMap mtB) wr)) (fun i _ => n5 - (intOf i).toNat)
                  case atStart => exact ⟨0, Nat.zero_le _, rfl, Lib.hid (by simpa using HL9.out)⟩
                  case round =>
                    clear HL9
                    obtain ⟨k, hk, rfl, HL⟩ := hrel
                    by_cases hkl : k < n5
                    · obtain ⟨x, hx⟩ : ∃ v, f.mt[k]? = some v := ⟨_, List.getElem?_eq_getElem (by have := E5.out; omega)⟩
                      obtain ⟨g, o, cs, rfl, hcell, a6, n6, c6, rfl, hps⟩ := HK5.out k x hx
                      have q0 : wr.cell? ⟨g, o + k * 6, none⟩ = some (.string x.1.name) := (HL.out.below.cell (World.block_lt_of_cell? _ _ (hcell 0 _ rfl))).trans (hcell 0 _ rfl)
                      have q1 : wr.cell? ⟨g, o + k * 6 + 1, none⟩ = some (.bool x.1.st) := (HL.out.below.cell (World.block_lt_of_cell? _ _ (hcell 1 _ rfl))).trans (hcell 1 _ rfl)
                      have q2 : wr.cell? ⟨g, o + k * 6 + 2, none⟩ = some (.slice a6 n6 c6) := (HL.out.below.cell (World.block_lt_of_cell? _ _ (hcell 2 _ rfl))).trans (hcell 2 _ rfl)
                      have q3 : wr.cell? ⟨g, o + k * 6 + 3, none⟩ = some (.string x.1.rn) := (HL.out.below.cell (World.block_lt_of_cell? _ _ (hcell 3 _ rfl))).trans (hcell 3 _ rfl)
                      have q4 : wr.cell? ⟨g, o + k * 6 + 4, none⟩ = some (.bool x.1.ra) := (HL.out.below.cell (World.block_lt_of_cell? _ _ (hcell 4 _ rfl))).trans (hcell 4 _ rfl)
                      have q5 : wr.cell? ⟨g, o + k * 6 + 5, none⟩ = some (.string x.2) := (HL.out.below.cell (World.block_lt_of_cell? _ _ (hcell 5 _ rfl))).trans (hcell 5 _ rfl)
                      have HXM := Lib.hid (List.mem_of_getElem? hx)
                      have HSN : Hid (P4 ++ (f.mt.take (k + 1)).flatMap mtB = (P4 ++ (f.mt.take k).flatMap mtB) ++ mtB x) := Lib.hid (by rw [flat_snoc mtB hx, List.append_assoc])
                      have HLk : Hid ((P4 ++ (f.mt.take k).flatMap mtB).length + (mtB x).length ≤ 100000000000000) := Lib.hid (by
                        have h1 := flat_take_le mtB f.mt (k + 1)
                        have h2 := HPL4.out
                        rw [flat_snoc mtB hx] at h1
                        simp only [List.length_append] at h1 h2 ⊢
                        omega)
                      have HPS := Lib.hid hps
                      obtain ⟨e6, l6, k6, hk6⟩ := hps.at
                      unfold maxLen at k6
                      have E6 := Lib.hid e6
                      have HK6 := Lib.hid hk6
                      have OK6 : Hid (OkI (n6 : Int)) := Lib.hid ⟨by omega, by omega⟩
                      clear hps e6 hk6
                      clear hcell hx
                      generalize (P4 ++ (f.mt.take k).flatMap mtB) = Q1 at *
                      have hl3 : Q1.length + ((sB x.2).length + ((sB ⟨#[]⟩).length + ((sB x.1.name).length + ((sB x.1.rn).length + (tysB x.1.ps).length)))) + 100 ≤ 140737488355328 := by have := HLk.out; simp only [mtB, mtF, fcB, manyB, sgB, tyB, Sg.ret, List.flatMap_nil, List.flatMap_cons, List.length_append, List.length_singleton, List.append_nil] at this; omega
                      obtain ⟨X, HXE⟩ : ∃ b, Hid (b = wr.heap.size) := ⟨_, Lib.hid rfl⟩
                      obtain ⟨W2, HW2⟩ : ∃ W, Hid (W = wr.alloc (.cells #[.string x.1.name, .bool x.1.st, .slice a6 n6 c6, .string x.1.rn, .bool x.1.ra, .string x.2] 79)) := ⟨_, Lib.hid rfl⟩
                      have HX : Hid (Blk W2 X [.string x.1.name, .bool x.1.st, .slice a6 n6 c6, .string x.1.rn, .bool x.1.ra, .string x.2] 79) := Lib.hid (by rw [HW2.out, HXE.out]; exact Blk.new wr _ 79)
                      have HL2 : Hid (LyS (F + 1) F FS w (Q1) W2) := Lib.hid (by rw [HW2.out]; exact HL.out.al _)
                      have hX : X ≠ F + 1 := by rw [HXE.out]; have := HL.out.size; omega
                      go_upto_region 33 with fail
                      rw [← HW2.out, ← HXE.out]
                      clear HW2 HXE HL q0 q1 q2 q3 q4 q5
                      obtain ⟨PV, HPV⟩ : ∃ f : Nat → Value, Hid (f = (fun k => match k with | 0 => .pointer (some ⟨F + 1, 0, none⟩) | 1 => .pointer (some ⟨X, 5, none⟩) | 2 => .string x.2 | 3 => undef | 4 => .pointer (some ⟨(F + 1), 0, none⟩) | 5 => undef | 6 => .pointer (some ⟨(F + 1), 0, none⟩) | 7 => undef | 8 => .pointer (some ⟨(F + 1), 0, none⟩) | 9 => undef | 10 => .pointer (some ⟨(F + 1), 0, none⟩) | 11 => .pointer (some ⟨X, 0, none⟩) | 12 => .pointer (some ⟨X, 0, none⟩) | 13 => .string x.1.name | 14 => undef | 15 => .pointer (some ⟨(F + 1), 0, none⟩) | 16 => .pointer (some ⟨X, 0, none⟩) | 17 => .pointer (some ⟨X, 1, none⟩) | 18 => .bool x.1.st | 19 => undef | 20 => .pointer (some ⟨(F + 1), 0, none⟩) | _ => undef)) := ⟨_, Lib.hid rfl⟩
                      obtain ⟨BV, HBV⟩ : ∃ f : Nat → Value, Hid (f = (fun k => match k with | 0 => undef | 1 => undef | 2 => undef | 3 => .string x.2 | 4 => undef | 5 => .string ⟨#[]⟩ | 6 => undef | 7 => .int .i64 0 | 8 => undef | 9 => .int .i64 1 | 10 => undef | 11 => undef | 12 => undef | 13 => undef | 14 => .string x.1.name | 15 => undef | 16 => undef | 17 => undef | 18 => undef | 19 => .bool x.1.st | 20 => undef | _ => undef)) := ⟨_, Lib.hid rfl⟩
                      obtain ⟨BT, HBT⟩ : ∃ f : Nat → TypeId, Hid (f = (fun k => match k with | 0 => 0 | 1 => 0 | 2 => 0 | 3 => 9 | 4 => 0 | 5 => 9 | 6 => 0 | 7 => 3 | 8 => 0 | 9 => 3 | 10 => 0 | 11 => 0 | 12 => 0 | 13 => 0 | 14 => 9 | 15 => 0 | 16 => 0 | 17 => 0 | 18 => 0 | 19 => 4 | 20 => 0 | _ => 0)) := ⟨_, Lib.hid rfl⟩
                      obtain ⟨PC, HPC⟩ : ∃ f : List (List UInt8), Hid (f = [sB x.2, sB ⟨#[]⟩, Pk.encI 0, Pk.encI 1, sB x.1.name, [Pk.flagB x.1.st]]) := ⟨_, Lib.hid rfl⟩
                      have HBT5 : Hid (∀ k ∈ [3, 5, 7, 9, 14, 19], BT k ≠ 5) := Lib.hid (by rw [HBT.out]; decide)
                      refine wp_region_chain (by kernel_rfl) (fun k => match k with | 0 => [] | 1 => [] | 2 => [1] | 3 => [2] | 4 => [0, 3] | 5 => [] | 6 => [4, 5] | 7 => [] | 8 => [6, 7] | 9 => [] | 10 => [8, 9] | 11 => [] | 12 => [11] | 13 => [12] | 14 => [13] | 15 => [10, 14] | 16 => [] | 17 => [16] | 18 => [17] | 19 => [18] | 20 => [15, 19] | _ => []) [133, 134, 135, 136, 137, 138, 139, 140, 141, 142, 143, 144, 145, 146, 147, 148, 149, 150, 151, 152, 153] (by kernel_rfl) ?hpre (by kernel_rfl) (by decide) (by intro d hd; have h : d < 225 := (show ∀ d ∈ [133, 134, 135, 136, 137, 138, 139, 140, 141, 142, 143, 144, 145, 146, 147, 148, 149, 150, 151, 152, 153], d < 225 by decide) d hd; exact h) [(3, .pointer (some ⟨F + 1 + 1, 0, none⟩)), (14, .pointer (some ⟨X, 0, none⟩))] ?hbase (fun l T z => ∃ p, ChF (F + 1) F X FS [.string x.1.name, .bool x.1.st, .slice a6 n6 c6, .string x.1.rn, .bool x.1.ra, .string x.2] 79 w Q1 [3, 5, 7, 9, 14, 19] [0, 1, 2, 4, 6, 8, 10, 11, 12, 13, 15, 16, 17, 18, 20] BV PV BT [4, 6, 8, 10, 15, 20] PC W2 l T p z) ?h0 ?step (by kernel_rfl) ?fin
                      case hpre =>
                        intro i j hj
                        show j < 21
                        match i, hj with
                        | 0, hj => cases hj
                        | 1, hj => cases hj
                        | 2, hj => simp at hj; omega
                        | 3, hj => simp at hj; omega
                        | 4, hj => simp at hj; omega
                        | 5, hj => cases hj
                        | 6, hj => simp at hj; omega
                        | 7, hj => cases hj
                        | 8, hj => simp at hj; omega
                        | 9, hj => cases hj
                        | 10, hj => simp at hj; omega
                        | 11, hj => cases hj
                        | 12, hj => simp at hj; omega
                        | 13, hj => simp at hj; omega
                        | 14, hj => simp at hj; omega
                        | 15, hj => simp at hj; omega
                        | 16, hj => cases hj
                        | 17, hj => simp at hj; omega
                        | 18, hj => simp at hj; omega
                        | 19, hj => simp at hj; omega
                        | 20, hj => simp at hj; omega
                        | i + 21, hj => cases hj
                      case hbase =>
                        intro q hq
                        simp only [List.mem_cons, List.not_mem_nil, or_false] at hq
                        rcases hq with rfl | rfl
                        · exact ⟨rfl, by simp⟩
                        · exact ⟨rfl, by simp⟩
                      case h0 =>
                        exact fun T => ⟨0, ⟨rfl, rfl, rfl, Nat.le_refl _, fun _ _ _ => rfl, fun _ _ _ _ => rfl⟩, fun c k hk => by simp, by simpa using HL2.out.drw, HX.out, fun k _ h => (by cases h), fun k _ h => (by cases h)⟩
                      case step =>
                        rintro l T z ⟨p, hF⟩ i o hi ho hl hpr A hA hB K' hK
                        have hi' : i < 21 := hi
                        rcases (show i = 0 ∨ i = 1 ∨ i = 2 ∨ i = 3 ∨ i = 4 ∨ i = 5 ∨ i = 6 ∨ i = 7 ∨ i = 8 ∨ i = 9 ∨ i = 10 ∨ i = 11 ∨ i = 12 ∨ i = 13 ∨ i = 14 ∨ i = 15 ∨ i = 16 ∨ i = 17 ∨ i = 18 ∨ i = 19 ∨ i = 20 by omega) with rfl | rfl | rfl | rfl | rfl | rfl | rfl | rfl | rfl | rfl | rfl | rfl | rfl | rfl | rfl | rfl | rfl | rfl | rfl | rfl | rfl
                        · obtain rfl := Option.some.inj (show some _ = some o from ho)
                          dsimp only [List.getElem_toArray, List.getElem_cons_zero, List.getElem_cons_succ] at hK ⊢
                          have h3 : A.tmps.getD 3 undef = .pointer (some ⟨F + 1 + 1, 0, none⟩) := hB (3, .pointer (some ⟨F + 1 + 1, 0, none⟩)) (by simp)
                          have h14 : A.tmps.getD 14 undef = .pointer (some ⟨X, 0, none⟩) := hB (14, .pointer (some ⟨X, 0, none⟩)) (by simp)
                          have c0 := hF.ly.p.cell 0
                          simp only [List.getElem?_cons_zero] at c0
                          clear hA hB
                          go_simp
                          exact hK _ _ ⟨p, by have h := hF.pure (i := 0) (by decide) (by decide); rwa [show PV 0 = .pointer (some ⟨F + 1, 0, none⟩) from by rw [HPV.out]; rfl] at h⟩
                        · obtain rfl := Option.some.inj (show some _ = some o from ho)
                          dsimp only [List.getElem_toArray, List.getElem_cons_zero, List.getElem_cons_succ] at hK ⊢
                          have h3 : A.tmps.getD 3 undef = .pointer (some ⟨F + 1 + 1, 0, none⟩) := hB (3, .pointer (some ⟨F + 1 + 1, 0, none⟩)) (by simp)
                          have h14 : A.tmps.getD 14 undef = .pointer (some ⟨X, 0, none⟩) := hB (14, .pointer (some ⟨X, 0, none⟩)) (by simp)
                          clear hA hB
                          go_simp
                          exact hK _ _ ⟨p, by have h := hF.pure (i := 1) (by decide) (by decide); rwa [show PV 1 = .pointer (some ⟨X, 5, none⟩) from by rw [HPV.out]; rfl] at h⟩
                        · obtain rfl := Option.some.inj (show some _ = some o from ho)
                          dsimp only [List.getElem_toArray, List.getElem_cons_zero, List.getElem_cons_succ] at hK ⊢
                          have g1 : A.tmps.getD 134 undef = .pointer (some ⟨X, 5, none⟩) := (hA 1 134 rfl).trans ((hF.ps 1 (by decide) (hpr 1 (by decide))).trans (by rw [HPV.out]; rfl))
                          have h3 : A.tmps.getD 3 undef = .pointer (some ⟨F + 1 + 1, 0, none⟩) := hB (3, .pointer (some ⟨F + 1 + 1, 0, none⟩)) (by simp)
                          have h14 : A.tmps.getD 14 undef = .pointer (some ⟨X, 0, none⟩) := hB (14, .pointer (some ⟨X, 0, none⟩)) (by simp)
                          have f1 : A.tmps[134]?.getD undef = _ := (Array.getD_eq_getD_getElem? ..).symm.trans g1
                          have c0 := hF.x.cell 5
                          simp only [List.getElem?_cons_succ, List.getElem?_cons_zero] at c0
                          clear hA hB
                          go_simp
                          exact hK _ _ ⟨p, by have h := hF.pure (i := 2) (by decide) (by decide); rwa [show PV 2 = .string x.2 from by rw [HPV.out]; rfl] at h⟩
                        · obtain rfl := Option.some.inj (show some _ = some o from ho)
                          dsimp only [List.getElem_toArray, List.getElem_cons_zero, List.getElem_cons_succ] at hK ⊢
                          have g2 : A.tmps.getD 135 undef = .string x.2 := (hA 2 135 rfl).trans ((hF.ps 2 (by decide) (hpr 2 (by decide))).trans (by rw [HPV.out]; rfl))
                          have h3 : A.tmps.getD 3 undef = .pointer (some ⟨F + 1 + 1, 0, none⟩) := hB (3, .pointer (some ⟨F + 1 + 1, 0, none⟩)) (by simp)
                          have h14 : A.tmps.getD 14 undef = .pointer (some ⟨X, 0, none⟩) := hB (14, .pointer (some ⟨X, 0, none⟩)) (by simp)
                          have f2 : A.tmps[135]?.getD undef = _ := (Array.getD_eq_getD_getElem? ..).symm.trans g2
                          clear hA hB
                          go_simp
                          exact hK _ _ ⟨p, by have h := hF.build (i := 3) (by decide) (by decide); rwa [show BV 3 = .string x.2 from by rw [HBV.out]; rfl, show BT 3 = 9 from by rw [HBT.out]; rfl] at h⟩
                        · obtain rfl := Option.some.inj (show some _ = some o from ho)
                          dsimp only [List.getElem_toArray, List.getElem_cons_zero, List.getElem_cons_succ] at hK ⊢
                          have g0 : A.tmps.getD 133 undef = .pointer (some ⟨F + 1, 0, none⟩) := (hA 0 133 rfl).trans ((hF.ps 0 (by decide) (hpr 0 (by decide))).trans (by rw [HPV.out]; rfl))
                          obtain ⟨b3, gg3, hb3, hn3⟩ := hF.bs 3 (by decide) (hpr 3 (by decide))
                          have g3 : A.tmps.getD 136 undef = .slice (some ⟨b3, 0, none⟩) 1 1 := (hA 3 136 rfl).trans gg3
                          rw [HBV.out, HBT.out] at hb3
                          have h3 : A.tmps.getD 3 undef = .pointer (some ⟨F + 1 + 1, 0, none⟩) := hB (3, .pointer (some ⟨F + 1 + 1, 0, none⟩)) (by simp)
                          have h14 : A.tmps.getD 14 undef = .pointer (some ⟨X, 0, none⟩) := hB (14, .pointer (some ⟨X, 0, none⟩)) (by simp)
                          have f0 : A.tmps[133]?.getD undef = _ := (Array.getD_eq_getD_getElem? ..).symm.trans g0
                          have f3 : A.tmps[136]?.getD undef = _ := (Array.getD_eq_getD_getElem? ..).symm.trans g3
                          obtain rfl : p = 0 := hF.at (c := 0) rfl hl (fun c' k' hc => by omega)
                          clear hA hB
                          have hly := hF.ly
                          have HLY := Lib.hid hly
                          have HT : Hid (PC.take 0 = []) := Lib.hid (by rw [HPC.out]; rfl)
                          go_simp
                          refine (ly_text x.2 b3 1 HLY.out hb3 hn3 (by rw [HT.out]; simp; omega)).mono ?_
                          rintro e z' ⟨rfl, hL, hk⟩
                          go_simp
                          exact hK _ _ ⟨0 + 1, by have h := hF.call (i := 4) rfl (by decide) (by decide) (pc := sB x.2) (by rw [HPC.out]; rfl) hL hk (by decide) hX HBT5.out; rwa [show PV 4 = .pointer (some ⟨(F + 1), 0, none⟩) from by rw [HPV.out]; rfl] at h⟩
                        · obtain rfl := Option.some.inj (show some _ = some o from ho)
                          dsimp only [List.getElem_toArray, List.getElem_cons_zero, List.getElem_cons_succ] at hK ⊢
                          have h3 : A.tmps.getD 3 undef = .pointer (some ⟨F + 1 + 1, 0, none⟩) := hB (3, .pointer (some ⟨F + 1 + 1, 0, none⟩)) (by simp)
                          have h14 : A.tmps.getD 14 undef = .pointer (some ⟨X, 0, none⟩) := hB (14, .pointer (some ⟨X, 0, none⟩)) (by simp)
                          clear hA hB
                          go_simp
                          exact hK _ _ ⟨p, by have h := hF.build (i := 5) (by decide) (by decide); rwa [show BV 5 = .string ⟨#[]⟩ from by rw [HBV.out]; rfl, show BT 5 = 9 from by rw [HBT.out]; rfl] at h⟩
                        · obtain rfl := Option.some.inj (show some _ = some o from ho)
                          dsimp only [List.getElem_toArray, List.getElem_cons_zero, List.getElem_cons_succ] at hK ⊢
                          have g4 : A.tmps.getD 137 undef = .pointer (some ⟨(F + 1), 0, none⟩) := (hA 4 137 rfl).trans ((hF.ps 4 (by decide) (hpr 4 (by decide))).trans (by rw [HPV.out]; rfl))
                          obtain ⟨b5, gg5, hb5, hn5⟩ := hF.bs 5 (by decide) (hpr 5 (by decide))
                          have g5 : A.tmps.getD 138 undef = .slice (some ⟨b5, 0, none⟩) 1 1 := (hA 5 138 rfl).trans gg5
                          rw [HBV.out, HBT.out] at hb5
                          have h3 : A.tmps.getD 3 undef = .pointer (some ⟨F + 1 + 1, 0, none⟩) := hB (3, .pointer (some ⟨F + 1 + 1, 0, none⟩)) (by simp)
                          have h14 : A.tmps.getD 14 undef = .pointer (some ⟨X, 0, none⟩) := hB (14, .pointer (some ⟨X, 0, none⟩)) (by simp)
                          have f4 : A.tmps[137]?.getD undef = _ := (Array.getD_eq_getD_getElem? ..).symm.trans g4
                          have f5 : A.tmps[138]?.getD undef = _ := (Array.getD_eq_getD_getElem? ..).symm.trans g5
                          obtain rfl : p = 1 := hF.at (c := 1) rfl hl (fun c' k' hc hk => by (obtain rfl : c' = 0 := (by omega)); (obtain rfl : 4 = k' := (by simpa using hk)); exact hpr 4 (by decide))
                          clear hA hB
                          have hly := hF.ly
                          have HLY := Lib.hid hly
                          have HT : Hid (PC.take 1 = [sB x.2]) := Lib.hid (by rw [HPC.out]; rfl)
                          go_simp
                          refine (ly_text ⟨#[]⟩ b5 1 HLY.out hb5 hn5 (by rw [HT.out]; simp; omega)).mono ?_
                          rintro e z' ⟨rfl, hL, hk⟩
                          go_simp
                          exact hK _ _ ⟨1 + 1, by have h := hF.call (i := 6) rfl (by decide) (by decide) (pc := sB ⟨#[]⟩) (by rw [HPC.out]; rfl) hL hk (by decide) hX HBT5.out; rwa [show PV 6 = .pointer (some ⟨(F + 1), 0, none⟩) from by rw [HPV.out]; rfl] at h⟩
                        · obtain rfl := Option.some.inj (show some _ = some o from ho)
                          dsimp only [List.getElem_toArray, List.getElem_cons_zero, List.getElem_cons_succ] at hK ⊢
                          have h3 : A.tmps.getD 3 undef = .pointer (some ⟨F + 1 + 1, 0, none⟩) := hB (3, .pointer (some ⟨F + 1 + 1, 0, none⟩)) (by simp)
                          have h14 : A.tmps.getD 14 undef = .pointer (some ⟨X, 0, none⟩) := hB (14, .pointer (some ⟨X, 0, none⟩)) (by simp)
                          clear hA hB
                          go_simp
                          exact hK _ _ ⟨p, by have h := hF.build (i := 7) (by decide) (by decide); rwa [show BV 7 = .int .i64 0 from by rw [HBV.out]; rfl, show BT 7 = 3 from by rw [HBT.out]; rfl] at h⟩
                        · obtain rfl := Option.some.inj (show some _ = some o from ho)
                          dsimp only [List.getElem_toArray, List.getElem_cons_zero, List.getElem_cons_succ] at hK ⊢
                          have g6 : A.tmps.getD 139 undef = .pointer (some ⟨(F + 1), 0, none⟩) := (hA 6 139 rfl).trans ((hF.ps 6 (by decide) (hpr 6 (by decide))).trans (by rw [HPV.out]; rfl))
                          obtain ⟨b7, gg7, hb7, hn7⟩ := hF.bs 7 (by decide) (hpr 7 (by decide))
                          have g7 : A.tmps.getD 140 undef = .slice (some ⟨b7, 0, none⟩) 1 1 := (hA 7 140 rfl).trans gg7
                          rw [HBV.out, HBT.out] at hb7
                          have h3 : A.tmps.getD 3 undef = .pointer (some ⟨F + 1 + 1, 0, none⟩) := hB (3, .pointer (some ⟨F + 1 + 1, 0, none⟩)) (by simp)
                          have h14 : A.tmps.getD 14 undef = .pointer (some ⟨X, 0, none⟩) := hB (14, .pointer (some ⟨X, 0, none⟩)) (by simp)
                          have f6 : A.tmps[139]?.getD undef = _ := (Array.getD_eq_getD_getElem? ..).symm.trans g6
                          have f7 : A.tmps[140]?.getD undef = _ := (Array.getD_eq_getD_getElem? ..).symm.trans g7
                          obtain rfl : p = 2 := hF.at (c := 2) rfl hl (fun c' k' hc hk => by (obtain rfl : c' = 1 := (by omega)); (obtain rfl : 6 = k' := (by simpa using hk)); exact hpr 6 (by decide))
                          clear hA hB
                          have hly := hF.ly
                          have HLY := Lib.hid hly
                          have HT : Hid (PC.take 2 = [sB x.2, sB ⟨#[]⟩]) := Lib.hid (by rw [HPC.out]; rfl)
                          go_simp
                          refine (ly_num 0 ⟨by omega, by omega⟩ b7 1 HLY.out hb7 hn7 (by rw [HT.out]; have hz := Pk.encI_len 0 (by omega); simp; omega)).mono ?_
                          rintro e z' ⟨rfl, hL, hk⟩
                          go_simp
                          exact hK _ _ ⟨2 + 1, by have h := hF.call (i := 8) rfl (by decide) (by decide) (pc := Pk.encI 0) (by rw [HPC.out]; rfl) hL hk (by decide) hX HBT5.out; rwa [show PV 8 = .pointer (some ⟨(F + 1), 0, none⟩) from by rw [HPV.out]; rfl] at h⟩
                        · obtain rfl := Option.some.inj (show some _ = some o from ho)
                          dsimp only [List.getElem_toArray, List.getElem_cons_zero, List.getElem_cons_succ] at hK ⊢
                          have h3 : A.tmps.getD 3 undef = .pointer (some ⟨F + 1 + 1, 0, none⟩) := hB (3, .pointer (some ⟨F + 1 + 1, 0, none⟩)) (by simp)
                          have h14 : A.tmps.getD 14 undef = .pointer (some ⟨X, 0, none⟩) := hB (14, .pointer (some ⟨X, 0, none⟩)) (by simp)
                          clear hA hB
                          go_simp
                          exact hK _ _ ⟨p, by have h := hF.build (i := 9) (by decide) (by decide); rwa [show BV 9 = .int .i64 1 from by rw [HBV.out]; rfl, show BT 9 = 3 from by rw [HBT.out]; rfl] at h⟩
                        · obtain rfl := Option.some.inj (show some _ = some o from ho)
                          dsimp only [List.getElem_toArray, List.getElem_cons_zero, List.getElem_cons_succ] at hK ⊢
                          have g8 : A.tmps.getD 141 undef = .pointer (some ⟨(F + 1), 0, none⟩) := (hA 8 141 rfl).trans ((hF.ps 8 (by decide) (hpr 8 (by decide))).trans (by rw [HPV.out]; rfl))
                          obtain ⟨b9, gg9, hb9, hn9⟩ := hF.bs 9 (by decide) (hpr 9 (by decide))
                          have g9 : A.tmps.getD 142 undef = .slice (some ⟨b9, 0, none⟩) 1 1 := (hA 9 142 rfl).trans gg9
                          rw [HBV.out, HBT.out] at hb9
                          have h3 : A.tmps.getD 3 undef = .pointer (some ⟨F + 1 + 1, 0, none⟩) := hB (3, .pointer (some ⟨F + 1 + 1, 0, none⟩)) (by simp)
                          have h14 : A.tmps.getD 14 undef = .pointer (some ⟨X, 0, none⟩) := hB (14, .pointer (some ⟨X, 0, none⟩)) (by simp)
                          have f8 : A.tmps[141]?.getD undef = _ := (Array.getD_eq_getD_getElem? ..).symm.trans g8
                          have f9 : A.tmps[142]?.getD undef = _ := (Array.getD_eq_getD_getElem? ..).symm.trans g9
                          obtain rfl : p = 3 := hF.at (c := 3) rfl hl (fun c' k' hc hk => by (obtain rfl : c' = 2 := (by omega)); (obtain rfl : 8 = k' := (by simpa using hk)); exact hpr 8 (by decide))
                          clear hA hB
                          have hly := hF.ly
                          have HLY := Lib.hid hly
                          have HT : Hid (PC.take 3 = [sB x.2, sB ⟨#[]⟩, Pk.encI 0]) := Lib.hid (by rw [HPC.out]; rfl)
                          go_simp
                          refine (ly_num 1 ⟨by omega, by omega⟩ b9 1 HLY.out hb9 hn9 (by rw [HT.out]; have hz := Pk.encI_len 0 (by omega); have ho := Pk.encI_len 1 (by omega); simp; omega)).mono ?_
                          rintro e z' ⟨rfl, hL, hk⟩
                          go_simp
                          exact hK _ _ ⟨3 + 1, by have h := hF.call (i := 10) rfl (by decide) (by decide) (pc := Pk.encI 1) (by rw [HPC.out]; rfl) hL hk (by decide) hX HBT5.out; rwa [show PV 10 = .pointer (some ⟨(F + 1), 0, none⟩) from by rw [HPV.out]; rfl] at h⟩
                        · obtain rfl := Option.some.inj (show some _ = some o from ho)
                          dsimp only [List.getElem_toArray, List.getElem_cons_zero, List.getElem_cons_succ] at hK ⊢
                          have h3 : A.tmps.getD 3 undef = .pointer (some ⟨F + 1 + 1, 0, none⟩) := hB (3, .pointer (some ⟨F + 1 + 1, 0, none⟩)) (by simp)
                          have h14 : A.tmps.getD 14 undef = .pointer (some ⟨X, 0, none⟩) := hB (14, .pointer (some ⟨X, 0, none⟩)) (by simp)
                          clear hA hB
                          go_simp
                          exact hK _ _ ⟨p, by have h := hF.pure (i := 11) (by decide) (by decide); rwa [show PV 11 = .pointer (some ⟨X, 0, none⟩) from by rw [HPV.out]; rfl] at h⟩
                        · obtain rfl := Option.some.inj (show some _ = some o from ho)
                          dsimp only [List.getElem_toArray, List.getElem_cons_zero, List.getElem_cons_succ] at hK ⊢
                          have g11 : A.tmps.getD 144 undef = .pointer (some ⟨X, 0, none⟩) := (hA 11 144 rfl).trans ((hF.ps 11 (by decide) (hpr 11 (by decide))).trans (by rw [HPV.out]; rfl))
                          have h3 : A.tmps.getD 3 undef = .pointer (some ⟨F + 1 + 1, 0, none⟩) := hB (3, .pointer (some ⟨F + 1 + 1, 0, none⟩)) (by simp)
                          have h14 : A.tmps.getD 14 undef = .pointer (some ⟨X, 0, none⟩) := hB (14, .pointer (some ⟨X, 0, none⟩)) (by simp)
                          have f11 : A.tmps[144]?.getD undef = _ := (Array.getD_eq_getD_getElem? ..).symm.trans g11
                          clear hA hB
                          go_simp
                          exact hK _ _ ⟨p, by have h := hF.pure (i := 12) (by decide) (by decide); rwa [show PV 12 = .pointer (some ⟨X, 0, none⟩) from by rw [HPV.out]; rfl] at h⟩
                        · obtain rfl := Option.some.inj (show some _ = some o from ho)
                          dsimp only [List.getElem_toArray, List.getElem_cons_zero, List.getElem_cons_succ] at hK ⊢
                          have g12 : A.tmps.getD 145 undef = .pointer (some ⟨X, 0, none⟩) := (hA 12 145 rfl).trans ((hF.ps 12 (by decide) (hpr 12 (by decide))).trans (by rw [HPV.out]; rfl))
                          have h3 : A.tmps.getD 3 undef = .pointer (some ⟨F + 1 + 1, 0, none⟩) := hB (3, .pointer (some ⟨F + 1 + 1, 0, none⟩)) (by simp)
                          have h14 : A.tmps.getD 14 undef = .pointer (some ⟨X, 0, none⟩) := hB (14, .pointer (some ⟨X, 0, none⟩)) (by simp)
                          have f12 : A.tmps[145]?.getD undef = _ := (Array.getD_eq_getD_getElem? ..).symm.trans g12
                          have c0 := hF.x.cell 0
                          simp only [List.getElem?_cons_zero] at c0
                          clear hA hB
                          go_simp
                          exact hK _ _ ⟨p, by have h := hF.pure (i := 13) (by decide) (by decide); rwa [show PV 13 = .string x.1.name from by rw [HPV.out]; rfl] at h⟩
                        · obtain rfl := Option.some.inj (show some _ = some o from ho)
                          dsimp only [List.getElem_toArray, List.getElem_cons_zero, List.getElem_cons_succ] at hK ⊢
                          have g13 : A.tmps.getD 146 undef = .string x.1.name := (hA 13 146 rfl).trans ((hF.ps 13 (by decide) (hpr 13 (by decide))).trans (by rw [HPV.out]; rfl))
                          have h3 : A.tmps.getD 3 undef = .pointer (some ⟨F + 1 + 1, 0, none⟩) := hB (3, .pointer (some ⟨F + 1 + 1, 0, none⟩)) (by simp)
                          have h14 : A.tmps.getD 14 undef = .pointer (some ⟨X, 0, none⟩) := hB (14, .pointer (some ⟨X, 0, none⟩)) (by simp)
                          have f13 : A.tmps[146]?.getD undef = _ := (Array.getD_eq_getD_getElem? ..).symm.trans g13
                          clear hA hB
                          go_simp
                          exact hK _ _ ⟨p, by have h := hF.build (i := 14) (by decide) (by decide); rwa [show BV 14 = .string x.1.name from by rw [HBV.out]; rfl, show BT 14 = 9 from by rw [HBT.out]; rfl] at h⟩
                        · obtain rfl := Option.some.inj (show some _ = some o from ho)
                          dsimp only [List.getElem_toArray, List.getElem_cons_zero, List.getElem_cons_succ] at hK ⊢
                          have g10 : A.tmps.getD 143 undef = .pointer (some ⟨(F + 1), 0, none⟩) := (hA 10 143 rfl).trans ((hF.ps 10 (by decide) (hpr 10 (by decide))).trans (by rw [HPV.out]; rfl))
                          obtain ⟨b14, gg14, hb14, hn14⟩ := hF.bs 14 (by decide) (hpr 14 (by decide))
                          have g14 : A.tmps.getD 147 undef = .slice (some ⟨b14, 0, none⟩) 1 1 := (hA 14 147 rfl).trans gg14
                          rw [HBV.out, HBT.out] at hb14
                          have h3 : A.tmps.getD 3 undef = .pointer (some ⟨F + 1 + 1, 0, none⟩) := hB (3, .pointer (some ⟨F + 1 + 1, 0, none⟩)) (by simp)
                          have h14 : A.tmps.getD 14 undef = .pointer (some ⟨X, 0, none⟩) := hB (14, .pointer (some ⟨X, 0, none⟩)) (by simp)
                          have f10 : A.tmps[143]?.getD undef = _ := (Array.getD_eq_getD_getElem? ..).symm.trans g10
                          have f14 : A.tmps[147]?.getD undef = _ := (Array.getD_eq_getD_getElem? ..).symm.trans g14
                          obtain rfl : p = 4 := hF.at (c := 4) rfl hl (fun c' k' hc hk => by (obtain rfl : c' = 3 := (by omega)); (obtain rfl : 10 = k' := (by simpa using hk)); exact hpr 10 (by decide))
                          clear hA hB
                          have hly := hF.ly
                          have HLY := Lib.hid hly
                          have HT : Hid (PC.take 4 = [sB x.2, sB ⟨#[]⟩, Pk.encI 0, Pk.encI 1]) := Lib.hid (by rw [HPC.out]; rfl)
                          go_simp
                          refine (ly_text x.1.name b14 1 HLY.out hb14 hn14 (by rw [HT.out]; have hz := Pk.encI_len 0 (by omega); have ho := Pk.encI_len 1 (by omega); simp; omega)).mono ?_
                          rintro e z' ⟨rfl, hL, hk⟩
                          go_simp
                          exact hK _ _ ⟨4 + 1, by have h := hF.call (i := 15) rfl (by decide) (by decide) (pc := sB x.1.name) (by rw [HPC.out]; rfl) hL hk (by decide) hX HBT5.out; rwa [show PV 15 = .pointer (some ⟨(F + 1), 0, none⟩) from by rw [HPV.out]; rfl] at h⟩
                        · obtain rfl := Option.some.inj (show some _ = some o from ho)
                          dsimp only [List.getElem_toArray, List.getElem_cons_zero, List.getElem_cons_succ] at hK ⊢
                          have h3 : A.tmps.getD 3 undef = .pointer (some ⟨F + 1 + 1, 0, none⟩) := hB (3, .pointer (some ⟨F + 1 + 1, 0, none⟩)) (by simp)
                          have h14 : A.tmps.getD 14 undef = .pointer (some ⟨X, 0, none⟩) := hB (14, .pointer (some ⟨X, 0, none⟩)) (by simp)
                          clear hA hB
                          go_simp
                          exact hK _ _ ⟨p, by have h := hF.pure (i := 16) (by decide) (by decide); rwa [show PV 16 = .pointer (some ⟨X, 0, none⟩) from by rw [HPV.out]; rfl] at h⟩
                        · obtain rfl := Option.some.inj (show some _ = some o from ho)
                          dsimp only [List.getElem_toArray, List.getElem_cons_zero, List.getElem_cons_succ] at hK ⊢
                          have g16 : A.tmps.getD 149 undef = .pointer (some ⟨X, 0, none⟩) := (hA 16 149 rfl).trans ((hF.ps 16 (by decide) (hpr 16 (by decide))).trans (by rw [HPV.out]; rfl))
                          have h3 : A.tmps.getD 3 undef = .pointer (some ⟨F + 1 + 1, 0, none⟩) := hB (3, .pointer (some ⟨F + 1 + 1, 0, none⟩)) (by simp)
                          have h14 : A.tmps.getD 14 undef = .pointer (some ⟨X, 0, none⟩) := hB (14, .pointer (some ⟨X, 0, none⟩)) (by simp)
                          have f16 : A.tmps[149]?.getD undef = _ := (Array.getD_eq_getD_getElem? ..).symm.trans g16
                          clear hA hB
                          go_simp
                          exact hK _ _ ⟨p, by have h := hF.pure (i := 17) (by decide) (by decide); rwa [show PV 17 = .pointer (some ⟨X, 1, none⟩) from by rw [HPV.out]; rfl] at h⟩
                        · obtain rfl := Option.some.inj (show some _ = some o from ho)
                          dsimp only [List.getElem_toArray, List.getElem_cons_zero, List.getElem_cons_succ] at hK ⊢
                          have g17 : A.tmps.getD 150 undef = .pointer (some ⟨X, 1, none⟩) := (hA 17 150 rfl).trans ((hF.ps 17 (by decide) (hpr 17 (by decide))).trans (by rw [HPV.out]; rfl))
                          have h3 : A.tmps.getD 3 undef = .pointer (some ⟨F + 1 + 1, 0, none⟩) := hB (3, .pointer (some ⟨F + 1 + 1, 0, none⟩)) (by simp)
                          have h14 : A.tmps.getD 14 undef = .pointer (some ⟨X, 0, none⟩) := hB (14, .pointer (some ⟨X, 0, none⟩)) (by simp)
                          have f17 : A.tmps[150]?.getD undef = _ := (Array.getD_eq_getD_getElem? ..).symm.trans g17
                          have c0 := hF.x.cell 1
                          simp only [List.getElem?_cons_succ, List.getElem?_cons_zero] at c0
                          clear hA hB
                          go_simp
                          exact hK _ _ ⟨p, by have h := hF.pure (i := 18) (by decide) (by decide); rwa [show PV 18 = .bool x.1.st from by rw [HPV.out]; rfl] at h⟩
                        · obtain rfl := Option.some.inj (show some _ = some o from ho)
                          dsimp only [List.getElem_toArray, List.getElem_cons_zero, List.getElem_cons_succ] at hK ⊢
                          have g18 : A.tmps.getD 151 undef = .bool x.1.st := (hA 18 151 rfl).trans ((hF.ps 18 (by decide) (hpr 18 (by decide))).trans (by rw [HPV.out]; rfl))
                          have h3 : A.tmps.getD 3 undef = .pointer (some ⟨F + 1 + 1, 0, none⟩) := hB (3, .pointer (some ⟨F + 1 + 1, 0, none⟩)) (by simp)
                          have h14 : A.tmps.getD 14 undef = .pointer (some ⟨X, 0, none⟩) := hB (14, .pointer (some ⟨X, 0, none⟩)) (by simp)
                          have f18 : A.tmps[151]?.getD undef = _ := (Array.getD_eq_getD_getElem? ..).symm.trans g18
                          clear hA hB
                          go_simp
                          exact hK _ _ ⟨p, by have h := hF.build (i := 19) (by decide) (by decide); rwa [show BV 19 = .bool x.1.st from by rw [HBV.out]; rfl, show BT 19 = 4 from by rw [HBT.out]; rfl] at h⟩
                        · obtain rfl := Option.some.inj (show some _ = some o from ho)
                          dsimp only [List.getElem_toArray, List.getElem_cons_zero, List.getElem_cons_succ] at hK ⊢
                          have g15 : A.tmps.getD 148 undef = .pointer (some ⟨(F + 1), 0, none⟩) := (hA 15 148 rfl).trans ((hF.ps 15 (by decide) (hpr 15 (by decide))).trans (by rw [HPV.out]; rfl))
                          obtain ⟨b19, gg19, hb19, hn19⟩ := hF.bs 19 (by decide) (hpr 19 (by decide))
                          have g19 : A.tmps.getD 152 undef = .slice (some ⟨b19, 0, none⟩) 1 1 := (hA 19 152 rfl).trans gg19
                          rw [HBV.out, HBT.out] at hb19
                          have h3 : A.tmps.getD 3 undef = .pointer (some ⟨F + 1 + 1, 0, none⟩) := hB (3, .pointer (some ⟨F + 1 + 1, 0, none⟩)) (by simp)
                          have h14 : A.tmps.getD 14 undef = .pointer (some ⟨X, 0, none⟩) := hB (14, .pointer (some ⟨X, 0, none⟩)) (by simp)
                          have f15 : A.tmps[148]?.getD undef = _ := (Array.getD_eq_getD_getElem? ..).symm.trans g15
                          have f19 : A.tmps[152]?.getD undef = _ := (Array.getD_eq_getD_getElem? ..).symm.trans g19
                          obtain rfl : p = 5 := hF.at (c := 5) rfl hl (fun c' k' hc hk => by (obtain rfl : c' = 4 := (by omega)); (obtain rfl : 15 = k' := (by simpa using hk)); exact hpr 15 (by decide))
                          clear hA hB
                          have hly := hF.ly
                          have HLY := Lib.hid hly
                          have HT : Hid (PC.take 5 = [sB x.2, sB ⟨#[]⟩, Pk.encI 0, Pk.encI 1, sB x.1.name]) := Lib.hid (by rw [HPC.out]; rfl)
                          go_simp
                          refine (ly_flag x.1.st b19 1 HLY.out hb19 hn19 (by rw [HT.out]; have hz := Pk.encI_len 0 (by omega); have ho := Pk.encI_len 1 (by omega); simp; omega)).mono ?_
                          rintro e z' ⟨rfl, hL, hk⟩
                          go_simp
                          exact hK _ _ ⟨5 + 1, by have h := hF.call (i := 20) rfl (by decide) (by decide) (pc := [Pk.flagB x.1.st]) (by rw [HPC.out]; rfl) hL hk (by decide) hX HBT5.out; rwa [show PV 20 = .pointer (some ⟨(F + 1), 0, none⟩) from by rw [HPV.out]; rfl] at h⟩
                      case fin =>
                        rintro l T z ⟨p, hF⟩ hall
                        have h := hF.c 5 20 rfl
                        rw [hall 20 (by show 20 < 21; omega)] at h
                        have h1 : 5 < p := by simpa using h.symm
                        have hQ : PC.take p = [sB x.2, sB ⟨#[]⟩, Pk.encI 0, Pk.encI 1, sB x.1.name, [Pk.flagB x.1.st]] := by rw [List.take_of_length_le (by rw [HPC.out]; show 6 ≤ p; omega), HPC.out]
                        have hly := hF.ly
                        have hkp := hF.kp
                        rw [hQ] at hly
                        have hxb := hF.x
                        obtain ⟨Q2, HQ2⟩ : ∃ q, Hid (q = Q1 ++ [sB x.2, sB ⟨#[]⟩, Pk.encI 0, Pk.encI 1, sB x.1.name, [Pk.flagB x.1.st]].flatten) := ⟨_, Lib.hid rfl⟩
                        rw [← HQ2.out] at hly
                        have HF := Lib.hid hly
                        have HXB := Lib.hid hxb
                        have hl4 : Q2.length + ((sB x.1.rn).length + (tysB x.1.ps).length) + 50 ≤ 140737488355328 := by have hz := Pk.encI_len 0 (by omega); have ho := Pk.encI_len 1 (by omega); rw [HQ2.out]; simp; omega
                        clear hly hxb hkp hF h h1 hQ hall HL2 HX
                        simp only [actA, setAll, List.setIfInBounds_toArray, List.set_cons_zero, List.set_cons_succ, Nat.zero_add, Nat.reduceAdd]
                        have HC := Lib.hid (clos39 (F + 1) F FS w _ x.1.rn x.1.ra z HF.out (by omega))
                        have c0 := HXB.out.cell 0
                        have c1 := HXB.out.cell 1
                        have c2 := HXB.out.cell 2
                        have c3 := HXB.out.cell 3
                        have c4 := HXB.out.cell 4
                        have c5 := HXB.out.cell 5
                        simp only [List.getElem?_cons_succ, List.getElem?_cons_zero] at c0 c1 c2 c3 c4 c5
                        have p2 := c2
                        go_wp2_with fail
                        refine HC.out.mono ?_
                        rintro e z1 ⟨rfl, hL, hk⟩
                        have HL3 := Lib.hid hL
                        have HX3 := Lib.hid (HXB.out.kp hk (by decide) hX)
                        have hl5 : (Q2 ++ tyB ⟨x.1.rn, x.1.ra⟩).length + (tysB x.1.ps).length + 40 ≤ 140737488355328 := by simp only [tyB, List.length_append, List.length_singleton]; omega
                        clear hL hk HC HF HXB c0 c1 c2 c3 c4 c5 p2
                        obtain ⟨Q3, HQ3⟩ : ∃ q, Hid (q = Q2 ++ tyB ⟨x.1.rn, x.1.ra⟩) := ⟨_, Lib.hid rfl⟩
                        rw [← HQ3.out] at HL3 hl5
                        have he6 : (Pk.encI (n6 : Int)).length = (Pk.enc x.1.ps.length).length := by rw [E6.out]; rfl
                        have hl6 : Q3.length + (Pk.encI (n6 : Int)).length + (x.1.ps.flatMap tyB).length + 40 ≤ 140737488355328 := by simp only [tysB, manyB, List.length_append] at hl5; omega
                        have c2 := HX3.out.cell 2
                        simp only [List.getElem?_cons_succ, List.getElem?_cons_zero] at c2
                        have pp := HL3.out.p.cell 0
                        simp only [List.getElem?_cons_zero] at pp
                        go_wp2_with fail
                        refine (ly_num (n6 : Int) OK6.out _ 1 (HL3.out.al _) (Blk.new _ _ 3) (by have := HL3.out.size; omega) (by omega)).mono ?_
                        rintro e z2 ⟨rfl, hL, hk⟩
                        have HL4 := Lib.hid hL
                        have HX4 := Lib.hid ((HX3.out.below (below1 _ _)).kp hk (by decide) hX)
                        clear hL hk HL3 HX3 c2 pp
                        obtain ⟨Q4, HQ4⟩ : ∃ q, Hid (q = Q3 ++ Pk.encI (n6 : Int)) := ⟨_, Lib.hid rfl⟩
                        rw [← HQ4.out] at HL4
                        have hl7 : Q4.length + (x.1.ps.flatMap tyB).length + 40 ≤ 140737488355328 := by rw [HQ4.out, List.length_append]; omega
                        have c2 := HX4.out.cell 2
                        simp only [List.getElem?_cons_succ, List.getElem?_cons_zero] at c2
                        go_wp2
                        clear c2
                        go_loopw [170] (fun i wr => ∃ j : Nat, j ≤ n6 ∧ i = .int .i64 j ∧ Hid (LyS (F + 1) F FS w (Q4 ++ (x.1.ps.take j).flatMap tyB) wr)) (fun i _ => n6 - (intOf i).toNat)
                        case atStart => exact ⟨0, Nat.zero_le _, rfl, Lib.hid (by simpa using HL4.out)⟩
                        case round =>
                          clear HL4 HX4
                          obtain ⟨j, hj, rfl, HL⟩ := hrel
                          by_cases hjl : j < n6
                          · obtain ⟨y, hy⟩ : ∃ v, x.1.ps[j]? = some v := ⟨_, List.getElem?_eq_getElem (by have := E6.out; omega)⟩
                            obtain ⟨g', o', cs', rfl, hcell', rfl⟩ := HK6.out j y hy
                            have r0 : wr.cell? ⟨g', o' + j * 2, none⟩ = some (.string y.n) := (HL.out.below.cell (World.block_lt_of_cell? _ _ (hcell' 0 _ rfl))).trans (hcell' 0 _ rfl)
                            have r1 : wr.cell? ⟨g', o' + j * 2 + 1, none⟩ = some (.bool y.a) := (HL.out.below.cell (World.block_lt_of_cell? _ _ (hcell' 1 _ rfl))).trans (hcell' 1 _ rfl)
                            have HSJ : Hid (Q4 ++ (x.1.ps.take (j + 1)).flatMap tyB = (Q4 ++ (x.1.ps.take j).flatMap tyB) ++ tyB y) := Lib.hid (by rw [flat_snoc tyB hy, List.append_assoc])
                            have hlj : (Q4 ++ (x.1.ps.take j).flatMap tyB).length + (sB y.n).length + 30 ≤ 140737488355328 := by
                              have h1 := flat_take_le tyB x.1.ps (j + 1)
                              rw [flat_snoc tyB hy] at h1
                              simp only [tyB, List.length_append, List.length_singleton] at h1 hl7 ⊢
                              omega
                            clear hcell' hy
                            generalize (Q4 ++ (x.1.ps.take j).flatMap tyB) = Q5 at *
                            obtain ⟨W3, HW3⟩ : ∃ W, Hid (W = wr.alloc (.cells #[.string y.n, .bool y.a] 60)) := ⟨_, Lib.hid rfl⟩
                            obtain ⟨Y, HYE⟩ : ∃ b, Hid (b = wr.heap.size) := ⟨_, Lib.hid rfl⟩
                            have HY3 : Hid (Blk W3 Y [.string y.n, .bool y.a] 60) := Lib.hid (by rw [HW3.out, HYE.out]; exact Blk.new wr _ 60)
                            have HL3 : Hid (LyS (F + 1) F FS w (Q5) W3) := Lib.hid (by rw [HW3.out]; exact HL.out.al _)
                            go_upto_region 39 with fail
                            rw [← HW3.out, ← HYE.out]
                            clear HW3 HYE HL r0 r1
                            have c0 := HY3.out.cell 0
                            have c1 := HY3.out.cell 1
                            simp only [List.getElem?_cons_succ, List.getElem?_cons_zero] at c0 c1
                            have HC := Lib.hid (clos39 (F + 1) F FS w Q5 y.n y.a W3 HL3.out hlj)
                            go_wp2_with fail
                            refine HC.out.mono ?_
                            rintro e z3 ⟨rfl, hL, _⟩
                            have HR := Lib.hid hL
                            clear hL c0 c1 HL3 HY3 HC
                            go_wp2
                            go_roundw
                            case rel => exact ⟨j + 1, by omega, by go_num, Lib.hid (by rw [HSJ.out]; exact HR.out)⟩
                            case measure => simp [intOf]; omega
                          · have HR : Hid (LyS (F + 1) F FS w (Q1 ++ mtB x) wr) := Lib.hid (by
                              have h := HL.out
                              rw [List.take_of_length_le (by have := E6.out; omega)] at h
                              have e : Q4 ++ x.1.ps.flatMap tyB = Q1 ++ mtB x := by
                                rw [HQ4.out, HQ3.out, HQ2.out, E6.out]
                                simp [mtB, mtF, fcB, manyB, sgB, tysB, Sg.ret, Pk.encI]
                              rwa [e] at h)
                            clear HL
                            go_wp2
                            go_roundw
                            case rel => exact ⟨k + 1, by omega, by go_num, Lib.hid (by rw [HSN.out]; exact HR.out)⟩
                            case measure => simp [intOf]; omega
                    · have HLn : Hid (LyS (F + 1) F FS w (P4 ++ f.mt.flatMap mtB) wr) := Lib.hid (by have h := HL.out; rwa [List.take_of_length_le (by have := E5.out; omega)] at h)
                      obtain ⟨wq, hwq⟩ : ∃ wq, wq = wr := ⟨_, rfl⟩
                      subst hwq
                      clear HL
                      have HL := HLn
                      clear HLn
                      obtain ⟨P5, HP5⟩ : ∃ q, Hid (q = P4 ++ f.mt.flatMap mtB) := ⟨_, Lib.hid rfl⟩
                      rw [← HP5.out] at HL
                      have HPL5 : Hid (P5.length + (f.bd.flatMap bdB).length ≤ 100000000000000) := Lib.hid (by have h := HPL4.out; rw [HP5.out]; simp only [List.length_append]; omega)
                      have f9 := (HL.out.f.cell 9).trans (show FS[9]? = some (.slice a0 n0 c0) by rw [HFS.out]; rfl)
                      go_wp2
                      clear f9
                      go_loopw [182] (fun i wr => ∃ k : Nat, k ≤ n0 ∧ i = .int .i64 k ∧ Hid (LyS (F + 1) F FS w (P5 ++ (f.bd.take k).flatMap bdB) wr)) (fun i _ => n0 - (intOf i).toNat)
                      case atStart => exact ⟨0, Nat.zero_le _, rfl, Lib.hid (by simpa using HL.out)⟩
                      case round =>
                        clear HL
                        obtain ⟨k, hk, rfl, HL⟩ := hrel
                        by_cases hkl : k < n0
                        · obtain ⟨x, hx⟩ : ∃ v, f.bd[k]? = some v := ⟨_, List.getElem?_eq_getElem (by have := E0.out; omega)⟩
                          obtain ⟨g, o, cs, rfl, hcell, a6, n6, c6, rfl, hps⟩ := HK0.out k x hx
                          have q0 : wr.cell? ⟨g, o + k * 3, none⟩ = some (.int .i64 x.lo) := (HL.out.below.cell (World.block_lt_of_cell? _ _ (hcell 0 _ rfl))).trans (hcell 0 _ rfl)
                          have q1 : wr.cell? ⟨g, o + k * 3 + 1, none⟩ = some (.int .i64 x.st) := (HL.out.below.cell (World.block_lt_of_cell? _ _ (hcell 1 _ rfl))).trans (hcell 1 _ rfl)
                          have q2 : wr.cell? ⟨g, o + k * 3 + 2, none⟩ = some (.slice a6 n6 c6) := (HL.out.below.cell (World.block_lt_of_cell? _ _ (hcell 2 _ rfl))).trans (hcell 2 _ rfl)
                          have HXM := Lib.hid (List.mem_of_getElem? hx)
                          have HSN : Hid (P5 ++ (f.bd.take (k + 1)).flatMap bdB = (P5 ++ (f.bd.take k).flatMap bdB) ++ bdB x) := Lib.hid (by rw [flat_snoc bdB hx, List.append_assoc])
                          have HLk : Hid ((P5 ++ (f.bd.take k).flatMap bdB).length + (bdB x).length ≤ 100000000000000) := Lib.hid (by
                            have h1 := flat_take_le bdB f.bd (k + 1)
                            have h2 := HPL5.out
                            rw [flat_snoc bdB hx] at h1
                            simp only [List.length_append] at h1 h2 ⊢
                            omega)
                          have HPS := Lib.hid hps
                          obtain ⟨e6, l6, k6, hk6⟩ := hps.at
                          unfold maxLen at k6
                          have E6 := Lib.hid e6
                          have HK6 := Lib.hid hk6
                          have OK6 : Hid (OkI (n6 : Int)) := Lib.hid ⟨by omega, by omega⟩
                          clear hps e6 hk6
                          clear hcell hx
                          generalize (P5 ++ (f.bd.take k).flatMap bdB) = Q1 at *
                          have hl3 : Q1.length + (x.co.flatMap inB).length + 100 ≤ 140737488355328 := by have := HLk.out; simp only [bdB, manyB, List.length_append] at this; omega
                          have hb1 := HBD.out x HXM.out
                          have ho1 := Lib.hid hb1.1
                          have ho2 := Lib.hid hb1.2.1
                          have ho3 := Lib.hid hb1.2.2
                          clear hb1
                          obtain ⟨X, HXE⟩ : ∃ b, Hid (b = wr.heap.size) := ⟨_, Lib.hid rfl⟩
                          obtain ⟨W2, HW2⟩ : ∃ W, Hid (W = wr.alloc (.cells #[.int .i64 x.lo, .int .i64 x.st, .slice a6 n6 c6] 69)) := ⟨_, Lib.hid rfl⟩
                          have HX : Hid (Blk W2 X [.int .i64 x.lo, .int .i64 x.st, .slice a6 n6 c6] 69) := Lib.hid (by rw [HW2.out, HXE.out]; exact Blk.new wr _ 69)
                          have HL2 : Hid (LyS (F + 1) F FS w (Q1) W2) := Lib.hid (by rw [HW2.out]; exact HL.out.al _)
                          have hX : X ≠ F + 1 := by rw [HXE.out]; have := HL.out.size; omega
                          go_upto_region 45 with fail
                          rw [← HW2.out, ← HXE.out]
                          clear HW2 HXE HL q0 q1 q2
                          obtain ⟨PV, HPV⟩ : ∃ f : Nat → Value, Hid (f = (fun k => match k with | 0 => .pointer (some ⟨F + 1, 0, none⟩) | 1 => .pointer (some ⟨X, 0, none⟩) | 2 => .int .i64 x.lo | 3 => undef | 4 => .pointer (some ⟨(F + 1), 0, none⟩) | 5 => .pointer (some ⟨X, 1, none⟩) | 6 => .int .i64 x.st | 7 => undef | 8 => .pointer (some ⟨(F + 1), 0, none⟩) | 9 => .pointer (some ⟨X, 2, none⟩) | 10 => .slice a6 n6 c6 | 11 => .int .i64 (n6 : Int) | 12 => undef | 13 => .pointer (some ⟨(F + 1), 0, none⟩) | _ => undef)) := ⟨_, Lib.hid rfl⟩
                          obtain ⟨BV, HBV⟩ : ∃ f : Nat → Value, Hid (f = (fun k => match k with | 0 => undef | 1 => undef | 2 => undef | 3 => .int .i64 x.lo | 4 => undef | 5 => undef | 6 => undef | 7 => .int .i64 x.st | 8 => undef | 9 => undef | 10 => undef | 11 => undef | 12 => .int .i64 (n6 : Int) | 13 => undef | _ => undef)) := ⟨_, Lib.hid rfl⟩
                          obtain ⟨BT, HBT⟩ : ∃ f : Nat → TypeId, Hid (f = (fun k => match k with | 0 => 0 | 1 => 0 | 2 => 0 | 3 => 3 | 4 => 0 | 5 => 0 | 6 => 0 | 7 => 3 | 8 => 0 | 9 => 0 | 10 => 0 | 11 => 0 | 12 => 3 | 13 => 0 | _ => 0)) := ⟨_, Lib.hid rfl⟩
                          obtain ⟨PC, HPC⟩ : ∃ f : List (List UInt8), Hid (f = [Pk.encI x.lo, Pk.encI x.st, Pk.encI (n6 : Int)]) := ⟨_, Lib.hid rfl⟩
                          have HBT5 : Hid (∀ k ∈ [3, 7, 12], BT k ≠ 5) := Lib.hid (by rw [HBT.out]; decide)
                          refine wp_region_chain (by kernel_rfl) (fun k => match k with | 0 => [] | 1 => [] | 2 => [1] | 3 => [2] | 4 => [0, 3] | 5 => [] | 6 => [5] | 7 => [6] | 8 => [4, 7] | 9 => [] | 10 => [9] | 11 => [10] | 12 => [11] | 13 => [8, 12] | _ => []) [186, 187, 188, 189, 190, 191, 192, 193, 194, 195, 196, 197, 198, 199] (by kernel_rfl) ?hpre (by kernel_rfl) (by decide) (by intro d hd; have h : d < 225 := (show ∀ d ∈ [186, 187, 188, 189, 190, 191, 192, 193, 194, 195, 196, 197, 198, 199], d < 225 by decide) d hd; exact h) [(3, .pointer (some ⟨F + 1 + 1, 0, none⟩)), (18, .pointer (some ⟨X, 0, none⟩))] ?hbase (fun l T z => ∃ p, ChF (F + 1) F X FS [.int .i64 x.lo, .int .i64 x.st, .slice a6 n6 c6] 69 w Q1 [3, 7, 12] [0, 1, 2, 4, 5, 6, 8, 9, 10, 11, 13] BV PV BT [4, 8, 13] PC W2 l T p z) ?h0 ?step (by kernel_rfl) ?fin
                          case hpre =>
                            intro i j hj
                            show j < 14
                            match i, hj with
                            | 0, hj => cases hj
                            | 1, hj => cases hj
                            | 2, hj => simp at hj; omega
                            | 3, hj => simp at hj; omega
                            | 4, hj => simp at hj; omega
                            | 5, hj => cases hj
                            | 6, hj => simp at hj; omega
                            | 7, hj => simp at hj; omega
                            | 8, hj => simp at hj; omega
                            | 9, hj => cases hj
                            | 10, hj => simp at hj; omega
                            | 11, hj => simp at hj; omega
                            | 12, hj => simp at hj; omega
                            | 13, hj => simp at hj; omega
                            | i + 14, hj => cases hj
                          case hbase =>
                            intro q hq
                            simp only [List.mem_cons, List.not_mem_nil, or_false] at hq
                            rcases hq with rfl | rfl
                            · exact ⟨rfl, by simp⟩
                            · exact ⟨rfl, by simp⟩
                          case h0 =>
                            exact fun T => ⟨0, ⟨rfl, rfl, rfl, Nat.le_refl _, fun _ _ _ => rfl, fun _ _ _ _ => rfl⟩, fun c k hk => by simp, by simpa using HL2.out.drw, HX.out, fun k _ h => (by cases h), fun k _ h => (by cases h)⟩
                          case step =>
                            rintro l T z ⟨p, hF⟩ i o hi ho hl hpr A hA hB K' hK
                            have hi' : i < 14 := hi
                            rcases (show i = 0 ∨ i = 1 ∨ i = 2 ∨ i = 3 ∨ i = 4 ∨ i = 5 ∨ i = 6 ∨ i = 7 ∨ i = 8 ∨ i = 9 ∨ i = 10 ∨ i = 11 ∨ i = 12 ∨ i = 13 by omega) with rfl | rfl | rfl | rfl | rfl | rfl | rfl | rfl | rfl | rfl | rfl | rfl | rfl | rfl
                            · obtain rfl := Option.some.inj (show some _ = some o from ho)
                              dsimp only [List.getElem_toArray, List.getElem_cons_zero, List.getElem_cons_succ] at hK ⊢
                              have h3 : A.tmps.getD 3 undef = .pointer (some ⟨F + 1 + 1, 0, none⟩) := hB (3, .pointer (some ⟨F + 1 + 1, 0, none⟩)) (by simp)
                              have h18 : A.tmps.getD 18 undef = .pointer (some ⟨X, 0, none⟩) := hB (18, .pointer (some ⟨X, 0, none⟩)) (by simp)
                              have c0 := hF.ly.p.cell 0
                              simp only [List.getElem?_cons_zero] at c0
                              clear hA hB
                              go_simp
                              exact hK _ _ ⟨p, by have h := hF.pure (i := 0) (by decide) (by decide); rwa [show PV 0 = .pointer (some ⟨F + 1, 0, none⟩) from by rw [HPV.out]; rfl] at h⟩
                            · obtain rfl := Option.some.inj (show some _ = some o from ho)
                              dsimp only [List.getElem_toArray, List.getElem_cons_zero, List.getElem_cons_succ] at hK ⊢
                              have h3 : A.tmps.getD 3 undef = .pointer (some ⟨F + 1 + 1, 0, none⟩) := hB (3, .pointer (some ⟨F + 1 + 1, 0, none⟩)) (by simp)
                              have h18 : A.tmps.getD 18 undef = .pointer (some ⟨X, 0, none⟩) := hB (18, .pointer (some ⟨X, 0, none⟩)) (by simp)
                              clear hA hB
                              go_simp
                              exact hK _ _ ⟨p, by have h := hF.pure (i := 1) (by decide) (by decide); rwa [show PV 1 = .pointer (some ⟨X, 0, none⟩) from by rw [HPV.out]; rfl] at h⟩
                            · obtain rfl := Option.some.inj (show some _ = some o from ho)
                              dsimp only [List.getElem_toArray, List.getElem_cons_zero, List.getElem_cons_succ] at hK ⊢
                              have g1 : A.tmps.getD 187 undef = .pointer (some ⟨X, 0, none⟩) := (hA 1 187 rfl).trans ((hF.ps 1 (by decide) (hpr 1 (by decide))).trans (by rw [HPV.out]; rfl))
                              have h3 : A.tmps.getD 3 undef = .pointer (some ⟨F + 1 + 1, 0, none⟩) := hB (3, .pointer (some ⟨F + 1 + 1, 0, none⟩)) (by simp)
                              have h18 : A.tmps.getD 18 undef = .pointer (some ⟨X, 0, none⟩) := hB (18, .pointer (some ⟨X, 0, none⟩)) (by simp)
                              have f1 : A.tmps[187]?.getD undef = _ := (Array.getD_eq_getD_getElem? ..).symm.trans g1
                              have c0 := hF.x.cell 0
                              simp only [List.getElem?_cons_zero] at c0
                              clear hA hB
                              go_simp
                              exact hK _ _ ⟨p, by have h := hF.pure (i := 2) (by decide) (by decide); rwa [show PV 2 = .int .i64 x.lo from by rw [HPV.out]; rfl] at h⟩
                            · obtain rfl := Option.some.inj (show some _ = some o from ho)
                              dsimp only [List.getElem_toArray, List.getElem_cons_zero, List.getElem_cons_succ] at hK ⊢
                              have g2 : A.tmps.getD 188 undef = .int .i64 x.lo := (hA 2 188 rfl).trans ((hF.ps 2 (by decide) (hpr 2 (by decide))).trans (by rw [HPV.out]; rfl))
                              have h3 : A.tmps.getD 3 undef = .pointer (some ⟨F + 1 + 1, 0, none⟩) := hB (3, .pointer (some ⟨F + 1 + 1, 0, none⟩)) (by simp)
                              have h18 : A.tmps.getD 18 undef = .pointer (some ⟨X, 0, none⟩) := hB (18, .pointer (some ⟨X, 0, none⟩)) (by simp)
                              have f2 : A.tmps[188]?.getD undef = _ := (Array.getD_eq_getD_getElem? ..).symm.trans g2
                              clear hA hB
                              go_simp
                              exact hK _ _ ⟨p, by have h := hF.build (i := 3) (by decide) (by decide); rwa [show BV 3 = .int .i64 x.lo from by rw [HBV.out]; rfl, show BT 3 = 3 from by rw [HBT.out]; rfl] at h⟩
                            · obtain rfl := Option.some.inj (show some _ = some o from ho)
                              dsimp only [List.getElem_toArray, List.getElem_cons_zero, List.getElem_cons_succ] at hK ⊢
                              have g0 : A.tmps.getD 186 undef = .pointer (some ⟨F + 1, 0, none⟩) := (hA 0 186 rfl).trans ((hF.ps 0 (by decide) (hpr 0 (by decide))).trans (by rw [HPV.out]; rfl))
                              obtain ⟨b3, gg3, hb3, hn3⟩ := hF.bs 3 (by decide) (hpr 3 (by decide))
                              have g3 : A.tmps.getD 189 undef = .slice (some ⟨b3, 0, none⟩) 1 1 := (hA 3 189 rfl).trans gg3
                              rw [HBV.out, HBT.out] at hb3
                              have h3 : A.tmps.getD 3 undef = .pointer (some ⟨F + 1 + 1, 0, none⟩) := hB (3, .pointer (some ⟨F + 1 + 1, 0, none⟩)) (by simp)
                              have h18 : A.tmps.getD 18 undef = .pointer (some ⟨X, 0, none⟩) := hB (18, .pointer (some ⟨X, 0, none⟩)) (by simp)
                              have f0 : A.tmps[186]?.getD undef = _ := (Array.getD_eq_getD_getElem? ..).symm.trans g0
                              have f3 : A.tmps[189]?.getD undef = _ := (Array.getD_eq_getD_getElem? ..).symm.trans g3
                              obtain rfl : p = 0 := hF.at (c := 0) rfl hl (fun c' k' hc => by omega)
                              clear hA hB
                              have hly := hF.ly
                              have HLY := Lib.hid hly
                              have HT : Hid (PC.take 0 = []) := Lib.hid (by rw [HPC.out]; rfl)
                              go_simp
                              refine (ly_num x.lo ho1.out b3 1 HLY.out hb3 hn3 (by rw [HT.out]; simp; omega)).mono ?_
                              rintro e z' ⟨rfl, hL, hk⟩
                              go_simp
                              exact hK _ _ ⟨0 + 1, by have h := hF.call (i := 4) rfl (by decide) (by decide) (pc := Pk.encI x.lo) (by rw [HPC.out]; rfl) hL hk (by decide) hX HBT5.out; rwa [show PV 4 = .pointer (some ⟨(F + 1), 0, none⟩) from by rw [HPV.out]; rfl] at h⟩
                            · obtain rfl := Option.some.inj (show some _ = some o from ho)
                              dsimp only [List.getElem_toArray, List.getElem_cons_zero, List.getElem_cons_succ] at hK ⊢
                              have h3 : A.tmps.getD 3 undef = .pointer (some ⟨F + 1 + 1, 0, none⟩) := hB (3, .pointer (some ⟨F + 1 + 1, 0, none⟩)) (by simp)
                              have h18 : A.tmps.getD 18 undef = .pointer (some ⟨X, 0, none⟩) := hB (18, .pointer (some ⟨X, 0, none⟩)) (by simp)
                              clear hA hB
                              go_simp
                              exact hK _ _ ⟨p, by have h := hF.pure (i := 5) (by decide) (by decide); rwa [show PV 5 = .pointer (some ⟨X, 1, none⟩) from by rw [HPV.out]; rfl] at h⟩
                            · obtain rfl := Option.some.inj (show some _ = some o from ho)
                              dsimp only [List.getElem_toArray, List.getElem_cons_zero, List.getElem_cons_succ] at hK ⊢
                              have g5 : A.tmps.getD 191 undef = .pointer (some ⟨X, 1, none⟩) := (hA 5 191 rfl).trans ((hF.ps 5 (by decide) (hpr 5 (by decide))).trans (by rw [HPV.out]; rfl))
                              have h3 : A.tmps.getD 3 undef = .pointer (some ⟨F + 1 + 1, 0, none⟩) := hB (3, .pointer (some ⟨F + 1 + 1, 0, none⟩)) (by simp)
                              have h18 : A.tmps.getD 18 undef = .pointer (some ⟨X, 0, none⟩) := hB (18, .pointer (some ⟨X, 0, none⟩)) (by simp)
                              have f5 : A.tmps[191]?.getD undef = _ := (Array.getD_eq_getD_getElem? ..).symm.trans g5
                              have c0 := hF.x.cell 1
                              simp only [List.getElem?_cons_succ, List.getElem?_cons_zero] at c0
                              clear hA hB
                              go_simp
                              exact hK _ _ ⟨p, by have h := hF.pure (i := 6) (by decide) (by decide); rwa [show PV 6 = .int .i64 x.st from by rw [HPV.out]; rfl] at h⟩
                            · obtain rfl := Option.some.inj (show some _ = some o from ho)
                              dsimp only [List.getElem_toArray, List.getElem_cons_zero, List.getElem_cons_succ] at hK ⊢
                              have g6 : A.tmps.getD 192 undef = .int .i64 x.st := (hA 6 192 rfl).trans ((hF.ps 6 (by decide) (hpr 6 (by decide))).trans (by rw [HPV.out]; rfl))
                              have h3 : A.tmps.getD 3 undef = .pointer (some ⟨F + 1 + 1, 0, none⟩) := hB (3, .pointer (some ⟨F + 1 + 1, 0, none⟩)) (by simp)
                              have h18 : A.tmps.getD 18 undef = .pointer (some ⟨X, 0, none⟩) := hB (18, .pointer (some ⟨X, 0, none⟩)) (by simp)
                              have f6 : A.tmps[192]?.getD undef = _ := (Array.getD_eq_getD_getElem? ..).symm.trans g6
                              clear hA hB
                              go_simp
                              exact hK _ _ ⟨p, by have h := hF.build (i := 7) (by decide) (by decide); rwa [show BV 7 = .int .i64 x.st from by rw [HBV.out]; rfl, show BT 7 = 3 from by rw [HBT.out]; rfl] at h⟩
                            · obtain rfl := Option.some.inj (show some _ = some o from ho)
                              dsimp only [List.getElem_toArray, List.getElem_cons_zero, List.getElem_cons_succ] at hK ⊢
                              have g4 : A.tmps.getD 190 undef = .pointer (some ⟨(F + 1), 0, none⟩) := (hA 4 190 rfl).trans ((hF.ps 4 (by decide) (hpr 4 (by decide))).trans (by rw [HPV.out]; rfl))
                              obtain ⟨b7, gg7, hb7, hn7⟩ := hF.bs 7 (by decide) (hpr 7 (by decide))
                              have g7 : A.tmps.getD 193 undef = .slice (some ⟨b7, 0, none⟩) 1 1 := (hA 7 193 rfl).trans gg7
                              rw [HBV.out, HBT.out] at hb7
                              have h3 : A.tmps.getD 3 undef = .pointer (some ⟨F + 1 + 1, 0, none⟩) := hB (3, .pointer (some ⟨F + 1 + 1, 0, none⟩)) (by simp)
                              have h18 : A.tmps.getD 18 undef = .pointer (some ⟨X, 0, none⟩) := hB (18, .pointer (some ⟨X, 0, none⟩)) (by simp)
                              have f4 : A.tmps[190]?.getD undef = _ := (Array.getD_eq_getD_getElem? ..).symm.trans g4
                              have f7 : A.tmps[193]?.getD undef = _ := (Array.getD_eq_getD_getElem? ..).symm.trans g7
                              obtain rfl : p = 1 := hF.at (c := 1) rfl hl (fun c' k' hc hk => by (obtain rfl : c' = 0 := (by omega)); (obtain rfl : 4 = k' := (by simpa using hk)); exact hpr 4 (by decide))
                              clear hA hB
                              have hly := hF.ly
                              have HLY := Lib.hid hly
                              have HT : Hid (PC.take 1 = [Pk.encI x.lo]) := Lib.hid (by rw [HPC.out]; rfl)
                              go_simp
                              refine (ly_num x.st ho2.out b7 1 HLY.out hb7 hn7 (by rw [HT.out]; have hz1 := Pk.encI_len x.lo ho1.out.2; have hz2 := Pk.encI_len x.st ho2.out.2; simp; omega)).mono ?_
                              rintro e z' ⟨rfl, hL, hk⟩
                              go_simp
                              exact hK _ _ ⟨1 + 1, by have h := hF.call (i := 8) rfl (by decide) (by decide) (pc := Pk.encI x.st) (by rw [HPC.out]; rfl) hL hk (by decide) hX HBT5.out; rwa [show PV 8 = .pointer (some ⟨(F + 1), 0, none⟩) from by rw [HPV.out]; rfl] at h⟩
                            · obtain rfl := Option.some.inj (show some _ = some o from ho)
                              dsimp only [List.getElem_toArray, List.getElem_cons_zero, List.getElem_cons_succ] at hK ⊢
                              have h3 : A.tmps.getD 3 undef = .pointer (some ⟨F + 1 + 1, 0, none⟩) := hB (3, .pointer (some ⟨F + 1 + 1, 0, none⟩)) (by simp)
                              have h18 : A.tmps.getD 18 undef = .pointer (some ⟨X, 0, none⟩) := hB (18, .pointer (some ⟨X, 0, none⟩)) (by simp)
                              clear hA hB
                              go_simp
                              exact hK _ _ ⟨p, by have h := hF.pure (i := 9) (by decide) (by decide); rwa [show PV 9 = .pointer (some ⟨X, 2, none⟩) from by rw [HPV.out]; rfl] at h⟩
                            · obtain rfl := Option.some.inj (show some _ = some o from ho)
                              dsimp only [List.getElem_toArray, List.getElem_cons_zero, List.getElem_cons_succ] at hK ⊢
                              have g9 : A.tmps.getD 195 undef = .pointer (some ⟨X, 2, none⟩) := (hA 9 195 rfl).trans ((hF.ps 9 (by decide) (hpr 9 (by decide))).trans (by rw [HPV.out]; rfl))
                              have h3 : A.tmps.getD 3 undef = .pointer (some ⟨F + 1 + 1, 0, none⟩) := hB (3, .pointer (some ⟨F + 1 + 1, 0, none⟩)) (by simp)
                              have h18 : A.tmps.getD 18 undef = .pointer (some ⟨X, 0, none⟩) := hB (18, .pointer (some ⟨X, 0, none⟩)) (by simp)
                              have f9 : A.tmps[195]?.getD undef = _ := (Array.getD_eq_getD_getElem? ..).symm.trans g9
                              have c0 := hF.x.cell 2
                              simp only [List.getElem?_cons_succ, List.getElem?_cons_zero] at c0
                              clear hA hB
                              go_simp
                              exact hK _ _ ⟨p, by have h := hF.pure (i := 10) (by decide) (by decide); rwa [show PV 10 = .slice a6 n6 c6 from by rw [HPV.out]; rfl] at h⟩
                            · obtain rfl := Option.some.inj (show some _ = some o from ho)
                              dsimp only [List.getElem_toArray, List.getElem_cons_zero, List.getElem_cons_succ] at hK ⊢
                              have g10 : A.tmps.getD 196 undef = .slice a6 n6 c6 := (hA 10 196 rfl).trans ((hF.ps 10 (by decide) (hpr 10 (by decide))).trans (by rw [HPV.out]; rfl))
                              have h3 : A.tmps.getD 3 undef = .pointer (some ⟨F + 1 + 1, 0, none⟩) := hB (3, .pointer (some ⟨F + 1 + 1, 0, none⟩)) (by simp)
                              have h18 : A.tmps.getD 18 undef = .pointer (some ⟨X, 0, none⟩) := hB (18, .pointer (some ⟨X, 0, none⟩)) (by simp)
                              have f10 : A.tmps[196]?.getD undef = _ := (Array.getD_eq_getD_getElem? ..).symm.trans g10
                              clear hA hB
                              go_simp
                              exact hK _ _ ⟨p, by have h := hF.pure (i := 11) (by decide) (by decide); rwa [show PV 11 = .int .i64 (n6 : Int) from by rw [HPV.out]; rfl] at h⟩
                            · obtain rfl := Option.some.inj (show some _ = some o from ho)
                              dsimp only [List.getElem_toArray, List.getElem_cons_zero, List.getElem_cons_succ] at hK ⊢
                              have g11 : A.tmps.getD 197 undef = .int .i64 (n6 : Int) := (hA 11 197 rfl).trans ((hF.ps 11 (by decide) (hpr 11 (by decide))).trans (by rw [HPV.out]; rfl))
                              have h3 : A.tmps.getD 3 undef = .pointer (some ⟨F + 1 + 1, 0, none⟩) := hB (3, .pointer (some ⟨F + 1 + 1, 0, none⟩)) (by simp)
                              have h18 : A.tmps.getD 18 undef = .pointer (some ⟨X, 0, none⟩) := hB (18, .pointer (some ⟨X, 0, none⟩)) (by simp)
                              have f11 : A.tmps[197]?.getD undef = _ := (Array.getD_eq_getD_getElem? ..).symm.trans g11
                              clear hA hB
                              go_simp
                              exact hK _ _ ⟨p, by have h := hF.build (i := 12) (by decide) (by decide); rwa [show BV 12 = .int .i64 (n6 : Int) from by rw [HBV.out]; rfl, show BT 12 = 3 from by rw [HBT.out]; rfl] at h⟩
                            · obtain rfl := Option.some.inj (show some _ = some o from ho)
                              dsimp only [List.getElem_toArray, List.getElem_cons_zero, List.getElem_cons_succ] at hK ⊢
                              have g8 : A.tmps.getD 194 undef = .pointer (some ⟨(F + 1), 0, none⟩) := (hA 8 194 rfl).trans ((hF.ps 8 (by decide) (hpr 8 (by decide))).trans (by rw [HPV.out]; rfl))
                              obtain ⟨b12, gg12, hb12, hn12⟩ := hF.bs 12 (by decide) (hpr 12 (by decide))
                              have g12 : A.tmps.getD 198 undef = .slice (some ⟨b12, 0, none⟩) 1 1 := (hA 12 198 rfl).trans gg12
                              rw [HBV.out, HBT.out] at hb12
                              have h3 : A.tmps.getD 3 undef = .pointer (some ⟨F + 1 + 1, 0, none⟩) := hB (3, .pointer (some ⟨F + 1 + 1, 0, none⟩)) (by simp)
                              have h18 : A.tmps.getD 18 undef = .pointer (some ⟨X, 0, none⟩) := hB (18, .pointer (some ⟨X, 0, none⟩)) (by simp)
                              have f8 : A.tmps[194]?.getD undef = _ := (Array.getD_eq_getD_getElem? ..).symm.trans g8
                              have f12 : A.tmps[198]?.getD undef = _ := (Array.getD_eq_getD_getElem? ..).symm.trans g12
                              obtain rfl : p = 2 := hF.at (c := 2) rfl hl (fun c' k' hc hk => by (obtain rfl : c' = 1 := (by omega)); (obtain rfl : 8 = k' := (by simpa using hk)); exact hpr 8 (by decide))
                              clear hA hB
                              have hly := hF.ly
                              have HLY := Lib.hid hly
                              have HT : Hid (PC.take 2 = [Pk.encI x.lo, Pk.encI x.st]) := Lib.hid (by rw [HPC.out]; rfl)
                              go_simp
                              refine (ly_num (n6 : Int) OK6.out b12 1 HLY.out hb12 hn12 (by rw [HT.out]; have hz1 := Pk.encI_len x.lo ho1.out.2; have hz2 := Pk.encI_len x.st ho2.out.2; simp; omega)).mono ?_
                              rintro e z' ⟨rfl, hL, hk⟩
                              go_simp
                              exact hK _ _ ⟨2 + 1, by have h := hF.call (i := 13) rfl (by decide) (by decide) (pc := Pk.encI (n6 : Int)) (by rw [HPC.out]; rfl) hL hk (by decide) hX HBT5.out; rwa [show PV 13 = .pointer (some ⟨(F + 1), 0, none⟩) from by rw [HPV.out]; rfl] at h⟩
                          case fin =>
                            rintro l T z ⟨p, hF⟩ hall
                            have h := hF.c 2 13 rfl
                            rw [hall 13 (by show 13 < 14; omega)] at h
                            have h1 : 2 < p := by simpa using h.symm
                            have hQ : PC.take p = [Pk.encI x.lo, Pk.encI x.st, Pk.encI (n6 : Int)] := by rw [List.take_of_length_le (by rw [HPC.out]; show 3 ≤ p; omega), HPC.out]
                            have hly := hF.ly
                            have hkp := hF.kp
                            rw [hQ] at hly
                            have hxb := hF.x
                            obtain ⟨Q2, HQ2⟩ : ∃ q, Hid (q = Q1 ++ [Pk.encI x.lo, Pk.encI x.st, Pk.encI (n6 : Int)].flatten) := ⟨_, Lib.hid rfl⟩
                            rw [← HQ2.out] at hly
                            have HF := Lib.hid hly
                            have HXB := Lib.hid hxb
                            have hl4 : Q2.length + (x.co.flatMap inB).length + 50 ≤ 140737488355328 := by have hz1 := Pk.encI_len x.lo ho1.out.2; have hz2 := Pk.encI_len x.st ho2.out.2; have hz3 := Pk.encI_len (n6 : Int) OK6.out.2; rw [HQ2.out]; simp only [List.flatten_cons, List.flatten_nil, List.append_nil, List.length_append]; omega
                            clear hly hxb hkp hF h h1 hQ hall HL2 HX
                            simp only [actA, setAll, List.setIfInBounds_toArray, List.set_cons_zero, List.set_cons_succ, Nat.zero_add, Nat.reduceAdd]
                            have c0 := HXB.out.cell 0
                            have c1 := HXB.out.cell 1
                            have c2 := HXB.out.cell 2
                            simp only [List.getElem?_cons_succ, List.getElem?_cons_zero] at c0 c1 c2
                            go_wp2
                            clear c0 c1 c2
                            go_loopw [203] (fun i wr => ∃ j : Nat, j ≤ n6 ∧ i = .int .i64 j ∧ Hid (LyS (F + 1) F FS w (Q2 ++ (x.co.take j).flatMap inB) wr)) (fun i _ => n6 - (intOf i).toNat)
                            case atStart => exact ⟨0, Nat.zero_le _, rfl, Lib.hid (by simpa using HF.out)⟩
                            case round =>
                              clear HF HXB
                              obtain ⟨j, hj, rfl, HL⟩ := hrel
                              by_cases hjl : j < n6
                              · obtain ⟨y, hy⟩ : ∃ v, x.co[j]? = some v := ⟨_, List.getElem?_eq_getElem (by have := E6.out; omega)⟩
                                obtain ⟨g', o', cs', rfl, hcell', rfl⟩ := HK6.out j y hy
                                have r0 : wr.cell? ⟨g', o' + j * 2, none⟩ = some (.int .i64 y.1) := (HL.out.below.cell (World.block_lt_of_cell? _ _ (hcell' 0 _ rfl))).trans (hcell' 0 _ rfl)
                                have r1 : wr.cell? ⟨g', o' + j * 2 + 1, none⟩ = some (.int .i64 y.2) := (HL.out.below.cell (World.block_lt_of_cell? _ _ (hcell' 1 _ rfl))).trans (hcell' 1 _ rfl)
                                have HSJ : Hid (Q2 ++ (x.co.take (j + 1)).flatMap inB = (Q2 ++ (x.co.take j).flatMap inB) ++ inB y) := Lib.hid (by rw [flat_snoc inB hy, List.append_assoc])
                                have hlj : (Q2 ++ (x.co.take j).flatMap inB).length + 40 ≤ 140737488355328 := by
                                  have h1 := flat_take_le inB x.co j
                                  simp only [List.length_append]
                                  omega
                                have oy := ho3.out y (List.mem_of_getElem? hy)
                                have OY1 := Lib.hid oy.1
                                have OY2 := Lib.hid oy.2
                                clear hcell' hy oy
                                generalize (Q2 ++ (x.co.take j).flatMap inB) = Q5 at *
                                obtain ⟨W3, HW3⟩ : ∃ W, Hid (W = wr.alloc (.cells #[.int .i64 y.1, .int .i64 y.2] 66)) := ⟨_, Lib.hid rfl⟩
                                obtain ⟨Y, HYE⟩ : ∃ b, Hid (b = wr.heap.size) := ⟨_, Lib.hid rfl⟩
                                have hY : Y ≠ F + 1 := by rw [HYE.out]; have := HL.out.size; omega
                                have HY3 : Hid (Blk W3 Y [.int .i64 y.1, .int .i64 y.2] 66) := Lib.hid (by rw [HW3.out, HYE.out]; exact Blk.new wr _ 66)
                                have HL3 : Hid (LyS (F + 1) F FS w (Q5) W3) := Lib.hid (by rw [HW3.out]; exact HL.out.al _)
                                go_upto_region 49 with fail
                                rw [← HW3.out, ← HYE.out]
                                clear HW3 HYE HL r0 r1
                                have c0 := HY3.out.cell 0
                                simp only [List.getElem?_cons_zero] at c0
                                have pp := HL3.out.p.cell 0
                                simp only [List.getElem?_cons_zero] at pp
                                go_wp2_with fail
                                refine (ly_num y.1 OY1.out _ 1 (HL3.out.al _) (Blk.new _ _ 3) (by have := HL3.out.size; omega) (by omega)).mono ?_
                                rintro e z2 ⟨rfl, hL, hk⟩
                                have HL4 := Lib.hid hL
                                have HY4 := Lib.hid ((HY3.out.below (below1 _ _)).kp hk (by decide) hY)
                                clear hL hk HL3 HY3 c0 pp
                                have c0 := HY4.out.cell 0
                                have c1 := HY4.out.cell 1
                                simp only [List.getElem?_cons_succ, List.getElem?_cons_zero] at c0 c1
                                have pp := HL4.out.p.cell 0
                                simp only [List.getElem?_cons_zero] at pp
                                have HPO := Lib.hid (pool10 y.1 z2 (HT.out.below HL4.out.below))
                                have HIN : Hid (inB y = Pk.encI y.1 ++ (if poolN (kd y.1) = 0 then [] else Pk.encI y.2)) := Lib.hid rfl
                                have hly : (Q5 ++ Pk.encI y.1).length + 9 ≤ 140737488355328 := by have := Pk.encI_len y.1 OY1.out.2; rw [List.length_append]; omega
                                generalize poolN (kd y.1) = PN at *
                                by_cases hp : PN = 0
                                · subst hp
                                  have HR : Hid (LyS (F + 1) F FS w (Q2 ++ (x.co.take (j + 1)).flatMap inB) z2) := Lib.hid (by rw [HSJ.out, HIN.out, if_pos rfl, List.append_nil]; exact HL4.out)
                                  clear HL4 HY4 HSJ HIN
                                  go_wp2_with fail
                                  refine HPO.out.mono ?_
                                  rintro e z3 ⟨rfl, rfl⟩
                                  clear HPO c0 c1 pp
                                  go_wp2
                                  go_roundw
                                  case rel => exact ⟨j + 1, by omega, by go_num, HR⟩
                                  case measure => simp [intOf]; omega
                                · have hpp : (PN == 0) = false := by simpa using hp
                                  have HNP := Lib.hid hp
                                  clear hp
                                  go_wp2_with fail
                                  refine HPO.out.mono ?_
                                  rintro e z3 ⟨rfl, rfl⟩
                                  clear HPO
                                  go_wp2_with fail
                                  refine (ly_num y.2 OY2.out _ 1 (HL4.out.al _) (Blk.new _ _ 3) (by have := HL4.out.size; omega) hly).mono ?_
                                  rintro e z3 ⟨rfl, hL, hk⟩
                                  have HR : Hid (LyS (F + 1) F FS w (Q2 ++ (x.co.take (j + 1)).flatMap inB) z3) := Lib.hid (by rw [HSJ.out, HIN.out, if_neg HNP.out, ← List.append_assoc]; exact hL)
                                  clear hL hk HL4 HY4 c0 c1 pp HSJ HIN
                                  go_wp2
                                  go_roundw
                                  case rel => exact ⟨j + 1, by omega, by go_num, HR⟩
                                  case measure => simp [intOf]; omega
                              · have HR : Hid (LyS (F + 1) F FS w (Q1 ++ bdB x) wr) := Lib.hid (by
                                  have h := HL.out
                                  rw [List.take_of_length_le (by have := E6.out; omega)] at h
                                  have e : Q2 ++ x.co.flatMap inB = Q1 ++ bdB x := by
                                    rw [HQ2.out, E6.out]
                                    simp [bdB, manyB, Pk.encI]
                                  rwa [e] at h)
                                clear HL
                                go_wp2
                                go_roundw
                                case rel => exact ⟨k + 1, by omega, by go_num, Lib.hid (by rw [HSN.out]; exact HR.out)⟩
                                case measure => simp [intOf]; omega
                        · have HLn : Hid (LyS (F + 1) F FS w (P5 ++ f.bd.flatMap bdB) wr) := Lib.hid (by have h := HL.out; rwa [List.take_of_length_le (by have := E0.out; omega)] at h)
                          obtain ⟨wq, hwq⟩ : ∃ wq, wq = wr := ⟨_, rfl⟩
                          subst hwq
                          clear HL
                          have HL := HLn
                          clear HLn
                          have pp := HL.out.p.cell 0
                          simp only [List.getElem?_cons_zero] at pp
                          have HE : Hid (P5 ++ f.bd.flatMap bdB = flB f) := Lib.hid (by
                            rw [HP5.out, HP4.out, HP3.out, HP2.out, HP1.out, HP0.out]
                            unfold flB poB manyB
                            rw [← E1.out, ← E2.out, ← E3.out, ← E4.out, ← E5.out]
                            simp only [Pk.encI, Int.toNat_natCast, List.append_assoc])
                          rw [HE.out] at HL
                          go_wp2_with fail
                          refine (Pk.string_any _ _ _ _ HL.out.a).mono ?_
                          rintro e w3 ⟨rfl, rfl⟩
                          have HB := Lib.hid HL.out.below
                          clear HL HE pp
                          go_wp2
                          go_ret
                          exact ⟨rfl, HB.out⟩
end Go.Proofs.YtomlbfkkhhhfkaaDoor.Fc
