/-
  A face as bytes, wherever it lies; a method alone.
-/
import Derived.Test.YtomlbfkkhhhfkaaDoorCsLay
namespace Go.Proofs.YtomlbfkkhhhfkaaDoor.Fc
open Go.RowKit
set_option linter.unusedVariables false

set_option maxHeartbeats 4000000 in
set_option maxRecDepth 100000 in
theorem lay12h (W : World) (f : Fc) (cs : List Value) (hf : FcR W f cs) (base bw : Nat) (bs : List UInt8) (w : World) (hold : ∀ z, Pk.Kp base bw w z → ∀ p v, W.cell? p = some v → z.cell? p = some v) (hw : Pk.WAt base bw w bs) (hlt : bw < base) (hb : base ≤ w.heap.size) (hlen : bs.length + (fcB f).length + 20 ≤ 140737488355328) :
    Calls Tryd.prog 33 #[.agg cs.toArray, .pointer (some ⟨bw, 0, none⟩)] w fun e w' => e = .returned (.tuple #[]) ∧ Pk.WAt base bw w' (bs ++ fcB f) ∧ Pk.Kp base bw w w' := by
  obtain ⟨a1, n1, c1, a2, n2, c2, rfl, hf1, hm1⟩ := hf
  obtain ⟨e1, l1, k1, hk1⟩ := hf1.at
  obtain ⟨e2, l2, k2, hk2⟩ := hm1.at
  unfold maxLen at k1 k2
  have E1 := Lib.hid e1
  have E2 := Lib.hid e2
  have HK1 := Lib.hid hk1
  have HK2 := Lib.hid hk2
  have HBW := Lib.hid hold
  have HLN : Hid (bs.length + ((sB f.name).length + ((sB f.sup).length + ((Pk.enc f.fs.length).length + (f.fs.flatMap vrB).length + ((Pk.enc f.ms.length).length + (f.ms.flatMap sgB).length)))) + 20 ≤ 140737488355328) := Lib.hid (by simpa only [fcB, manyB, List.length_append, Nat.add_assoc] using hlen)
  clear e1 e2 hk1 hk2 hf1 hm1 hold hlen
  have HW1 : Hid (Pk.WAt base bw (w.alloc (.cells #[.string f.name, .string f.sup, .slice a1 n1 c1, .slice a2 n2 c2] 25)) bs) := Lib.hid (wat_al hw _)
  have K0 : Hid (Blk (w.alloc (.cells #[.string f.name, .string f.sup, .slice a1 n1 c1, .slice a2 n2 c2] 25)) w.heap.size [.string f.name, .string f.sup, .slice a1 n1 c1, .slice a2 n2 c2] 25) := Lib.hid (Blk.new w [.string f.name, .string f.sup, .slice a1 n1 c1, .slice a2 n2 c2] 25)
  clear hw
  go_enter Tryd.func33, Tryd.ntmps33
  go_wp2_with fail
  refine (text2 base bw f.name f.sup _ _ bs _ (wat_al HW1.out _) hlt (by simp; omega) (Blk.newAt (by simp) [.string f.name, .string f.sup] 9) (by omega) (by have := HLN.out; omega)).mono ?_
  rintro e w2 ⟨rfl, hw2, hk2⟩
  have hs2 := hk2.size
  simp at hs2
  have B2 := (K0.out.al _).kp hk2 (by decide) (by omega)
  have q2 := B2.cell 2
  simp only [List.getElem?_cons_succ, List.getElem?_cons_zero] at q2
  have HW2 := Lib.hid hw2
  have HB2 := Lib.hid B2
  have HKA : Hid (Pk.Kp base bw w w2) := Lib.hid (Pk.Kp.trans (kp_al (kp_al (Pk.Kp.refl base bw w) hb _) hb _) hk2)
  clear hw2 B2 hk2 HW1 K0
  go_wp2_with fail
  refine (num1 base bw n1 _ _ _ _ (wat_al HW2.out _) hlt (by simp; omega) (Blk.newAt (by simp) [.int .i64 n1] 3) (by omega) (by omega) (by have := HLN.out; simp only [List.length_append]; omega)).mono ?_
  rintro e w3 ⟨rfl, hw3, hk3⟩
  have hs3 := hk3.size
  simp at hs3
  have B3 := (HB2.out.al _).kp hk3 (by decide) (by omega)
  have q3 := B3.cell 2
  simp only [List.getElem?_cons_succ, List.getElem?_cons_zero] at q3
  have HW3 := Lib.hid hw3
  have HB3 := Lib.hid B3
  have HKB : Hid (Pk.Kp base bw w w3) := Lib.hid (Pk.Kp.trans (kp_al HKA.out hb _) hk3)
  clear hw3 B3 hk3 HW2 HB2 HKA
  obtain ⟨P1, HP1⟩ : ∃ P1, Hid (P1 = bs ++ (sB f.name ++ sB f.sup) ++ Pk.enc n1) := ⟨_, Lib.hid rfl⟩
  rw [← HP1.out] at HW3
  have HL1 : Hid (P1.length + (f.fs.flatMap vrB).length + ((Pk.enc n2).length + (f.ms.flatMap sgB).length) + 20 ≤ 140737488355328) := Lib.hid (by have := HLN.out; rw [HP1.out, E1.out, E2.out]; simp only [List.length_append] at *; omega)
  have HF1 : Hid (P1 ++ f.fs.flatMap vrB ++ Pk.enc n2 ++ f.ms.flatMap sgB = bs ++ fcB f) := Lib.hid (by rw [HP1.out, E1.out, E2.out]; simp only [fcB, manyB, List.append_assoc])
  clear HP1 HLN
  go_wp2_with fail
  go_loopw [26] (fun i wr => ∃ k : Nat, k ≤ n1 ∧ i = .int .i64 k ∧ Hid (Pk.WAt base bw wr (P1 ++ (f.fs.take k).flatMap vrB)) ∧ Hid (Blk wr w.heap.size [.string f.name, .string f.sup, .slice a1 n1 c1, .slice a2 n2 c2] 25) ∧ Pk.Kp base bw w wr) (fun i _ => n1 - (intOf i).toNat)
  case atStart => exact ⟨0, Nat.zero_le _, rfl, Lib.hid (by simpa using HW3.out), HB3, HKB.out⟩
  case round =>
    clear HW3 HB3 HKB q2 q3
    obtain ⟨k, hk, rfl, HWk, HBk, hkp⟩ := hrel
    have hsr := hkp.size
    by_cases hkl : k < n1
    · obtain ⟨x, hx⟩ : ∃ v, f.fs[k]? = some v := ⟨_, List.getElem?_eq_getElem (by have := E1.out; omega)⟩
      obtain ⟨g, o, cs, rfl, hcell, rfl⟩ := HK1.out k x hx
      have hbr := HBW.out wr hkp
      have p0 : wr.cell? ⟨g, o + k * 3, none⟩ = some (.string x.name) := hbr _ _ (hcell 0 _ rfl)
      have p1 : wr.cell? ⟨g, o + k * 3 + 1, none⟩ = some (.string x.tn) := hbr _ _ (hcell 1 _ rfl)
      have p2 : wr.cell? ⟨g, o + k * 3 + 2, none⟩ = some (.bool x.ta) := hbr _ _ (hcell 2 _ rfl)
      have HSN := Lib.hid (flat_snoc vrB hx)
      have HLk : Hid (P1.length + ((f.fs.take k).flatMap vrB).length + ((sB x.name).length + (tyB x.ty).length) + 20 ≤ 140737488355328) := Lib.hid (by
        have h1 := flat_take_le vrB f.fs (k + 1)
        have h2 := HL1.out
        rw [HSN.out] at h1
        simp only [vrB, List.length_append] at h1 h2 ⊢
        omega)
      clear hcell hx hbr
      go_wp2_with fail
      refine (text1 base bw x.name _ _ _ _ (wat_al (wat_al HWk.out _) _) hlt (by simp; omega) (Blk.newAt (by simp) [.string x.name] 9) (by omega) (by have := HLk.out; simp only [List.length_append]; omega)).mono ?_
      rintro e w4 ⟨rfl, hw4, hk4⟩
      have hs4 := hk4.size
      simp at hs4
      have Bx := ((Blk.new wr [.string x.name, .string x.tn, .bool x.ta] 75).al _).kp hk4 (by decide) (by omega)
      have B4 := ((HBk.out.al _).al _).kp hk4 (by decide) (by omega)
      have r1 := Bx.cell 1
      have r2 := Bx.cell 2
      simp only [List.getElem?_cons_succ, List.getElem?_cons_zero] at r1 r2
      have HW4 := Lib.hid hw4
      have HB4 := Lib.hid B4
      have HK4 : Hid (Pk.Kp base bw w w4) := Lib.hid (Pk.Kp.trans (kp_al (kp_al hkp hb _) hb _) hk4)
      clear hw4 B4 Bx hk4 p0 p1 p2
      go_wp2_with fail
      refine (lay36 base bw x.tn x.ta _ w4 HW4.out hlt (by omega) (by have := HLk.out; simp only [List.length_append, Vr.ty] at *; omega)).mono ?_
      rintro e w5 ⟨rfl, hw5, hk5⟩
      have B5 := Lib.hid (HB4.out.kp hk5 (by decide) (by omega))
      have HW5 := Lib.hid hw5
      clear hw5 HW4 HB4
      go_wp2
      go_roundw
      case rel => exact ⟨k + 1, by omega, by go_num, Lib.hid (by rw [HSN.out, ← List.append_assoc]; simpa only [vrB, Vr.ty, List.append_assoc] using HW5.out), B5, HK4.out.trans hk5⟩
      case measure => simp [intOf]; omega
    · have hke : k = n1 := by omega
      have HWf : Hid (Pk.WAt base bw wr (P1 ++ f.fs.flatMap vrB)) := Lib.hid (by have := HWk.out; rwa [List.take_of_length_le (by have := E1.out; omega)] at this)
      have q3 := HBk.out.cell 3
      simp only [List.getElem?_cons_succ, List.getElem?_cons_zero] at q3
      clear HWk HK1
      go_wp2_with fail
      refine (num1 base bw n2 _ _ _ _ (wat_al HWf.out _) hlt (by simp; omega) (Blk.newAt (by simp) [.int .i64 n2] 3) (by omega) (by omega) (by have := HL1.out; simp only [List.length_append]; omega)).mono ?_
      rintro e w6 ⟨rfl, hw6, hk6⟩
      have hs6 := hk6.size
      simp at hs6
      have B6 := (HBk.out.al _).kp hk6 (by decide) (by omega)
      have q6 := B6.cell 3
      simp only [List.getElem?_cons_succ, List.getElem?_cons_zero] at q6
      have HW6 := Lib.hid hw6
      have HK6 : Hid (Pk.Kp base bw w w6) := Lib.hid (Pk.Kp.trans (kp_al hkp hb _) hk6)
      obtain ⟨P2, HP2⟩ : ∃ P2, Hid (P2 = P1 ++ f.fs.flatMap vrB ++ Pk.enc n2) := ⟨_, Lib.hid rfl⟩
      rw [← HP2.out] at HW6
      have HF2 : Hid (P2 ++ f.ms.flatMap sgB = bs ++ fcB f) := Lib.hid (by rw [HP2.out]; exact HF1.out)
      have HL2 : Hid (P2.length + (f.ms.flatMap sgB).length + 20 ≤ 140737488355328) := Lib.hid (by have := HL1.out; rw [HP2.out]; simp only [List.length_append] at *; omega)
      clear hw6 hk6 B6 HWf HBk q3 HP2 HF1 HL1
      go_wp2_with fail
      go_loopw [49] (fun i wr => ∃ k : Nat, k ≤ n2 ∧ i = .int .i64 k ∧ Hid (Pk.WAt base bw wr (P2 ++ (f.ms.take k).flatMap sgB)) ∧ Pk.Kp base bw w wr) (fun i _ => n2 - (intOf i).toNat)
      case atStart => exact ⟨0, Nat.zero_le _, rfl, Lib.hid (by simpa using HW6.out), HK6.out⟩
      case round =>
        clear HW6 HK6 q6 hkp hsr hs6 hs2 hs3
        obtain ⟨j, hj, rfl, HWj, hkp⟩ := hrel
        have hsr := hkp.size
        by_cases hjl : j < n2
        · obtain ⟨m, hm⟩ : ∃ v, f.ms[j]? = some v := ⟨_, List.getElem?_eq_getElem (by have := E2.out; omega)⟩
          obtain ⟨g, o, cs, rfl, hcell, b1, m1, d1, rfl, hps⟩ := HK2.out j m hm
          have hbr := HBW.out wr hkp
          have p0 : wr.cell? ⟨g, o + j * 5, none⟩ = some (.string m.name) := hbr _ _ (hcell 0 _ rfl)
          have p1 : wr.cell? ⟨g, o + j * 5 + 1, none⟩ = some (.bool m.st) := hbr _ _ (hcell 1 _ rfl)
          have p2 : wr.cell? ⟨g, o + j * 5 + 2, none⟩ = some (.slice b1 m1 d1) := hbr _ _ (hcell 2 _ rfl)
          have p3 : wr.cell? ⟨g, o + j * 5 + 3, none⟩ = some (.string m.rn) := hbr _ _ (hcell 3 _ rfl)
          have p4 : wr.cell? ⟨g, o + j * 5 + 4, none⟩ = some (.bool m.ra) := hbr _ _ (hcell 4 _ rfl)
          obtain ⟨e3, l3, k3, hk3⟩ := hps.at
          unfold maxLen at k3
          have E3 := Lib.hid e3
          have HK3 := Lib.hid hk3
          have HSN := Lib.hid (flat_snoc sgB hm)
          have HLk : Hid (P2.length + ((f.ms.take j).flatMap sgB).length + ((sB m.name).length + (1 + ((tyB m.ret).length + ((Pk.enc m1).length + (m.ps.flatMap tyB).length)))) + 20 ≤ 140737488355328) := Lib.hid (by
            have h1 := flat_take_le sgB f.ms (j + 1)
            have h2 := HL2.out
            rw [HSN.out] at h1
            rw [E3.out]
            simp only [sgB, tysB, manyB, List.length_append, List.length_singleton] at h1 h2 ⊢
            omega)
          obtain ⟨P3, HP3⟩ : ∃ P3, Hid (P3 = P2 ++ (f.ms.take j).flatMap sgB) := ⟨_, Lib.hid rfl⟩
          rw [← HP3.out] at HWj
          have HL3 : Hid (P3.length + ((sB m.name).length + (1 + ((tyB m.ret).length + ((Pk.enc m1).length + (m.ps.flatMap tyB).length)))) + 20 ≤ 140737488355328) := Lib.hid (by have := HLk.out; rw [HP3.out, List.length_append]; exact this)
          have HF3 : Hid (P3 ++ sB m.name ++ [Pk.flagB m.st] ++ tyB m.ret ++ Pk.enc m1 ++ m.ps.flatMap tyB = P2 ++ (f.ms.take (j + 1)).flatMap sgB) := Lib.hid (by rw [HP3.out, HSN.out, E3.out]; simp only [sgB, tysB, manyB, List.append_assoc])
          have B0 : Hid (Blk (wr.alloc (.cells #[.string m.name, .bool m.st, .slice b1 m1 d1, .string m.rn, .bool m.ra] 63)) wr.heap.size [.string m.name, .bool m.st, .slice b1 m1 d1, .string m.rn, .bool m.ra] 63) := Lib.hid (Blk.new wr [.string m.name, .bool m.st, .slice b1 m1 d1, .string m.rn, .bool m.ra] 63)
          have HWA : Hid (Pk.WAt base bw (wr.alloc (.cells #[.string m.name, .bool m.st, .slice b1 m1 d1, .string m.rn, .bool m.ra] 63)) P3) := Lib.hid (wat_al HWj.out _)
          clear hcell hm hbr hps e3 hk3 HSN HLk HP3 HWj
          go_upto_region 13 with fail
          go_cut [61] from 53 to 61 (fun s61 wc => s61 = .pointer (some ⟨bw, 0, none⟩) ∧ Hid (Pk.WAt base bw wc (P3 ++ sB m.name ++ [Pk.flagB m.st])) ∧ Hid (Blk wc wr.heap.size [.string m.name, .bool m.st, .slice b1 m1 d1, .string m.rn, .bool m.ra] 63) ∧ Pk.Kp base bw w wc ∧ wr.heap.size < wc.heap.size)
          case first =>
            clear p0 p1 p2 p3 p4 HK3 HF3
            go_region_held3 (fun w' => w'.cell? ⟨wr.heap.size, 0, none⟩ = some (.string m.name) ∧ w'.cell? ⟨wr.heap.size, 1, none⟩ = some (.bool m.st) ∧ Blk w' wr.heap.size [.string m.name, .bool m.st, .slice b1 m1 d1, .string m.rn, .bool m.ra] 63)
              (first | exact vs_of B0.out | exact vs_of (Blk.al (by first | exact B0.out | exact B2 | assumption) _) | exact vs_of B3 | exact vs_of B2 | exact vs_of (Blk.al (Blk.al (by first | exact B0.out | exact B2) _) _))
              (first
                | (go_at_call 20; refine (text1 base bw m.name _ _ P3 _ (by repeat (first | exact HWA.out | refine wat_al ?_ _)) hlt (by simp; omega) (by first | exact Blk.newAt (by simp) [.string m.name] 9 | exact (Blk.newAt (by simp) [.string m.name] 9).al _) (by omega) (by have := HL3.out; omega)).mono ?_; rintro e w2 ⟨rfl, hw2, hk2⟩; have hs2 := hk2.size; simp at hs2; have B2 : Blk w2 wr.heap.size [.string m.name, .bool m.st, .slice b1 m1 d1, .string m.rn, .bool m.ra] 63 := Blk.kp (by repeat (first | exact B0.out | refine Blk.al ?_ _)) hk2 (by decide) (by omega))
                | (go_at_call 40; refine (flag1 base bw m.st _ _ (P3 ++ sB m.name) _ (by repeat (first | exact hw2 | refine wat_al ?_ _)) hlt (by first | omega | (simp; omega)) (by first | exact Blk.newAt (by first | rfl | simp) [.bool m.st] 4 | exact Blk.kp (Blk.dr (Blk.newAt (by first | rfl | simp) [.bool m.st] 4)) hk2 (by decide) (by omega) | exact Blk.kp (Blk.dr (Blk.al (Blk.newAt (by first | rfl | simp) [.bool m.st] 4) _)) hk2 (by decide) (by omega)) (by omega) (by have := HL3.out; simp only [List.length_append]; omega)).mono ?_; rintro e w3 ⟨rfl, hw3, hk3⟩; have hs3 := hk3.size; (try simp at hs3); have B3 : Blk w3 wr.heap.size [.string m.name, .bool m.st, .slice b1 m1 d1, .string m.rn, .bool m.ra] 63 := Blk.kp (by repeat (first | exact B2 | refine Blk.al ?_ _)) hk3 (by decide) (by omega)))
            all_goals (
              go_wp2_with fail
              go_meet
              refine ⟨rfl, Lib.hid hw3, Lib.hid B3, ?_, by omega⟩
              refine Pk.Kp.trans ?_ hk3
              repeat (refine kp_al ?_ hb _)
              refine Pk.Kp.trans ?_ hk2
              refine kp_dr ?_
              repeat (refine kp_al ?_ hb _)
              exact hkp)
          case rest =>
            obtain ⟨rfl, HW7, HB7, hk7, hs7⟩ := hcut
            clear HWA B0 p0 p1 p2 p3 p4
            have r2 := HB7.out.cell 2
            have r3 := HB7.out.cell 3
            have r4 := HB7.out.cell 4
            simp only [List.getElem?_cons_succ, List.getElem?_cons_zero] at r2 r3 r4
            go_wp2_with fail
            refine (lay36 base bw m.rn m.ra _ wc HW7.out hlt (by omega) (by have := HL3.out; simp only [List.length_append, List.length_singleton, Sg.ret] at *; omega)).mono ?_
            rintro e w8 ⟨rfl, hw8, hk8⟩
            have hs8 := hk8.size
            have B8 := HB7.out.kp hk8 (by decide) (by omega)
            have t2 := B8.cell 2
            simp only [List.getElem?_cons_succ, List.getElem?_cons_zero] at t2
            have HW8 := Lib.hid hw8
            have HB8 := Lib.hid B8
            have HK8 : Hid (Pk.Kp base bw w w8) := Lib.hid (hk7.trans hk8)
            clear hw8 B8 hk8 HW7 HB7 r2 r3 r4
            go_wp2_with fail
            refine (num1 base bw m1 _ _ _ _ (wat_al HW8.out _) hlt (by simp; omega) (Blk.newAt (by simp) [.int .i64 m1] 3) (by omega) (by omega) (by have := HL3.out; simp only [List.length_append, List.length_singleton, Sg.ret] at *; omega)).mono ?_
            rintro e w9 ⟨rfl, hw9, hk9⟩
            have hs9 := hk9.size
            simp at hs9
            have B9 := (HB8.out.al _).kp hk9 (by decide) (by omega)
            have t9 := B9.cell 2
            simp only [List.getElem?_cons_succ, List.getElem?_cons_zero] at t9
            obtain ⟨P4, HP4⟩ : ∃ P4, Hid (P4 = P3 ++ sB m.name ++ [Pk.flagB m.st] ++ tyB m.ret ++ Pk.enc m1) := ⟨_, Lib.hid rfl⟩
            have HW9 : Hid (Pk.WAt base bw w9 P4) := Lib.hid (by rw [HP4.out]; exact hw9)
            have HK9 : Hid (Pk.Kp base bw w w9) := Lib.hid (Pk.Kp.trans (kp_al HK8.out hb _) hk9)
            have HL4 : Hid (P4.length + (m.ps.flatMap tyB).length + 15 ≤ 140737488355328) := Lib.hid (by have := HL3.out; rw [HP4.out]; simp only [List.length_append, List.length_singleton] at *; omega)
            rw [← HP4.out] at HF3
            clear hw9 hk9 B9 HW8 HB8 t2 HP4 HL3 HK8
            go_wp2_with fail
            go_loopw [75] (fun i wr => ∃ k : Nat, k ≤ m1 ∧ i = .int .i64 k ∧ Hid (Pk.WAt base bw wr (P4 ++ (m.ps.take k).flatMap tyB)) ∧ Pk.Kp base bw w wr) (fun i _ => m1 - (intOf i).toNat)
            case atStart => exact ⟨0, Nat.zero_le _, rfl, Lib.hid (by simpa using HW9.out), HK9.out⟩
            case round =>
              clear HW9 HK9 t9 hkp hsr hs7 hs8 hs9 hk7
              obtain ⟨i, hi, rfl, HWi, hkp⟩ := hrel
              have hsr := hkp.size
              by_cases hil : i < m1
              · obtain ⟨t, ht⟩ : ∃ v, m.ps[i]? = some v := ⟨_, List.getElem?_eq_getElem (by have := E3.out; omega)⟩
                obtain ⟨g', o', cs, rfl, hcell, rfl⟩ := HK3.out i t ht
                have hbr := HBW.out wr hkp
                have p0 : wr.cell? ⟨g', o' + i * 2, none⟩ = some (.string t.n) := hbr _ _ (hcell 0 _ rfl)
                have p1 : wr.cell? ⟨g', o' + i * 2 + 1, none⟩ = some (.bool t.a) := hbr _ _ (hcell 1 _ rfl)
                have HSN := Lib.hid (flat_snoc tyB ht)
                have HLi : Hid (P4.length + ((m.ps.take i).flatMap tyB).length + (tyB t).length + 15 ≤ 140737488355328) := Lib.hid (by
                  have h1 := flat_take_le tyB m.ps (i + 1)
                  have h2 := HL4.out
                  rw [HSN.out, List.length_append] at h1
                  omega)
                clear hcell ht hbr
                go_wp2_with fail
                refine (lay36 base bw t.n t.a _ _ (wat_al HWi.out _) hlt (by simp; omega) (by have := HLi.out; show _ + (tyB t).length + 10 ≤ _; simp only [List.length_append]; omega)).mono ?_
                rintro e w10 ⟨rfl, hw10, hk10⟩
                have HW10 := Lib.hid hw10
                have HK10 : Hid (Pk.Kp base bw w w10) := Lib.hid (Pk.Kp.trans (kp_al hkp hb _) hk10)
                clear hw10 hk10 p0 p1
                go_wp2
                go_roundw
                case rel => exact ⟨i + 1, by omega, by go_num, Lib.hid (by rw [HSN.out, ← List.append_assoc]; exact HW10.out), HK10.out⟩
                case measure => simp [intOf]; omega
              · have HWe : Hid (Pk.WAt base bw wr (P2 ++ (f.ms.take (j + 1)).flatMap sgB)) := Lib.hid (by have := HWi.out; rw [List.take_of_length_le (by have := E3.out; omega)] at this; rwa [HF3.out] at this)
                clear HWi HF3
                go_wp2
                go_roundw
                case rel => exact ⟨j + 1, by omega, by go_num, HWe, hkp⟩
                case measure => simp [intOf]; omega
        · have HWe : Hid (Pk.WAt base bw wr (bs ++ fcB f)) := Lib.hid (by have := HWj.out; rw [List.take_of_length_le (by have := E2.out; omega)] at this; rwa [HF2.out] at this)
          clear HWj
          go_wp2
          go_end0
          exact ⟨rfl, HWe.out, hkp⟩

/-- a world of which only these blocks are seen -/
noncomputable def vis (w : World) (good : Nat → Prop) : World := { w with heap := w.heap.mapIdx fun k o => @ite _ (good k) (Classical.propDecidable _) o (.cells #[] 0 (0, 0)) }
theorem vis_at {w : World} {good : Nat → Prop} {b : Nat} (h : good b) : (vis w good).heap[b]? = w.heap[b]? := by
  unfold vis
  simp only [Array.getElem?_mapIdx]
  cases w.heap[b]? with
  | none => rfl
  | some o => simp [h]
theorem vis_cell {w : World} {good : Nat → Prop} {p : Addr} {v : Value} (h : (vis w good).cell? p = some v) : good p.block ∧ w.cell? p = some v := by
  by_cases hg : good p.block
  · refine ⟨hg, ?_⟩
    rw [← h]
    exact (World.cell?_of_block (w := w) (w' := vis w good) (vis_at hg)).symm
  · exfalso
    have e : (vis w good).heap[p.block]? = (w.heap[p.block]?).map fun _ => .cells #[] 0 (0, 0) := by
      unfold vis
      simp only [Array.getElem?_mapIdx]
      cases w.heap[p.block]? with
      | none => rfl
      | some o => simp [hg]
    obtain ⟨b, o, sp⟩ := p
    have hsp := World.cell?_spot h
    simp only at hsp
    subst hsp
    simp only at e
    unfold World.cell? at h
    rw [e] at h
    cases hh : w.heap[b]? with
    | none => rw [hh] at h; simp at h
    | some ob => rw [hh] at h; simp at h
def goodB' (bw : Nat) (w : World) (k : Nat) : Prop := k < bw ∨ (k ≠ bw ∧ Pk.NB w k)
theorem vis_hold {base bw : Nat} {w : World} (hlt : bw < base) : ∀ z, Pk.Kp base bw w z → ∀ p v, (vis w (goodB' bw w)).cell? p = some v → z.cell? p = some v := by
  intro z hk p v h
  obtain ⟨hg, hc⟩ := vis_cell h
  have hl := World.block_lt_of_cell? _ _ hc
  rcases hg with hg | ⟨hne, hnb⟩
  · rw [hk.cell (by omega) (by omega)]; exact hc
  · rw [World.cell?_of_block (w := w) (hk.other _ hl hne hnb)]; exact hc
def AloneB (x : Mt) (a : Option Addr) (n c : Nat) (W : World) (e : Ending) (w' : World) : Prop :=
  e = .returned (.agg #[.string x.2, .string ⟨#[]⟩, .slice none 0 0, .slice (some ⟨W.heap.size + 1 + 1, 0, none⟩) 1 1]) ∧ Blk w' (W.heap.size + 1 + 1) [.string x.1.name, .bool x.1.st, .slice a n c, .string x.1.rn, .bool x.1.ra] 63 ∧ Below W.heap.size W w'
set_option maxHeartbeats 1000000 in
set_option maxRecDepth 100000 in
theorem alone59b (x : Mt) (a : Option Addr) (n c : Nat) (w : World) : Calls Tryd.prog 59 #[.agg #[.string x.1.name, .bool x.1.st, .slice a n c, .string x.1.rn, .bool x.1.ra, .string x.2]] w (AloneB x a n c w) := by
  go_enter Tryd.func59, Tryd.ntmps59
  go_wp2
  refine bodyPost_ret (v := .agg #[.string x.2, .string ⟨#[]⟩, .slice none 0 0, .slice (some ⟨w.heap.size + 1 + 1, 0, none⟩) 1 1]) (by simp [results, Tryd.results59, go_sem]) rfl ⟨rfl, ?_, ?_⟩
  · have hB := Blk.new ((w.alloc (.cells #[.string x.1.name, .bool x.1.st, .slice a n c, .string x.1.rn, .bool x.1.ra, .string x.2] 79)).alloc (.cells #[.string x.2, .string ⟨#[]⟩, .slice none 0 0, .slice (some ⟨w.heap.size + 1 + 1, 0, none⟩) 1 1] 25)) [.string x.1.name, .bool x.1.st, .slice a n c, .string x.1.rn, .bool x.1.ra] 63
    simpa using hB
  · exact (below2 w _ _).alloc (by simp; omega) _
/-- the face of a method alone, as bytes -/
theorem lay_alone (W : World) (x : Mt) (a : Option Addr) (n c : Nat) (hsl : Sl W 2 TyR x.1.ps (.slice a n c)) (base bw g : Nat) (bs : List UInt8) (v : World) (hB : Below W.heap.size W v) (hWb : W.heap.size ≤ bw)
    (hblk : Blk v g [.string x.1.name, .bool x.1.st, .slice a n c, .string x.1.rn, .bool x.1.ra] 63) (hg : base ≤ g) (hw : Pk.WAt base bw v bs) (hlt : bw < base) (hb : base ≤ v.heap.size) (hlen : bs.length + (mtB x).length + 20 ≤ 140737488355328) :
    Calls Tryd.prog 33 #[.agg #[.string x.2, .string ⟨#[]⟩, .slice none 0 0, .slice (some ⟨g, 0, none⟩) 1 1], .pointer (some ⟨bw, 0, none⟩)] v fun e w' => e = .returned (.tuple #[]) ∧ Pk.WAt base bw w' (bs ++ mtB x) ∧ Pk.Kp base bw v w' := by
  have hgood : goodB' bw v g := .inr ⟨by omega, hblk.nb (by decide)⟩
  have hvis : Blk (vis v (goodB' bw v)) g [.string x.1.name, .bool x.1.st, .slice a n c, .string x.1.rn, .bool x.1.ra] 63 := (vis_at hgood).trans hblk
  have hkeep : Keeps W (vis v (goodB' bw v)) := fun p u hu _ => by
    have hl := World.block_lt_of_cell? _ _ hu
    have hc := (hB.cell hl).trans hu
    rw [World.cell?_of_block (w := v) (w' := vis v (goodB' bw v)) (vis_at (.inl (by omega)))]
    exact hc
  exact lay12h (vis v (goodB' bw v)) (mtF x) [.string x.2, .string ⟨#[]⟩, .slice none 0 0, .slice (some ⟨g, 0, none⟩) 1 1]
    ⟨none, 0, 0, _, _, _, rfl, Sl.nil _ _ _, Sl.one hvis ⟨a, n, c, rfl, tys_keep hkeep hsl⟩⟩ base bw bs v (vis_hold hlt) hw hlt hb hlen
end Go.Proofs.YtomlbfkkhhhfkaaDoor.Fc
