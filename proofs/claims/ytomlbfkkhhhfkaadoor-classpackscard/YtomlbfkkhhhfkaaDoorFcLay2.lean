/-
  A face as bytes: Lay.
-/
import Derived.Test.YtomlbfkkhhhfkaaDoorFcLay
import Derived.Deep.Cut
import Derived.Deep.CutRange
namespace Go.Proofs.YtomlbfkkhhhfkaaDoor.Fc
open Go.RowKit
set_option linter.unusedVariables false

theorem text2 (base bw : Nat) (S T : ByteArray) (sb c : Nat) (bs : List UInt8) (w : World) (hw : Pk.WAt base bw w bs) (hlt : bw < base) (hb : base ≤ w.heap.size) (hB : Blk w sb [.string S, .string T] 9) (hne : sb ≠ bw) (hlen : bs.length + (sB S).length + (sB T).length + 9 ≤ 140737488355328) :
    Calls Tryd.prog 20 #[.pointer (some ⟨bw, 0, none⟩), .slice (some ⟨sb, 0, none⟩) 2 c] w fun e w' => e = .returned (.pointer (some ⟨bw, 0, none⟩)) ∧ Pk.WAt base bw w' (bs ++ (sB S ++ sB T)) ∧ Pk.Kp base bw w w' := by
  have e : Pk.textAll [bl S, bl T] = sB S ++ sB T := by simp [Pk.textAll, sB]
  have h := Pk.text_any base bw [bl S, bl T] (some ⟨sb, 0, none⟩) c bs w hw hlt hb (.inr ⟨_, rfl, .inr ⟨hB.lt, hB.nb (by decide)⟩, hne, fun i hi => by
    have hi' : i < 2 := by simpa [Pk.strs] using hi
    have h0 := hB.cell 0
    have h1 := hB.cell 1
    rcases (show i = 0 ∨ i = 1 by omega) with rfl | rfl
    · simpa [Addr.add, Pk.strs, bl_mk] using h0
    · simpa [Addr.add, Pk.strs, bl_mk] using h1⟩) (by simp) (by rw [e, List.length_append]; omega)
  rw [e] at h
  exact h
theorem kp_below {base bw B : Nat} {w w' : World} (h : Pk.Kp base bw w w') (h1 : B ≤ bw) (h2 : bw < base) : Below B w w' := ⟨h.os, h.tape, h.output, h.size, fun k hk => h.block k (by omega) (by omega)⟩
theorem flat_snoc {α : Type} (e : α → List UInt8) {xs : List α} {k : Nat} {x : α} (h : xs[k]? = some x) : (xs.take (k + 1)).flatMap e = (xs.take k).flatMap e ++ e x := by
  have hk : k < xs.length := (List.getElem?_eq_some_iff.1 h).1
  rw [List.take_succ_eq_append_getElem hk, (List.getElem?_eq_some_iff.1 h).2, List.flatMap_append, List.flatMap_singleton]
theorem flat_take_le {α : Type} (e : α → List UInt8) (xs : List α) (k : Nat) : ((xs.take k).flatMap e).length ≤ (xs.flatMap e).length := by
  have : xs.flatMap e = (xs.take k).flatMap e ++ (xs.drop k).flatMap e := by rw [← List.flatMap_append, List.take_append_drop]
  rw [this, List.length_append]; omega
theorem vs_of {w : World} {q : Nat} {n : ByteArray} {a : Bool} {v2 v3 v4 : Value} (h : Blk w q [.string n, .bool a, v2, v3, v4] 63) : w.cell? ⟨q, 0, none⟩ = some (.string n) ∧ w.cell? ⟨q, 1, none⟩ = some (.bool a) ∧ Blk w q [.string n, .bool a, v2, v3, v4] 63 := ⟨h.cell 0, h.cell 1, h⟩

set_option maxHeartbeats 4000000 in
set_option maxRecDepth 100000 in
theorem lay12 (W : World) (f : Fc) (cs : List Value) (hf : FcR W f cs) (base bw : Nat) (bs : List UInt8) (w : World) (hB : Below W.heap.size W w) (hWb : W.heap.size ≤ bw) (hw : Pk.WAt base bw w bs) (hlt : bw < base) (hb : base ≤ w.heap.size) (hlen : bs.length + (fcB f).length + 20 ≤ 140737488355328) :
    Calls Tryd.prog 33 #[.agg cs.toArray, .pointer (some ⟨bw, 0, none⟩)] w fun e w' => e = .returned (.tuple #[]) ∧ Pk.WAt base bw w' (bs ++ fcB f) ∧ Pk.Kp base bw w w' := by
  obtain ⟨a1, n1, c1, a2, n2, c2, rfl, hf1, hm1⟩ := hf
  obtain ⟨e1, l1, k1, hk1⟩ := hf1.at
  obtain ⟨e2, l2, k2, hk2⟩ := hm1.at
  unfold maxLen at k1 k2
  have E1 := Lib.hid e1
  have E2 := Lib.hid e2
  have HK1 := Lib.hid hk1
  have HK2 := Lib.hid hk2
  have HBW := Lib.hid hB
  have HLN : Hid (bs.length + ((sB f.name).length + ((sB f.sup).length + ((Pk.enc f.fs.length).length + (f.fs.flatMap vrB).length + ((Pk.enc f.ms.length).length + (f.ms.flatMap sgB).length)))) + 20 ≤ 140737488355328) := Lib.hid (by simpa only [fcB, manyB, List.length_append, Nat.add_assoc] using hlen)
  clear e1 e2 hk1 hk2 hf1 hm1 hB hlen
  have HW1 : Hid (Pk.WAt base bw (w.alloc (.cells #[.string f.name, .string f.sup, .slice a1 n1 c1, .slice a2 n2 c2] 25)) bs) := Lib.hid (wat_al hw _)
  have K0 : Hid (Blk (w.alloc (.cells #[.string f.name, .string f.sup, .slice a1 n1 c1, .slice a2 n2 c2] 25)) w.heap.size [.string f.name, .string f.sup, .slice a1 n1 c1, .slice a2 n2 c2] 25) := Lib.hid (Blk.new w [.string f.name, .string f.sup, .slice a1 n1 c1, .slice a2 n2 c2] 25)
  clear hw
  go_enter Tryd.func33, Tryd.ntmps33
  go_wp2_with fail
  refine (text2 base bw f.name f.sup _ _ bs _ (wat_al HW1.out _) hlt (by simp; omega) (Blk.newAt (by simp) [.string f.name, .string f.sup] 9) (by omega) (by have := HLN.out; omega)).mono ?_
  rintro e w2 ⟨rfl, hw2, hk2⟩
  have hs2 := hk2.size
  simp at hs2
  have B2 := (K0.out.al _).kp hk2 (by decide) (by omega)
  have q2 := B2.cell 2
  simp only [List.getElem?_cons_succ, List.getElem?_cons_zero] at q2
  have HW2 := Lib.hid hw2
  have HB2 := Lib.hid B2
  have HKA : Hid (Pk.Kp base bw w w2) := Lib.hid (Pk.Kp.trans (kp_al (kp_al (Pk.Kp.refl base bw w) hb _) hb _) hk2)
  clear hw2 B2 hk2 HW1 K0
  go_wp2_with fail
  refine (num1 base bw n1 _ _ _ _ (wat_al HW2.out _) hlt (by simp; omega) (Blk.newAt (by simp) [.int .i64 n1] 3) (by omega) (by omega) (by have := HLN.out; simp only [List.length_append]; omega)).mono ?_
  rintro e w3 ⟨rfl, hw3, hk3⟩
  have hs3 := hk3.size
  simp at hs3
  have B3 := (HB2.out.al _).kp hk3 (by decide) (by omega)
  have q3 := B3.cell 2
  simp only [List.getElem?_cons_succ, List.getElem?_cons_zero] at q3
  have HW3 := Lib.hid hw3
  have HB3 := Lib.hid B3
  have HKB : Hid (Pk.Kp base bw w w3) := Lib.hid (Pk.Kp.trans (kp_al HKA.out hb _) hk3)
  clear hw3 B3 hk3 HW2 HB2 HKA
  obtain ⟨P1, HP1⟩ : ∃ P1, Hid (P1 = bs ++ (sB f.name ++ sB f.sup) ++ Pk.enc n1) := ⟨_, Lib.hid rfl⟩
  rw [← HP1.out] at HW3
  have HL1 : Hid (P1.length + (f.fs.flatMap vrB).length + ((Pk.enc n2).length + (f.ms.flatMap sgB).length) + 20 ≤ 140737488355328) := Lib.hid (by have := HLN.out; rw [HP1.out, E1.out, E2.out]; simp only [List.length_append] at *; omega)
  have HF1 : Hid (P1 ++ f.fs.flatMap vrB ++ Pk.enc n2 ++ f.ms.flatMap sgB = bs ++ fcB f) := Lib.hid (by rw [HP1.out, E1.out, E2.out]; simp only [fcB, manyB, List.append_assoc])
  clear HP1 HLN
  go_wp2_with fail
  go_loopw [26] (fun i wr => ∃ k : Nat, k ≤ n1 ∧ i = .int .i64 k ∧ Hid (Pk.WAt base bw wr (P1 ++ (f.fs.take k).flatMap vrB)) ∧ Hid (Blk wr w.heap.size [.string f.name, .string f.sup, .slice a1 n1 c1, .slice a2 n2 c2] 25) ∧ Pk.Kp base bw w wr) (fun i _ => n1 - (intOf i).toNat)
  case atStart => exact ⟨0, Nat.zero_le _, rfl, Lib.hid (by simpa using HW3.out), HB3, HKB.out⟩
  case round =>
    clear HW3 HB3 HKB q2 q3
    obtain ⟨k, hk, rfl, HWk, HBk, hkp⟩ := hrel
    have hsr := hkp.size
    by_cases hkl : k < n1
    · obtain ⟨x, hx⟩ : ∃ v, f.fs[k]? = some v := ⟨_, List.getElem?_eq_getElem (by have := E1.out; omega)⟩
      obtain ⟨g, o, cs, rfl, hcell, rfl⟩ := HK1.out k x hx
      have hbr : Below W.heap.size W wr := HBW.out.trans (kp_below hkp hWb hlt)
      have p0 : wr.cell? ⟨g, o + k * 3, none⟩ = some (.string x.name) := (hbr.cell (World.block_lt_of_cell? _ _ (hcell 0 _ rfl))).trans (hcell 0 _ rfl)
      have p1 : wr.cell? ⟨g, o + k * 3 + 1, none⟩ = some (.string x.tn) := (hbr.cell (World.block_lt_of_cell? _ _ (hcell 1 _ rfl))).trans (hcell 1 _ rfl)
      have p2 : wr.cell? ⟨g, o + k * 3 + 2, none⟩ = some (.bool x.ta) := (hbr.cell (World.block_lt_of_cell? _ _ (hcell 2 _ rfl))).trans (hcell 2 _ rfl)
      have HSN := Lib.hid (flat_snoc vrB hx)
      have HLk : Hid (P1.length + ((f.fs.take k).flatMap vrB).length + ((sB x.name).length + (tyB x.ty).length) + 20 ≤ 140737488355328) := Lib.hid (by
        have h1 := flat_take_le vrB f.fs (k + 1)
        have h2 := HL1.out
        rw [HSN.out] at h1
        simp only [vrB, List.length_append] at h1 h2 ⊢
        omega)
      clear hcell hx hbr
      go_wp2_with fail
      refine (text1 base bw x.name _ _ _ _ (wat_al (wat_al HWk.out _) _) hlt (by simp; omega) (Blk.newAt (by simp) [.string x.name] 9) (by omega) (by have := HLk.out; simp only [List.length_append]; omega)).mono ?_
      rintro e w4 ⟨rfl, hw4, hk4⟩
      have hs4 := hk4.size
      simp at hs4
      have Bx := ((Blk.new wr [.string x.name, .string x.tn, .bool x.ta] 75).al _).kp hk4 (by decide) (by omega)
      have B4 := ((HBk.out.al _).al _).kp hk4 (by decide) (by omega)
      have r1 := Bx.cell 1
      have r2 := Bx.cell 2
      simp only [List.getElem?_cons_succ, List.getElem?_cons_zero] at r1 r2
      have HW4 := Lib.hid hw4
      have HB4 := Lib.hid B4
      have HK4 : Hid (Pk.Kp base bw w w4) := Lib.hid (Pk.Kp.trans (kp_al (kp_al hkp hb _) hb _) hk4)
      clear hw4 B4 Bx hk4 p0 p1 p2
      go_wp2_with fail
      refine (lay36 base bw x.tn x.ta _ w4 HW4.out hlt (by omega) (by have := HLk.out; simp only [List.length_append, Vr.ty] at *; omega)).mono ?_
      rintro e w5 ⟨rfl, hw5, hk5⟩
      have B5 := Lib.hid (HB4.out.kp hk5 (by decide) (by omega))
      have HW5 := Lib.hid hw5
      clear hw5 HW4 HB4
      go_wp2
      go_roundw
      case rel => exact ⟨k + 1, by omega, by go_num, Lib.hid (by rw [HSN.out, ← List.append_assoc]; simpa only [vrB, Vr.ty, List.append_assoc] using HW5.out), B5, HK4.out.trans hk5⟩
      case measure => simp [intOf]; omega
    · have hke : k = n1 := by omega
      have HWf : Hid (Pk.WAt base bw wr (P1 ++ f.fs.flatMap vrB)) := Lib.hid (by have := HWk.out; rwa [List.take_of_length_le (by have := E1.out; omega)] at this)
      have q3 := HBk.out.cell 3
      simp only [List.getElem?_cons_succ, List.getElem?_cons_zero] at q3
      clear HWk HK1
      go_wp2_with fail
      refine (num1 base bw n2 _ _ _ _ (wat_al HWf.out _) hlt (by simp; omega) (Blk.newAt (by simp) [.int .i64 n2] 3) (by omega) (by omega) (by have := HL1.out; simp only [List.length_append]; omega)).mono ?_
      rintro e w6 ⟨rfl, hw6, hk6⟩
      have hs6 := hk6.size
      simp at hs6
      have B6 := (HBk.out.al _).kp hk6 (by decide) (by omega)
      have q6 := B6.cell 3
      simp only [List.getElem?_cons_succ, List.getElem?_cons_zero] at q6
      have HW6 := Lib.hid hw6
      have HK6 : Hid (Pk.Kp base bw w w6) := Lib.hid (Pk.Kp.trans (kp_al hkp hb _) hk6)
      obtain ⟨P2, HP2⟩ : ∃ P2, Hid (P2 = P1 ++ f.fs.flatMap vrB ++ Pk.enc n2) := ⟨_, Lib.hid rfl⟩
      rw [← HP2.out] at HW6
      have HF2 : Hid (P2 ++ f.ms.flatMap sgB = bs ++ fcB f) := Lib.hid (by rw [HP2.out]; exact HF1.out)
      have HL2 : Hid (P2.length + (f.ms.flatMap sgB).length + 20 ≤ 140737488355328) := Lib.hid (by have := HL1.out; rw [HP2.out]; simp only [List.length_append] at *; omega)
      clear hw6 hk6 B6 HWf HBk q3 HP2 HF1 HL1
      go_wp2_with fail
      go_loopw [49] (fun i wr => ∃ k : Nat, k ≤ n2 ∧ i = .int .i64 k ∧ Hid (Pk.WAt base bw wr (P2 ++ (f.ms.take k).flatMap sgB)) ∧ Pk.Kp base bw w wr) (fun i _ => n2 - (intOf i).toNat)
      case atStart => exact ⟨0, Nat.zero_le _, rfl, Lib.hid (by simpa using HW6.out), HK6.out⟩
      case round =>
        clear HW6 HK6 q6 hkp hsr hs6 hs2 hs3
        obtain ⟨j, hj, rfl, HWj, hkp⟩ := hrel
        have hsr := hkp.size
        by_cases hjl : j < n2
        · obtain ⟨m, hm⟩ : ∃ v, f.ms[j]? = some v := ⟨_, List.getElem?_eq_getElem (by have := E2.out; omega)⟩
          obtain ⟨g, o, cs, rfl, hcell, b1, m1, d1, rfl, hps⟩ := HK2.out j m hm
          have hbr : Below W.heap.size W wr := HBW.out.trans (kp_below hkp hWb hlt)
          have p0 : wr.cell? ⟨g, o + j * 5, none⟩ = some (.string m.name) := (hbr.cell (World.block_lt_of_cell? _ _ (hcell 0 _ rfl))).trans (hcell 0 _ rfl)
          have p1 : wr.cell? ⟨g, o + j * 5 + 1, none⟩ = some (.bool m.st) := (hbr.cell (World.block_lt_of_cell? _ _ (hcell 1 _ rfl))).trans (hcell 1 _ rfl)
          have p2 : wr.cell? ⟨g, o + j * 5 + 2, none⟩ = some (.slice b1 m1 d1) := (hbr.cell (World.block_lt_of_cell? _ _ (hcell 2 _ rfl))).trans (hcell 2 _ rfl)
          have p3 : wr.cell? ⟨g, o + j * 5 + 3, none⟩ = some (.string m.rn) := (hbr.cell (World.block_lt_of_cell? _ _ (hcell 3 _ rfl))).trans (hcell 3 _ rfl)
          have p4 : wr.cell? ⟨g, o + j * 5 + 4, none⟩ = some (.bool m.ra) := (hbr.cell (World.block_lt_of_cell? _ _ (hcell 4 _ rfl))).trans (hcell 4 _ rfl)
          obtain ⟨e3, l3, k3, hk3⟩ := hps.at
          unfold maxLen at k3
          have E3 := Lib.hid e3
          have HK3 := Lib.hid hk3
          have HSN := Lib.hid (flat_snoc sgB hm)
          have HLk : Hid (P2.length + ((f.ms.take j).flatMap sgB).length + ((sB m.name).length + (1 + ((tyB m.ret).length + ((Pk.enc m1).length + (m.ps.flatMap tyB).length)))) + 20 ≤ 140737488355328) := Lib.hid (by
            have h1 := flat_take_le sgB f.ms (j + 1)
            have h2 := HL2.out
            rw [HSN.out] at h1
            rw [E3.out]
            simp only [sgB, tysB, manyB, List.length_append, List.length_singleton] at h1 h2 ⊢
            omega)
          obtain ⟨P3, HP3⟩ : ∃ P3, Hid (P3 = P2 ++ (f.ms.take j).flatMap sgB) := ⟨_, Lib.hid rfl⟩
          rw [← HP3.out] at HWj
          have HL3 : Hid (P3.length + ((sB m.name).length + (1 + ((tyB m.ret).length + ((Pk.enc m1).length + (m.ps.flatMap tyB).length)))) + 20 ≤ 140737488355328) := Lib.hid (by have := HLk.out; rw [HP3.out, List.length_append]; exact this)
          have HF3 : Hid (P3 ++ sB m.name ++ [Pk.flagB m.st] ++ tyB m.ret ++ Pk.enc m1 ++ m.ps.flatMap tyB = P2 ++ (f.ms.take (j + 1)).flatMap sgB) := Lib.hid (by rw [HP3.out, HSN.out, E3.out]; simp only [sgB, tysB, manyB, List.append_assoc])
          have B0 : Hid (Blk (wr.alloc (.cells #[.string m.name, .bool m.st, .slice b1 m1 d1, .string m.rn, .bool m.ra] 63)) wr.heap.size [.string m.name, .bool m.st, .slice b1 m1 d1, .string m.rn, .bool m.ra] 63) := Lib.hid (Blk.new wr [.string m.name, .bool m.st, .slice b1 m1 d1, .string m.rn, .bool m.ra] 63)
          have HWA : Hid (Pk.WAt base bw (wr.alloc (.cells #[.string m.name, .bool m.st, .slice b1 m1 d1, .string m.rn, .bool m.ra] 63)) P3) := Lib.hid (wat_al HWj.out _)
          clear hcell hm hbr hps e3 hk3 HSN HLk HP3 HWj
          go_upto_region 13 with fail
          go_cut [61] from 53 to 61 (fun s61 wc => s61 = .pointer (some ⟨bw, 0, none⟩) ∧ Hid (Pk.WAt base bw wc (P3 ++ sB m.name ++ [Pk.flagB m.st])) ∧ Hid (Blk wc wr.heap.size [.string m.name, .bool m.st, .slice b1 m1 d1, .string m.rn, .bool m.ra] 63) ∧ Pk.Kp base bw w wc ∧ wr.heap.size < wc.heap.size)
          case first =>
            clear p0 p1 p2 p3 p4 HK3 HF3
            go_region_held3 (fun w' => w'.cell? ⟨wr.heap.size, 0, none⟩ = some (.string m.name) ∧ w'.cell? ⟨wr.heap.size, 1, none⟩ = some (.bool m.st) ∧ Blk w' wr.heap.size [.string m.name, .bool m.st, .slice b1 m1 d1, .string m.rn, .bool m.ra] 63)
              (first | exact vs_of B0.out | exact vs_of (Blk.al (by first | exact B0.out | exact B2 | assumption) _) | exact vs_of B3 | exact vs_of B2 | exact vs_of (Blk.al (Blk.al (by first | exact B0.out | exact B2) _) _))
              (first
                | (go_at_call 20; refine (text1 base bw m.name _ _ P3 _ (by repeat (first | exact HWA.out | refine wat_al ?_ _)) hlt (by simp; omega) (by first | exact Blk.newAt (by simp) [.string m.name] 9 | exact (Blk.newAt (by simp) [.string m.name] 9).al _) (by omega) (by have := HL3.out; omega)).mono ?_; rintro e w2 ⟨rfl, hw2, hk2⟩; have hs2 := hk2.size; simp at hs2; have B2 : Blk w2 wr.heap.size [.string m.name, .bool m.st, .slice b1 m1 d1, .string m.rn, .bool m.ra] 63 := Blk.kp (by repeat (first | exact B0.out | refine Blk.al ?_ _)) hk2 (by decide) (by omega))
                | (go_at_call 40; refine (flag1 base bw m.st _ _ (P3 ++ sB m.name) _ (by repeat (first | exact hw2 | refine wat_al ?_ _)) hlt (by first | omega | (simp; omega)) (by first | exact Blk.newAt (by first | rfl | simp) [.bool m.st] 4 | exact Blk.kp (Blk.dr (Blk.newAt (by first | rfl | simp) [.bool m.st] 4)) hk2 (by decide) (by omega) | exact Blk.kp (Blk.dr (Blk.al (Blk.newAt (by first | rfl | simp) [.bool m.st] 4) _)) hk2 (by decide) (by omega)) (by omega) (by have := HL3.out; simp only [List.length_append]; omega)).mono ?_; rintro e w3 ⟨rfl, hw3, hk3⟩; have hs3 := hk3.size; (try simp at hs3); have B3 : Blk w3 wr.heap.size [.string m.name, .bool m.st, .slice b1 m1 d1, .string m.rn, .bool m.ra] 63 := Blk.kp (by repeat (first | exact B2 | refine Blk.al ?_ _)) hk3 (by decide) (by omega)))
            all_goals (
              go_wp2_with fail
              go_meet
              refine ⟨rfl, Lib.hid hw3, Lib.hid B3, ?_, by omega⟩
              refine Pk.Kp.trans ?_ hk3
              repeat (refine kp_al ?_ hb _)
              refine Pk.Kp.trans ?_ hk2
              refine kp_dr ?_
              repeat (refine kp_al ?_ hb _)
              exact hkp)
          case rest =>
            obtain ⟨rfl, HW7, HB7, hk7, hs7⟩ := hcut
            clear HWA B0 p0 p1 p2 p3 p4
            have r2 := HB7.out.cell 2
            have r3 := HB7.out.cell 3
            have r4 := HB7.out.cell 4
            simp only [List.getElem?_cons_succ, List.getElem?_cons_zero] at r2 r3 r4
            go_wp2_with fail
            refine (lay36 base bw m.rn m.ra _ wc HW7.out hlt (by omega) (by have := HL3.out; simp only [List.length_append, List.length_singleton, Sg.ret] at *; omega)).mono ?_
            rintro e w8 ⟨rfl, hw8, hk8⟩
            have hs8 := hk8.size
            have B8 := HB7.out.kp hk8 (by decide) (by omega)
            have t2 := B8.cell 2
            simp only [List.getElem?_cons_succ, List.getElem?_cons_zero] at t2
            have HW8 := Lib.hid hw8
            have HB8 := Lib.hid B8
            have HK8 : Hid (Pk.Kp base bw w w8) := Lib.hid (hk7.trans hk8)
            clear hw8 B8 hk8 HW7 HB7 r2 r3 r4
            go_wp2_with fail
            refine (num1 base bw m1 _ _ _ _ (wat_al HW8.out _) hlt (by simp; omega) (Blk.newAt (by simp) [.int .i64 m1] 3) (by omega) (by omega) (by have := HL3.out; simp only [List.length_append, List.length_singleton, Sg.ret] at *; omega)).mono ?_
            rintro e w9 ⟨rfl, hw9, hk9⟩
            have hs9 := hk9.size
            simp at hs9
            have B9 := (HB8.out.al _).kp hk9 (by decide) (by omega)
            have t9 := B9.cell 2
            simp only [List.getElem?_cons_succ, List.getElem?_cons_zero] at t9
            obtain ⟨P4, HP4⟩ : ∃ P4, Hid (P4 = P3 ++ sB m.name ++ [Pk.flagB m.st] ++ tyB m.ret ++ Pk.enc m1) := ⟨_, Lib.hid rfl⟩
            have HW9 : Hid (Pk.WAt base bw w9 P4) := Lib.hid (by rw [HP4.out]; exact hw9)
            have HK9 : Hid (Pk.Kp base bw w w9) := Lib.hid (Pk.Kp.trans (kp_al HK8.out hb _) hk9)
            have HL4 : Hid (P4.length + (m.ps.flatMap tyB).length + 15 ≤ 140737488355328) := Lib.hid (by have := HL3.out; rw [HP4.out]; simp only [List.length_append, List.length_singleton] at *; omega)
            rw [← HP4.out] at HF3
            clear hw9 hk9 B9 HW8 HB8 t2 HP4 HL3 HK8
            go_wp2_with fail
            go_loopw [75] (fun i wr => ∃ k : Nat, k ≤ m1 ∧ i = .int .i64 k ∧ Hid (Pk.WAt base bw wr (P4 ++ (m.ps.take k).flatMap tyB)) ∧ Pk.Kp base bw w wr) (fun i _ => m1 - (intOf i).toNat)
            case atStart => exact ⟨0, Nat.zero_le _, rfl, Lib.hid (by simpa using HW9.out), HK9.out⟩
            case round =>
              clear HW9 HK9 t9 hkp hsr hs7 hs8 hs9 hk7
              obtain ⟨i, hi, rfl, HWi, hkp⟩ := hrel
              have hsr := hkp.size
              by_cases hil : i < m1
              · obtain ⟨t, ht⟩ : ∃ v, m.ps[i]? = some v := ⟨_, List.getElem?_eq_getElem (by have := E3.out; omega)⟩
                obtain ⟨g', o', cs, rfl, hcell, rfl⟩ := HK3.out i t ht
                have hbr : Below W.heap.size W wr := HBW.out.trans (kp_below hkp hWb hlt)
                have p0 : wr.cell? ⟨g', o' + i * 2, none⟩ = some (.string t.n) := (hbr.cell (World.block_lt_of_cell? _ _ (hcell 0 _ rfl))).trans (hcell 0 _ rfl)
                have p1 : wr.cell? ⟨g', o' + i * 2 + 1, none⟩ = some (.bool t.a) := (hbr.cell (World.block_lt_of_cell? _ _ (hcell 1 _ rfl))).trans (hcell 1 _ rfl)
                have HSN := Lib.hid (flat_snoc tyB ht)
                have HLi : Hid (P4.length + ((m.ps.take i).flatMap tyB).length + (tyB t).length + 15 ≤ 140737488355328) := Lib.hid (by
                  have h1 := flat_take_le tyB m.ps (i + 1)
                  have h2 := HL4.out
                  rw [HSN.out, List.length_append] at h1
                  omega)
                clear hcell ht hbr
                go_wp2_with fail
                refine (lay36 base bw t.n t.a _ _ (wat_al HWi.out _) hlt (by simp; omega) (by have := HLi.out; show _ + (tyB t).length + 10 ≤ _; simp only [List.length_append]; omega)).mono ?_
                rintro e w10 ⟨rfl, hw10, hk10⟩
                have HW10 := Lib.hid hw10
                have HK10 : Hid (Pk.Kp base bw w w10) := Lib.hid (Pk.Kp.trans (kp_al hkp hb _) hk10)
                clear hw10 hk10 p0 p1
                go_wp2
                go_roundw
                case rel => exact ⟨i + 1, by omega, by go_num, Lib.hid (by rw [HSN.out, ← List.append_assoc]; exact HW10.out), HK10.out⟩
                case measure => simp [intOf]; omega
              · have HWe : Hid (Pk.WAt base bw wr (P2 ++ (f.ms.take (j + 1)).flatMap sgB)) := Lib.hid (by have := HWi.out; rw [List.take_of_length_le (by have := E3.out; omega)] at this; rwa [HF3.out] at this)
                clear HWi HF3
                go_wp2
                go_roundw
                case rel => exact ⟨j + 1, by omega, by go_num, HWe, hkp⟩
                case measure => simp [intOf]; omega
        · have HWe : Hid (Pk.WAt base bw wr (bs ++ fcB f)) := Lib.hid (by have := HWj.out; rw [List.take_of_length_le (by have := E2.out; omega)] at this; rwa [HF2.out] at this)
          clear HWj
          go_wp2
          go_end0
          exact ⟨rfl, HWe.out, hkp⟩
end Go.Proofs.YtomlbfkkhhhfkaaDoor.Fc
