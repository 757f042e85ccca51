/-
  A type, a body as bytes.
-/
import Derived.Test.YtomlbfkkhhhfkaaDoorCsCod
import Derived.Deep.RegionHeld3
namespace Go.Proofs.YtomlbfkkhhhfkaaDoor.Fc
open Go.RowKit
set_option linter.unusedVariables false

set_option maxHeartbeats 1000000 in
set_option maxRecDepth 100000 in
theorem lay66 (base bw : Nat) (n : ByteArray) (a : Bool) (bs : List UInt8) (w : World) (hw : Pk.WAt base bw w bs) (hlt : bw < base) (hb : base ≤ w.heap.size) (hlen : bs.length + (tyB ⟨n, a⟩).length + 10 ≤ 140737488355328) :
    Calls Tryd.prog 66 #[.pointer (some ⟨bw, 0, none⟩), .agg #[.string n, .bool a]] w fun e w' => e = .returned (.tuple #[]) ∧ Pk.WAt base bw w' (bs ++ tyB ⟨n, a⟩) ∧ Pk.Kp base bw w w' := by
  have B0 : Hid (Blk (w.alloc (.cells #[.string n, .bool a] 60)) w.heap.size [.string n, .bool a] 60) := Lib.hid (Blk.new w [.string n, .bool a] 60)
  have HL1 : Hid (bs.length + (sB n).length + 9 ≤ 140737488355328) := Lib.hid (by simp only [tyB, List.length_append, List.length_singleton] at hlen; omega)
  have HL2 : Hid ((bs ++ sB n).length + 10 ≤ 140737488355328) := Lib.hid (by simp only [tyB, List.length_append, List.length_singleton] at hlen ⊢; omega)
  have HWA : Hid (Pk.WAt base bw (w.alloc (.cells #[.string n, .bool a] 60)) bs) := Lib.hid (wat_al hw _)
  clear hw hlen
  go_enter Tryd.func66, Tryd.ntmps66
  go_wp2_with fail
  go_region_held3 (fun w' => w'.cell? ⟨w.heap.size, 0, none⟩ = some (.string n) ∧ w'.cell? ⟨w.heap.size, 1, none⟩ = some (.bool a) ∧ Blk w' w.heap.size [.string n, .bool a] 60)
    (first | exact ts_of B0.out | exact ts_of (Blk.al (by first | exact B0.out | exact B2 | assumption) _) | exact ts_of B3 | exact ts_of B2 | exact ts_of (Blk.al (Blk.al (by first | exact B0.out | exact B2) _) _))
    (first
      | (go_at_call 20; refine (text1 base bw n _ _ bs _ (by repeat (first | exact HWA.out | refine wat_al ?_ _)) hlt (by simp; omega) (by first | exact Blk.newAt (by simp) [.string n] 9 | exact (Blk.newAt (by simp) [.string n] 9).al _) (by omega) HL1.out).mono ?_; rintro e w2 ⟨rfl, hw2, hk2⟩; have hs2 := hk2.size; simp at hs2; have B2 : Blk w2 w.heap.size [.string n, .bool a] 60 := Blk.kp (by repeat (first | exact B0.out | refine Blk.al ?_ _)) hk2 (by decide) (by omega))
      | (go_at_call 40; refine (flag1 base bw a _ _ (bs ++ sB n) _ (by repeat (first | exact hw2 | refine wat_al ?_ _)) hlt (by first | omega | (simp; omega)) (by first | exact Blk.newAt (by first | rfl | simp) [.bool a] 4 | exact Blk.kp (Blk.dr (Blk.newAt (by first | rfl | simp) [.bool a] 4)) hk2 (by decide) (by omega) | exact Blk.kp (Blk.dr (Blk.al (Blk.newAt (by first | rfl | simp) [.bool a] 4) _)) hk2 (by decide) (by omega)) (by omega) HL2.out).mono ?_; rintro e w3 ⟨rfl, hw3, hk3⟩; have hs3 := hk3.size; have B3 : Blk w3 w.heap.size [.string n, .bool a] 60 := Blk.kp (by repeat (first | exact B2 | refine Blk.al ?_ _)) hk3 (by decide) (by omega)))
  all_goals go_end0
  all_goals refine ⟨rfl, ?_, ?_⟩
  all_goals first | (rw [tyB, ← List.append_assoc]; exact hw3) | skip
  all_goals refine Pk.Kp.trans ?_ hk3
  all_goals repeat (refine kp_al ?_ hb _)
  all_goals refine Pk.Kp.trans ?_ hk2
  all_goals refine kp_dr ?_
  all_goals repeat (refine kp_al ?_ hb _)
  all_goals exact Pk.Kp.refl _ _ _

/-- one number, whatever its sign -/
theorem numI1 (base bw : Nat) (n : Int) (h0 : OkI n) (sb c : Nat) (bs : List UInt8) (w : World) (hw : Pk.WAt base bw w bs) (hlt : bw < base) (hb : base ≤ w.heap.size) (hB : Blk w sb [.int .i64 n] 3) (hne : sb ≠ bw) (hlen : bs.length + 9 ≤ 140737488355328) :
    Calls Tryd.prog 19 #[.pointer (some ⟨bw, 0, none⟩), .slice (some ⟨sb, 0, none⟩) 1 c] w fun e w' => e = .returned (.pointer (some ⟨bw, 0, none⟩)) ∧ Pk.WAt base bw w' (bs ++ Pk.encI n) ∧ Pk.Kp base bw w w' := by
  have e : Pk.encAll [n] = Pk.encI n := by simp [Pk.encAll]
  have h := Pk.num_any base bw [n] (by intro v hv; simp at hv; subst hv; exact h0) (some ⟨sb, 0, none⟩) c bs w hw hlt hb (.inr ⟨_, rfl, .inr ⟨hB.lt, hB.nb (by decide)⟩, hne, fun i hi => by
    obtain rfl : i = 0 := by simp [Pk.ints] at hi; omega
    have := hB.cell 0
    simpa [Addr.add, Pk.ints] using this⟩) (by simpa using hlen)
  rw [e] at h
  exact h
/-- three numbers -/
theorem num3 (base bw : Nat) (x y z : Int) (hx : OkI x) (hy : OkI y) (hz : OkI z) (sb c : Nat) (bs : List UInt8) (w : World) (hw : Pk.WAt base bw w bs) (hlt : bw < base) (hb : base ≤ w.heap.size) (hB : Blk w sb [.int .i64 x, .int .i64 y, .int .i64 z] 3) (hne : sb ≠ bw) (hlen : bs.length + 27 ≤ 140737488355328) :
    Calls Tryd.prog 19 #[.pointer (some ⟨bw, 0, none⟩), .slice (some ⟨sb, 0, none⟩) 3 c] w fun e w' => e = .returned (.pointer (some ⟨bw, 0, none⟩)) ∧ Pk.WAt base bw w' (bs ++ (Pk.encI x ++ (Pk.encI y ++ Pk.encI z))) ∧ Pk.Kp base bw w w' := by
  have e : Pk.encAll [x, y, z] = Pk.encI x ++ (Pk.encI y ++ Pk.encI z) := by simp [Pk.encAll]
  have h := Pk.num_any base bw [x, y, z] (by intro v hv; simp at hv; rcases hv with rfl | rfl | rfl <;> assumption) (some ⟨sb, 0, none⟩) c bs w hw hlt hb (.inr ⟨_, rfl, .inr ⟨hB.lt, hB.nb (by decide)⟩, hne, fun i hi => by
    have hi' : i < 3 := by simpa [Pk.ints] using hi
    have h0 := hB.cell 0
    have h1 := hB.cell 1
    have h2 := hB.cell 2
    rcases (show i = 0 ∨ i = 1 ∨ i = 2 by omega) with rfl | rfl | rfl
    · simpa [Addr.add, Pk.ints] using h0
    · simpa [Addr.add, Pk.ints] using h1
    · simpa [Addr.add, Pk.ints] using h2⟩) (by simpa using hlen)
  rw [e] at h
  exact h
theorem TabR.kp {base bw : Nat} {w w' : World} (h : TabR w) (hk : Pk.Kp base bw w w') (h0 : 0 < bw) (h1 : bw < base) : TabR w' := fun j v hv => by
  rw [hk.cell (p := ⟨0, j, none⟩) (by show 0 < base; omega) (by show (0 : Nat) ≠ bw; omega)]; exact h j v hv
theorem insB_snoc {co : List (Int × Int)} {k : Nat} {x : Int × Int} (h : co[k]? = some x) : (co.take (k + 1)).flatMap inB = (co.take k).flatMap inB ++ inB x := flat_snoc inB h

set_option maxHeartbeats 2000000 in
set_option maxRecDepth 100000 in
theorem body35 (W : World) (b : Bd) (cs : List Value) (hf : BdR W b cs) (base bw : Nat) (bs : List UInt8) (w : World) (hB : Below W.heap.size W w) (hWb : W.heap.size ≤ bw) (h0 : 0 < W.heap.size) (hT : TabR w) (hw : Pk.WAt base bw w bs) (hlt : bw < base) (hb : base ≤ w.heap.size)
    (hlo : OkI b.lo) (hst : OkI b.st) (hco : ∀ x ∈ b.co, OkI x.1 ∧ OkI x.2) (hlen : bs.length + (bdB b).length + 50 ≤ 140737488355328) :
    Calls Tryd.prog 35 #[.pointer (some ⟨bw, 0, none⟩), .agg cs.toArray] w fun e w' => e = .returned (.tuple #[]) ∧ Pk.WAt base bw w' (bs ++ bdB b) ∧ Pk.Kp base bw w w' := by
  obtain ⟨a, n, c, rfl, hsl⟩ := hf
  obtain ⟨e1, l1, k1, hk1⟩ := hsl.at
  unfold maxLen at k1
  have E1 := Lib.hid e1
  have HK1 := Lib.hid hk1
  have HBW := Lib.hid hB
  have HT := Lib.hid hT
  have HCO := Lib.hid hco
  have HLN : Hid (bs.length + ((Pk.encI b.lo).length + ((Pk.encI b.st).length + ((Pk.enc b.co.length).length + (b.co.flatMap inB).length))) + 50 ≤ 140737488355328) := Lib.hid (by simpa only [bdB, manyB, List.length_append] using hlen)
  clear e1 hk1 hsl hB hlen hT hco
  have HW1 : Hid (Pk.WAt base bw (w.alloc (.cells #[.int .i64 b.lo, .int .i64 b.st, .slice a n c] 69)) bs) := Lib.hid (wat_al hw _)
  have K0 : Hid (Blk (w.alloc (.cells #[.int .i64 b.lo, .int .i64 b.st, .slice a n c] 69)) w.heap.size [.int .i64 b.lo, .int .i64 b.st, .slice a n c] 69) := Lib.hid (Blk.new w [.int .i64 b.lo, .int .i64 b.st, .slice a n c] 69)
  have HLO := Lib.hid hlo
  have HST := Lib.hid hst
  clear hw hlo hst
  go_enter Tryd.func35, Tryd.ntmps35
  go_wp2_with fail
  refine (num3 base bw b.lo b.st (n : Int) HLO.out HST.out (by constructor <;> omega) _ _ bs _ (wat_al HW1.out _) hlt (by simp; omega) (Blk.newAt (by simp) [.int .i64 b.lo, .int .i64 b.st, .int .i64 n] 3) (by omega) (by have := HLN.out; omega)).mono ?_
  rintro e w2 ⟨rfl, hw2, hk2⟩
  have hs2 := hk2.size
  simp at hs2
  have B2 := (K0.out.al _).kp hk2 (by decide) (by omega)
  have q2 := B2.cell 2
  simp only [List.getElem?_cons_succ, List.getElem?_cons_zero] at q2
  obtain ⟨P1, HP1⟩ : ∃ P1, Hid (P1 = bs ++ (Pk.encI b.lo ++ (Pk.encI b.st ++ Pk.encI (n : Int)))) := ⟨_, Lib.hid rfl⟩
  rw [← HP1.out] at hw2
  have HW2 := Lib.hid hw2
  have HB2 := Lib.hid B2
  have HKA : Hid (Pk.Kp base bw w w2) := Lib.hid (Pk.Kp.trans (kp_al (kp_al (Pk.Kp.refl base bw w) hb _) hb _) hk2)
  have HL1 : Hid (P1.length + (b.co.flatMap inB).length + 40 ≤ 140737488355328) := Lib.hid (by
    have h1 := HLN.out
    have h2 : Pk.encI (n : Int) = Pk.enc b.co.length := by unfold Pk.encI; rw [Int.toNat_natCast, E1.out]
    rw [HP1.out]; simp only [List.length_append] at h1 ⊢; rw [h2]; omega)
  have HF1 : Hid (P1 ++ b.co.flatMap inB = bs ++ bdB b) := Lib.hid (by
    have h2 : Pk.encI (n : Int) = Pk.enc b.co.length := by unfold Pk.encI; rw [Int.toNat_natCast, E1.out]
    rw [HP1.out, h2]; simp only [bdB, manyB, List.append_assoc])
  clear hw2 B2 hk2 HW1 K0 HP1 HLN
  go_wp2_with fail
  clear q2
  go_loopw [19] (fun i wr => ∃ k : Nat, k ≤ n ∧ i = .int .i64 k ∧ Hid (Pk.WAt base bw wr (P1 ++ (b.co.take k).flatMap inB)) ∧ Pk.Kp base bw w wr) (fun i _ => n - (intOf i).toNat)
  case atStart => exact ⟨0, Nat.zero_le _, rfl, Lib.hid (by simpa using HW2.out), HKA.out⟩
  case round =>
    clear HW2 HB2 HKA
    obtain ⟨k, hk, rfl, HWk, hkp⟩ := hrel
    have hsr := hkp.size
    by_cases hkl : k < n
    · obtain ⟨x, hx⟩ : ∃ v, b.co[k]? = some v := ⟨_, List.getElem?_eq_getElem (by have := E1.out; omega)⟩
      obtain ⟨g, o, cs, rfl, hcell, rfl⟩ := HK1.out k x hx
      have hbr : Below W.heap.size W wr := HBW.out.trans (kp_below hkp hWb hlt)
      have p0 : wr.cell? ⟨g, o + k * 2, none⟩ = some (.int .i64 x.1) := (hbr.cell (World.block_lt_of_cell? _ _ (hcell 0 _ rfl))).trans (hcell 0 _ rfl)
      have p1 : wr.cell? ⟨g, o + k * 2 + 1, none⟩ = some (.int .i64 x.2) := (hbr.cell (World.block_lt_of_cell? _ _ (hcell 1 _ rfl))).trans (hcell 1 _ rfl)
      have HSN : Hid (P1 ++ (b.co.take (k + 1)).flatMap inB = (P1 ++ (b.co.take k).flatMap inB) ++ inB x) := Lib.hid (by rw [insB_snoc hx, List.append_assoc])
      have HXX := Lib.hid hx
      have hxo := HCO.out x (List.mem_of_getElem? hx)
      have HX1 := Lib.hid hxo.1
      have HX2 := Lib.hid hxo.2
      have HTk : Hid (TabR wr) := Lib.hid (HT.out.kp hkp (by omega) hlt)
      have HLk : Hid ((P1 ++ (b.co.take k).flatMap inB).length + (inB x).length + 40 ≤ 140737488355328) := Lib.hid (by
        have h1 := flat_take_le inB b.co (k + 1)
        have h2 := HL1.out
        rw [insB_snoc HXX.out] at h1
        simp only [List.length_append] at h1 h2 ⊢
        omega)
      have HI := Lib.hid (show inB x = Pk.encI x.1 ++ (if poolN (kd x.1) = 0 then [] else Pk.encI x.2) from rfl)
      have HE1 := Lib.hid (show 1 ≤ (Pk.encI x.1).length from encI_pos _)
      clear hcell hx hbr hxo
      generalize (P1 ++ (b.co.take k).flatMap inB) = Q1 at *
      go_wp2_with fail
      refine (numI1 base bw x.1 HX1.out _ _ _ _ (wat_al (wat_al HWk.out _) _) hlt (by simp; omega) (Blk.newAt (by simp) [.int .i64 x.1] 3) (by omega) (by have := HLk.out; omega)).mono ?_
      rintro e w4 ⟨rfl, hw4, hk4⟩
      have hs4 := hk4.size
      simp at hs4
      have Bx := ((Blk.new wr [.int .i64 x.1, .int .i64 x.2] 66).al _).kp hk4 (by decide) (by omega)
      have r0 := Bx.cell 0
      have r1 := Bx.cell 1
      simp only [List.getElem?_cons_succ, List.getElem?_cons_zero] at r0 r1
      have hkp4 : Pk.Kp base bw wr w4 := Pk.Kp.trans (kp_al (kp_al (Pk.Kp.refl base bw wr) (by omega) _) (by omega) _) hk4
      have HKP4 : Hid (Pk.Kp base bw w w4) := Lib.hid (hkp.trans hkp4)
      have HW4 := Lib.hid hw4
      have HP4 := Lib.hid (pool10 x.1 w4 (HTk.out.kp hkp4 (by omega) hlt))
      clear hw4 hk4 hkp4 Bx p0 p1
      by_cases hp : poolN (kd x.1) = 0
      · rw [hp] at HP4
        have HIX : Hid (inB x = Pk.encI x.1) := Lib.hid (by rw [HI.out, if_pos hp, List.append_nil])
        clear hp HI
        go_wp2_with (go_at_call 24; (with_reducible refine (HP4.out).mono ?_); rintro e w' ⟨rfl, rfl⟩)
        go_roundw
        case rel => exact ⟨k + 1, by omega, by go_num, Lib.hid (by rw [HSN.out, HIX.out]; exact HW4.out), HKP4.out⟩
        case measure => simp [intOf]; omega
      · have hpp : (poolN (kd x.1) == 0) = false := by simpa using hp
        have HIX : Hid (inB x = Pk.encI x.1 ++ Pk.encI x.2) := Lib.hid (by rw [HI.out, if_neg hp])
        have HLX : Hid ((Q1 ++ Pk.encI x.1).length + 9 ≤ 140737488355328) := Lib.hid (by have h1 := HLk.out; rw [HIX.out] at h1; simp only [List.length_append] at h1 ⊢; omega)
        generalize poolN (kd x.1) = PP at *
        clear hp HI
        go_wp2_with (go_at_call 24; (with_reducible refine (HP4.out).mono ?_); rintro e w' ⟨rfl, rfl⟩)
        refine (numI1 base bw x.2 HX2.out _ _ _ _ (wat_al HW4.out _) hlt (by simp; omega) (Blk.newAt (by simp) [.int .i64 x.2] 3) (by omega) HLX.out).mono ?_
        rintro e w5 ⟨rfl, hw5, hk5⟩
        have hs5 := hk5.size
        simp at hs5
        have HW5 := Lib.hid hw5
        have HKP5 : Hid (Pk.Kp base bw w w5) := Lib.hid (HKP4.out.trans (Pk.Kp.trans (kp_al (Pk.Kp.refl base bw w4) (by omega) _) hk5))
        clear hw5 hk5 r0 r1
        go_wp2_with fail
        go_roundw
        case rel => exact ⟨k + 1, by omega, by go_num, Lib.hid (by rw [HSN.out, HIX.out, ← List.append_assoc]; exact HW5.out), HKP5.out⟩
        case measure => simp [intOf]; omega
    · have HWE : Hid (Pk.WAt base bw wr (bs ++ bdB b)) := Lib.hid (by have := HWk.out; rwa [List.take_of_length_le (by have := E1.out; omega), HF1.out] at this)
      go_wp2
      go_end0
      exact ⟨rfl, HWE.out, hkp⟩
end Go.Proofs.YtomlbfkkhhhfkaaDoor.Fc
