/-
  The statements' own lay: a type (its closure).
-/
import Derived.Test.YtomlbfkkhhhfkaaDoorCsChain
namespace Go.Proofs.YtomlbfkkhhhfkaaDoor.Fc
open Go.RowKit
set_option linter.unusedVariables false
set_option linter.unusedSimpArgs false

set_option maxHeartbeats 4000000 in
set_option maxRecDepth 100000 in
theorem clos39 (BW F : Nat) (fs : List Value) (w : World) (Q : List UInt8) (n : ByteArray) (a : Bool) (z0 : World) (h : LyS BW F fs w Q z0) (hlen : Q.length + (sB n).length + 30 ≤ 140737488355328) :
    Calls Tryd.prog 39 #[.agg #[.string n, .bool a], .pointer (some ⟨BW + 1, 0, none⟩)] z0 fun e z' => e = .returned (.tuple #[]) ∧ LyS BW F fs w (Q ++ tyB ⟨n, a⟩) z' ∧ Pk.Kp (BW + 2) BW z0 z' := by
  obtain ⟨X, HXE⟩ : ∃ b, Hid (b = z0.heap.size) := ⟨_, Lib.hid rfl⟩
  have HX : Hid (Blk (z0.alloc (.cells #[.string n, .bool a] 60)) X [.string n, .bool a] 60) := Lib.hid (by rw [HXE.out]; exact Blk.new z0 _ 60)
  have HK0 : Hid (Pk.Kp (BW + 2) BW z0 (z0.alloc (.cells #[.string n, .bool a] 60))) := Lib.hid (Pk.Kp.of_below (below1 z0 _) h.size)
  have HL : Hid (LyS BW F fs w Q (z0.alloc (.cells #[.string n, .bool a] 60))) := Lib.hid (h.al _)
  have hX : X ≠ BW := by rw [HXE.out]; have := h.size; omega
  go_enter Tryd.func39, Tryd.ntmps39
  go_upto_region 1 with fail
  rw [← HXE.out]
  clear HXE h
  obtain ⟨PV, HPV⟩ : ∃ f : Nat → Value, Hid (f = (fun k => match k with | 0 => .pointer (some ⟨BW, 0, none⟩) | 1 => .pointer (some ⟨X, 0, none⟩) | 2 => .string n | 3 => undef | 4 => .pointer (some ⟨BW, 0, none⟩) | 5 => .pointer (some ⟨X, 1, none⟩) | 6 => .bool a | 7 => undef | 8 => .pointer (some ⟨BW, 0, none⟩) | _ => undef)) := ⟨_, Lib.hid rfl⟩
  obtain ⟨BV, HBV⟩ : ∃ f : Nat → Value, Hid (f = (fun k => match k with | 0 => undef | 1 => undef | 2 => undef | 3 => .string n | 4 => undef | 5 => undef | 6 => undef | 7 => .bool a | 8 => undef | _ => undef)) := ⟨_, Lib.hid rfl⟩
  obtain ⟨BT, HBT⟩ : ∃ f : Nat → TypeId, Hid (f = (fun k => match k with | 0 => 0 | 1 => 0 | 2 => 0 | 3 => 9 | 4 => 0 | 5 => 0 | 6 => 0 | 7 => 4 | 8 => 0 | _ => 0)) := ⟨_, Lib.hid rfl⟩
  obtain ⟨PC, HPC⟩ : ∃ f : List (List UInt8), Hid (f = [sB n, [Pk.flagB a]]) := ⟨_, Lib.hid rfl⟩
  have HBT5 : Hid (∀ k ∈ [3, 7], BT k ≠ 5) := Lib.hid (by rw [HBT.out]; decide)
  refine wp_region_chain (by kernel_rfl) (fun k => match k with | 0 => [] | 1 => [] | 2 => [1] | 3 => [2] | 4 => [0, 3] | 5 => [] | 6 => [5] | 7 => [6] | 8 => [4, 7] | _ => []) [3, 4, 5, 6, 7, 8, 9, 10, 11] (by kernel_rfl) ?hpre (by kernel_rfl) (by decide) (by intro d hd; have h : d < 12 := (show ∀ d ∈ [3, 4, 5, 6, 7, 8, 9, 10, 11], d < 12 by decide) d hd; exact h) [(1, .pointer (some ⟨BW + 1, 0, none⟩)), (2, .pointer (some ⟨X, 0, none⟩))] ?hbase (fun l T z => ∃ p, ChF BW F X fs [.string n, .bool a] 60 w Q [3, 7] [0, 1, 2, 4, 5, 6, 8] BV PV BT [4, 8] PC (z0.alloc (.cells #[.string n, .bool a] 60)) l T p z) ?h0 ?step (by kernel_rfl) ?fin
  case hpre =>
    intro i j hj
    show j < 9
    match i, hj with
    | 0, hj => cases hj
    | 1, hj => cases hj
    | 2, hj => simp at hj; omega
    | 3, hj => simp at hj; omega
    | 4, hj => simp at hj; omega
    | 5, hj => cases hj
    | 6, hj => simp at hj; omega
    | 7, hj => simp at hj; omega
    | 8, hj => simp at hj; omega
    | i + 9, hj => cases hj
  case hbase =>
    intro q hq
    simp only [List.mem_cons, List.not_mem_nil, or_false] at hq
    rcases hq with rfl | rfl
    · exact ⟨rfl, by simp⟩
    · exact ⟨rfl, by simp⟩
  case h0 =>
    exact fun T => ⟨0, ⟨rfl, rfl, rfl, Nat.le_refl _, fun _ _ _ => rfl, fun _ _ _ _ => rfl⟩, fun c k hk => by simp, by simpa using HL.out.drw, HX.out, fun k _ h => (by cases h), fun k _ h => (by cases h)⟩
  case step =>
    rintro l T z ⟨p, hF⟩ i o hi ho hl hpr A hA hB K' hK
    have hi' : i < 9 := hi
    rcases (show i = 0 ∨ i = 1 ∨ i = 2 ∨ i = 3 ∨ i = 4 ∨ i = 5 ∨ i = 6 ∨ i = 7 ∨ i = 8 by omega) with rfl | rfl | rfl | rfl | rfl | rfl | rfl | rfl | rfl
    · obtain rfl := Option.some.inj (show some _ = some o from ho)
      dsimp only [List.getElem_toArray, List.getElem_cons_zero, List.getElem_cons_succ] at hK ⊢
      have h1 : A.tmps.getD 1 undef = .pointer (some ⟨BW + 1, 0, none⟩) := hB (1, .pointer (some ⟨BW + 1, 0, none⟩)) (by simp)
      have h2 : A.tmps.getD 2 undef = .pointer (some ⟨X, 0, none⟩) := hB (2, .pointer (some ⟨X, 0, none⟩)) (by simp)
      have c0 := hF.ly.p.cell 0
      simp only [List.getElem?_cons_zero] at c0
      clear hA hB
      go_simp
      exact hK _ _ ⟨p, by have h := hF.pure (i := 0) (by decide) (by decide); rwa [show PV 0 = .pointer (some ⟨BW, 0, none⟩) from by rw [HPV.out]; rfl] at h⟩
    · obtain rfl := Option.some.inj (show some _ = some o from ho)
      dsimp only [List.getElem_toArray, List.getElem_cons_zero, List.getElem_cons_succ] at hK ⊢
      have h1 : A.tmps.getD 1 undef = .pointer (some ⟨BW + 1, 0, none⟩) := hB (1, .pointer (some ⟨BW + 1, 0, none⟩)) (by simp)
      have h2 : A.tmps.getD 2 undef = .pointer (some ⟨X, 0, none⟩) := hB (2, .pointer (some ⟨X, 0, none⟩)) (by simp)
      clear hA hB
      go_simp
      exact hK _ _ ⟨p, by have h := hF.pure (i := 1) (by decide) (by decide); rwa [show PV 1 = .pointer (some ⟨X, 0, none⟩) from by rw [HPV.out]; rfl] at h⟩
    · obtain rfl := Option.some.inj (show some _ = some o from ho)
      dsimp only [List.getElem_toArray, List.getElem_cons_zero, List.getElem_cons_succ] at hK ⊢
      have g1 : A.tmps.getD 4 undef = .pointer (some ⟨X, 0, none⟩) := (hA 1 4 rfl).trans ((hF.ps 1 (by decide) (hpr 1 (by decide))).trans (by rw [HPV.out]; rfl))
      have h1 : A.tmps.getD 1 undef = .pointer (some ⟨BW + 1, 0, none⟩) := hB (1, .pointer (some ⟨BW + 1, 0, none⟩)) (by simp)
      have h2 : A.tmps.getD 2 undef = .pointer (some ⟨X, 0, none⟩) := hB (2, .pointer (some ⟨X, 0, none⟩)) (by simp)
      have f1 : A.tmps[4]?.getD undef = _ := (Array.getD_eq_getD_getElem? ..).symm.trans g1
      have c0 := hF.x.cell 0
      simp only [List.getElem?_cons_zero] at c0
      clear hA hB
      go_simp
      exact hK _ _ ⟨p, by have h := hF.pure (i := 2) (by decide) (by decide); rwa [show PV 2 = .string n from by rw [HPV.out]; rfl] at h⟩
    · obtain rfl := Option.some.inj (show some _ = some o from ho)
      dsimp only [List.getElem_toArray, List.getElem_cons_zero, List.getElem_cons_succ] at hK ⊢
      have g2 : A.tmps.getD 5 undef = .string n := (hA 2 5 rfl).trans ((hF.ps 2 (by decide) (hpr 2 (by decide))).trans (by rw [HPV.out]; rfl))
      have h1 : A.tmps.getD 1 undef = .pointer (some ⟨BW + 1, 0, none⟩) := hB (1, .pointer (some ⟨BW + 1, 0, none⟩)) (by simp)
      have h2 : A.tmps.getD 2 undef = .pointer (some ⟨X, 0, none⟩) := hB (2, .pointer (some ⟨X, 0, none⟩)) (by simp)
      have f2 : A.tmps[5]?.getD undef = _ := (Array.getD_eq_getD_getElem? ..).symm.trans g2
      clear hA hB
      go_simp
      exact hK _ _ ⟨p, by have h := hF.build (i := 3) (by decide) (by decide); rwa [show BV 3 = .string n from by rw [HBV.out]; rfl, show BT 3 = 9 from by rw [HBT.out]; rfl] at h⟩
    · obtain rfl := Option.some.inj (show some _ = some o from ho)
      dsimp only [List.getElem_toArray, List.getElem_cons_zero, List.getElem_cons_succ] at hK ⊢
      have g0 : A.tmps.getD 3 undef = .pointer (some ⟨BW, 0, none⟩) := (hA 0 3 rfl).trans ((hF.ps 0 (by decide) (hpr 0 (by decide))).trans (by rw [HPV.out]; rfl))
      obtain ⟨b3, gg3, hb3, hn3⟩ := hF.bs 3 (by decide) (hpr 3 (by decide))
      have g3 : A.tmps.getD 6 undef = .slice (some ⟨b3, 0, none⟩) 1 1 := (hA 3 6 rfl).trans gg3
      rw [HBV.out, HBT.out] at hb3
      have h1 : A.tmps.getD 1 undef = .pointer (some ⟨BW + 1, 0, none⟩) := hB (1, .pointer (some ⟨BW + 1, 0, none⟩)) (by simp)
      have h2 : A.tmps.getD 2 undef = .pointer (some ⟨X, 0, none⟩) := hB (2, .pointer (some ⟨X, 0, none⟩)) (by simp)
      have f0 : A.tmps[3]?.getD undef = _ := (Array.getD_eq_getD_getElem? ..).symm.trans g0
      have f3 : A.tmps[6]?.getD undef = _ := (Array.getD_eq_getD_getElem? ..).symm.trans g3
      obtain rfl : p = 0 := hF.at (c := 0) rfl hl (fun c' k' hc => by omega)
      clear hA hB
      have hly := hF.ly
      have HLY := Lib.hid hly
      have HT : Hid (PC.take 0 = []) := Lib.hid (by rw [HPC.out]; rfl)
      go_simp
      refine (ly_text n b3 1 HLY.out hb3 hn3 (by rw [HT.out]; simp; omega)).mono ?_
      rintro e z' ⟨rfl, hL, hk⟩
      go_simp
      exact hK _ _ ⟨0 + 1, by have h := hF.call (i := 4) rfl (by decide) (by decide) (pc := sB n) (by rw [HPC.out]; rfl) hL hk (by decide) hX HBT5.out; rwa [show PV 4 = .pointer (some ⟨BW, 0, none⟩) from by rw [HPV.out]; rfl] at h⟩
    · obtain rfl := Option.some.inj (show some _ = some o from ho)
      dsimp only [List.getElem_toArray, List.getElem_cons_zero, List.getElem_cons_succ] at hK ⊢
      have h1 : A.tmps.getD 1 undef = .pointer (some ⟨BW + 1, 0, none⟩) := hB (1, .pointer (some ⟨BW + 1, 0, none⟩)) (by simp)
      have h2 : A.tmps.getD 2 undef = .pointer (some ⟨X, 0, none⟩) := hB (2, .pointer (some ⟨X, 0, none⟩)) (by simp)
      clear hA hB
      go_simp
      exact hK _ _ ⟨p, by have h := hF.pure (i := 5) (by decide) (by decide); rwa [show PV 5 = .pointer (some ⟨X, 1, none⟩) from by rw [HPV.out]; rfl] at h⟩
    · obtain rfl := Option.some.inj (show some _ = some o from ho)
      dsimp only [List.getElem_toArray, List.getElem_cons_zero, List.getElem_cons_succ] at hK ⊢
      have g5 : A.tmps.getD 8 undef = .pointer (some ⟨X, 1, none⟩) := (hA 5 8 rfl).trans ((hF.ps 5 (by decide) (hpr 5 (by decide))).trans (by rw [HPV.out]; rfl))
      have h1 : A.tmps.getD 1 undef = .pointer (some ⟨BW + 1, 0, none⟩) := hB (1, .pointer (some ⟨BW + 1, 0, none⟩)) (by simp)
      have h2 : A.tmps.getD 2 undef = .pointer (some ⟨X, 0, none⟩) := hB (2, .pointer (some ⟨X, 0, none⟩)) (by simp)
      have f5 : A.tmps[8]?.getD undef = _ := (Array.getD_eq_getD_getElem? ..).symm.trans g5
      have c0 := hF.x.cell 1
      simp only [List.getElem?_cons_succ, List.getElem?_cons_zero] at c0
      clear hA hB
      go_simp
      exact hK _ _ ⟨p, by have h := hF.pure (i := 6) (by decide) (by decide); rwa [show PV 6 = .bool a from by rw [HPV.out]; rfl] at h⟩
    · obtain rfl := Option.some.inj (show some _ = some o from ho)
      dsimp only [List.getElem_toArray, List.getElem_cons_zero, List.getElem_cons_succ] at hK ⊢
      have g6 : A.tmps.getD 9 undef = .bool a := (hA 6 9 rfl).trans ((hF.ps 6 (by decide) (hpr 6 (by decide))).trans (by rw [HPV.out]; rfl))
      have h1 : A.tmps.getD 1 undef = .pointer (some ⟨BW + 1, 0, none⟩) := hB (1, .pointer (some ⟨BW + 1, 0, none⟩)) (by simp)
      have h2 : A.tmps.getD 2 undef = .pointer (some ⟨X, 0, none⟩) := hB (2, .pointer (some ⟨X, 0, none⟩)) (by simp)
      have f6 : A.tmps[9]?.getD undef = _ := (Array.getD_eq_getD_getElem? ..).symm.trans g6
      clear hA hB
      go_simp
      exact hK _ _ ⟨p, by have h := hF.build (i := 7) (by decide) (by decide); rwa [show BV 7 = .bool a from by rw [HBV.out]; rfl, show BT 7 = 4 from by rw [HBT.out]; rfl] at h⟩
    · obtain rfl := Option.some.inj (show some _ = some o from ho)
      dsimp only [List.getElem_toArray, List.getElem_cons_zero, List.getElem_cons_succ] at hK ⊢
      have g4 : A.tmps.getD 7 undef = .pointer (some ⟨BW, 0, none⟩) := (hA 4 7 rfl).trans ((hF.ps 4 (by decide) (hpr 4 (by decide))).trans (by rw [HPV.out]; rfl))
      obtain ⟨b7, gg7, hb7, hn7⟩ := hF.bs 7 (by decide) (hpr 7 (by decide))
      have g7 : A.tmps.getD 10 undef = .slice (some ⟨b7, 0, none⟩) 1 1 := (hA 7 10 rfl).trans gg7
      rw [HBV.out, HBT.out] at hb7
      have h1 : A.tmps.getD 1 undef = .pointer (some ⟨BW + 1, 0, none⟩) := hB (1, .pointer (some ⟨BW + 1, 0, none⟩)) (by simp)
      have h2 : A.tmps.getD 2 undef = .pointer (some ⟨X, 0, none⟩) := hB (2, .pointer (some ⟨X, 0, none⟩)) (by simp)
      have f4 : A.tmps[7]?.getD undef = _ := (Array.getD_eq_getD_getElem? ..).symm.trans g4
      have f7 : A.tmps[10]?.getD undef = _ := (Array.getD_eq_getD_getElem? ..).symm.trans g7
      obtain rfl : p = 1 := hF.at (c := 1) rfl hl (fun c' k' hc hk => by (obtain rfl : c' = 0 := (by omega)); (obtain rfl : 4 = k' := (by simpa using hk)); exact hpr 4 (by decide))
      clear hA hB
      have hly := hF.ly
      have HLY := Lib.hid hly
      have HT : Hid (PC.take 1 = [sB n]) := Lib.hid (by rw [HPC.out]; rfl)
      go_simp
      refine (ly_flag a b7 1 HLY.out hb7 hn7 (by rw [HT.out]; simp; omega)).mono ?_
      rintro e z' ⟨rfl, hL, hk⟩
      go_simp
      exact hK _ _ ⟨1 + 1, by have h := hF.call (i := 8) rfl (by decide) (by decide) (pc := [Pk.flagB a]) (by rw [HPC.out]; rfl) hL hk (by decide) hX HBT5.out; rwa [show PV 8 = .pointer (some ⟨BW, 0, none⟩) from by rw [HPV.out]; rfl] at h⟩
  case fin =>
    rintro l T z ⟨p, hF⟩ hall
    have h := hF.c 1 8 rfl
    rw [hall 8 (by show 8 < 9; omega)] at h
    have h1 : 1 < p := by simpa using h.symm
    have hQ : PC.take p = [sB n, [Pk.flagB a]] := by rw [List.take_of_length_le (by rw [HPC.out]; show 2 ≤ p; omega), HPC.out]
    have hly := hF.ly
    have hkp := hF.kp
    rw [hQ] at hly
    have hxb := hF.x
    have e1 : Q ++ [sB n, [Pk.flagB a]].flatten = Q ++ tyB ⟨n, a⟩ := by simp [tyB]
    rw [e1] at hly
    have HF := Lib.hid hly
    have HKP := Lib.hid (HK0.out.trans hkp)
    clear hly hxb hkp hF
    simp only [actA, setAll, List.setIfInBounds_toArray, List.set_cons_zero, List.set_cons_succ, Nat.zero_add, Nat.reduceAdd]
    go_wp2
    try go_end0
    exact ⟨rfl, HF.out, HKP.out⟩

end Go.Proofs.YtomlbfkkhhhfkaaDoor.Fc
