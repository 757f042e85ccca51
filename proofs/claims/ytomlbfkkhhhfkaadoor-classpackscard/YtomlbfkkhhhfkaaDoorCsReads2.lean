/-
  Several instructions, as they are read.
-/
import Derived.Test.YtomlbfkkhhhfkaaDoorCsReads
namespace Go.Proofs.YtomlbfkkhhhfkaaDoor.Fc
open Go.RowKit
set_option linter.unusedVariables false

theorem TabR.mods {br : Nat} {w w' : World} (h : TabR w) (hm : Mods (· = br) w w') (h0 : 0 < br) : TabR w' := fun j v hv => by
  have h1 := h j v hv
  rw [World.cell?_of_block (w := w) (hm.block 0 (World.block_lt_of_cell? _ _ h1) (by omega))]
  exact h1
set_option maxHeartbeats 1000000 in
set_option maxRecDepth 100000 in
theorem instr97 (br : Nat) (hb0 : 0 < br) (st : Pk.St) (w : World) (h : Pk.RAt br w st) (hs : st.s.length ≤ 140737488355328) (hT : TabR w) :
    Calls Tryd.prog 97 #[.pointer (some ⟨br, 0, none⟩)] w fun e w' => e = .returned (.agg #[.int .i64 (rdIn st).1.1, .int .i64 (rdIn st).1.2]) ∧ Pk.RAt br w' (rdIn st).2 ∧ Mods (· = br) w w' := by
  have hlt := rat_lt h
  have H1 := Lib.hid (Pk.rnum_any br st 32 (w.alloc (.cells #[.int .i64 0, .int .i64 0] 66)) (rat_al h _) hs)
  have HC := Lib.hid (rNum_le st 32)
  have HL := Lib.hid (Pk.rNum_len st 32)
  have R0 : Hid (Blk (w.alloc (.cells #[.int .i64 0, .int .i64 0] 66)) w.heap.size [.int .i64 0, .int .i64 0] 66) := Lib.hid (Blk.new w [.int .i64 0, .int .i64 0] 66)
  unfold rdIn
  generalize Pk.rNum st 32 = r at *
  obtain ⟨c, st1⟩ := r
  dsimp only at H1 HC HL ⊢
  have HK : Hid (kd (c : Int) = c) := Lib.hid (by have := HC.out; rw [kd_toNat (by omega) (by omega)]; simp)
  have HT := Lib.hid hT
  clear h hT
  by_cases hp : poolN c = 0
  · simp only [if_pos hp]
    go_enter Tryd.func97, Tryd.ntmps97
    go_wp2_with fail
    refine H1.out.mono ?_
    rintro e w1 ⟨rfl, hr1, ho1⟩
    have hm1 := mods_on ho1
    have hs1 := hm1.size
    simp at hs1
    have R1 := Lib.hid (R0.out.keep hm1 (by omega))
    have HM1 := Lib.hid (mods_new hm1)
    obtain ⟨W2, HW2⟩ : ∃ W, Hid (W = w1.alloc (.cells #[.int .i64 (c : Int), .int .i64 0] 66)) := ⟨_, Lib.hid rfl⟩
    have X2 : Hid (Blk W2 w1.heap.size [.int .i64 (c : Int), .int .i64 0] 66) := Lib.hid (by rw [HW2.out]; exact Blk.new w1 [.int .i64 (c : Int), .int .i64 0] 66)
    have R2 : Hid (Blk W2 w.heap.size [.int .i64 0, .int .i64 0] 66) := Lib.hid (by rw [HW2.out]; exact R1.out.al _)
    have HM2 : Hid (Mods (· = br) w W2) := Lib.hid (by rw [HW2.out]; exact HM1.out.alloc _)
    have hr2 : Pk.RAt br W2 st1 := by rw [HW2.out]; exact rat_al hr1 _
    have HP : Hid (Calls Tryd.prog 24 #[.int .i64 (c : Int)] W2 fun e w' => e = .returned (.int .i32 (poolN c)) ∧ W2 = w') := Lib.hid (by have := pool10 (c : Int) W2 (HT.out.mods HM2.out hb0); rwa [HK.out] at this)
    go_upto_region 2 with fail
    rw [← HW2.out]
    have x0 := X2.out.cell 0
    have x1 := X2.out.cell 1
    simp only [List.getElem?_cons_succ, List.getElem?_cons_zero] at x0 x1
    clear hm1 ho1 hr1 R0 R1 HM1 H1 HW2
    have r0 := R2.out.cell 0
    have r1 := R2.out.cell 1
    simp only [List.getElem?_cons_succ, List.getElem?_cons_zero] at r0 r1
    have s0 := R2.out.frozen 0
    have s1 := R2.out.frozen 1
    have M := st2_mods (w := W2) (fb := w.heap.size) (.int .i64 (c : Int)) (.int .i64 0)
    have Z := (R2.out.set 0 (.int .i64 (c : Int))).set 1 (.int .i64 0)
    have z0 := Z.cell 0
    have z1 := Z.cell 1
    simp only [List.set_cons_zero, List.set_cons_succ, List.getElem?_cons_succ, List.getElem?_cons_zero] at z0 z1
    have HMF := Lib.hid (mods_more HM2.out M (Nat.le_refl _))
    have HRF := Lib.hid (rat_keep hr2 M (by omega))
    clear R2 M Z HM2 hr2
    go_wp2_with (go_at_call 24; refine HP.out.mono ?_; rintro e w' ⟨rfl, rfl⟩)
    refine bodyPost_ret (v := .agg #[.int .i64 (c : Int), .int .i64 0]) (by simp [results, Tryd.results97, go_sem, z0, z1]) rfl ?_
    exact ⟨rfl, HRF.out, HMF.out⟩
  · simp only [if_neg hp]
    have hpi : ¬ (poolN c : Int) = 0 := hp
    have HL1 : Hid (st1.s.length ≤ 140737488355328) := Lib.hid (Nat.le_trans HL.out hs)
    generalize hq : Pk.rNum st1 16384 = q
    obtain ⟨b, st2⟩ := q
    have HQ := Lib.hid hq
    clear hq
    dsimp only
    go_enter Tryd.func97, Tryd.ntmps97
    go_wp2_with fail
    refine H1.out.mono ?_
    rintro e w1 ⟨rfl, hr1, ho1⟩
    have hm1 := mods_on ho1
    have hs1 := hm1.size
    simp at hs1
    have R1 := Lib.hid (R0.out.keep hm1 (by omega))
    have HM1 := Lib.hid (mods_new hm1)
    obtain ⟨W2, HW2⟩ : ∃ W, Hid (W = w1.alloc (.cells #[.int .i64 (c : Int), .int .i64 0] 66)) := ⟨_, Lib.hid rfl⟩
    have X2 : Hid (Blk W2 w1.heap.size [.int .i64 (c : Int), .int .i64 0] 66) := Lib.hid (by rw [HW2.out]; exact Blk.new w1 [.int .i64 (c : Int), .int .i64 0] 66)
    have R2 : Hid (Blk W2 w.heap.size [.int .i64 0, .int .i64 0] 66) := Lib.hid (by rw [HW2.out]; exact R1.out.al _)
    have HM2 : Hid (Mods (· = br) w W2) := Lib.hid (by rw [HW2.out]; exact HM1.out.alloc _)
    have hr2 : Pk.RAt br W2 st1 := by rw [HW2.out]; exact rat_al hr1 _
    have HP : Hid (Calls Tryd.prog 24 #[.int .i64 (c : Int)] W2 fun e w' => e = .returned (.int .i32 (poolN c)) ∧ W2 = w') := Lib.hid (by have := pool10 (c : Int) W2 (HT.out.mods HM2.out hb0); rwa [HK.out] at this)
    go_upto_region 2 with fail
    rw [← HW2.out]
    have x0 := X2.out.cell 0
    have x1 := X2.out.cell 1
    simp only [List.getElem?_cons_succ, List.getElem?_cons_zero] at x0 x1
    clear hm1 ho1 hr1 R0 R1 HM1 H1 HW2
    have H2 := Lib.hid (Pk.rnum_any br st1 16384 W2 hr2 HL1.out)
    rw [HQ.out] at H2
    dsimp only at H2
    go_wp2_with (first | (go_at_call 24; refine HP.out.mono ?_; rintro e w' ⟨rfl, rfl⟩) | (go_at_call 74; refine H2.out.mono ?_; rintro e w3 ⟨rfl, hr3, ho3⟩; have hm3 := mods_on ho3; have X3 := X2.out.keep hm3 (by have := rat_lt hr2; omega); have R3 := R2.out.keep hm3 (by omega); have HM3 : Mods (· = br) w w3 := HM2.out.trans hm3 (fun _ _ e => e) (fun _ _ e => e); have y0 := X3.cell 0; have y1 := X3.cell 1; have y2 := X3.frozen 1; simp only [List.getElem?_cons_succ, List.getElem?_cons_zero] at y0 y1; have r0 := R3.cell 0; have r1 := R3.cell 1; simp only [List.getElem?_cons_succ, List.getElem?_cons_zero] at r0 r1; have s0 := R3.frozen 0; have s1 := R3.frozen 1))
    have hs3 := hm3.size
    have hw2 := lt_of_block X2.out
    have M1 : Mods (· = w1.heap.size) w3 (w3.setCell ⟨w1.heap.size, 1, none⟩ (.int .i64 (b : Int))) := (Mods.refl (· = w1.heap.size) w3).setCell (p := ⟨w1.heap.size, 1, none⟩) (.inl rfl) _
    have R4 := R3.keep M1 (by omega)
    have M2 := st2_mods (w := w3.setCell ⟨w1.heap.size, 1, none⟩ (.int .i64 (b : Int))) (fb := w.heap.size) (.int .i64 (c : Int)) (.int .i64 (b : Int))
    have Z := (R4.set 0 (.int .i64 (c : Int))).set 1 (.int .i64 (b : Int))
    have z0 := Z.cell 0
    have z1 := Z.cell 1
    simp only [List.set_cons_zero, List.set_cons_succ, List.getElem?_cons_succ, List.getElem?_cons_zero] at z0 z1
    refine bodyPost_ret (v := .agg #[.int .i64 (c : Int), .int .i64 (b : Int)]) (by simp [results, Tryd.results97, go_sem, z0, z1]) rfl ?_
    exact ⟨rfl, rat_keep (rat_keep hr3 M1 (by omega)) M2 (by omega), mods_more (mods_more HM3 M1 (by omega)) M2 (Nat.le_refl _)⟩
abbrev encA (x : Int × Int) : List Value := [.int .i64 x.1, .int .i64 x.2]
set_option maxHeartbeats 2000000 in
set_option maxRecDepth 100000 in
theorem many96 (br : Nat) (st : Pk.St) (w : World) (h : Pk.RAt br w st) (hs : st.s.length ≤ 140737488355328) (hb0 : 0 < br) (hT : TabR w) :
    Calls Tryd.prog 96 #[.pointer (some ⟨br, 0, none⟩), .func (.func 97) #[] #[]] w fun e w' => ∃ a n c, e = .returned (.slice a n c) ∧ Sl w' 2 InR (rdMany rdIn 16384 st).1 (.slice a n c) ∧ Own w.heap.size w' 66 a ∧ Pk.RAt br w' (rdMany rdIn 16384 st).2 ∧ Mods (· = br) w w' := by
  obtain ⟨i0, hi, hii⟩ : ∃ i, Tryd.prog.info? 66 = some i ∧ (i.size, i.bytes, i.zero.map (fun z => z.cells.size)) = (2, 16, some 2) := Option.map_eq_some_iff.1 (show (Tryd.prog.info? 66).map (fun i => (i.size, i.bytes, i.zero.map (fun z => z.cells.size))) = some (2, 16, some 2) by kernel_rfl)
  simp only [Prod.mk.injEq, Option.map_eq_some_iff] at hii
  obtain ⟨z1, z2, z, ez, z3⟩ := hii
  have hlt := rat_lt h
  have HT := Lib.hid hT
  clear hT
  have H1 := Lib.hid (Pk.rmany_any br st 16384 w h hs)
  have HL := Lib.hid (Pk.rMany_len st 16384)
  have HN := Lib.hid (rMany_le st 16384)
  have HE : Hid (rdMany rdIn 16384 st = rdN rdIn (Pk.rMany st 16384).1 (Pk.rMany st 16384).2) := Lib.hid rfl
  rw [HE.out]
  generalize Pk.rMany st 16384 = r at *
  obtain ⟨n, st1⟩ := r
  dsimp only at H1 HL HN HE ⊢
  have hn : n ≤ 16384 := by have := HN.out; omega
  have HLN : Hid (∀ k, (rdN rdIn k st1).2.s.length ≤ 140737488355328) := Lib.hid (fun k => Nat.le_trans (bk_len bk_in k st1) (Nat.le_trans HL.out hs))
  have HQ : Hid (∀ w' : World, w'.ownsRow w.heap.size 66 2 (.slice none 0 0) 0 ((rdN rdIn 0 st1).1.flatMap encA)) := Lib.hid (fun w' => World.ownsRow_nil _ _ _ _)
  clear h HL HE HN
  go_enter Tryd.func96, Tryd.ntmps96
  go_wp2_with (go_at_call 43; refine H1.out.mono ?_; rintro e w1 ⟨rfl, hr1, ho1⟩)
  have HM1 := Lib.hid (mods_on ho1)
  have HR1 := Lib.hid hr1
  have hs1 := ho1.size
  have HS1 : Hid (w1.heap.size = w.heap.size) := Lib.hid hs1
  clear hr1 ho1 H1 hs1
  go_loopw [5, 8] (fun v i wr => ∃ k : Nat, k ≤ n ∧ i = .int .i64 k ∧ Hid (wr.ownsRow w.heap.size 66 2 v k ((rdN rdIn k st1).1.flatMap encA)) ∧ (∃ a m c, v = .slice a m c) ∧ Hid (Pk.RAt br wr (rdN rdIn k st1).2) ∧ Mods (· = br) w wr) (fun _ i _ => n - (intOf i).toNat)
  case atStart => exact ⟨0, Nat.zero_le _, rfl, Lib.hid (HQ.out w1), ⟨_, _, _, rfl⟩, HR1, HM1.out⟩
  case round =>
    clear HR1 HM1 HS1
    obtain ⟨k, hk, rfl, HO, ⟨a, m, c, rfl⟩, HR, hm⟩ := hrel
    have hsr := hm.size
    by_cases hkl : k < n
    · have HP := Lib.hid (instr97 br hb0 (rdN rdIn k st1).2 wr HR.out (HLN.out k) (HT.out.mods hm hb0))
      have HSN : Hid (rdN rdIn (k + 1) st1 = ((rdN rdIn k st1).1 ++ [(rdIn (rdN rdIn k st1).2).1], (rdIn (rdN rdIn k st1).2).2)) := Lib.hid rfl
      have HXL := Lib.hid (rdN_count rdIn k st1)
      generalize rdN rdIn k st1 = q at *
      generalize rdIn q.2 = x at *
      obtain ⟨x, st2⟩ := x
      dsimp only at HP HSN
      go_wp2_with (first
        | (go_at_call 97; refine HP.out.mono ?_; rintro e w2 ⟨rfl, hr2, hm2⟩; have hrow2 := row_mods HO.out hm2 (rat_no HR.out 66 (by decide)); have hs2 := hm2.size)
        | (at_builtin; refine wpList_append_own _ rfl (.tmp 10) (.tmp 14) 67 rfl w.heap.size 66 i0 z 2 16 Tryd.underlying67 hi ez z1 z2 z3 (by decide) _ _ _ rfl (hrow2.alloc _) ⟨w2.heap.size, 0, none⟩ 1 1 [.int .i64 x.1, .int .i64 x.2] rfl rfl ?c1 ?c2 ?c3 ?c4 ?c5 ?_))
      case c1 =>
        intro j u hu
        rw [add_pl, Nat.zero_add]
        exact ((Blk.new w2 [.int .i64 x.1, .int .i64 x.2] 66).cell j).trans hu
      case c2 => simp [Value.oneCell']
      case c3 => unfold maxLen; omega
      case c4 => omega
      case c5 => simp; omega
      intro v' w3 hown' hgrow hnil
      have hmm := hm.trans hm2 (fun _ _ e => e) (fun _ _ e => e)
      have HM3 := Lib.hid (mods_grown hmm hrow2 hgrow (Nat.le_refl _))
      have HR3 := Lib.hid (rat_grown hr2 hrow2 hgrow hlt)
      obtain ⟨A, m', c', rfl⟩ := Pk.row_shape hown'
      have HO3 : Hid (w3.ownsRow w.heap.size 66 2 (.slice A m' c') (k + 1) ((rdN rdIn (k + 1) st1).1.flatMap encA)) := Lib.hid (by rw [HSN.out, List.flatMap_append, List.flatMap_singleton]; exact hown')
      have HR4 : Hid (Pk.RAt br w3 (rdN rdIn (k + 1) st1).2) := Lib.hid (by rw [HSN.out]; exact HR3.out)
      clear hown' hgrow hnil hrow2 hr2 hm2 HO HR HP
      go_wp2
      go_roundw
      case rel => exact ⟨k + 1, by omega, by go_num, HO3, ⟨_, _, _, rfl⟩, HR4, HM3.out⟩
      case measure => simp [intOf]; omega
    · obtain rfl : k = n := by omega
      obtain ⟨a', c'', e1, hsl, hown⟩ := row_sl (enc := encA) (fun _ => rfl) (rdN_count rdIn k st1) HO.out
      have HSL := Lib.hid hsl
      have HOW := Lib.hid hown
      cases e1
      clear hsl hown HO
      go_wp2
      go_ret
      exact ⟨_, _, _, rfl, HSL.out, HOW.out, HR.out, hm⟩
end Go.Proofs.YtomlbfkkhhhfkaaDoor.Fc
