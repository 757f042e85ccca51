/-
  Several numbers, names and types of a pool, as they are read.
-/
import Derived.Test.YtomlbfkkhhhfkaaDoorCsCod
import Derived.Test.YtomlbfkkhhhfkaaDoorFcMany
namespace Go.Proofs.YtomlbfkkhhhfkaaDoor.Fc
open Go.RowKit
set_option linter.unusedVariables false

abbrev encN (n : Int) : List Value := [.int .i64 n]
abbrev encS (s : ByteArray) : List Value := [.string s]
set_option maxHeartbeats 400000 in
theorem name89 (br : Nat) (st : Pk.St) (w : World) (h : Pk.RAt br w st) (hs : st.s.length ≤ 140737488355328) :
    Calls Tryd.prog 89 #[.pointer (some ⟨br, 0, none⟩)] w fun e w' => e = .returned (.string (rdS 40 st).1) ∧ Pk.RAt br w' (rdS 40 st).2 ∧ Mods (· = br) w w' := by
  have H := Lib.hid (Pk.rtext_any br st 40 w h hs)
  unfold rdS
  generalize Pk.rText st 40 = r at *
  clear h
  go_enter Tryd.func89, Tryd.ntmps89
  go_wp2_with (go_at_call 44; refine H.out.mono ?_; rintro e w' ⟨rfl, hr, ho⟩)
  go_ret
  exact ⟨rfl, hr, mods_on ho⟩

theorem int87 (br : Nat) (st : Pk.St) (w : World) (h : Pk.RAt br w st) (hs : st.s.length ≤ 140737488355328) :
    Calls Tryd.prog 87 #[.pointer (some ⟨br, 0, none⟩)] w fun e w' => e = .returned (.int .i64 (Pk.rInt st).1) ∧ Pk.RAt br w' (Pk.rInt st).2 ∧ Mods (· = br) w w' :=
  (Pk.rint_any br st w h hs).mono fun e w' h => ⟨h.1, h.2.1, mods_on h.2.2⟩
set_option maxHeartbeats 2000000 in
set_option maxRecDepth 100000 in
theorem many90 (br : Nat) (st : Pk.St) (w : World) (h : Pk.RAt br w st) (hs : st.s.length ≤ 140737488355328) :
    Calls Tryd.prog 90 #[.pointer (some ⟨br, 0, none⟩), .func (.func 91) #[] #[]] w fun e w' => ∃ a n c, e = .returned (.slice a n c) ∧ Sl w' 2 TyR (rdMany (rdTy 40) 16384 st).1 (.slice a n c) ∧ Own w.heap.size w' 60 a ∧ Pk.RAt br w' (rdMany (rdTy 40) 16384 st).2 ∧ Mods (· = br) w w' := by
  obtain ⟨i0, hi, hii⟩ := info45
  simp only [Prod.mk.injEq, Option.map_eq_some_iff] at hii
  obtain ⟨z1, z2, z, ez, z3⟩ := hii
  have hlt := rat_lt h
  have H1 := Lib.hid (Pk.rmany_any br st 16384 w h hs)
  have HL := Lib.hid (Pk.rMany_len st 16384)
  have HN := Lib.hid (rMany_le st 16384)
  have HE : Hid (rdMany (rdTy 40) 16384 st = rdN (rdTy 40) (Pk.rMany st 16384).1 (Pk.rMany st 16384).2) := Lib.hid rfl
  rw [HE.out]
  generalize Pk.rMany st 16384 = r at *
  obtain ⟨n, st1⟩ := r
  dsimp only at H1 HL HN HE ⊢
  have hn : n ≤ 16384 := by have := HN.out; omega
  have HLN : Hid (∀ k, (rdN (rdTy 40) k st1).2.s.length ≤ 140737488355328) := Lib.hid (fun k => Nat.le_trans (bk_len (cod_ty 40).bk k st1) (Nat.le_trans HL.out hs))
  have HQ : Hid (∀ w' : World, w'.ownsRow w.heap.size 60 2 (.slice none 0 0) 0 ((rdN (rdTy 40) 0 st1).1.flatMap encT)) := Lib.hid (fun w' => World.ownsRow_nil _ _ _ _)
  clear h HL HE HN
  go_enter Tryd.func90, Tryd.ntmps90
  go_wp2_with (go_at_call 43; refine H1.out.mono ?_; rintro e w1 ⟨rfl, hr1, ho1⟩)
  have HM1 := Lib.hid (mods_on ho1)
  have HR1 := Lib.hid hr1
  have hs1 := ho1.size
  have HS1 : Hid (w1.heap.size = w.heap.size) := Lib.hid hs1
  clear hr1 ho1 H1 hs1
  go_loopw [5, 8] (fun v i wr => ∃ k : Nat, k ≤ n ∧ i = .int .i64 k ∧ Hid (wr.ownsRow w.heap.size 60 2 v k ((rdN (rdTy 40) k st1).1.flatMap encT)) ∧ (∃ a m c, v = .slice a m c) ∧ Hid (Pk.RAt br wr (rdN (rdTy 40) k st1).2) ∧ Mods (· = br) w wr) (fun _ i _ => n - (intOf i).toNat)
  case atStart => exact ⟨0, Nat.zero_le _, rfl, Lib.hid (HQ.out w1), ⟨_, _, _, rfl⟩, HR1, HM1.out⟩
  case round =>
    clear HR1 HM1 HS1
    obtain ⟨k, hk, rfl, HO, ⟨a, m, c, rfl⟩, HR, hm⟩ := hrel
    have hsr := hm.size
    by_cases hkl : k < n
    · have HP := Lib.hid (type20 br (rdN (rdTy 40) k st1).2 wr HR.out (HLN.out k))
      have HSN : Hid (rdN (rdTy 40) (k + 1) st1 = ((rdN (rdTy 40) k st1).1 ++ [(rdTy 40 (rdN (rdTy 40) k st1).2).1], (rdTy 40 (rdN (rdTy 40) k st1).2).2)) := Lib.hid rfl
      have HXL := Lib.hid (rdN_count (rdTy 40) k st1)
      generalize rdN (rdTy 40) k st1 = q at *
      generalize rdTy 40 q.2 = x at *
      obtain ⟨x, st2⟩ := x
      dsimp only at HP HSN
      go_wp2_with (first
        | (go_at_call 91; refine HP.out.mono ?_; rintro e w2 ⟨rfl, hr2, hm2⟩; have hrow2 := row_mods HO.out hm2 (rat_no HR.out 60 (by decide)); have hs2 := hm2.size)
        | (at_builtin; refine wpList_append_own _ rfl (.tmp 10) (.tmp 14) 28 rfl w.heap.size 60 i0 z 2 24 Tryd.underlying28 hi ez z1 z2 z3 (by decide) _ _ _ rfl (hrow2.alloc _) ⟨w2.heap.size, 0, none⟩ 1 1 [.string x.n, .bool x.a] rfl rfl ?c1 ?c2 ?c3 ?c4 ?c5 ?_))
      case c1 =>
        intro j u hu
        rw [add_pl, Nat.zero_add]
        exact ((Blk.new w2 [.string x.n, .bool x.a] 60).cell j).trans hu
      case c2 => simp [Value.oneCell']
      case c3 => unfold maxLen; omega
      case c4 => omega
      case c5 => simp; omega
      intro v' w3 hown' hgrow hnil
      have hmm := hm.trans hm2 (fun _ _ e => e) (fun _ _ e => e)
      have HM3 := Lib.hid (mods_grown hmm hrow2 hgrow (Nat.le_refl _))
      have HR3 := Lib.hid (rat_grown hr2 hrow2 hgrow hlt)
      obtain ⟨A, m', c', rfl⟩ := Pk.row_shape hown'
      have HO3 : Hid (w3.ownsRow w.heap.size 60 2 (.slice A m' c') (k + 1) ((rdN (rdTy 40) (k + 1) st1).1.flatMap encT)) := Lib.hid (by rw [HSN.out, List.flatMap_append, List.flatMap_singleton]; exact hown')
      have HR4 : Hid (Pk.RAt br w3 (rdN (rdTy 40) (k + 1) st1).2) := Lib.hid (by rw [HSN.out]; exact HR3.out)
      clear hown' hgrow hnil hrow2 hr2 hm2 HO HR HP
      go_wp2
      go_roundw
      case rel => exact ⟨k + 1, by omega, by go_num, HO3, ⟨_, _, _, rfl⟩, HR4, HM3.out⟩
      case measure => simp [intOf]; omega
    · obtain rfl : k = n := by omega
      obtain ⟨a', c'', e1, hsl, hown⟩ := row_sl (enc := encT) (fun _ => rfl) (rdN_count (rdTy 40) k st1) HO.out
      have HSL := Lib.hid hsl
      have HOW := Lib.hid hown
      cases e1
      clear hsl hown HO
      go_wp2
      go_ret
      exact ⟨_, _, _, rfl, HSL.out, HOW.out, HR.out, hm⟩
set_option maxHeartbeats 2000000 in
set_option maxRecDepth 100000 in
theorem many86 (br : Nat) (st : Pk.St) (w : World) (h : Pk.RAt br w st) (hs : st.s.length ≤ 140737488355328) :
    Calls Tryd.prog 86 #[.pointer (some ⟨br, 0, none⟩), .func (.func 87) #[] #[]] w fun e w' => ∃ a n c, e = .returned (.slice a n c) ∧ Sl w' 1 NmR (rdMany Pk.rInt 16384 st).1 (.slice a n c) ∧ Own w.heap.size w' 2 a ∧ Pk.RAt br w' (rdMany Pk.rInt 16384 st).2 ∧ Mods (· = br) w w' := by
  obtain ⟨i0, hi, hii⟩ : ∃ i, Tryd.prog.info? 2 = some i ∧ (i.size, i.bytes, i.zero.map (fun z => z.cells.size)) = (1, 8, some 1) := Option.map_eq_some_iff.1 (show (Tryd.prog.info? 2).map (fun i => (i.size, i.bytes, i.zero.map (fun z => z.cells.size))) = some (1, 8, some 1) by kernel_rfl)
  simp only [Prod.mk.injEq, Option.map_eq_some_iff] at hii
  obtain ⟨z1, z2, z, ez, z3⟩ := hii
  have hlt := rat_lt h
  have H1 := Lib.hid (Pk.rmany_any br st 16384 w h hs)
  have HL := Lib.hid (Pk.rMany_len st 16384)
  have HN := Lib.hid (rMany_le st 16384)
  have HE : Hid (rdMany Pk.rInt 16384 st = rdN Pk.rInt (Pk.rMany st 16384).1 (Pk.rMany st 16384).2) := Lib.hid rfl
  rw [HE.out]
  generalize Pk.rMany st 16384 = r at *
  obtain ⟨n, st1⟩ := r
  dsimp only at H1 HL HN HE ⊢
  have hn : n ≤ 16384 := by have := HN.out; omega
  have HLN : Hid (∀ k, (rdN Pk.rInt k st1).2.s.length ≤ 140737488355328) := Lib.hid (fun k => Nat.le_trans (bk_len bk_int k st1) (Nat.le_trans HL.out hs))
  have HQ : Hid (∀ w' : World, w'.ownsRow w.heap.size 2 1 (.slice none 0 0) 0 ((rdN Pk.rInt 0 st1).1.flatMap encN)) := Lib.hid (fun w' => World.ownsRow_nil _ _ _ _)
  clear h HL HE HN
  go_enter Tryd.func86, Tryd.ntmps86
  go_wp2_with (go_at_call 43; refine H1.out.mono ?_; rintro e w1 ⟨rfl, hr1, ho1⟩)
  have HM1 := Lib.hid (mods_on ho1)
  have HR1 := Lib.hid hr1
  have hs1 := ho1.size
  have HS1 : Hid (w1.heap.size = w.heap.size) := Lib.hid hs1
  clear hr1 ho1 H1 hs1
  go_loopw [5, 8] (fun v i wr => ∃ k : Nat, k ≤ n ∧ i = .int .i64 k ∧ Hid (wr.ownsRow w.heap.size 2 1 v k ((rdN Pk.rInt k st1).1.flatMap encN)) ∧ (∃ a m c, v = .slice a m c) ∧ Hid (Pk.RAt br wr (rdN Pk.rInt k st1).2) ∧ Mods (· = br) w wr) (fun _ i _ => n - (intOf i).toNat)
  case atStart => exact ⟨0, Nat.zero_le _, rfl, Lib.hid (HQ.out w1), ⟨_, _, _, rfl⟩, HR1, HM1.out⟩
  case round =>
    clear HR1 HM1 HS1
    obtain ⟨k, hk, rfl, HO, ⟨a, m, c, rfl⟩, HR, hm⟩ := hrel
    have hsr := hm.size
    by_cases hkl : k < n
    · have HP := Lib.hid (int87 br (rdN Pk.rInt k st1).2 wr HR.out (HLN.out k))
      have HSN : Hid (rdN Pk.rInt (k + 1) st1 = ((rdN Pk.rInt k st1).1 ++ [(Pk.rInt (rdN Pk.rInt k st1).2).1], (Pk.rInt (rdN Pk.rInt k st1).2).2)) := Lib.hid rfl
      have HXL := Lib.hid (rdN_count Pk.rInt k st1)
      generalize rdN Pk.rInt k st1 = q at *
      generalize Pk.rInt q.2 = x at *
      obtain ⟨x, st2⟩ := x
      dsimp only at HP HSN
      go_wp2_with (first
        | (go_at_call 87; refine HP.out.mono ?_; rintro e w2 ⟨rfl, hr2, hm2⟩; have hrow2 := row_mods HO.out hm2 (rat_no HR.out 2 (by decide)); have hs2 := hm2.size)
        | (at_builtin; refine wpList_append_own _ rfl (.tmp 10) (.tmp 14) 26 rfl w.heap.size 2 i0 z 1 8 Tryd.underlying26 hi ez z1 z2 z3 (by decide) _ _ _ rfl (hrow2.alloc _) ⟨w2.heap.size, 0, none⟩ 1 1 [.int .i64 x] rfl rfl ?c1 ?c2 ?c3 ?c4 ?c5 ?_))
      case c1 =>
        intro j u hu
        rw [add_pl, Nat.zero_add]
        exact ((Blk.new w2 [.int .i64 x] 2).cell j).trans hu
      case c2 => simp [Value.oneCell']
      case c3 => unfold maxLen; omega
      case c4 => omega
      case c5 => simp; omega
      intro v' w3 hown' hgrow hnil
      have hmm := hm.trans hm2 (fun _ _ e => e) (fun _ _ e => e)
      have HM3 := Lib.hid (mods_grown hmm hrow2 hgrow (Nat.le_refl _))
      have HR3 := Lib.hid (rat_grown hr2 hrow2 hgrow hlt)
      obtain ⟨A, m', c', rfl⟩ := Pk.row_shape hown'
      have HO3 : Hid (w3.ownsRow w.heap.size 2 1 (.slice A m' c') (k + 1) ((rdN Pk.rInt (k + 1) st1).1.flatMap encN)) := Lib.hid (by rw [HSN.out, List.flatMap_append, List.flatMap_singleton]; exact hown')
      have HR4 : Hid (Pk.RAt br w3 (rdN Pk.rInt (k + 1) st1).2) := Lib.hid (by rw [HSN.out]; exact HR3.out)
      clear hown' hgrow hnil hrow2 hr2 hm2 HO HR HP
      go_wp2
      go_roundw
      case rel => exact ⟨k + 1, by omega, by go_num, HO3, ⟨_, _, _, rfl⟩, HR4, HM3.out⟩
      case measure => simp [intOf]; omega
    · obtain rfl : k = n := by omega
      obtain ⟨a', c'', e1, hsl, hown⟩ := row_sl (enc := encN) (fun _ => rfl) (rdN_count Pk.rInt k st1) HO.out
      have HSL := Lib.hid hsl
      have HOW := Lib.hid hown
      cases e1
      clear hsl hown HO
      go_wp2
      go_ret
      exact ⟨_, _, _, rfl, HSL.out, HOW.out, HR.out, hm⟩
set_option maxHeartbeats 2000000 in
set_option maxRecDepth 100000 in
theorem many88 (br : Nat) (st : Pk.St) (w : World) (h : Pk.RAt br w st) (hs : st.s.length ≤ 140737488355328) :
    Calls Tryd.prog 88 #[.pointer (some ⟨br, 0, none⟩), .func (.func 89) #[] #[]] w fun e w' => ∃ a n c, e = .returned (.slice a n c) ∧ Sl w' 1 StrR (rdMany (rdS 40) 16384 st).1 (.slice a n c) ∧ Own w.heap.size w' 9 a ∧ Pk.RAt br w' (rdMany (rdS 40) 16384 st).2 ∧ Mods (· = br) w w' := by
  obtain ⟨i0, hi, hii⟩ : ∃ i, Tryd.prog.info? 9 = some i ∧ (i.size, i.bytes, i.zero.map (fun z => z.cells.size)) = (1, 16, some 1) := Option.map_eq_some_iff.1 (show (Tryd.prog.info? 9).map (fun i => (i.size, i.bytes, i.zero.map (fun z => z.cells.size))) = some (1, 16, some 1) by kernel_rfl)
  simp only [Prod.mk.injEq, Option.map_eq_some_iff] at hii
  obtain ⟨z1, z2, z, ez, z3⟩ := hii
  have hlt := rat_lt h
  have H1 := Lib.hid (Pk.rmany_any br st 16384 w h hs)
  have HL := Lib.hid (Pk.rMany_len st 16384)
  have HN := Lib.hid (rMany_le st 16384)
  have HE : Hid (rdMany (rdS 40) 16384 st = rdN (rdS 40) (Pk.rMany st 16384).1 (Pk.rMany st 16384).2) := Lib.hid rfl
  rw [HE.out]
  generalize Pk.rMany st 16384 = r at *
  obtain ⟨n, st1⟩ := r
  dsimp only at H1 HL HN HE ⊢
  have hn : n ≤ 16384 := by have := HN.out; omega
  have HLN : Hid (∀ k, (rdN (rdS 40) k st1).2.s.length ≤ 140737488355328) := Lib.hid (fun k => Nat.le_trans (bk_len (cod_s 40).bk k st1) (Nat.le_trans HL.out hs))
  have HQ : Hid (∀ w' : World, w'.ownsRow w.heap.size 9 1 (.slice none 0 0) 0 ((rdN (rdS 40) 0 st1).1.flatMap encS)) := Lib.hid (fun w' => World.ownsRow_nil _ _ _ _)
  clear h HL HE HN
  go_enter Tryd.func88, Tryd.ntmps88
  go_wp2_with (go_at_call 43; refine H1.out.mono ?_; rintro e w1 ⟨rfl, hr1, ho1⟩)
  have HM1 := Lib.hid (mods_on ho1)
  have HR1 := Lib.hid hr1
  have hs1 := ho1.size
  have HS1 : Hid (w1.heap.size = w.heap.size) := Lib.hid hs1
  clear hr1 ho1 H1 hs1
  go_loopw [5, 8] (fun v i wr => ∃ k : Nat, k ≤ n ∧ i = .int .i64 k ∧ Hid (wr.ownsRow w.heap.size 9 1 v k ((rdN (rdS 40) k st1).1.flatMap encS)) ∧ (∃ a m c, v = .slice a m c) ∧ Hid (Pk.RAt br wr (rdN (rdS 40) k st1).2) ∧ Mods (· = br) w wr) (fun _ i _ => n - (intOf i).toNat)
  case atStart => exact ⟨0, Nat.zero_le _, rfl, Lib.hid (HQ.out w1), ⟨_, _, _, rfl⟩, HR1, HM1.out⟩
  case round =>
    clear HR1 HM1 HS1
    obtain ⟨k, hk, rfl, HO, ⟨a, m, c, rfl⟩, HR, hm⟩ := hrel
    have hsr := hm.size
    by_cases hkl : k < n
    · have HP := Lib.hid (name89 br (rdN (rdS 40) k st1).2 wr HR.out (HLN.out k))
      have HSN : Hid (rdN (rdS 40) (k + 1) st1 = ((rdN (rdS 40) k st1).1 ++ [(rdS 40 (rdN (rdS 40) k st1).2).1], (rdS 40 (rdN (rdS 40) k st1).2).2)) := Lib.hid rfl
      have HXL := Lib.hid (rdN_count (rdS 40) k st1)
      generalize rdN (rdS 40) k st1 = q at *
      generalize rdS 40 q.2 = x at *
      obtain ⟨x, st2⟩ := x
      dsimp only at HP HSN
      go_wp2_with (first
        | (go_at_call 89; refine HP.out.mono ?_; rintro e w2 ⟨rfl, hr2, hm2⟩; have hrow2 := row_mods HO.out hm2 (rat_no HR.out 9 (by decide)); have hs2 := hm2.size)
        | (at_builtin; refine wpList_append_own _ rfl (.tmp 10) (.tmp 14) 27 rfl w.heap.size 9 i0 z 1 16 Tryd.underlying27 hi ez z1 z2 z3 (by decide) _ _ _ rfl (hrow2.alloc _) ⟨w2.heap.size, 0, none⟩ 1 1 [.string x] rfl rfl ?c1 ?c2 ?c3 ?c4 ?c5 ?_))
      case c1 =>
        intro j u hu
        rw [add_pl, Nat.zero_add]
        exact ((Blk.new w2 [.string x] 9).cell j).trans hu
      case c2 => simp [Value.oneCell']
      case c3 => unfold maxLen; omega
      case c4 => omega
      case c5 => simp; omega
      intro v' w3 hown' hgrow hnil
      have hmm := hm.trans hm2 (fun _ _ e => e) (fun _ _ e => e)
      have HM3 := Lib.hid (mods_grown hmm hrow2 hgrow (Nat.le_refl _))
      have HR3 := Lib.hid (rat_grown hr2 hrow2 hgrow hlt)
      obtain ⟨A, m', c', rfl⟩ := Pk.row_shape hown'
      have HO3 : Hid (w3.ownsRow w.heap.size 9 1 (.slice A m' c') (k + 1) ((rdN (rdS 40) (k + 1) st1).1.flatMap encS)) := Lib.hid (by rw [HSN.out, List.flatMap_append, List.flatMap_singleton]; exact hown')
      have HR4 : Hid (Pk.RAt br w3 (rdN (rdS 40) (k + 1) st1).2) := Lib.hid (by rw [HSN.out]; exact HR3.out)
      clear hown' hgrow hnil hrow2 hr2 hm2 HO HR HP
      go_wp2
      go_roundw
      case rel => exact ⟨k + 1, by omega, by go_num, HO3, ⟨_, _, _, rfl⟩, HR4, HM3.out⟩
      case measure => simp [intOf]; omega
    · obtain rfl : k = n := by omega
      obtain ⟨a', c'', e1, hsl, hown⟩ := row_sl (enc := encS) (fun _ => rfl) (rdN_count (rdS 40) k st1) HO.out
      have HSL := Lib.hid hsl
      have HOW := Lib.hid hown
      cases e1
      clear hsl hown HO
      go_wp2
      go_ret
      exact ⟨_, _, _, rfl, HSL.out, HOW.out, HR.out, hm⟩
set_option maxHeartbeats 1000000 in
set_option maxRecDepth 100000 in
theorem field93 (br : Nat) (st : Pk.St) (w : World) (h : Pk.RAt br w st) (hs : st.s.length ≤ 140737488355328) :
    Calls Tryd.prog 93 #[.pointer (some ⟨br, 0, none⟩)] w fun e w' => e = .returned (.agg #[.string (rdFd st).1.1.name, .string (rdFd st).1.1.tn, .bool (rdFd st).1.1.ta, .string (rdFd st).1.2]) ∧ Pk.RAt br w' (rdFd st).2 ∧ Mods (· = br) w w' := by
  have hlt := rat_lt h
  have H1 := Lib.hid (name89 br st (w.alloc (.cells #[.string ⟨#[]⟩, .string ⟨#[]⟩, .bool false, .string ⟨#[]⟩] 77)) (rat_al h _) hs)
  have HL := Lib.hid (rdS_len 40 st)
  have hE : rdFd st = ((⟨(rdS 40 (rdS 40 st).2).1, (rdTy 40 (rdS 40 (rdS 40 st).2).2).1.n, (rdTy 40 (rdS 40 (rdS 40 st).2).2).1.a⟩, (rdS 40 st).1), (rdTy 40 (rdS 40 (rdS 40 st).2).2).2) := rfl
  rw [hE]
  clear hE
  generalize rdS 40 st = r at *
  have R0 : Hid (Blk (w.alloc (.cells #[.string ⟨#[]⟩, .string ⟨#[]⟩, .bool false, .string ⟨#[]⟩] 77)) w.heap.size [.string ⟨#[]⟩, .string ⟨#[]⟩, .bool false, .string ⟨#[]⟩] 77) := Lib.hid (Blk.new w [.string ⟨#[]⟩, .string ⟨#[]⟩, .bool false, .string ⟨#[]⟩] 77)
  have H2 : Hid (∀ w1, Pk.RAt br w1 r.2 → Calls Tryd.prog 89 #[.pointer (some ⟨br, 0, none⟩)] w1 fun e w' => e = .returned (.string (rdS 40 r.2).1) ∧ Pk.RAt br w' (rdS 40 r.2).2 ∧ Mods (· = br) w1 w') := Lib.hid (fun w1 h1 => name89 br r.2 w1 h1 (by have := HL.out; omega))
  have HL2 := Lib.hid (rdS_len 40 r.2)
  generalize rdS 40 r.2 = q at *
  have H3 : Hid (∀ w1, Pk.RAt br w1 q.2 → Calls Tryd.prog 91 #[.pointer (some ⟨br, 0, none⟩)] w1 fun e w' => e = .returned (tyV (rdTy 40 q.2).1) ∧ Pk.RAt br w' (rdTy 40 q.2).2 ∧ Mods (· = br) w1 w') := Lib.hid (fun w1 h1 => type20 br q.2 w1 h1 (by have := HL.out; have := HL2.out; omega))
  generalize rdTy 40 q.2 = t at *
  clear h HL HL2 hs
  go_enter Tryd.func93, Tryd.ntmps93
  go_wp2_with fail
  refine H1.out.mono ?_
  rintro e w1 ⟨rfl, hr1, hm1⟩
  have hs1 := hm1.size
  simp at hs1
  have R1 := Lib.hid (R0.out.keep hm1 (by omega))
  have HM1 := Lib.hid (mods_new hm1)
  clear hm1 R0 H1
  go_wp2_with fail
  refine (H2.out w1 hr1).mono ?_
  rintro e w2 ⟨rfl, hr2, hm2⟩
  have R2 := Lib.hid (R1.out.keep hm2 (by omega))
  have hs2 := hm2.size
  have HM2 := Lib.hid (HM1.out.trans hm2 (fun _ _ e => e) (fun _ _ e => e))
  clear hr1 hm2 R1 HM1 H2
  go_wp2_with fail
  refine (H3.out w2 hr2).mono ?_
  rintro e w3 ⟨rfl, hr3, hm3⟩
  have R3 := R2.out.keep hm3 (by omega)
  have HM3 := Lib.hid (HM2.out.trans hm3 (fun _ _ e => e) (fun _ _ e => e))
  have r0 := R3.cell 0
  have r1 := R3.cell 1
  have r2 := R3.cell 2
  have r3 := R3.cell 3
  simp only [List.getElem?_cons_succ, List.getElem?_cons_zero] at r0 r1 r2 r3
  have s0 := R3.frozen 0
  have s1 := R3.frozen 1
  have s2 := R3.frozen 2
  have s3 := R3.frozen 3
  have M := st4_mods (w := w3) (fb := w.heap.size) (.string q.1) (.string t.1.n) (.bool t.1.a) (.string r.1)
  have Z := (((R3.set 0 (.string q.1)).set 1 (.string t.1.n)).set 2 (.bool t.1.a)).set 3 (.string r.1)
  have z0 := Z.cell 0
  have z1 := Z.cell 1
  have z2 := Z.cell 2
  have z3 := Z.cell 3
  simp only [List.set_cons_zero, List.set_cons_succ, List.getElem?_cons_succ, List.getElem?_cons_zero] at z0 z1 z2 z3
  have HMF := Lib.hid (mods_more HM3.out M (Nat.le_refl _))
  have HRF := Lib.hid (rat_keep hr3 M (by omega))
  clear hr2 R2 hm3 hr3 R3 M Z HM2 HM3
  go_wp2
  refine bodyPost_ret (v := .agg #[.string q.1, .string t.1.n, .bool t.1.a, .string r.1]) (by simp [results, Tryd.results93, go_sem, z0, z1, z2, z3]) rfl ?_
  exact ⟨rfl, HRF.out, HMF.out⟩
abbrev encF (x : Fd) : List Value := [.string x.1.name, .string x.1.tn, .bool x.1.ta, .string x.2]
set_option maxHeartbeats 2000000 in
set_option maxRecDepth 100000 in
theorem many92 (br : Nat) (st : Pk.St) (w : World) (h : Pk.RAt br w st) (hs : st.s.length ≤ 140737488355328) :
    Calls Tryd.prog 92 #[.pointer (some ⟨br, 0, none⟩), .func (.func 93) #[] #[]] w fun e w' => ∃ a n c, e = .returned (.slice a n c) ∧ Sl w' 4 FdR (rdMany rdFd 16384 st).1 (.slice a n c) ∧ Own w.heap.size w' 77 a ∧ Pk.RAt br w' (rdMany rdFd 16384 st).2 ∧ Mods (· = br) w w' := by
  obtain ⟨i0, hi, hii⟩ : ∃ i, Tryd.prog.info? 77 = some i ∧ (i.size, i.bytes, i.zero.map (fun z => z.cells.size)) = (4, 56, some 4) := Option.map_eq_some_iff.1 (show (Tryd.prog.info? 77).map (fun i => (i.size, i.bytes, i.zero.map (fun z => z.cells.size))) = some (4, 56, some 4) by kernel_rfl)
  simp only [Prod.mk.injEq, Option.map_eq_some_iff] at hii
  obtain ⟨z1, z2, z, ez, z3⟩ := hii
  have hlt := rat_lt h
  have H1 := Lib.hid (Pk.rmany_any br st 16384 w h hs)
  have HL := Lib.hid (Pk.rMany_len st 16384)
  have HN := Lib.hid (rMany_le st 16384)
  have HE : Hid (rdMany rdFd 16384 st = rdN rdFd (Pk.rMany st 16384).1 (Pk.rMany st 16384).2) := Lib.hid rfl
  rw [HE.out]
  generalize Pk.rMany st 16384 = r at *
  obtain ⟨n, st1⟩ := r
  dsimp only at H1 HL HN HE ⊢
  have hn : n ≤ 16384 := by have := HN.out; omega
  have HLN : Hid (∀ k, (rdN rdFd k st1).2.s.length ≤ 140737488355328) := Lib.hid (fun k => Nat.le_trans (bk_len bk_fd k st1) (Nat.le_trans HL.out hs))
  have HQ : Hid (∀ w' : World, w'.ownsRow w.heap.size 77 4 (.slice none 0 0) 0 ((rdN rdFd 0 st1).1.flatMap encF)) := Lib.hid (fun w' => World.ownsRow_nil _ _ _ _)
  clear h HL HE HN
  go_enter Tryd.func92, Tryd.ntmps92
  go_wp2_with (go_at_call 43; refine H1.out.mono ?_; rintro e w1 ⟨rfl, hr1, ho1⟩)
  have HM1 := Lib.hid (mods_on ho1)
  have HR1 := Lib.hid hr1
  have hs1 := ho1.size
  have HS1 : Hid (w1.heap.size = w.heap.size) := Lib.hid hs1
  clear hr1 ho1 H1 hs1
  go_loopw [5, 8] (fun v i wr => ∃ k : Nat, k ≤ n ∧ i = .int .i64 k ∧ Hid (wr.ownsRow w.heap.size 77 4 v k ((rdN rdFd k st1).1.flatMap encF)) ∧ (∃ a m c, v = .slice a m c) ∧ Hid (Pk.RAt br wr (rdN rdFd k st1).2) ∧ Mods (· = br) w wr) (fun _ i _ => n - (intOf i).toNat)
  case atStart => exact ⟨0, Nat.zero_le _, rfl, Lib.hid (HQ.out w1), ⟨_, _, _, rfl⟩, HR1, HM1.out⟩
  case round =>
    clear HR1 HM1 HS1
    obtain ⟨k, hk, rfl, HO, ⟨a, m, c, rfl⟩, HR, hm⟩ := hrel
    have hsr := hm.size
    by_cases hkl : k < n
    · have HP := Lib.hid (field93 br (rdN rdFd k st1).2 wr HR.out (HLN.out k))
      have HSN : Hid (rdN rdFd (k + 1) st1 = ((rdN rdFd k st1).1 ++ [(rdFd (rdN rdFd k st1).2).1], (rdFd (rdN rdFd k st1).2).2)) := Lib.hid rfl
      have HXL := Lib.hid (rdN_count rdFd k st1)
      generalize rdN rdFd k st1 = q at *
      generalize rdFd q.2 = x at *
      obtain ⟨x, st2⟩ := x
      dsimp only at HP HSN
      go_wp2_with (first
        | (go_at_call 93; refine HP.out.mono ?_; rintro e w2 ⟨rfl, hr2, hm2⟩; have hrow2 := row_mods HO.out hm2 (rat_no HR.out 77 (by decide)); have hs2 := hm2.size)
        | (at_builtin; refine wpList_append_own _ rfl (.tmp 10) (.tmp 14) 29 rfl w.heap.size 77 i0 z 4 56 Tryd.underlying29 hi ez z1 z2 z3 (by decide) _ _ _ rfl (hrow2.alloc _) ⟨w2.heap.size, 0, none⟩ 1 1 [.string x.1.name, .string x.1.tn, .bool x.1.ta, .string x.2] rfl rfl ?c1 ?c2 ?c3 ?c4 ?c5 ?_))
      case c1 =>
        intro j u hu
        rw [add_pl, Nat.zero_add]
        exact ((Blk.new w2 [.string x.1.name, .string x.1.tn, .bool x.1.ta, .string x.2] 77).cell j).trans hu
      case c2 => simp [Value.oneCell']
      case c3 => unfold maxLen; omega
      case c4 => omega
      case c5 => simp; omega
      intro v' w3 hown' hgrow hnil
      have hmm := hm.trans hm2 (fun _ _ e => e) (fun _ _ e => e)
      have HM3 := Lib.hid (mods_grown hmm hrow2 hgrow (Nat.le_refl _))
      have HR3 := Lib.hid (rat_grown hr2 hrow2 hgrow hlt)
      obtain ⟨A, m', c', rfl⟩ := Pk.row_shape hown'
      have HO3 : Hid (w3.ownsRow w.heap.size 77 4 (.slice A m' c') (k + 1) ((rdN rdFd (k + 1) st1).1.flatMap encF)) := Lib.hid (by rw [HSN.out, List.flatMap_append, List.flatMap_singleton]; exact hown')
      have HR4 : Hid (Pk.RAt br w3 (rdN rdFd (k + 1) st1).2) := Lib.hid (by rw [HSN.out]; exact HR3.out)
      clear hown' hgrow hnil hrow2 hr2 hm2 HO HR HP
      go_wp2
      go_roundw
      case rel => exact ⟨k + 1, by omega, by go_num, HO3, ⟨_, _, _, rfl⟩, HR4, HM3.out⟩
      case measure => simp [intOf]; omega
    · obtain rfl : k = n := by omega
      obtain ⟨a', c'', e1, hsl, hown⟩ := row_sl (enc := encF) (fun _ => rfl) (rdN_count rdFd k st1) HO.out
      have HSL := Lib.hid hsl
      have HOW := Lib.hid hown
      cases e1
      clear hsl hown HO
      go_wp2
      go_ret
      exact ⟨_, _, _, rfl, HSL.out, HOW.out, HR.out, hm⟩
end Go.Proofs.YtomlbfkkhhhfkaaDoor.Fc
