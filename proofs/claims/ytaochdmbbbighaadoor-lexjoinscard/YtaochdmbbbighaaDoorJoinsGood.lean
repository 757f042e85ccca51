/-
  LexJoins: the walk, where both texts have tokens.
-/
import Derived.Test.YtaochdmbbbighaaDoorJoinsWalk
namespace Go.Proofs.YtaochdmbbbighaaDoor
open Go.RowKit

theorem below_drewN {B : Nat} {x y : World} (h : Below B x y) (n : Nat) : Below B x (y.drewN n) := ⟨h.os, h.tape, h.output, h.size, h.block⟩

set_option maxHeartbeats 1000000 in
set_option maxRecDepth 100000 in
theorem joins_good (a b : ByteArray) (w : World) (hT : Tabs w) (h1 : ¬ 300 < a.size) (h2 : ¬ 300 < b.size) (xs ys : List (Nat × Tok)) (hA : Lx a.data.toList 0 xs none) (hB : Lx b.data.toList 0 ys none) :
    Calls Tryd.prog 6 #[.string a, .string b] w fun e w' => e = .returned (.bool true) ∧ Below w.heap.size w w' := by
  obtain ⟨ts0, hxs, hle, hj1⟩ := join_lx hA (Nat.zero_le _) hB
  have hxl : xs.length = ts0.length + 1 := by rw [hxs]; simp
  have hyl : ys.length ≤ 301 := by have := hB.len (Nat.zero_le _); simp at this; omega
  have hxl2 : xs.length ≤ 301 := by have := hA.len (Nat.zero_le _); simp at this; omega
  have hpb : ∀ p, (posL b.data.toList p : Int) ≤ 301 := fun p => by
    have := line_bound b.data.toList p
    simp at this
    unfold posL
    omega
  have hpa : (lineOf a.data.toList : Int) ≤ 301 := by
    have := line_bound a.data.toList a.size
    rw [List.take_of_length_le (by simp)] at this
    simp at this
    omega
  have hxp := hA.pos
  have hyp := hB.pos
  have HXS := Lib.hid hxs
  have HLE := Lib.hid hle
  have HJ := Lib.hid hj1
  have HA := Lib.hid hA
  have HB := Lib.hid hB
  have HPB := Lib.hid hpb
  have HPA := Lib.hid hpa
  clear hA hB hj1 hpb hpa hxs hle
  rw [hxl] at hxl2
  go_enter Tryd.func6, Tryd.ntmps6
  go_wp2_with fail
  refine (head_any w hT).mono ?_
  rintro e w1 ⟨rfl, hb1⟩
  go_wp2_with fail
  refine (all_some rfl (by simp; omega) (hT.below hb1) HA.out).mono ?_
  rintro e w2 ⟨v2, E2, L2, C2, rfl, hb2, rfl, rfl, rfl, row2⟩
  rw [hxl] at row2
  obtain ⟨g, cap, rfl, hcap, tA⟩ := row_tat row2 (by omega)
  have hbA := (hb1.trans (hb2.mono hb1.size)).alloc (Nat.le_trans hb1.size hb2.size) (.cells #[.int .i64 0, .int .i64 0, .int .i64 0] 28)
  have fA := FAt.new w2 0 0 0
  have tA2 := tA.keep ((Below.refl w2.heap.size w2).alloc (Nat.le_refl _) (.cells #[.int .i64 0, .int .i64 0, .int .i64 0] 28))
  go_wp2_with fail
  generalize w2.alloc (.cells #[.int .i64 0, .int .i64 0, .int .i64 0] 28) = w2a at hbA fA tA2 ⊢
  generalize w2.heap.size = n2 at fA ⊢
  refine (all_some rfl (by simp; omega) (hT.below hbA) HB.out).mono ?_
  rintro e w3 ⟨v3, E3, L3, C3, rfl, hb3, rfl, rfl, rfl, row3⟩
  obtain ⟨g3, cap3, rfl, hcap3, tB⟩ := row_tat row3 hyp
  have hbB := (hbA.trans (hb3.mono hbA.size)).alloc (Nat.le_trans hbA.size hb3.size) (.cells #[.int .i64 0, .int .i64 0, .int .i64 0] 28)
  have mB := (Below.refl w3.heap.size w3).alloc (Nat.le_refl _) (.cells #[.int .i64 0, .int .i64 0, .int .i64 0] 28)
  have fA3 := (fA.keep hb3).keep mB
  have tA3 := (tA2.keep hb3).keep mB
  have tB3 := tB.keep mB
  have fB3 := FAt.new w3 0 0 0
  clear mB
  go_wp2_with fail
  generalize w3.alloc (.cells #[.int .i64 0, .int .i64 0, .int .i64 0] 28) = w3a at hbB fA3 fB3 tA3 tB3 ⊢
  generalize w3.heap.size = n3 at fB3 ⊢
  refine (all_some (l := a.data.toList ++ 10 :: b.data.toList) (by simp) (by simp; omega) (hT.below hbB) HJ.out).mono ?_
  rintro e w4 ⟨v4, E4, L4, C4, rfl, hb4, rfl, rfl, rfl, row4⟩
  have hzl : (ts0 ++ ys.map (shT (a.data.toList.length + 1))).length = ts0.length + ys.length := by simp
  rw [hzl] at row4
  obtain ⟨g4, cap4, rfl, hcap4, tC⟩ := row_tat row4 (by omega)
  have hbC := (hbB.trans (hb4.mono hbB.size)).alloc (Nat.le_trans hbB.size hb4.size) (.cells #[.int .i64 0, .int .i64 0, .int .i64 0] 28)
  have mC := (Below.refl w4.heap.size w4).alloc (Nat.le_refl _) (.cells #[.int .i64 0, .int .i64 0, .int .i64 0] 28)
  have fA4 := (fA3.keep hb4).keep mC
  have fB4 := (fB3.keep hb4).keep mC
  have fC := FAt.new w4 0 0 0
  have TA := Lib.hid ((tA3.keep hb4).keep mC)
  have TB := Lib.hid ((tB3.keep hb4).keep mC)
  have TC := Lib.hid (tC.keep mC)
  obtain ⟨g0, g1, g2, f0, f1, f2⟩ := blk3 (fA3.keep hb4)
  have hlt2 := heap_some_lt (fA3.keep hb4)
  clear mC tA tA2 tA3 tB tB3 tC row2 row3 row4
  go_wp2_with fail
  clear g0 g1 g2 f0 f1 f2 hlt2
  generalize w4.alloc (.cells #[.int .i64 0, .int .i64 0, .int .i64 0] 28) = w4a at hbC fA4 fB4 fC TA TB TC ⊢
  generalize w4.heap.size = n4 at fC ⊢
  clear fA fA3 fB3
  obtain ⟨b0, b1, b2, y0, y1, y2⟩ := blk3 fB4
  obtain ⟨c0, c1, c2, z0, z1, z2⟩ := blk3 fC
  go_loop [11, 12] (fun l i => ∃ k : Nat, i = .int .i64 k ∧ k ≤ a.size ∧ l = .int .i64 (lineOf (a.data.toList.take k) : Int)) (fun _ i => a.size - (intOf i).toNat)
  case atStart => exact ⟨0, rfl, by omega, rfl⟩
  case round =>
    obtain ⟨k, rfl, hk, rfl⟩ := hrel
    have hlb := line_bound a.data.toList k
    have hlb2 : (lineOf (a.data.toList.take k) : Int) ≤ 301 := by simp at hlb; omega
    clear hlb
    by_cases hlt : k < a.size
    · have HS := Lib.hid (take_snoc a k hlt)
      have HLS := Lib.hid (lineOf_snoc (a.data.toList.take k) a[k])
      have e10 := eq_nat a[k] 10
      by_cases hc : (a[k] == 10) = true
      · have hb : ((a[k].toNat : Int) == 10) = true := e10.trans hc
        have HCC := Lib.hid hc
        clear e10 hc
        go_wp2
        go_round
        case rel => exact ⟨k + 1, by go_num, by omega, by rw [HS.out, HLS.out, HCC.out]; rfl⟩
        case measure => simp [intOf]; omega
      · have hc' := Bool.eq_false_iff.2 hc
        have hb : ((a[k].toNat : Int) == 10) = false := e10.trans hc'
        have HCC := Lib.hid hc'
        clear e10 hc hc'
        go_wp2
        go_round
        case rel => exact ⟨k + 1, by go_num, by omega, by rw [HS.out, HLS.out, HCC.out]; rfl⟩
        case measure => simp [intOf]; omega
    · obtain rfl : k = a.size := by omega
      rw [List.take_of_length_le (by simp)] at hlb2 ⊢
      obtain ⟨LN, hLN⟩ : ∃ LN : Int, LN = (lineOf a.data.toList : Int) := ⟨_, rfl⟩
      have hln0 : 0 ≤ LN := by omega
      rw [← hLN] at hlb2 ⊢
      have HLN := Lib.hid hLN
      clear hLN
      go_wp2
      clear b0 b1 b2 y0 y1 y2 c0 c1 c2 z0 z1 z2
      go_loopw [96] (fun i wr => ∃ k : Nat, i = .int .i64 k ∧ k ≤ ts0.length ∧ Below w4a.heap.size w4a wr) (fun i _ => ts0.length - (intOf i).toNat)
      case atStart => exact ⟨0, rfl, by omega, Below.refl _ _⟩
      case round =>
        obtain ⟨k, rfl, hk2, hbr⟩ := hrel
        by_cases hlt : k < ts0.length
        · have hltx : k < xs.length := by omega
          have hltz : k < (ts0 ++ ys.map (shT (a.data.toList.length + 1))).length := by rw [hzl]; omega
          have ex : xs[k] = ts0[k] := by simp only [HXS.out]; rw [List.getElem_append_left hlt]
          have ez : (ts0 ++ ys.map (shT (a.data.toList.length + 1)))[k] = ts0[k] := by rw [List.getElem_append_left hlt]
          have hple := HLE.out ts0[k] (List.getElem_mem hlt)
          obtain ⟨ep1, ep2⟩ := pos_left a.data.toList b.data.toList ts0[k].1 hple
          obtain ⟨a0, a1, a2, a3, a4⟩ := (TA.out.keep hbr).cells k hltx
          obtain ⟨b0, b1, b2, b3, b4⟩ := (TC.out.keep hbr).cells k hltz
          have hg4 : g4 < wr.heap.size := (TC.out.keep hbr).1
          rw [ex] at a0 a1 a2 a3 a4
          rw [ez] at b0 b1 b2 b3 b4
          rw [ep1] at b3
          rw [ep2] at b4
          clear ex ez ep1 ep2 hple hltz hltx
          generalize (ts0[k].2.kind : Int) = kk at a0 b0
          generalize (ts0[k].2.num : Int) = nn at a2 b2
          generalize str ts0[k].2.text = T at a1 b1
          generalize (posL a.data.toList ts0[k].1 : Int) = ll at a3 b3
          generalize (posC a.data.toList ts0[k].1 : Int) = cc at a4 b4
          have hk0 : (k : Int) < (ts0.length : Int) := by omega
          have hk1 : (k : Int) < (ts0.length : Int) + (ys.length : Int) := by omega
          go_wp2
          go_quiet (fail)
          go_wp2
          go_roundw
          case rel => exact ⟨k + 1, by go_num, by omega, below_drewN (hbr.alloc hbr.size _) _⟩
          case measure => simp [intOf]; omega
        · obtain rfl : k = ts0.length := by omega
          have hbR := hbC.trans (hbr.mono hbC.size)
          have TB2 := Lib.hid (TB.out.keep hbr)
          have TC2 := Lib.hid (TC.out.keep hbr)
          clear hbr TA TB TC
          obtain ⟨wq, hwq⟩ : ∃ wq, wq = wr := ⟨_, rfl⟩
          subst hwq
          go_wp2
          go_loopw [110] (fun i wr => ∃ k : Nat, i = .int .i64 k ∧ k ≤ ys.length ∧ Below wq.heap.size wq wr) (fun i _ => ys.length - (intOf i).toNat)
          case atStart => exact ⟨0, rfl, by omega, Below.refl _ _⟩
          case round =>
            obtain ⟨k, rfl, hk3, hbr⟩ := hrel
            by_cases hlt : k < ys.length
            · have hltz : ts0.length + k < (ts0 ++ ys.map (shT (a.data.toList.length + 1))).length := by rw [hzl]; omega
              have ez : (ts0 ++ ys.map (shT (a.data.toList.length + 1)))[ts0.length + k] = shT (a.data.toList.length + 1) ys[k] := by
                rw [List.getElem_append_right (by omega)]
                simp
              obtain ⟨ep1, ep2⟩ := pos_right a.data.toList b.data.toList ys[k].1
              have hl0 := HPB.out ys[k].1
              obtain ⟨a0, a1, a2, a3, a4⟩ := (TB2.out.keep hbr).cells k hlt
              obtain ⟨b0, b1, b2, b3, b4⟩ := (TC2.out.keep hbr).cells (ts0.length + k) hltz
              have hg4 : g4 < wr.heap.size := (TC2.out.keep hbr).1
              rw [ez] at b0 b1 b2 b3 b4
              unfold shT at b0 b1 b2 b3 b4
              dsimp only at b0 b1 b2 b3 b4
              rw [ep1] at b3
              rw [ep2] at b4
              have ell : ((lineOf a.data.toList + posL b.data.toList ys[k].1 : Nat) : Int) = (posL b.data.toList ys[k].1 : Int) + LN := by rw [HLN.out]; omega
              rw [ell] at b3
              clear ez ep1 ep2 hltz ell
              have hl1 : 0 ≤ (posL b.data.toList ys[k].1 : Int) := by omega
              generalize (ys[k].2.kind : Int) = kk at a0 b0
              generalize (ys[k].2.num : Int) = nn at a2 b2
              generalize str ys[k].2.text = T at a1 b1
              generalize (posL b.data.toList ys[k].1 : Int) = ll at a3 b3 hl0 hl1
              generalize (posC b.data.toList ys[k].1 : Int) = cc at a4 b4
              have hk0 : (k : Int) < (ys.length : Int) := by omega
              have hk1 : (ts0.length : Int) + (k : Int) < (ts0.length : Int) + (ys.length : Int) := by omega
              go_wp2
              have q1 : IntKind.i64.wrap ((ts0.length : Int) + 1 - 1) = (ts0.length : Int) := by rw [IntWalk.i64_in _ (by omega)]; omega
              have q2 : IntKind.i64.wrap ((ts0.length : Int) + (k : Int)) = (ts0.length : Int) + (k : Int) := IntWalk.i64_in _ (by omega)
              have q3 : 0 ≤ (ts0.length : Int) + (k : Int) := by omega
              have q4 : ((ts0.length : Int) + (k : Int)).toNat = ts0.length + k := by omega
              go_quiet (fail)
              go_wp2
              go_roundw
              case rel => exact ⟨k + 1, by go_num, by omega, below_drewN (hbr.alloc hbr.size _) _⟩
              case measure => simp [intOf]; omega
            · go_wp2
              go_ret
              exact ⟨rfl, hbR.trans (hbr.mono hbR.size)⟩

theorem joins_walk (a b : ByteArray) (w : World) (hT : Tabs w) : Calls Tryd.prog 6 #[.string a, .string b] w fun e w' => e = .returned (.bool true) ∧ Below w.heap.size w w' := by
  by_cases h1 : 300 < a.size
  · exact joins_long1 a b w hT h1
  · by_cases h2 : 300 < b.size
    · exact joins_long2 a b w hT h1 h2
    · obtain ⟨xs, ra, hA⟩ := Lx.total a.data.toList 0 (Nat.zero_le _)
      obtain ⟨ys, rb, hB⟩ := Lx.total b.data.toList 0 (Nat.zero_le _)
      rcases ra with _ | ⟨er, p⟩
      · rcases rb with _ | ⟨er, p⟩
        · exact joins_good a b w hT h1 h2 xs ys hA hB
        · exact joins_badB a b w hT h1 h2 xs ys er p hA hB
      · exact joins_badA a b w hT h1 h2 xs ys er p rb hA hB
theorem again_walk (s : ByteArray) (w : World) (hT : Tabs w) : Calls Tryd.prog 5 #[.string s] w fun e w' => e = .returned (.bool true) ∧ Below w.heap.size w w' := by
  by_cases h : 500 < s.size
  · exact again_long s w hT h
  · obtain ⟨ts, r, hL⟩ := Lx.total s.data.toList 0 (Nat.zero_le _)
    rcases r with _ | ⟨er, p⟩
    · exact again_good s w hT h ts hL
    · exact again_bad s w hT h ts er p (hL.err_ne er p rfl) hL
end Go.Proofs.YtaochdmbbbighaaDoor
