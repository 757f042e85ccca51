/-
  LexJoins: the walk, where one of the two texts has a fault.
-/
import Derived.Test.YtaochdmbbbighaaDoorAgainWalk
namespace Go.Proofs.YtaochdmbbbighaaDoor
open Go.RowKit

theorem Lx.err_ne {l : Bs} {o : Nat} {ts : List (Nat × Tok)} {r : Option (Nat × Nat)} (h : Lx l o ts r) : ∀ e p, r = some (e, p) → e ≠ 0 := by
  induction h with
  | bad o p hp t er hf he => intro e q h; cases h; exact he
  | fin => intro e q h; cases h
  | more o p hp t hf hk ts r hr ih => exact ih

set_option maxHeartbeats 400000 in
theorem joins_long1 (a b : ByteArray) (w : World) (hT : Tabs w) (h : 300 < a.size) : Calls Tryd.prog 6 #[.string a, .string b] w fun e w' => e = .returned (.bool true) ∧ Below w.heap.size w w' := by
  go_enter Tryd.func6, Tryd.ntmps6
  go_wp2_with (go_at_call 9; refine (head_any w hT).mono ?_; rintro e w1 ⟨rfl, hb1⟩)
  go_ret
  exact ⟨rfl, hb1⟩
set_option maxHeartbeats 400000 in
theorem joins_long2 (a b : ByteArray) (w : World) (hT : Tabs w) (h0 : ¬ 300 < a.size) (h : 300 < b.size) : Calls Tryd.prog 6 #[.string a, .string b] w fun e w' => e = .returned (.bool true) ∧ Below w.heap.size w w' := by
  go_enter Tryd.func6, Tryd.ntmps6
  go_wp2_with (go_at_call 9; refine (head_any w hT).mono ?_; rintro e w1 ⟨rfl, hb1⟩)
  go_ret
  exact ⟨rfl, hb1⟩

/-- what All tells, whatever it is: a slice and a fault -/
theorem all_some {s : ByteArray} {l : Bs} (hl : s.data.toList = l) (hs : l.length ≤ 65536) {w : World} (hT : Tabs w) {ts : List (Nat × Tok)} {r : Option (Nat × Nat)} (h : Lx l 0 ts r) :
    Calls Tryd.prog 10 #[.string s] w fun e w' => ∃ v, ∃ E L C : Int, e = .returned (.tuple #[v, fltV E L C]) ∧ Below w.heap.size w w' ∧
      (match r with
        | none => E = 0 ∧ L = 0 ∧ C = 0 ∧ w'.ownsRow w.heap.size 34 5 v ts.length (ts.flatMap (tcells l))
        | some (er, p) => E = er ∧ L = posL l p ∧ C = posC l p ∧ v = .slice none 0 0) := by
  refine (all_of hl hs hT h).mono fun e w' hp => ?_
  obtain ⟨hb, hp⟩ := hp
  cases r with
  | none =>
    obtain ⟨v, rfl, hrow⟩ := hp
    exact ⟨v, 0, 0, 0, rfl, hb, rfl, rfl, rfl, hrow⟩
  | some x =>
    obtain ⟨er, p⟩ := x
    exact ⟨_, _, _, _, hp, hb, rfl, rfl, rfl, rfl⟩

/-- a fault in block n -/
def FAt (w : World) (n : Nat) (E L C : Int) : Prop := w.heap[n]? = some (.cells #[.int .i64 E, .int .i64 L, .int .i64 C] 28 (0, 0))
theorem FAt.keep {w w' : World} {n : Nat} {E L C : Int} (h : FAt w n E L C) (hb : Below w.heap.size w w') : FAt w' n E L C := by
  unfold FAt at *
  rw [hb.block n (heap_some_lt h)]; exact h
theorem FAt.new (w : World) (E L C : Int) : FAt (w.alloc (.cells #[.int .i64 E, .int .i64 L, .int .i64 C] 28)) w.heap.size E L C := by
  unfold FAt
  show (w.heap.push _)[w.heap.size]? = _
  simp

set_option maxHeartbeats 1000000 in
set_option maxRecDepth 100000 in
theorem joins_badA (a b : ByteArray) (w : World) (hT : Tabs w) (h1 : ¬ 300 < a.size) (h2 : ¬ 300 < b.size) (xs ys : List (Nat × Tok)) (er p : Nat) (rb : Option (Nat × Nat)) (hA : Lx a.data.toList 0 xs (some (er, p))) (hB : Lx b.data.toList 0 ys rb) :
    Calls Tryd.prog 6 #[.string a, .string b] w fun e w' => e = .returned (.bool true) ∧ Below w.heap.size w w' := by
  have he := hA.err_ne er p rfl
  have hj := join_lx hA (Nat.zero_le _) hB
  obtain ⟨hj1, hj2⟩ := hj
  obtain ⟨hq1, hq2⟩ := pos_left a.data.toList b.data.toList p hj2
  have HJ := Lib.hid hj1
  have HQ1 := Lib.hid hq1
  have HQ2 := Lib.hid hq2
  have HA := Lib.hid hA
  have HB := Lib.hid hB
  clear hA hB hj1 hj2 hq1 hq2
  go_enter Tryd.func6, Tryd.ntmps6
  go_wp2_with fail
  refine (head_any w hT).mono ?_
  rintro e w1 ⟨rfl, hb1⟩
  go_wp2_with fail
  refine (all_some rfl (by simp; omega) (hT.below hb1) HA.out).mono ?_
  rintro e w2 ⟨v2, E2, L2, C2, rfl, hb2, hE2, hL2, hC2, rfl⟩
  have he1 : (E2 != 0) = true := by rw [hE2, bne_iff_ne]; omega
  have he2 : ¬ E2 = 0 := by rw [hE2]; omega
  have HE2 := Lib.hid hE2
  have HL2 := Lib.hid hL2
  have HC2 := Lib.hid hC2
  clear hE2 hL2 hC2
  have hbA := (hb1.trans (hb2.mono hb1.size)).alloc (Nat.le_trans hb1.size hb2.size) (.cells #[.int .i64 E2, .int .i64 L2, .int .i64 C2] 28)
  have fA := FAt.new w2 E2 L2 C2
  go_wp2_with fail
  generalize w2.alloc (.cells #[.int .i64 E2, .int .i64 L2, .int .i64 C2] 28) = w2a at hbA fA ⊢
  generalize w2.heap.size = n2 at fA ⊢
  refine (all_some rfl (by simp; omega) (hT.below hbA) HB.out).mono ?_
  rintro e w3 ⟨v3, E3, L3, C3, rfl, hb3, hm3⟩
  clear hm3
  have hbB := (hbA.trans (hb3.mono hbA.size)).alloc (Nat.le_trans hbA.size hb3.size) (.cells #[.int .i64 E3, .int .i64 L3, .int .i64 C3] 28)
  have fA3 := (fA.keep hb3).keep ((Below.refl w3.heap.size w3).alloc (Nat.le_refl _) (.cells #[.int .i64 E3, .int .i64 L3, .int .i64 C3] 28))
  go_wp2_with fail
  generalize w3.alloc (.cells #[.int .i64 E3, .int .i64 L3, .int .i64 C3] 28) = w3a at hbB fA3 ⊢
  generalize w3.heap.size = n3
  refine (all_some (l := a.data.toList ++ 10 :: b.data.toList) (by simp) (by simp; omega) (hT.below hbB) HJ.out).mono ?_
  rintro e w4 ⟨v4, E4, L4, C4, rfl, hb4, hE4, hL4, hC4, rfl⟩
  obtain rfl : E4 = E2 := by rw [hE4, HE2.out]
  obtain rfl : L4 = L2 := by rw [hL4, HL2.out, HQ1.out]
  obtain rfl : C4 = C2 := by rw [hC4, HC2.out, HQ2.out]
  have hbC := (hbB.trans (hb4.mono hbB.size)).alloc (Nat.le_trans hbB.size hb4.size) (.cells #[.int .i64 E4, .int .i64 L4, .int .i64 C4] 28)
  have fA4 := (fA3.keep hb4).keep ((Below.refl w4.heap.size w4).alloc (Nat.le_refl _) (.cells #[.int .i64 E4, .int .i64 L4, .int .i64 C4] 28))
  have fC := FAt.new w4 E4 L4 C4
  obtain ⟨g0, g1, g2, _, _, _⟩ := blk3 (fA3.keep hb4)
  have hlt2 := heap_some_lt (fA3.keep hb4)
  clear hE4 hL4 hC4 HE2 HL2 HC2 fA fA3
  go_wp2_with fail
  go_ret
  exact ⟨by simp, hbC⟩

theorem take_snoc (s : ByteArray) (k : Nat) (h : k < s.size) : s.data.toList.take (k + 1) = s.data.toList.take k ++ [s[k]] := by
  rw [List.take_succ_eq_append_getElem (by simpa using h)]; rfl
theorem line_bound (l : Bs) (k : Nat) : (lineOf (l.take k) : Int) ≤ (l.length : Int) + 1 := by
  have h1 := List.count_le_length (a := (10 : UInt8)) (l := l.take k)
  have h2 : (l.take k).length ≤ l.length := by rw [List.length_take]; omega
  unfold lineOf
  omega

set_option maxHeartbeats 1000000 in
set_option maxRecDepth 100000 in
theorem joins_badB (a b : ByteArray) (w : World) (hT : Tabs w) (h1 : ¬ 300 < a.size) (h2 : ¬ 300 < b.size) (xs ys : List (Nat × Tok)) (er p : Nat) (hA : Lx a.data.toList 0 xs none) (hB : Lx b.data.toList 0 ys (some (er, p))) :
    Calls Tryd.prog 6 #[.string a, .string b] w fun e w' => e = .returned (.bool true) ∧ Below w.heap.size w w' := by
  have he := hB.err_ne er p rfl
  obtain ⟨ts0, _, _, hj1⟩ := join_lx hA (Nat.zero_le _) hB
  obtain ⟨hq1, hq2⟩ := pos_right a.data.toList b.data.toList p
  have hpb : (posL b.data.toList p : Int) ≤ 301 := by
    have := line_bound b.data.toList p
    simp at this
    unfold posL
    omega
  have hpa : (lineOf a.data.toList : Int) ≤ 301 := by
    have := line_bound a.data.toList a.size
    rw [List.take_of_length_le (by simp)] at this
    simp at this
    omega
  have hxp := hA.pos
  have HJ := Lib.hid hj1
  have HQ1 := Lib.hid hq1
  have HQ2 := Lib.hid hq2
  have HA := Lib.hid hA
  have HB := Lib.hid hB
  have HPB := Lib.hid hpb
  have HPA := Lib.hid hpa
  clear hA hB hj1 hq1 hq2 hpb hpa
  go_enter Tryd.func6, Tryd.ntmps6
  go_wp2_with fail
  refine (head_any w hT).mono ?_
  rintro e w1 ⟨rfl, hb1⟩
  go_wp2_with fail
  refine (all_some rfl (by simp; omega) (hT.below hb1) HA.out).mono ?_
  rintro e w2 ⟨v2, E2, L2, C2, rfl, hb2, rfl, rfl, rfl, row2⟩
  obtain ⟨g, cap, rfl, _, _⟩ := row_tat row2 hxp
  have hbA := (hb1.trans (hb2.mono hb1.size)).alloc (Nat.le_trans hb1.size hb2.size) (.cells #[.int .i64 0, .int .i64 0, .int .i64 0] 28)
  have fA := FAt.new w2 0 0 0
  go_wp2_with fail
  generalize w2.alloc (.cells #[.int .i64 0, .int .i64 0, .int .i64 0] 28) = w2a at hbA fA ⊢
  generalize w2.heap.size = n2 at fA ⊢
  refine (all_some rfl (by simp; omega) (hT.below hbA) HB.out).mono ?_
  rintro e w3 ⟨v3, E3, L3, C3, rfl, hb3, hE3, hL3, hC3, rfl⟩
  have he1 : (E3 != 0) = true := by rw [hE3, bne_iff_ne]; omega
  have he2 : ¬ E3 = 0 := by rw [hE3]; omega
  have hl30 : 0 ≤ L3 := by rw [hL3]; omega
  have hl31 : L3 ≤ 301 := by rw [hL3]; exact HPB.out
  have HE3 := Lib.hid hE3
  have HL3 := Lib.hid hL3
  have HC3 := Lib.hid hC3
  clear hE3 hL3 hC3
  have hbB := (hbA.trans (hb3.mono hbA.size)).alloc (Nat.le_trans hbA.size hb3.size) (.cells #[.int .i64 E3, .int .i64 L3, .int .i64 C3] 28)
  have fA3 := (fA.keep hb3).keep ((Below.refl w3.heap.size w3).alloc (Nat.le_refl _) (.cells #[.int .i64 E3, .int .i64 L3, .int .i64 C3] 28))
  have fB3 := FAt.new w3 E3 L3 C3
  go_wp2_with fail
  have hn3 : w.heap.size ≤ w3.heap.size := by have := hb1.size; have := hb2.size; have := hb3.size; have := hbA.size; omega
  generalize w3.alloc (.cells #[.int .i64 E3, .int .i64 L3, .int .i64 C3] 28) = w3a at hbB fA3 fB3 ⊢
  generalize w3.heap.size = n3 at fB3 hn3 ⊢
  refine (all_some (l := a.data.toList ++ 10 :: b.data.toList) (by simp) (by simp; omega) (hT.below hbB) HJ.out).mono ?_
  rintro e w4 ⟨v4, E4, L4, C4, rfl, hb4, hE4, hL4, hC4, rfl⟩
  obtain rfl : E4 = E3 := by rw [hE4, HE3.out]
  have hL4' : L4 = (lineOf a.data.toList : Int) + L3 := by rw [hL4, HL3.out, HQ1.out]; omega
  obtain rfl : C4 = C3 := by rw [hC4, HC3.out, HQ2.out]
  have HL4 := Lib.hid hL4'
  clear hE4 hL4 hC4 hL4' HE3 HL3 HC3
  have hbC := (hbB.trans (hb4.mono hbB.size)).alloc (Nat.le_trans hbB.size hb4.size) (.cells #[.int .i64 E4, .int .i64 L4, .int .i64 C4] 28)
  have fA4 := (fA3.keep hb4).keep ((Below.refl w4.heap.size w4).alloc (Nat.le_refl _) (.cells #[.int .i64 E4, .int .i64 L4, .int .i64 C4] 28))
  have fB4 := (fB3.keep hb4).keep ((Below.refl w4.heap.size w4).alloc (Nat.le_refl _) (.cells #[.int .i64 E4, .int .i64 L4, .int .i64 C4] 28))
  have fC := FAt.new w4 E4 L4 C4
  have hne : ¬ n3 = w4.heap.size := by have := heap_some_lt (fB3.keep hb4); omega
  obtain ⟨g0, g1, g2, f0, f1, f2⟩ := blk3 (fA3.keep hb4)
  have hlt2 := heap_some_lt (fA3.keep hb4)
  go_wp2_with fail
  clear g0 g1 g2 f0 f1 f2 hlt2
  generalize w4.alloc (.cells #[.int .i64 E4, .int .i64 L4, .int .i64 C4] 28) = w4a at hbC fA4 fB4 fC ⊢
  generalize w4.heap.size = n4 at fC hne ⊢
  clear fA fA3 fB3 row2
  obtain ⟨b0, b1, b2, y0, y1, y2⟩ := blk3 fB4
  obtain ⟨c0, c1, c2, z0, z1, z2⟩ := blk3 fC
  go_loop [11, 12] (fun l i => ∃ k : Nat, i = .int .i64 k ∧ k ≤ a.size ∧ l = .int .i64 (lineOf (a.data.toList.take k) : Int)) (fun _ i => a.size - (intOf i).toNat)
  case atStart => exact ⟨0, rfl, by omega, rfl⟩
  case round =>
    obtain ⟨k, rfl, hk, rfl⟩ := hrel
    have hlb := line_bound a.data.toList k
    have hlb2 : (lineOf (a.data.toList.take k) : Int) ≤ 301 := by simp at hlb; omega
    clear hlb
    by_cases hlt : k < a.size
    · have HS := Lib.hid (take_snoc a k hlt)
      have HLS := Lib.hid (lineOf_snoc (a.data.toList.take k) a[k])
      have e10 := eq_nat a[k] 10
      by_cases hc : (a[k] == 10) = true
      · have hb : ((a[k].toNat : Int) == 10) = true := e10.trans hc
        have HCC := Lib.hid hc
        clear e10 hc
        go_wp2
        go_round
        case rel => exact ⟨k + 1, by go_num, by omega, by rw [HS.out, HLS.out, HCC.out]; rfl⟩
        case measure => simp [intOf]; omega
      · have hc' := Bool.eq_false_iff.2 hc
        have hb : ((a[k].toNat : Int) == 10) = false := e10.trans hc'
        have HCC := Lib.hid hc'
        clear e10 hc hc'
        go_wp2
        go_round
        case rel => exact ⟨k + 1, by go_num, by omega, by rw [HS.out, HLS.out, HCC.out]; rfl⟩
        case measure => simp [intOf]; omega
    · obtain rfl : k = a.size := by omega
      rw [List.take_of_length_le (by simp)] at hlb2 ⊢
      obtain ⟨LN, hLN⟩ : ∃ LN : Int, LN = (lineOf a.data.toList : Int) := ⟨_, rfl⟩
      have hln0 : 0 ≤ LN := by omega
      rw [← hLN] at hlb2 HL4 ⊢
      clear hLN
      have hL4 : L4 = L3 + LN := by rw [HL4.out]; omega
      clear HL4
      subst hL4
      go_wp2
      go_ret
      exact ⟨by simp, hbC.setCell (p := ⟨n3, 1, none⟩) hn3 _⟩
end Go.Proofs.YtaochdmbbbighaaDoor
