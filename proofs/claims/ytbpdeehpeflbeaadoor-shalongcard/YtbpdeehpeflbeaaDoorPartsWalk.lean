/-
  The walk of ShaParts.
-/
import Derived.Test.YtbpdeehpeflbeaaDoorHead
import Derived.OwnWalk
namespace Go.Proofs.YtbpdeehpeflbeaaDoor
open Go.RowKit

/-- a slice that came in: it holds these values, one cell each -/
def Arg (w : World) (A : Option Addr) (xs : List Value) : Prop :=
  xs = [] ∨ ∃ ad : Addr, A = some ad ∧ ad.block < w.heap.size ∧ ∀ i (h : i < xs.length), w.cell? (ad.add i) = some xs[i]
theorem add_block (a : Addr) (i : Nat) : (a.add i).block = a.block := by unfold Addr.add; split <;> rfl
theorem Arg.at_ {w w' : World} {A : Option Addr} {xs : List Value} (h : Arg w A xs) (hb : Below w.heap.size w w') (i : Nat) (hi : i < xs.length) : ∃ ad, A = some ad ∧ w'.cell? (ad.add i) = some xs[i] := by
  rcases h with h | ⟨ad, e, hlt, hc⟩
  · subst h; simp at hi
  · exact ⟨ad, e, (hb.cell (by rw [add_block]; exact hlt)).trans (hc i hi)⟩
def ints (zs : List Int) : List Value := zs.map (Value.int .i64)
theorem i64_and16 (n : Int) : ∃ m : Nat, m < 65536 ∧ bits .and .i64 n 65535 = (m : Int) := by
  have h1 : (BitVec.ofInt 64 65535).toNat = 2 ^ 16 - 1 := by decide
  have key : (BitVec.ofInt 64 n &&& BitVec.ofInt 64 65535).toNat = (n % ((2 ^ 64 : Nat) : Int)).toNat % 2 ^ 16 := by
    rw [BitVec.toNat_and, BitVec.toNat_ofInt, h1, Nat.and_two_pow_sub_one_eq_mod]
  refine ⟨(n % ((2 ^ 64 : Nat) : Int)).toNat % 2 ^ 16, by omega, ?_⟩
  show IntKind.i64.wrap ((BitVec.ofInt 64 n &&& BitVec.ofInt 64 65535).toNat : Nat) = _
  rw [key, IntKind.wrap_i64]
  omega
theorem bsOf_cut (s : ByteArray) (a b : Nat) : bsOf (s.extract a b) = ((bsOf s).drop a).take (b - a) := by
  unfold bsOf
  rw [← List.map_drop, ← List.map_take]
  congr 1
  simp
theorem bsOf_two (s : ByteArray) (q : Nat) : bsOf (s.extract 0 q) ++ bsOf (s.extract q s.size) = bsOf s := by
  rw [bsOf_cut, bsOf_cut, List.drop_zero, Nat.sub_zero, List.take_of_length_le (l := (bsOf s).drop q) (by rw [List.length_drop, bsOf_length]; exact Nat.le_refl _), List.take_append_drop]
theorem string_info : (Tryd.prog.info? 9).map (fun i => (i.zero, i.size, i.bytes)) = some (some (.string ⟨#[]⟩), 1, 16) := by kernel_rfl

set_option maxHeartbeats 800000 in
set_option maxRecDepth 100000 in
theorem parts_long (S : ByteArray) (A : Option Addr) (n cap : Nat) (w : World) (hK : RdW 0 w K) (hS : 300 < S.size) :
    Calls Tryd.prog 4 #[.string S, .slice A n cap] w fun e w' => e = .returned (.bool true) ∧ Below w.heap.size w w' := by
  have hS' : decide (300 < (S.size : Int)) = true := decide_eq_true (by omega)
  go_enter Tryd.func4, Tryd.ntmps4
  go_wp2_with fail
  refine (head_any w hK).mono ?_
  rintro e w1 ⟨rfl, hb1⟩
  go_wp2
  go_ret
  exact ⟨rfl, hb1⟩

set_option maxHeartbeats 800000 in
set_option maxRecDepth 100000 in
theorem parts_many (S : ByteArray) (A : Option Addr) (n cap : Nat) (w : World) (hK : RdW 0 w K) (hS : ¬ 300 < S.size) (hn : 10 < n) :
    Calls Tryd.prog 4 #[.string S, .slice A n cap] w fun e w' => e = .returned (.bool true) ∧ Below w.heap.size w w' := by
  have hS' : decide (300 < (S.size : Int)) = false := decide_eq_false (by omega)
  go_enter Tryd.func4, Tryd.ntmps4
  go_wp2_with fail
  refine (head_any w hK).mono ?_
  rintro e w1 ⟨rfl, hb1⟩
  go_wp2
  go_ret
  exact ⟨rfl, hb1⟩

set_option maxHeartbeats 1600000 in
set_option maxRecDepth 100000 in
theorem parts_main (S : ByteArray) (ks : List Int) (A : Option Addr) (cap : Nat) (w : World) (hA : Arg w A (ints ks)) (hK : RdW 0 w K) (hS : ¬ 300 < S.size) (hn : ¬ 10 < ks.length) :
    Calls Tryd.prog 4 #[.string S, .slice A ks.length cap] w fun e w' => e = .returned (.bool true) ∧ Below w.heap.size w w' := by
  have h0 : 0 < w.heap.size := block_lt_of_cell (hK 0 (by omega))
  obtain ⟨i0, hi, hz0, hz1, hz2⟩ := info_parts string_info
  have HA := Lib.hid hA
  have HK := Lib.hid hK
  clear hA hK
  obtain ⟨n, HN⟩ : ∃ n, Hid (n = ks.length) := ⟨_, Lib.hid rfl⟩
  rw [← HN.out] at hn ⊢
  have hS' : decide (300 < (S.size : Int)) = false := decide_eq_false (by omega)
  have hn' : decide (10 < (n : Int)) = false := decide_eq_false (by omega)
  go_enter Tryd.func4, Tryd.ntmps4
  go_wp2_with fail
  refine (head_any w HK.out).mono ?_
  rintro e w1 ⟨rfl, hb1⟩
  go_wp2
  have hs1 := hb1.size
  go_loopw [5, 6, 24] (fun r5 r6 i wr => ∃ (k : Nat) (R : ByteArray) (Ts : List ByteArray), r6 = .string R ∧ i = .int .i64 k ∧ k ≤ n ∧ Hid (wr.ownsRow w.heap.size 9 1 r5 k (Ts.map Value.string)) ∧ Hid (allOf Ts ++ bsOf R = bsOf S) ∧ Below w.heap.size w wr) (fun _ _ i _ => n - (intOf i).toNat)
  case atStart =>
    refine ⟨0, S, [], rfl, rfl, by omega, Lib.hid ?_, Lib.hid rfl, hb1.alloc hs1 _⟩
    exact ⟨rfl, .inr ⟨w1.heap.size, 0, #[], rfl, hs1, heap_alloc_new w1 _, by omega, by unfold maxLen; omega, rfl, rfl⟩⟩
  case round =>
    clear hb1 hs1 hS' hn'
    obtain ⟨k, R, Ts, rfl, rfl, hk, HO, HT, hb⟩ := hrel
    have hR : R.size ≤ 300 := by
      have h1 := congrArg List.length HT.out
      rw [List.length_append, bsOf_length, bsOf_length] at h1
      omega
    have hbs := hb.size
    by_cases hkl : k < n
    · have hkk : k < ks.length := by rw [← HN.out]; exact hkl
      obtain ⟨ad, rfl, hcell⟩ := HA.out.at_ hb k (by simp [ints]; exact hkk)
      have hcell' : wr.cell? (ad.add k) = some (.int .i64 ks[k]) := by rw [hcell]; simp [ints]
      clear hcell
      obtain ⟨z, HZ⟩ : ∃ z, Hid (z = ks[k]) := ⟨_, Lib.hid rfl⟩
      rw [← HZ.out] at hcell'
      obtain ⟨m, hm, hand⟩ := i64_and16 z
      have k1 : (k : Int) < (n : Int) := by omega
      have r1 : ((R.size : Int) + 1) ≠ 0 := by omega
      obtain ⟨q, HQ⟩ : ∃ q, Hid (q = m % (R.size + 1)) := ⟨_, Lib.hid rfl⟩
      have hq : q ≤ R.size := by
        rw [HQ.out]
        have := Nat.mod_lt m (show R.size + 1 > 0 by omega)
        omega
      have r2 : ((m : Int)).tmod ((R.size : Int) + 1) = (q : Int) := by
        rw [HQ.out]
        exact Int.ofNat_tmod m (R.size + 1)
      have r3 : (q : Int) ≤ (R.size : Int) := by omega
      go_wp2_with (at_builtin; refine wpList_append_own _ rfl (.tmp 34) (.tmp 38) 29 rfl w.heap.size 9 i0 (.string ⟨#[]⟩) 1 16 Tryd.underlying29 hi hz0 hz1 hz2 rfl (by decide) _ k (Ts.map Value.string) rfl (HO.out.alloc _) ⟨wr.heap.size, 0, none⟩ 1 1 [.string (R.extract 0 q)] rfl rfl ?c1 ?c2 ?c3 ?c4 ?c5 ?_)
      case c1 =>
        intro j u hj
        match j, hj with
        | 0, hj => simp at hj; subst hj; simp [Addr.add]
      case c2 => intro u hu; simp at hu; subst hu; rfl
      case c3 => unfold maxLen; omega
      case c4 => omega
      case c5 => simp; omega
      intro v' w2 hown' hgrow _
      have HO' := Lib.hid hown'
      clear hown'
      have hb2 : Below w.heap.size w w2 := (hb.alloc hbs _).grown hgrow (by simp; omega) (fun g hg => (World.ownsRow.lt HO.out g hg).1)
      have HT2 : Hid (allOf (Ts ++ [R.extract 0 q]) ++ bsOf (R.extract q R.size) = bsOf S) := by
        refine Lib.hid ?_
        rw [show allOf (Ts ++ [R.extract 0 q]) = allOf Ts ++ bsOf (R.extract 0 q) by unfold allOf; simp, List.append_assoc, bsOf_two]
        exact HT.out
      have HO2 : Hid (w2.ownsRow w.heap.size 9 1 v' (k + 1) ((Ts ++ [R.extract 0 q]).map Value.string)) := by
        refine Lib.hid ?_
        rw [List.map_append]
        exact HO'.out
      clear hgrow
      go_wp2
      exact ⟨⟨k + 1, _, _, rfl, by go_num, by omega, HO2, HT2, hb2⟩, by simp [intOf]; omega⟩
    · obtain rfl : k = n := by omega
      go_wp2_with (at_builtin; refine wpList_append_own _ rfl (.tmp 44) (.tmp 46) 29 rfl w.heap.size 9 i0 (.string ⟨#[]⟩) 1 16 Tryd.underlying29 hi hz0 hz1 hz2 rfl (by decide) _ k (Ts.map Value.string) rfl (HO.out.alloc _) ⟨wr.heap.size, 0, none⟩ 1 1 [.string R] rfl rfl ?c1 ?c2 ?c3 ?c4 ?c5 ?_)
      case c1 =>
        intro j u hj
        match j, hj with
        | 0, hj => simp at hj; subst hj; simp [Addr.add]
      case c2 => intro u hu; simp at hu; subst hu; rfl
      case c3 => unfold maxLen; omega
      case c4 => omega
      case c5 => simp; omega
      intro v' w2 hown' hgrow _
      have hb2 : Below w.heap.size w w2 := (hb.alloc hbs _).grown hgrow (by simp; omega) (fun g hg => (World.ownsRow.lt HO.out g hg).1)
      have hl : (Ts ++ [R]).length = k + 1 := by
        have h1 := hown'.1
        simp at h1
        simp
        omega
      obtain ⟨g, cp, cur, rfl, hg1, hg2, -⟩ : ∃ g cp cur, v' = .slice (some ⟨g, 0, none⟩) (k + 1) cp ∧ w.heap.size ≤ g ∧ w2.heap[g]? = some (.cells cur 9 (0, 0)) ∧ True := by
        rcases hown'.2 with ⟨_, h0⟩ | ⟨g, cap, cur, hv, h1, h2, _⟩
        · omega
        · exact ⟨g, cap, cur, hv, h1, h2, trivial⟩
      have hcells : ∀ i (h : i < (Ts ++ [R]).length), (some ⟨g, 0, none⟩ : Option Addr) = some ⟨g, 0, none⟩ ∧ g < w2.heap.size ∧ w2.cell? ⟨g, i, none⟩ = some (.string (Ts ++ [R])[i]) := by
        intro i h
        refine ⟨rfl, lt_of_block hg2, ?_⟩
        have h1 := hown'.cells (g := g) rfl i (.string (Ts ++ [R])[i]) (by
          rw [show List.map Value.string Ts ++ [Value.string R] = (Ts ++ [R]).map Value.string by simp, List.getElem?_map, List.getElem?_eq_getElem h]
          rfl)
        have h2 : Addr.add ⟨g, 0, none⟩ i = ⟨g, i, none⟩ := by simp [Addr.add]; intro h; exact h.symm
        rw [h2] at h1
        exact h1
      have hall : allOf (Ts ++ [R]) = bsOf S := by
        rw [← HT.out]
        unfold allOf
        simp
      have hK2 : RdW 0 w2 K := fun i hi => (hb2.cell (by exact h0)).trans (HK.out i hi)
      have C1 := sum_any w2 (some ⟨g, 0, none⟩) g cp (Ts ++ [R]) (by rw [hall, bsOf_length]; omega) (by rw [hl]; omega) hcells hK2
      rw [hl, hall] at C1
      have HC1 := Lib.hid C1
      clear C1 hcells hown' hall hl hgrow hg2
      go_wp2_with fail
      refine HC1.out.mono ?_
      clear HC1
      rintro e w3 ⟨rfl, hb3⟩
      obtain ⟨C, HC⟩ : ∃ C, Hid (C = ((shaOf (bsOf S)).map U8).toArray) := ⟨_, Lib.hid rfl⟩
      rw [← HC.out]
      go_wp2_with fail
      have hb03 : Below w.heap.size w w3 := hb2.trans (hb3.mono hb2.size)
      have hK3 : RdW 0 w3 K := fun i hi => (hb03.cell (by exact h0)).trans (HK.out i hi)
      refine (sum_one w3 S (by omega) hK3).mono ?_
      rintro e w4 ⟨rfl, hb4⟩
      rw [← HC.out]
      have hb04 : Below w.heap.size w w4 := hb03.trans (hb4.mono hb03.size)
      have hEq : ∀ w, (Op.equalIn 10000 24 (.agg C) (.agg C)).run Tryd.prog w = .ok true w := by rw [HC.out]; exact eq_same _ (shaOf_length _) (shaOf_lt _)
      have hK4 : RdW 0 w4 K := fun i hi => (hb04.cell (by exact h0)).trans (HK.out i hi)
      have C3 := sum_any w4 none 0 0 [] (by simp [allOf]) (by simp) (by intro i h; simp at h) hK4
      have HC3 := Lib.hid C3
      clear C3
      go_wp2_with fail
      refine HC3.out.mono ?_
      clear HC3 hEq
      rintro e w5 ⟨rfl, hb5⟩
      have hb05 : Below w.heap.size w w5 := hb04.trans (hb5.mono hb04.size)
      obtain ⟨C2, HC2⟩ : ∃ C, Hid (C = ((shaOf (allOf [])).map U8).toArray) := ⟨_, Lib.hid rfl⟩
      rw [← HC2.out]
      go_wp2_with fail
      have hK5 : RdW 0 w5 K := fun i hi => (hb05.cell (by exact h0)).trans (HK.out i hi)
      refine (sum_one w5 ⟨#[]⟩ (by decide) hK5).mono ?_
      rintro e w6 ⟨rfl, hb6⟩
      have hb06 : Below w.heap.size w w6 := hb05.trans (hb6.mono hb05.size)
      rw [show bsOf ⟨#[]⟩ = allOf [] from rfl, ← HC2.out]
      have hEq2 : ∀ w, (Op.equalIn 10000 24 (.agg C2) (.agg C2)).run Tryd.prog w = .ok true w := by rw [HC2.out]; exact eq_same _ (shaOf_length _) (shaOf_lt _)
      go_wp2
      go_ret
      exact ⟨rfl, hb06⟩

end Go.Proofs.YtbpdeehpeflbeaaDoor
