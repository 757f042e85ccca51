/-
  The walk of PackMany.
-/
import Derived.Test.YtbpdeehpeflbeaaBack
import Derived.Test.YtbpdeehpeflbeaaFlagsWalk
namespace Go.Proofs.Ytbpdeehpeflbeaa
open Go.RowKit

theorem WAt.keep {base bw base' bw' : Nat} {w w' : World} {bs : List UInt8} {u : Value} (h : WAt base bw w bs) (hk : Kp base' bw' w w') (h1 : w.heap.size ≤ base') (hne : bw ≠ bw') (hb' : w.heap[bw']? = some (.cells #[u] 28 (0, 0))) : WAt base bw w' bs := by
  obtain ⟨v, hv, hrow⟩ := h
  refine ⟨v, (hk.block bw (by have := lt_of_block hv; omega) hne).trans hv, hrow.1, ?_⟩
  rcases hrow.2 with h0 | ⟨g, cap, cur, hv', hg, hh, r⟩
  · exact .inl h0
  · refine .inr ⟨g, cap, cur, hv', hg, ?_, r⟩
    rw [hk.block g (by have := lt_of_block hh; omega) (fun e => by subst e; rw [hh] at hb'; simp at hb')]
    exact hh

/-- the second Writer, in block bB, has laid just these bytes since w5 -/
def Bst (w5 : World) (bB : Nat) (bs : List UInt8) (wr : World) : Prop := WAt w5.heap.size bB wr bs ∧ Kp w5.heap.size bB w5 wr

theorem encAll_take (zs : List Int) (k : Nat) : (encAll (zs.take k)).length ≤ (encAll zs).length := by
  have : encAll zs = encAll (zs.take k) ++ encAll (zs.drop k) := by unfold encAll; rw [← List.flatMap_append, List.take_append_drop]
  rw [this]; simp
theorem intAll_take (zs : List Int) (k : Nat) : (intAll (zs.take k)).length ≤ (intAll zs).length := by
  have : intAll zs = intAll (zs.take k) ++ intAll (zs.drop k) := by unfold intAll; rw [← List.flatMap_append, List.take_append_drop]
  rw [this]; simp
def flagAll (fs : List Bool) : List UInt8 := fs.map flagB
theorem flagAll_snoc (fs : List Bool) (k : Nat) (h : k < fs.length) : flagAll (fs.take (k + 1)) = flagAll (fs.take k) ++ [flagB fs[k]] := take_map_snoc flagB fs k h
theorem textAll_one (t : List UInt8) : textAll [t] = textB t := by simp [textAll]

theorem string_nil (w : World) : Calls Try.prog 16 #[.pointer none] w fun e w' => e = .returned (.string ⟨#[]⟩) ∧ w = w' := by
  go_enter Try.func16, Try.ntmps16
  go_wp2
  go_ret
  exact ⟨rfl, rfl⟩

set_option maxHeartbeats 3200000 in
set_option maxRecDepth 100000 in
theorem many_main (zs : List Int) (ts : List (List UInt8)) (fs : List Bool) (is : List Int) (A B C D : Option Addr) (ca cb cc cd : Nat) (w : World)
    (hA : Arg w A (ints zs)) (hB : Arg w B (strs ts)) (hC : Arg w C (bools fs)) (hD : Arg w D (ints is))
    (hz : ∀ z ∈ zs, -9223372036854775808 ≤ z ∧ z ≤ 9223372036854775807) (hi : ∀ z ∈ is, -9223372036854775808 ≤ z ∧ z ≤ 9223372036854775807)
    (hl1 : zs.length ≤ 20) (hl2 : ts.length ≤ 20) (hl3 : fs.length ≤ 20) (hl4 : is.length ≤ 20) (hT : (textAll ts).length ≤ 2000000) :
    Calls Try.prog 4 #[.slice A zs.length ca, .slice B ts.length cb, .slice C fs.length cc, .slice D is.length cd] w fun e w' => e = .returned (.bool true) ∧ Below w.heap.size w w' := by
  have d1 : decide (20 < (zs.length : Int)) = false := decide_eq_false (by omega)
  have d2 : decide (20 < (ts.length : Int)) = false := decide_eq_false (by omega)
  have d3 : decide (20 < (fs.length : Int)) = false := decide_eq_false (by omega)
  have d4 : decide (20 < (is.length : Int)) = false := decide_eq_false (by omega)
  have n1 := encAll_len zs (fun z h => (hz z h).2)
  have n4 := intAll_len is hi
  go_enter Try.func4, Try.ntmps4
  go_wp2_with fail
  refine (head_any w).mono ?_
  rintro e w1 ⟨rfl, hb1⟩
  have hs1 := hb1.size
  obtain ⟨W, HW⟩ : ∃ W, Hid (W = (w1.alloc (.cells #[.slice none 0 0] 28)).alloc (.cells #[.slice none 0 0] 28)) := ⟨_, Lib.hid rfl⟩
  have hbW : Below w.heap.size w W := by rw [HW.out]; exact (hb1.alloc hs1 _).alloc (by simp; omega) _
  have HS : Hid (W.heap.size = w1.heap.size + 2) := by rw [HW.out]; exact Lib.hid (by simp)
  have HA : Hid (WAt (w1.heap.size + 2) w1.heap.size W []) := by rw [HW.out]; exact (WAt.new _ w1).alloc _
  have HB : Hid (W.heap[w1.heap.size + 1]? = some (.cells #[.slice none 0 0] 28 (0, 0))) := by
    rw [HW.out]
    have := heap_alloc_new (w1.alloc (.cells #[.slice none 0 0] 28)) (.cells #[.slice none 0 0] 28)
    exact Lib.hid (by simpa using this)
  go_wp2_with fail
  rw [← HW.out]
  refine (num_any (w1.heap.size + 2) w1.heap.size zs hz A ca [] W HA.out (by omega) (by rw [HS.out]; omega) (hA.vals hbW (by omega) hs1) (by simp; omega)).mono ?_
  rintro e w2 ⟨rfl, hw2, hk2⟩
  have HW2 := Lib.hid hw2
  have hz2 : w1.heap.size + 2 ≤ w2.heap.size := by have := hk2.size; rw [HS.out] at this; exact this
  have hb2 : Below w.heap.size w w2 := hbW.trans (hk2.below (by omega) hs1)
  clear hw2
  go_wp2_with fail
  refine (text_any (w1.heap.size + 2) w1.heap.size ts B cb _ w2 HW2.out (by omega) hz2 (hB.vals hb2 (by omega) hs1) (by omega) (by simp only [List.nil_append]; omega)).mono ?_
  rintro e w3 ⟨rfl, hw3, hk3⟩
  have HW3 := Lib.hid hw3
  have hz3 : w1.heap.size + 2 ≤ w3.heap.size := Nat.le_trans hz2 hk3.size
  have hb3 : Below w.heap.size w w3 := hb2.trans (hk3.below (by omega) hs1)
  clear hw3
  go_wp2_with fail
  refine (flag_any (w1.heap.size + 2) w1.heap.size fs C cc _ w3 HW3.out (by omega) hz3 (hC.vals hb3 (by omega) hs1) (by simp only [List.nil_append, List.length_append]; omega)).mono ?_
  rintro e w4 ⟨rfl, hw4, hk4⟩
  have HW4 := Lib.hid hw4
  have hz4 : w1.heap.size + 2 ≤ w4.heap.size := Nat.le_trans hz3 hk4.size
  have hb4 : Below w.heap.size w w4 := hb3.trans (hk4.below (by omega) hs1)
  clear hw4
  go_wp2_with fail
  refine (wint_any (w1.heap.size + 2) w1.heap.size is hi D cd _ w4 HW4.out (by omega) hz4 (hD.vals hb4 (by omega) hs1) (by simp only [List.nil_append, List.length_append, List.length_map]; omega)).mono ?_
  rintro e w5 ⟨rfl, hw5, hk5⟩
  have HWA := Lib.hid hw5
  have hz5 : w1.heap.size + 2 ≤ w5.heap.size := Nat.le_trans hz4 hk5.size
  have hb5 : Below w.heap.size w w5 := hb4.trans (hk5.below (by omega) hs1)
  have HB5 : Hid (w5.heap[w1.heap.size + 1]? = some (.cells #[.slice none 0 0] 28 (0, 0))) :=
    ((((hk2.trans hk3).trans hk4).trans hk5).block _ (by omega) (by omega)).trans HB.out
  have hs5 := hb5.size
  clear hw5 hk2 hk3 hk4 hk5 hb1 hb2 hb3 hb4 hbW HW2 HW3 HW4 HB HA HS HW hz2 hz3 hz4
  have HST : Hid (Bst w5 (w1.heap.size + 1) [] w5) := ⟨⟨_, HB5.out, World.ownsRow_nil _ _ _ _⟩, Kp.refl _ _ _⟩
  have hbB1 : w.heap.size ≤ w1.heap.size + 1 := by omega
  have hbB2 : w1.heap.size + 1 < w5.heap.size := by omega
  have hbB3 : w1.heap.size ≠ w1.heap.size + 1 := by omega
  generalize w1.heap.size + 1 = bB at *
  go_wp2
  go_loopw [55] (fun i wr => ∃ k : Nat, i = .int .i64 k ∧ k ≤ zs.length ∧ Bst w5 bB ([] ++ encAll (zs.take k)) wr) (fun i _ => zs.length - (intOf i).toNat)
  case atStart => exact ⟨0, rfl, by omega, by simpa [encAll] using HST.out⟩
  case round =>
    obtain ⟨k, rfl, hk, hst0⟩ := hrel
    have hst := Lib.hid hst0
    clear hst0 HST
    by_cases hkl : k < zs.length
    · obtain ⟨x, HX⟩ : ∃ x, Hid (x = zs[k]) := ⟨zs[k], Lib.hid rfl⟩
      obtain ⟨ad, rfl, hc⟩ : ∃ ad, A = some ad ∧ wr.cell? (ad.add k) = some (.int .i64 x) := by
        obtain ⟨ad, h1, h2⟩ := hA.at_ (hb5.trans (hst.out.2.below hs5 (by omega))) k (by simpa [ints] using hkl)
        exact ⟨ad, h1, by rw [HX.out]; simpa [ints] using h2⟩
      have HS := Lib.hid (encAll_snoc zs k hkl)
      rw [← HX.out] at HS
      have hzx := hz zs[k] (List.getElem_mem hkl)
      rw [← HX.out] at hzx
      have hlen := encAll_take zs k
      have C := num_any w5.heap.size bB [x] (by simpa using hzx) (some ⟨wr.heap.size, 0, none⟩) 1 ([] ++ encAll (zs.take k)) (wr.alloc (.cells #[.int .i64 x] 3)) (hst.out.1.alloc _) (by omega) (by have := hst.out.2.size; simp; omega) (vals_new rfl (by decide) (by have := hst.out.2.size; omega)) (by simp only [List.nil_append, List.length_cons, List.length_nil]; omega)
      rw [encAll_one] at C
      have HC := Lib.hid C
      clear C
      go_wp2_with fail
      refine HC.out.mono ?_
      rintro e w6 ⟨rfl, hw6, hk6⟩
      have HW6 : Hid (Bst w5 bB ([] ++ encAll (zs.take (k + 1))) w6) := ⟨by rw [HS.out, ← List.append_assoc]; exact hw6, (hst.out.2.trans (Kp.of_below ((Below.refl _ _).alloc (Nat.le_refl _) _) hst.out.2.size)).trans hk6⟩
      clear hw6 hk6 hst
      go_wp2
      go_roundw
      case rel => exact ⟨k + 1, by go_num, by omega, HW6.out⟩
      case measure => simp [intOf]; omega
    · have HST : Hid (Bst w5 bB ([] ++ encAll zs) wr) := by
        have := hst.out
        rw [List.take_of_length_le (by omega)] at this
        exact this
      clear hst
      go_wp2
      go_loopw [66] (fun i wr => ∃ k : Nat, i = .int .i64 k ∧ k ≤ ts.length ∧ Bst w5 bB (([] ++ encAll zs) ++ textAll (ts.take k)) wr) (fun i _ => ts.length - (intOf i).toNat)
      case atStart => exact ⟨0, rfl, by omega, by simpa [textAll] using HST.out⟩
      case round =>
        obtain ⟨k, rfl, hk, hst0⟩ := hrel
        have hst := Lib.hid hst0
        clear hst0 HST
        by_cases hkl : k < ts.length
        · obtain ⟨x, HX⟩ : ∃ x, Hid (x = ts[k]) := ⟨ts[k], Lib.hid rfl⟩
          obtain ⟨ad, rfl, hc⟩ : ∃ ad, B = some ad ∧ wr.cell? (ad.add k) = some (.string ⟨x.toArray⟩) := by
            obtain ⟨ad, h1, h2⟩ := hB.at_ (hb5.trans (hst.out.2.below hs5 (by omega))) k (by simpa [strs] using hkl)
            exact ⟨ad, h1, by rw [HX.out]; simpa [strs] using h2⟩
          have HS := Lib.hid (textAll_snoc ts k hkl)
          rw [← HX.out] at HS
          have hlen := textAll_take ts k
          have hbk : Below w.heap.size w wr := hb5.trans (hst.out.2.below hs5 (by omega))
          rcases (show 200 < x.length ∨ x.length ≤ 200 by omega) with hx | hx
          · go_wp2
            go_ret
            exact ⟨rfl, hbk⟩
          have C := text_any w5.heap.size bB [x] (some ⟨wr.heap.size, 0, none⟩) 1 (([] ++ encAll zs) ++ textAll (ts.take k)) (wr.alloc (.cells #[.string ⟨x.toArray⟩] 9)) (hst.out.1.alloc _) (by omega) (by have := hst.out.2.size; simp; omega) (vals_new rfl (by decide) (by have := hst.out.2.size; omega)) (by simp) (by simp only [List.nil_append, List.length_append, textAll_one, textB]; have := enc_len9 x.length (by omega); omega)
          rw [textAll_one] at C
          have HC := Lib.hid C
          clear C
          go_wp2_with fail
          refine HC.out.mono ?_
          rintro e w6 ⟨rfl, hw6, hk6⟩
          have HW6 : Hid (Bst w5 bB (([] ++ encAll zs) ++ textAll (ts.take (k + 1))) w6) := ⟨by rw [HS.out, ← List.append_assoc]; exact hw6, (hst.out.2.trans (Kp.of_below ((Below.refl _ _).alloc (Nat.le_refl _) _) hst.out.2.size)).trans hk6⟩
          clear hw6 hk6 hst
          go_wp2
          go_roundw
          case rel => exact ⟨k + 1, by go_num, by omega, HW6.out⟩
          case measure => simp [intOf]; omega
        · have HST : Hid (Bst w5 bB (([] ++ encAll zs) ++ textAll ts) wr) := by
            have := hst.out
            rw [List.take_of_length_le (by omega)] at this
            exact this
          clear hst
          go_wp2
          go_loopw [80] (fun i wr => ∃ k : Nat, i = .int .i64 k ∧ k ≤ fs.length ∧ Bst w5 bB (([] ++ encAll zs ++ textAll ts) ++ flagAll (fs.take k)) wr) (fun i _ => fs.length - (intOf i).toNat)
          case atStart => exact ⟨0, rfl, by omega, by simpa [flagAll] using HST.out⟩
          case round =>
            obtain ⟨k, rfl, hk, hst0⟩ := hrel
            have hst := Lib.hid hst0
            clear hst0 HST
            by_cases hkl : k < fs.length
            · obtain ⟨x, HX⟩ : ∃ x, Hid (x = fs[k]) := ⟨fs[k], Lib.hid rfl⟩
              obtain ⟨ad, rfl, hc⟩ : ∃ ad, C = some ad ∧ wr.cell? (ad.add k) = some (.bool x) := by
                obtain ⟨ad, h1, h2⟩ := hC.at_ (hb5.trans (hst.out.2.below hs5 (by omega))) k (by simpa [bools] using hkl)
                exact ⟨ad, h1, by rw [HX.out]; simpa [bools] using h2⟩
              have HS := Lib.hid (flagAll_snoc fs k hkl)
              rw [← HX.out] at HS
              have hlen := Nat.le_refl k
              have C := flag_any w5.heap.size bB [x] (some ⟨wr.heap.size, 0, none⟩) 1 (([] ++ encAll zs ++ textAll ts) ++ flagAll (fs.take k)) (wr.alloc (.cells #[.bool x] 4)) (hst.out.1.alloc _) (by omega) (by have := hst.out.2.size; simp; omega) (vals_new rfl (by decide) (by have := hst.out.2.size; omega)) (by simp only [List.nil_append, List.length_append, flagAll, List.length_map, List.length_take, List.length_cons, List.length_nil]; omega)
              rw [show [x].map flagB = [flagB x] from rfl] at C
              have HC := Lib.hid C
              clear C
              go_wp2_with fail
              refine HC.out.mono ?_
              rintro e w6 ⟨rfl, hw6, hk6⟩
              have HW6 : Hid (Bst w5 bB (([] ++ encAll zs ++ textAll ts) ++ flagAll (fs.take (k + 1))) w6) := ⟨by rw [HS.out, ← List.append_assoc]; exact hw6, (hst.out.2.trans (Kp.of_below ((Below.refl _ _).alloc (Nat.le_refl _) _) hst.out.2.size)).trans hk6⟩
              clear hw6 hk6 hst
              go_wp2
              go_roundw
              case rel => exact ⟨k + 1, by go_num, by omega, HW6.out⟩
              case measure => simp [intOf]; omega
            · have HST : Hid (Bst w5 bB (([] ++ encAll zs ++ textAll ts) ++ flagAll fs) wr) := by
                have := hst.out
                rw [List.take_of_length_le (by omega)] at this
                exact this
              clear hst
              go_wp2
              go_loopw [91] (fun i wr => ∃ k : Nat, i = .int .i64 k ∧ k ≤ is.length ∧ Bst w5 bB (([] ++ encAll zs ++ textAll ts ++ flagAll fs) ++ intAll (is.take k)) wr) (fun i _ => is.length - (intOf i).toNat)
              case atStart => exact ⟨0, rfl, by omega, by simpa [intAll] using HST.out⟩
              case round =>
                obtain ⟨k, rfl, hk, hst0⟩ := hrel
                have hst := Lib.hid hst0
                clear hst0 HST
                by_cases hkl : k < is.length
                · obtain ⟨x, HX⟩ : ∃ x, Hid (x = is[k]) := ⟨is[k], Lib.hid rfl⟩
                  obtain ⟨ad, rfl, hc⟩ : ∃ ad, D = some ad ∧ wr.cell? (ad.add k) = some (.int .i64 x) := by
                    obtain ⟨ad, h1, h2⟩ := hD.at_ (hb5.trans (hst.out.2.below hs5 (by omega))) k (by simpa [ints] using hkl)
                    exact ⟨ad, h1, by rw [HX.out]; simpa [ints] using h2⟩
                  have HS := Lib.hid (intAll_snoc is k hkl)
                  rw [← HX.out] at HS
                  have hzx := hi is[k] (List.getElem_mem hkl)
                  rw [← HX.out] at hzx
                  have hlen := intAll_take is k
                  have C := wint_any w5.heap.size bB [x] (by simpa using hzx) (some ⟨wr.heap.size, 0, none⟩) 1 (([] ++ encAll zs ++ textAll ts ++ flagAll fs) ++ intAll (is.take k)) (wr.alloc (.cells #[.int .i64 x] 2)) (hst.out.1.alloc _) (by omega) (by have := hst.out.2.size; simp; omega) (vals_new rfl (by decide) (by have := hst.out.2.size; omega)) (by simp only [List.nil_append, List.length_append, flagAll, List.length_map, List.length_cons, List.length_nil]; omega)
                  rw [intAll_one] at C
                  have HC := Lib.hid C
                  clear C
                  go_wp2_with fail
                  refine HC.out.mono ?_
                  rintro e w6 ⟨rfl, hw6, hk6⟩
                  have HW6 : Hid (Bst w5 bB (([] ++ encAll zs ++ textAll ts ++ flagAll fs) ++ intAll (is.take (k + 1))) w6) := ⟨by rw [HS.out, ← List.append_assoc]; exact hw6, (hst.out.2.trans (Kp.of_below ((Below.refl _ _).alloc (Nat.le_refl _) _) hst.out.2.size)).trans hk6⟩
                  clear hw6 hk6 hst
                  go_wp2
                  go_roundw
                  case rel => exact ⟨k + 1, by go_num, by omega, HW6.out⟩
                  case measure => simp [intOf]; omega
                · have HST : Hid (Bst w5 bB (([] ++ encAll zs ++ textAll ts ++ flagAll fs) ++ intAll is) wr) := by
                    have := hst.out
                    rw [List.take_of_length_le (by omega)] at this
                    exact this
                  clear hst
                  have HWA2 : Hid (WAt (w1.heap.size + 2) w1.heap.size wr ([] ++ encAll zs ++ textAll ts ++ flagAll fs ++ intAll is)) := HWA.out.keep HST.out.2 (Nat.le_refl _) hbB3 HB5.out
                  have hbk : Below w.heap.size w wr := hb5.trans (HST.out.2.below hs5 (by omega))
                  go_wp2_with fail
                  refine (string_any _ _ _ wr HWA2.out).mono ?_
                  rintro e w' ⟨rfl, rfl⟩
                  go_wp2_with fail
                  refine (string_any _ _ _ wr HST.out.1).mono ?_
                  rintro e w' ⟨rfl, rfl⟩
                  go_wp2_with fail
                  refine (string_nil wr).mono ?_
                  rintro e w' ⟨rfl, rfl⟩
                  go_wp2
                  go_ret
                  exact ⟨rfl, hbk⟩

end Go.Proofs.Ytbpdeehpeflbeaa
