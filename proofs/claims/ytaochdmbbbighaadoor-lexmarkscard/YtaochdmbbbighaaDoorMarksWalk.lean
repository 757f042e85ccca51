/-
  LexMarks: the walk.
-/
import Derived.Test.YtaochdmbbbighaaDoorMarksLaw
namespace Go.Proofs.YtaochdmbbbighaaDoor
open Go.RowKit

set_option maxHeartbeats 1000000 in
set_option maxRecDepth 100000 in
theorem marks_walk (a b : Int) (w : World) (hT : Tabs w) : Calls Tryd.prog 8 #[.int .i64 a, .int .i64 b] w fun e w' => e = .returned (.bool true) ∧ Below w.heap.size w w' := by
  obtain ⟨hL, hpos, hlen⟩ := two_one (mkOf a) (mkOf b) (mkOf_lt a) (mkOf_lt b)
  have HL := Lib.hid hL
  have HP := Lib.hid hpos
  have HN := Lib.hid hlen
  clear hL hpos hlen
  go_enter Tryd.func8, Tryd.ntmps8
  go_wp2_with fail
  refine (head_any w hT).mono ?_
  rintro e w1 ⟨rfl, hb1⟩
  go_wp2_with fail
  refine (text_mark a w1).mono ?_
  rintro e w2 ⟨rfl, hb2⟩
  go_wp2_with fail
  refine (text_mark b w2).mono ?_
  rintro e w3 ⟨rfl, hb3⟩
  have hb03 : Below w.heap.size w w3 := (hb1.trans (hb2.mono hb1.size)).trans (hb3.mono (Nat.le_trans hb1.size hb2.size))
  have hT3 := hT.below hb03
  obtain ⟨X, hX⟩ : ∃ X, X = str (marksL[mkOf a]'(mkOf_lt a)) := ⟨_, rfl⟩
  obtain ⟨Y, hY⟩ : ∃ Y, Y = str (marksL[mkOf b]'(mkOf_lt b)) := ⟨_, rfl⟩
  rw [← hX, ← hY]
  have HX := Lib.hid hX
  have HY := Lib.hid hY
  have hXs : X.size ≤ 4 := by
    have h1 := HN.out
    rw [List.length_append, List.length_append] at h1
    rw [hX, str_size]
    simp at h1
    omega
  have hYs : Y.size ≤ 4 := by
    have h1 := HN.out
    rw [List.length_append, List.length_append] at h1
    rw [hY, str_size]
    simp at h1
    omega
  clear hX hY
  go_wp2_with fail
  refine (all_of (l := (marksL[mkOf a]'(mkOf_lt a)) ++ [32] ++ (marksL[mkOf b]'(mkOf_lt b))) (by rw [HX.out, HY.out]; simp [str]) (by have := HN.out; omega) hT3 HL.out).mono ?_
  rintro e w4 ⟨hb4, v, rfl, hrow⟩
  obtain ⟨g, cap, rfl, hg1, hg2, hg3, hc⟩ := row_cells hrow (by show 0 < 3; decide)
  have k0 : w4.cell? ⟨g, 0, none⟩ = some (.int .i64 5) := hc 0 _ rfl
  have k1 : w4.cell? ⟨g, 1, none⟩ = some (.string X) := by rw [HX.out]; exact hc 1 _ rfl
  have k6 : w4.cell? ⟨g, 6, none⟩ = some (.string Y) := by rw [HY.out]; exact hc 6 _ rfl
  have k9 : w4.cell? ⟨g, 9, none⟩ = some (.int .i64 ((X.size : Int) + 2)) := by
    rw [hc 9 _ rfl, HX.out, str_size]
    show some (Value.int .i64 ((posC _ _ : Nat) : Int)) = _
    rw [HP.out]
    rfl
  have hl3 : (twoT (mkOf a) (mkOf b) (mkOf_lt a) (mkOf_lt b)).length = 3 := rfl
  rw [hl3]
  clear hl3 hc hrow
  go_wp2_with fail
  go_ret
  exact ⟨rfl, (hb03.trans (hb4.mono hb03.size)).alloc (Nat.le_trans hb03.size hb4.size) _⟩
end Go.Proofs.YtaochdmbbbighaaDoor
