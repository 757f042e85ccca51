/-
  The statement's own words for names of classes and for types.
-/
import Derived.Test.YtdcbeemjdpgjmaaDoorFcTyp
namespace Go.Proofs.YtdcbeemjdpgjmaaDoor.Fc
open Go.RowKit
set_option linter.unusedVariables false

theorem empty_no {n : ByteArray} (h0 : 0 < n.size) : n.toList.isEmpty = false := by
  cases h : n.toList.isEmpty
  · rfl
  · rw [ByteArray.toList_eq, List.isEmpty_iff, ← List.length_eq_zero_iff] at h; exact absurd h (by show ¬ n.size = 0; omega)
theorem empty_yes {n : ByteArray} (h0 : ¬ 0 < n.size) : n.toList.isEmpty = true := by
  rw [ByteArray.toList_eq, List.isEmpty_iff, ← List.length_eq_zero_iff]; show n.size = 0; omega
theorem great_no0 {n : ByteArray} (h0 : ¬ 0 < n.size) : greatB n = false := by unfold greatB; rw [dif_neg h0]
theorem great_yes {n : ByteArray} (h0 : 0 < n.size) (h1 : (65 : Int) ≤ n[0].toNat) (h2 : (n[0].toNat : Int) ≤ 90) : greatB n = true := by unfold greatB; rw [dif_pos h0]; simp [h1, h2]
theorem great_no1 {n : ByteArray} (h0 : 0 < n.size) (h1 : ¬ (65 : Int) ≤ n[0].toNat) : greatB n = false := by unfold greatB; rw [dif_pos h0, decide_eq_false h1]; rfl
theorem great_no2 {n : ByteArray} (h0 : 0 < n.size) (h2 : ¬ (n[0].toNat : Int) ≤ 90) : greatB n = false := by unfold greatB; rw [dif_pos h0, decide_eq_false h2]; simp
set_option maxHeartbeats 1000000 in
set_option maxRecDepth 100000 in
theorem class32 (n : ByteArray) (w : World) : Calls Tryd.prog 32 #[.string n] w fun e w' => e = .returned (.bool (greatB n && decide ((n.size : Int) ≤ 40))) ∧ w = w' := by
  by_cases h0 : 0 < n.size
  rotate_left
  · have hE := empty_yes h0
    have HG := Lib.hid (great_no0 h0)
    clear h0
    go_enter Tryd.func32, Tryd.ntmps32
    go_wp2
    go_ret
    exact ⟨by rw [HG.out]; rfl, rfl⟩
  have hE := empty_no h0
  by_cases h1 : (65 : Int) ≤ n[0].toNat
  rotate_left
  · have HG := Lib.hid (great_no1 h0 h1)
    go_enter Tryd.func32, Tryd.ntmps32
    go_wp2
    go_ret
    exact ⟨by rw [HG.out]; rfl, rfl⟩
  by_cases h2 : (n[0].toNat : Int) ≤ 90
  rotate_left
  · have HG := Lib.hid (great_no2 h0 h2)
    go_enter Tryd.func32, Tryd.ntmps32
    go_wp2
    go_ret
    exact ⟨by rw [HG.out]; rfl, rfl⟩
  have HG := Lib.hid (great_yes h0 h1 h2)
  by_cases h3 : (n.size : Int) ≤ 40
  · have HL := Lib.hid (decide_eq_true h3)
    go_enter Tryd.func32, Tryd.ntmps32
    go_wp2
    go_ret
    exact ⟨by rw [HG.out, HL.out]; rfl, rfl⟩
  · have HL := Lib.hid (decide_eq_false h3)
    go_enter Tryd.func32, Tryd.ntmps32
    go_wp2
    go_ret
    exact ⟨by rw [HG.out, HL.out]; rfl, rfl⟩
set_option maxHeartbeats 1000000 in
set_option maxRecDepth 100000 in
theorem good33 (n : ByteArray) (a : Bool) (w : World) : Calls Tryd.prog 33 #[tv n a] w fun e w' => e = .returned (.bool (goodB n)) ∧ Below w.heap.size w w' := by
  unfold goodB intB boolB
  cases i1 : n.toList == [105, 110, 116] with
  | true =>
    go_enter Tryd.func33, Tryd.ntmps33
    go_wp2
    go_ret
    exact ⟨rfl, below1 w _⟩
  | false =>
  cases i2 : n.toList == [98, 111, 111, 108] with
  | true =>
    go_enter Tryd.func33, Tryd.ntmps33
    go_wp2
    go_ret
    exact ⟨rfl, below1 w _⟩
  | false =>
  by_cases h0 : 0 < n.size
  rotate_left
  · have hE := empty_yes h0
    have HG := Lib.hid (great_no0 h0)
    clear h0
    go_enter Tryd.func33, Tryd.ntmps33
    go_wp2
    go_ret
    exact ⟨by rw [HG.out]; rfl, below1 w _⟩
  have hE := empty_no h0
  by_cases h1 : (65 : Int) ≤ n[0].toNat
  rotate_left
  · have HG := Lib.hid (great_no1 h0 h1)
    go_enter Tryd.func33, Tryd.ntmps33
    go_wp2
    go_ret
    exact ⟨by rw [HG.out]; rfl, below1 w _⟩
  by_cases h2 : (n[0].toNat : Int) ≤ 90
  rotate_left
  · have HG := Lib.hid (great_no2 h0 h2)
    go_enter Tryd.func33, Tryd.ntmps33
    go_wp2
    go_ret
    exact ⟨by rw [HG.out]; rfl, below1 w _⟩
  have HG := Lib.hid (great_yes h0 h1 h2)
  by_cases h3 : (n.size : Int) ≤ 40
  · have HL := Lib.hid (decide_eq_true h3)
    go_enter Tryd.func33, Tryd.ntmps33
    go_wp2
    go_ret
    exact ⟨by rw [HG.out, HL.out]; rfl, below1 w _⟩
  · have HL := Lib.hid (decide_eq_false h3)
    go_enter Tryd.func33, Tryd.ntmps33
    go_wp2
    go_ret
    exact ⟨by rw [HG.out, HL.out]; rfl, below1 w _⟩
end Go.Proofs.YtdcbeemjdpgjmaaDoor.Fc
