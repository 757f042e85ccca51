/-
  The document's example: the archive of no files, and back.
-/
import Derived.Test.YtomlbfkkhhhfkaaDoorCsRight
namespace Go.Proofs.YtomlbfkkhhhfkaaDoor.Fc
open Go.RowKit
set_option linter.unusedVariables false

theorem below_of_kp {base bw B : Nat} {w w' : World} (h : Pk.Kp base bw w w') (h1 : B ≤ base) (h2 : B ≤ bw) : Below B w w' := h.below h1 h2
set_option maxHeartbeats 1000000 in
set_option maxRecDepth 100000 in
theorem archive0 (w : World) : Calls Tryd.prog 18 #[.slice none 0 0] w fun e w' => e = .returned (.tuple #[.string ⟨#[0]⟩, .int .i64 0]) ∧ Below w.heap.size w w' := by
  obtain ⟨W1, HW1⟩ : ∃ W, Hid (W = (w.alloc (.cells #[.slice none 0 0] 54)).alloc (.cells #[.int .i64 0] 3)) := ⟨_, Lib.hid rfl⟩
  have HA : Hid (Pk.WAt (w.heap.size + 1) w.heap.size W1 []) := Lib.hid (by rw [HW1.out]; exact (Pk.WAt.new _ w).alloc _)
  have HB1 : Hid (Below w.heap.size w W1) := Lib.hid (by rw [HW1.out]; exact below2 w _ _)
  have HS1 : Hid (W1.heap.size = w.heap.size + 2) := Lib.hid (by rw [HW1.out]; simp)
  have HV : Hid (Pk.Vals (w.heap.size + 1) w.heap.size W1 (some ⟨w.heap.size + 1, 0, none⟩) (Pk.ints [0])) := Lib.hid (by rw [HW1.out]; exact Pk.vals_new (by simp) (by decide) (by omega))
  have HN := Lib.hid (Pk.num_any (w.heap.size + 1) w.heap.size [0] (by simp) (some ⟨w.heap.size + 1, 0, none⟩) 1 [] W1 HA.out (by omega) (by rw [HS1.out]; omega) HV.out (by simp))
  clear HA HV
  go_enter Tryd.func18, Tryd.ntmps18
  go_wp2_with fail
  rw [← HW1.out]
  refine HN.out.mono ?_
  rintro e w2 ⟨rfl, hw2, hk2⟩
  have HB2 : Hid (Below w.heap.size w w2) := Lib.hid (HB1.out.trans (hk2.below (by omega) (Nat.le_refl _)))
  have hs2 : ([] ++ Pk.encAll [0]) = [0] := by decide
  rw [hs2] at hw2
  have HT := Lib.hid (Pk.string_any _ _ _ _ hw2)
  clear hs2 hw2 hk2 HN HB1 HW1
  go_wp2
  go_loopw [18] (fun i wr => i = .int .i64 0 ∧ wr = w2) (fun i _ => 0)
  case atStart => exact ⟨rfl, rfl⟩
  case round =>
    obtain ⟨rfl, rfl⟩ := hrel
    go_wp2_with fail
    refine HT.out.mono ?_
    rintro e w3 ⟨rfl, rfl⟩
    go_wp2
    exact bodyPost_ret (v := .tuple #[.string ⟨#[0]⟩, .int .i64 0]) (by simp [results, Tryd.results18, go_sem]) rfl ⟨rfl, HB2.out⟩

theorem many0 : (Pk.rMany ⟨[0], false⟩ 200) = (0, ⟨[], false⟩) := by
  have h := rMany_enc 0 (by decide) 200 (by decide) [] (by simp)
  rwa [List.append_nil, show Pk.enc 0 = [0] from by decide] at h
set_option maxHeartbeats 1000000 in
set_option maxRecDepth 100000 in
theorem unpack0 (w : World) : Calls Tryd.prog 17 #[.string ⟨#[0]⟩] w fun e w' => e = .returned (.tuple #[.slice none 0 0, .int .i64 0]) ∧ Below w.heap.size w w' := by
  have HR := Lib.hid (Pk.read_any [0] w)
  go_enter Tryd.func17, Tryd.ntmps17
  go_wp2_with fail
  refine HR.out.mono ?_
  rintro e w1 ⟨rfl, hw1⟩
  have hra : Pk.RAt w.heap.size w1 ⟨[0], false⟩ := by rw [hw1]; exact Pk.RAt.new w [0]
  have HB1 : Hid (Below w.heap.size w w1) := Lib.hid (by rw [hw1]; exact below1 w _)
  have hm := Pk.rmany_any w.heap.size ⟨[0], false⟩ 200 w1 hra (by simp)
  rw [many0] at hm
  have HM := Lib.hid hm
  clear hw1 hra hm
  go_wp2_with fail
  refine HM.out.mono ?_
  rintro e w2 ⟨rfl, hr2, ho2⟩
  have HB2 : Hid (Below w.heap.size w w2) := Lib.hid ⟨ho2.os.trans HB1.out.os, ho2.tape.trans HB1.out.tape, ho2.output.trans HB1.out.output, by rw [ho2.size]; exact HB1.out.size, fun k hk => (ho2.block k (by omega)).trans (HB1.out.block k hk)⟩
  have HD := Lib.hid (Pk.done_any _ _ _ hr2)
  clear hr2 ho2 HM HB1
  go_wp2
  go_loopw [5, 13] (fun l i wr => l = .slice none 0 0 ∧ i = .int .i64 0 ∧ wr = w2) (fun _ i _ => 0)
  case atStart => exact ⟨rfl, rfl, rfl⟩
  case round =>
    obtain ⟨rfl, rfl, rfl⟩ := hrel
    go_wp2_with fail
    refine HD.out.mono ?_
    rintro e w3 ⟨rfl, rfl⟩
    have hd : Pk.rDone ⟨[], false⟩ = 0 := rfl
    rw [hd]
    clear hd
    go_wp2
    exact bodyPost_ret (v := .tuple #[.slice none 0 0, .int .i64 0]) (by simp [results, Tryd.results17, go_sem]) rfl ⟨rfl, HB2.out⟩

set_option maxHeartbeats 1000000 in
set_option maxRecDepth 100000 in
theorem head9 (w : World) : Calls Tryd.prog 9 #[] w fun e w' => e = .returned (.bool true) ∧ Below w.heap.size w w' := by
  go_enter Tryd.func9, Tryd.ntmps9
  go_wp2_with fail
  refine (archive0 w).mono ?_
  rintro e w1 ⟨rfl, hb1⟩
  have HB1 := Lib.hid hb1
  clear hb1
  go_wp2_with fail
  refine (unpack0 w1).mono ?_
  rintro e w2 ⟨rfl, hb2⟩
  have HB2 : Hid (Below w.heap.size w w2) := Lib.hid (HB1.out.trans (hb2.mono HB1.out.size))
  clear hb2
  go_wp2
  go_ret
  exact ⟨rfl, HB2.out⟩
end Go.Proofs.YtomlbfkkhhhfkaaDoor.Fc
