/-
  The walk of PackBelow: it returns true, and writes nothing that was there.
-/
import Derived.Test.YtbpdeehpeflbeaaBack
namespace Go.Proofs.Ytbpdeehpeflbeaa
open Go.RowKit

theorem WAt.of_nil (base : Nat) {bw : Nat} {w : World} (h : w.heap[bw]? = some (.cells #[.slice none 0 0] 28 (0, 0))) : WAt base bw w [] := ⟨_, h, World.ownsRow_nil _ _ _ _⟩

set_option maxHeartbeats 1600000 in
set_option maxRecDepth 100000 in
theorem packBelow_walk (n : Int) (h1 : -9223372036854775808 ≤ n) (h2 : n ≤ 9223372036854775807) (w : World) :
    Calls Try.prog 9 #[.int .i64 n] w fun e w' => e = .returned (.bool true) ∧ Below w.heap.size w w' := by
  go_enter Try.func9, Try.ntmps9
  go_wp2_with fail
  refine (head_any w).mono ?_
  rintro e w1 ⟨rfl, hb1⟩
  go_wp2_with fail
  refine (num_any (w1.heap.size + 3) w1.heap.size [n] (by simp; omega) (some ⟨w1.heap.size + 2, 0, none⟩) 1 [] (((w1.alloc (.cells #[.slice none 0 0] 28)).alloc (.cells #[.slice none 0 0] 28)).alloc (.cells #[.int .i64 n] 3)) (((WAt.new _ w1).alloc _).alloc _) (by omega) (by simp) (vals_one (by simp) (by omega) (by omega)) (by simp)).mono ?_
  rintro e w5 ⟨rfl, hw5, hk5⟩
  rw [List.nil_append, encAll_one] at hw5
  have hs5 : w1.heap.size + 3 ≤ w5.heap.size := by have := hk5.size; simp at this; omega
  have hb5 : Below w.heap.size w w5 := by
    have e1 : Below w.heap.size w (((w1.alloc (.cells #[.slice none 0 0] 28)).alloc (.cells #[.slice none 0 0] 28)).alloc (.cells #[.int .i64 n] 3)) := ((hb1.alloc hb1.size _).alloc (by have := hb1.size; simp; omega) _).alloc (by have := hb1.size; simp; omega) _
    exact e1.trans (hk5.below (by have := hb1.size; omega) hb1.size)
  have HW : Hid (w5.heap[w1.heap.size + 1]? = some (.cells #[.slice none 0 0] 28 (0, 0))) := by
    show _ = _
    rw [hk5.block _ (by omega) (by omega), Below.heap_alloc _ _ _ (by simp)]
    have := heap_alloc_new (w1.alloc (.cells #[.slice none 0 0] 28)) (.cells #[.slice none 0 0] 28)
    simpa using this
  clear hk5
  go_wp2_with fail
  refine (string_any _ _ _ w5 hw5).mono ?_
  rintro e w' ⟨rfl, rfl⟩
  go_wp2_with fail
  refine (read_any _ w5).mono ?_
  rintro e w6 ⟨rfl, rfl⟩
  go_wp2_with fail
  refine (wint_any (w5.heap.size + 2) (w1.heap.size + 1) [n] (by simp; omega) (some ⟨w5.heap.size + 1, 0, none⟩) 1 [] ((w5.alloc (.cells #[.string ⟨(encI n).toArray⟩, .bool false] 61)).alloc (.cells #[.int .i64 n] 2)) (((WAt.of_nil (w5.heap.size + 2) HW.out).alloc _).alloc _) (by omega) (by simp) (vals_one (by simp) (by omega) (by omega)) (by simp)).mono ?_
  rintro e w8 ⟨rfl, hw8, hk8⟩
  rw [List.nil_append, intAll_one] at hw8
  have hs8 : w5.heap.size + 2 ≤ w8.heap.size := by have := hk8.size; simp at this; omega
  have hb8 : Below w.heap.size w w8 := by
    have := hb1.size
    have e1 : Below w.heap.size w ((w5.alloc (.cells #[.string ⟨(encI n).toArray⟩, .bool false] 61)).alloc (.cells #[.int .i64 n] 2)) := (hb5.alloc (by omega) _).alloc (by simp; omega) _
    exact e1.trans (hk8.below (by omega) (by omega))
  have HR : Hid (RAt w5.heap.size w8 ⟨encI n, false⟩) := ((RAt.new w5 (encI n)).alloc _).keep hk8 (by omega) (by omega)
  clear hk8 hw5
  go_wp2_with fail
  refine (string_any _ _ _ w8 hw8).mono ?_
  rintro e w' ⟨rfl, rfl⟩
  go_wp2_with fail
  refine (read_any _ w8).mono ?_
  rintro e w9 ⟨rfl, rfl⟩
  clear hw8
  have hq : rNum ⟨encI n, false⟩ 9223372036854775807 = (n.toNat, ⟨[], false⟩) := by
    have := rNum_enc n.toNat (by omega) 9223372036854775807 (by omega) []
    simpa [encI] using this
  have hq2 : rInt ⟨intB n, false⟩ = (n, ⟨[], false⟩) := by
    have := rInt_intB n h1 h2 []
    simpa using this
  have C1 := Lib.hid (rnum_any w5.heap.size ⟨encI n, false⟩ 9223372036854775807 (w8.alloc (.cells #[.string ⟨(intB n).toArray⟩, .bool false] 61)) (HR.out.alloc _) (by have := encI_len n (by omega); simp only; omega))
  rw [hq] at C1
  have HN : Hid (RAt w8.heap.size (w8.alloc (.cells #[.string ⟨(intB n).toArray⟩, .bool false] 61)) ⟨intB n, false⟩) := RAt.new w8 (intB n)
  have HB9 : Hid (Below w.heap.size w (w8.alloc (.cells #[.string ⟨(intB n).toArray⟩, .bool false] 61))) := hb8.alloc (by have := hb1.size; omega) _
  have HI := Lib.hid hq2
  have hmx : (if n < 0 then (0 : Int) else n) = ((n.toNat : Nat) : Int) := by omega
  clear hq hq2 hb8 hb5
  have hs9 : w8.heap.size < (w8.alloc (.cells #[.string ⟨(intB n).toArray⟩, .bool false] 61)).heap.size := by simp
  have HS9 := Lib.hid hs9
  clear hs9
  go_wp2_with fail
  refine C1.out.mono ?_
  rintro e w10 ⟨rfl, hr10, ho10⟩
  have HR10 := Lib.hid hr10
  clear hr10
  go_wp2_with fail
  refine (done_any _ _ w10 HR10.out).mono ?_
  rintro e w' ⟨rfl, rfl⟩
  have HR11 : Hid (RAt w8.heap.size w10 ⟨intB n, false⟩) := HN.out.on ho10 (by omega)
  have C2 := Lib.hid (rint_any w8.heap.size ⟨intB n, false⟩ w10 HR11.out (by have := intB_len n h1 h2; simp only; omega))
  rw [HI.out] at C2
  have hd0 : rDone ⟨[], false⟩ = 0 := rfl
  rw [hd0]
  have HD := Lib.hid hd0
  clear hd0
  go_wp2_with fail
  refine C2.out.mono ?_
  rintro e w12 ⟨rfl, hr12, ho12⟩
  have HR12 := Lib.hid hr12
  clear hr12
  go_wp2_with fail
  refine (done_any _ _ w12 HR12.out).mono ?_
  rintro e w' ⟨rfl, rfl⟩
  rw [HD.out]
  go_wp2
  go_ret
  refine ⟨rfl, (HB9.out.trans (ho10.below ?_)).trans (ho12.below ?_)⟩
  · have := hb1.size; omega
  · have := hb1.size; omega

end Go.Proofs.Ytbpdeehpeflbeaa
