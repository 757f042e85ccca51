/-
  The statements' own read: a part is read.
-/
import Derived.Test.YtbpdeehpeflbeaaNum
import Derived.Test.YtbpdeehpeflbeaaFlagsWalk
namespace Go.Proofs.Ytbpdeehpeflbeaa
open Go.RowKit

/-- a part as a value -/
def partV (k n : Int) (s : List UInt8) : Value := .agg #[.int .i64 k, .int .i64 n, .string ⟨s.toArray⟩]

theorem i64_mask (j : Nat) (hj : j ≤ 62) (n : Int) : bits .and .i64 n (2 ^ j - 1 : Nat) = (((n % ((2 ^ 64 : Nat) : Int)).toNat % 2 ^ j : Nat) : Int) := by
  have hp : 2 ^ j ≤ 2 ^ 62 := Nat.pow_le_pow_right (by omega) hj
  have hpos : 0 < 2 ^ j := Nat.two_pow_pos j
  have h1 : (BitVec.ofInt 64 ((2 ^ j - 1 : Nat) : Int)).toNat = 2 ^ j - 1 := by
    rw [BitVec.ofInt_natCast, BitVec.toNat_ofNat, Nat.mod_eq_of_lt (by omega)]
  have key : (BitVec.ofInt 64 n &&& BitVec.ofInt 64 ((2 ^ j - 1 : Nat) : Int)).toNat = (n % ((2 ^ 64 : Nat) : Int)).toNat % 2 ^ j := by
    rw [BitVec.toNat_and, BitVec.toNat_ofInt, h1, Nat.and_two_pow_sub_one_eq_mod]
  show IntKind.i64.wrap ((BitVec.ofInt 64 n &&& BitVec.ofInt 64 ((2 ^ j - 1 : Nat) : Int)).toNat : Nat) = _
  rw [key, IntKind.wrap_i64]
  have : (n % ((2 ^ 64 : Nat) : Int)).toNat % 2 ^ j < 2 ^ j := Nat.mod_lt _ hpos
  omega

/-- the two lowest bits of a kind -/
def kindOf (k : Int) : Nat := (k % 18446744073709551616).toNat % 4
theorem kind_and (k : Int) : bits .and .i64 k 3 = (kindOf k : Int) := i64_mask 2 (by omega) k
theorem kind_lt (k : Int) : kindOf k < 4 := Nat.mod_lt _ (by omega)
/-- the lowest bit of a number -/
def bitOf (n : Int) : Nat := (n % 18446744073709551616).toNat % 2
theorem bit_and (n : Int) : bits .and .i64 n 1 = (bitOf n : Int) := i64_mask 1 (by omega) n
theorem bit_lt (n : Int) : bitOf n < 2 := Nat.mod_lt _ (by omega)

/-- what is read of a part of this kind -/
def rdP (κ : Nat) (st : St) : Int × List UInt8 × St :=
  match κ with
  | 0 => ((rNum st 9223372036854775807).1, [], (rNum st 9223372036854775807).2)
  | 1 => (0, (rText st 1000).1, (rText st 1000).2)
  | 2 => (if (rFlag st).1 then 1 else 0, [], (rFlag st).2)
  | _ => ((rInt st).1, [], (rInt st).2)

theorem read_mem (br : Nat) (w : World) (st : St) (h : RAt br w st) (o1 o2 : Obj) (cs : Array Value) (w1 : World)
    (ho : On br (((w.alloc o1).alloc o2).alloc (.cells cs 30)) w1) :
    w1.heap[w.heap.size + 2]? = some (.cells cs 30 (0, 0)) ∧ w1.heap[w.heap.size + 1]? = some o2 ∧ w1.heap.size = w.heap.size + 3 ∧ Kp w.heap.size br w w1 := by
  have hlt := lt_of_block h
  have e2 : (((w.alloc o1).alloc o2).alloc (.cells cs 30)).heap[w.heap.size + 2]? = some (.cells cs 30 (0, 0)) := by
    have := heap_alloc_new ((w.alloc o1).alloc o2) (.cells cs 30)
    simpa using this
  have e1 : (((w.alloc o1).alloc o2).alloc (.cells cs 30)).heap[w.heap.size + 1]? = some o2 := by
    rw [Below.heap_alloc _ _ _ (by simp)]
    have := heap_alloc_new (w.alloc o1) o2
    simpa using this
  have e0 : Below w.heap.size w (((w.alloc o1).alloc o2).alloc (.cells cs 30)) := (((Below.refl _ _).alloc (Nat.le_refl _) _).alloc (by simp) _).alloc (by simp; omega) _
  refine ⟨(ho.block _ (by omega)).trans e2, (ho.block _ (by omega)).trans e1, by rw [ho.size]; simp, ?_⟩
  exact (Kp.of_below e0 (Nat.le_refl _)).trans ho.kp

theorem cells3 {w : World} {b : Nat} {x y z : Value} {t : TypeId} (h : w.heap[b]? = some (.cells #[x, y, z] t (0, 0))) :
    w.cell? ⟨b, 0, none⟩ = some x ∧ w.cell? ⟨b, 1, none⟩ = some y ∧ w.cell? ⟨b, 2, none⟩ = some z ∧ ∀ i, w.frozen? ⟨b, i, none⟩ = false := by
  refine ⟨by simp [World.cell?, h], by simp [World.cell?, h], by simp [World.cell?, h], fun i => by simp [World.frozen?, h]⟩

theorem RAt.far {br : Nat} {w : World} {st : St} (h : RAt br w st) {p : Addr} (hp : br ≠ p.block) (u : Value) : RAt br (w.setCell p u) st := (Below.heap_setCell w p u br hp).trans h
theorem Kp.far {bw : Nat} {a w : World} (h : Kp a.heap.size bw a w) {p : Addr} (hp : a.heap.size ≤ p.block) (u : Value) : Kp a.heap.size bw a (w.setCell p u) :=
  ⟨h.os, h.tape, h.output, by simpa [World.setCell] using h.size, fun k hk hn => (Below.heap_setCell _ _ _ _ (by omega)).trans (h.block k hk hn),
    fun k hk hn hb => (Below.heap_setCell _ _ _ _ (by omega)).trans (h.other k hk hn hb)⟩

set_option maxHeartbeats 1600000 in
set_option maxRecDepth 100000 in
theorem readp_0 (br : Nat) (k n : Int) (s : List UInt8) (st : St) (w : World) (h : RAt br w st) (hs : st.s.length ≤ 140737488355328) (hk : kindOf k = 0) :
    Calls Try.prog 19 #[.pointer (some ⟨br, 0, none⟩), partV k n s] w fun e w' => e = .returned (partV 0 (rdP 0 st).1 (rdP 0 st).2.1) ∧ RAt br w' (rdP 0 st).2.2 ∧ Kp w.heap.size br w w' := by
  have hka := kind_and k
  rw [hk] at hka
  have H := Lib.hid h
  have hlt := lt_of_block h
  clear h hk
  unfold rdP partV
  have C := fun W (hW : RAt br W st) => rnum_any br st 9223372036854775807 W hW hs
  simp only
  generalize rNum st 9223372036854775807 = r at *
  obtain ⟨x, st1⟩ := r
  simp only at C ⊢
  have C' := Lib.hid C
  clear C
  go_enter Try.func19, Try.ntmps19
  go_wp2_with fail
  refine (C'.out _ (((H.out.alloc _).alloc _).alloc _)).mono ?_
  rintro e w1 ⟨rfl, hr1, ho1⟩
  obtain ⟨m1, m2, hz, hkp⟩ := read_mem br w st H.out _ _ _ w1 ho1
  obtain ⟨q0, q1, q2, qf⟩ := cells3 m1
  obtain ⟨r0, r1, r2, rf⟩ := cells3 m2
  have qf0 := qf 0
  have qf1 := qf 1
  have qf2 := qf 2
  have rf0 := rf 0
  have rf1 := rf 1
  have rf2 := rf 2
  have HR := Lib.hid hr1
  have HZ := Lib.hid hz
  clear hr1 ho1 m1 m2 hz qf rf
  go_wp2
  refine bodyPost_ret (v := .agg #[.int .i64 0, .int .i64 (x : Int), .string ⟨#[]⟩]) (by simp [results, Try.results19, go_sem, r0, r1, r2]) rfl ⟨rfl, ?_, ?_⟩
  · repeat (first | exact HR.out | refine RAt.far ?_ (by simp only; omega) _)
  · repeat (first | exact hkp | refine Kp.far ?_ (by simp only; omega) _)

set_option maxHeartbeats 1600000 in
set_option maxRecDepth 100000 in
theorem readp_1 (br : Nat) (k n : Int) (s : List UInt8) (st : St) (w : World) (h : RAt br w st) (hs : st.s.length ≤ 140737488355328) (hk : kindOf k = 1) :
    Calls Try.prog 19 #[.pointer (some ⟨br, 0, none⟩), partV k n s] w fun e w' => e = .returned (partV 1 (rdP 1 st).1 (rdP 1 st).2.1) ∧ RAt br w' (rdP 1 st).2.2 ∧ Kp w.heap.size br w w' := by
  have hka := kind_and k
  rw [hk] at hka
  have H := Lib.hid h
  have hlt := lt_of_block h
  clear h hk
  unfold rdP partV
  have C := fun W (hW : RAt br W st) => rtext_any br st 1000 W hW hs
  simp only
  generalize rText st 1000 = r at *
  obtain ⟨x, st1⟩ := r
  simp only at C ⊢
  have C' := Lib.hid C
  clear C
  go_enter Try.func19, Try.ntmps19
  go_wp2_with fail
  refine (C'.out _ (((H.out.alloc _).alloc _).alloc _)).mono ?_
  rintro e w1 ⟨rfl, hr1, ho1⟩
  obtain ⟨m1, m2, hz, hkp⟩ := read_mem br w st H.out _ _ _ w1 ho1
  obtain ⟨q0, q1, q2, qf⟩ := cells3 m1
  obtain ⟨r0, r1, r2, rf⟩ := cells3 m2
  have qf0 := qf 0
  have qf1 := qf 1
  have qf2 := qf 2
  have rf0 := rf 0
  have rf1 := rf 1
  have rf2 := rf 2
  have HR := Lib.hid hr1
  have HZ := Lib.hid hz
  clear hr1 ho1 m1 m2 hz qf rf
  go_wp2
  refine bodyPost_ret (v := .agg #[.int .i64 1, .int .i64 0, .string ⟨x.toArray⟩]) (by simp [results, Try.results19, go_sem, r0, r1, r2]) rfl ⟨rfl, ?_, ?_⟩
  · repeat (first | exact HR.out | refine RAt.far ?_ (by simp only; omega) _)
  · repeat (first | exact hkp | refine Kp.far ?_ (by simp only; omega) _)

set_option maxHeartbeats 1600000 in
set_option maxRecDepth 100000 in
theorem readp_2 (br : Nat) (k n : Int) (s : List UInt8) (st : St) (w : World) (h : RAt br w st) (hs : st.s.length ≤ 140737488355328) (hk : kindOf k = 2) :
    Calls Try.prog 19 #[.pointer (some ⟨br, 0, none⟩), partV k n s] w fun e w' => e = .returned (partV 2 (rdP 2 st).1 (rdP 2 st).2.1) ∧ RAt br w' (rdP 2 st).2.2 ∧ Kp w.heap.size br w w' := by
  have hka := kind_and k
  rw [hk] at hka
  have H := Lib.hid h
  have hlt := lt_of_block h
  clear h hk
  unfold rdP partV
  have C := fun W (hW : RAt br W st) => rflag_any br st W hW hs
  simp only
  generalize rFlag st = r at *
  obtain ⟨x, st1⟩ := r
  simp only at C ⊢
  have C' := Lib.hid C
  clear C
  go_enter Try.func19, Try.ntmps19
  go_wp2_with fail
  refine (C'.out _ (((H.out.alloc _).alloc _).alloc _)).mono ?_
  rintro e w1 ⟨rfl, hr1, ho1⟩
  obtain ⟨m1, m2, hz, hkp⟩ := read_mem br w st H.out _ _ _ w1 ho1
  obtain ⟨q0, q1, q2, qf⟩ := cells3 m1
  obtain ⟨r0, r1, r2, rf⟩ := cells3 m2
  have qf0 := qf 0
  have qf1 := qf 1
  have qf2 := qf 2
  have rf0 := rf 0
  have rf1 := rf 1
  have rf2 := rf 2
  have HR := Lib.hid hr1
  have HZ := Lib.hid hz
  clear hr1 ho1 m1 m2 hz qf rf
  cases x
  · go_wp2
    refine bodyPost_ret (v := .agg #[.int .i64 2, .int .i64 0, .string ⟨#[]⟩]) (by simp [results, Try.results19, go_sem, r0, r1, r2]) rfl ⟨rfl, ?_, ?_⟩
    · repeat (first | exact HR.out | refine RAt.far ?_ (by simp only; omega) _)
    · repeat (first | exact hkp | refine Kp.far ?_ (by simp only; omega) _)
  · go_wp2
    refine bodyPost_ret (v := .agg #[.int .i64 2, .int .i64 1, .string ⟨#[]⟩]) (by simp [results, Try.results19, go_sem, r0, r1, r2]) rfl ⟨rfl, ?_, ?_⟩
    · repeat (first | exact HR.out | refine RAt.far ?_ (by simp only; omega) _)
    · repeat (first | exact hkp | refine Kp.far ?_ (by simp only; omega) _)

set_option maxHeartbeats 1600000 in
set_option maxRecDepth 100000 in
theorem readp_3 (br : Nat) (k n : Int) (s : List UInt8) (st : St) (w : World) (h : RAt br w st) (hs : st.s.length ≤ 140737488355328) (hk : kindOf k = 3) :
    Calls Try.prog 19 #[.pointer (some ⟨br, 0, none⟩), partV k n s] w fun e w' => e = .returned (partV 3 (rdP 3 st).1 (rdP 3 st).2.1) ∧ RAt br w' (rdP 3 st).2.2 ∧ Kp w.heap.size br w w' := by
  have hka := kind_and k
  rw [hk] at hka
  have H := Lib.hid h
  have hlt := lt_of_block h
  clear h hk
  unfold rdP partV
  have C := fun W (hW : RAt br W st) => rint_any br st W hW hs
  simp only
  generalize rInt st = r at *
  obtain ⟨x, st1⟩ := r
  simp only at C ⊢
  have C' := Lib.hid C
  clear C
  go_enter Try.func19, Try.ntmps19
  go_wp2_with fail
  refine (C'.out _ (((H.out.alloc _).alloc _).alloc _)).mono ?_
  rintro e w1 ⟨rfl, hr1, ho1⟩
  obtain ⟨m1, m2, hz, hkp⟩ := read_mem br w st H.out _ _ _ w1 ho1
  obtain ⟨q0, q1, q2, qf⟩ := cells3 m1
  obtain ⟨r0, r1, r2, rf⟩ := cells3 m2
  have qf0 := qf 0
  have qf1 := qf 1
  have qf2 := qf 2
  have rf0 := rf 0
  have rf1 := rf 1
  have rf2 := rf 2
  have HR := Lib.hid hr1
  have HZ := Lib.hid hz
  clear hr1 ho1 m1 m2 hz qf rf
  go_wp2
  refine bodyPost_ret (v := .agg #[.int .i64 3, .int .i64 x, .string ⟨#[]⟩]) (by simp [results, Try.results19, go_sem, r0, r1, r2]) rfl ⟨rfl, ?_, ?_⟩
  · repeat (first | exact HR.out | refine RAt.far ?_ (by simp only; omega) _)
  · repeat (first | exact hkp | refine Kp.far ?_ (by simp only; omega) _)

theorem readp_any (br : Nat) (k n : Int) (s : List UInt8) (st : St) (w : World) (h : RAt br w st) (hs : st.s.length ≤ 140737488355328) :
    Calls Try.prog 19 #[.pointer (some ⟨br, 0, none⟩), partV k n s] w fun e w' => e = .returned (partV (kindOf k) (rdP (kindOf k) st).1 (rdP (kindOf k) st).2.1) ∧ RAt br w' (rdP (kindOf k) st).2.2 ∧ Kp w.heap.size br w w' := by
  have hlt := kind_lt k
  rcases (show kindOf k = 0 ∨ kindOf k = 1 ∨ kindOf k = 2 ∨ kindOf k = 3 by omega) with h0 | h0 | h0 | h0
  · have := readp_0 br k n s st w h hs h0; rw [h0]; exact this
  · have := readp_1 br k n s st w h hs h0; rw [h0]; exact this
  · have := readp_2 br k n s st w h hs h0; rw [h0]; exact this
  · have := readp_3 br k n s st w h hs h0; rw [h0]; exact this

end Go.Proofs.Ytbpdeehpeflbeaa
