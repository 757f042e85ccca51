/-
  Numbers with signs: unsigned, signed, the Reader's Int.
-/
import Derived.Test.YtomlbfkkhhhfkaaDoorPkRmore
namespace Go.Proofs.YtomlbfkkhhhfkaaDoor.Pk
open Go.RowKit

/-- twice n, or, below nought, -2n - 1 -/
def zig (n : Int) : Nat := if n < 0 then (-2 * n - 1).toNat else (2 * n).toNat
def zag (u : Nat) : Int := if u % 2 = 1 then -((u / 2 : Nat) : Int) - 1 else ((u / 2 : Nat) : Int)
theorem zag_zig (n : Int) : zag (zig n) = n := by
  unfold zag zig
  split
  · rw [if_pos (by omega)]; omega
  · rw [if_neg (by omega)]; omega
theorem zig_zag (u : Nat) : zig (zag u) = u := by
  unfold zag zig
  split
  · rw [if_pos (by omega)]; omega
  · rw [if_neg (by omega)]; omega
theorem zig_lt (n : Int) (h1 : -9223372036854775808 ≤ n) (h2 : n ≤ 9223372036854775807) : zig n < 18446744073709551616 := by
  unfold zig; split <;> omega

theorem ret_int {k : IntKind} {a b : Int} (h : a = b) : Ending.returned (.int k a) = .returned (.int k b) := by rw [h]
theorem zig_neg (n : Int) (h : n < 0) (h1 : -9223372036854775808 ≤ n) : IntKind.u64.wrap (IntKind.u64.wrap (-IntKind.u64.wrap (2 * IntKind.u64.wrap n)) - 1) = ((zig n : Nat) : Int) := by
  unfold zig
  rw [if_pos h]
  simp only [IntKind.wrap_u64]
  omega

set_option maxHeartbeats 400000 in
theorem unsigned_any (n : Int) (h1 : -9223372036854775808 ≤ n) (h2 : n ≤ 9223372036854775807) (w : World) :
    Calls Tryd.prog 70 #[.int .i64 n] w fun e w' => e = .returned (.int .u64 (zig n : Nat)) ∧ w = w' := by
  by_cases h : n < 0
  · go_enter Tryd.func70, Tryd.ntmps70
    go_wp2
    go_ret
    exact ⟨ret_int (zig_neg n h h1), rfl⟩
  · go_enter Tryd.func70, Tryd.ntmps70
    go_wp2
    go_ret
    exact ⟨ret_int (by unfold zig; rw [if_neg (by omega)]; omega), rfl⟩

set_option maxHeartbeats 400000 in
theorem signed_any (u : Nat) (h1 : u < 18446744073709551616) (w : World) :
    Calls Tryd.prog 101 #[.int .u64 u] w fun e w' => e = .returned (.int .i64 (zag u)) ∧ w = w' := by
  by_cases h : u % 2 = 1
  · have hb : ((u : Int) % 2 == 1) = true := beq_iff_eq.2 (by omega)
    go_enter Tryd.func101, Tryd.ntmps101
    go_wp2
    go_ret
    exact ⟨ret_int (by unfold zag; rw [if_pos h]; omega), rfl⟩
  · have hb : ((u : Int) % 2 == 1) = false := beq_eq_false_iff_ne.2 (by omega)
    go_enter Tryd.func101, Tryd.ntmps101
    go_wp2
    go_ret
    exact ⟨ret_int (by unfold zag; rw [if_neg h]; omega), rfl⟩

/-- the number with a sign, of two numbers below 2^32 -/
def rInt (st : St) : Int × St :=
  if (rNum (rNum st 4294967295).2 4294967295).2.bad then (0, (rNum (rNum st 4294967295).2 4294967295).2) else
    (zag ((rNum st 4294967295).1 * 4294967296 + (rNum (rNum st 4294967295).2 4294967295).1), (rNum (rNum st 4294967295).2 4294967295).2)

theorem rNum_most (st : St) (most : Nat) : (rNum st most).1 ≤ most := by
  unfold rNum
  split
  · simp
  · split
    · simp
    · split
      · simp
      · simp only; omega

theorem join32 (u l : Nat) (hu : u ≤ 4294967295) (hl : l ≤ 4294967295) : bits .or .u64 ((u : Int) * 4294967296) (l : Int) = ((u * 4294967296 + l : Nat) : Int) := by
  have h := u64_or_nat (u * 4294967296) l (by omega) (by omega)
  rw [nat_join 32 _ l (by omega) (by omega)] at h
  rw [← h]
  congr 1

set_option maxHeartbeats 400000 in
theorem rint_any (br : Nat) (st : St) (w : World) (h : RAt br w st) (hs : st.s.length ≤ 140737488355328) :
    Calls Tryd.prog 87 #[.pointer (some ⟨br, 0, none⟩)] w fun e w' => e = .returned (.int .i64 (rInt st).1) ∧ RAt br w' (rInt st).2 ∧ On br w w' := by
  have C := Lib.hid (rnum_any br st 4294967295 w h hs)
  unfold rInt
  have hle := rNum_len st 4294967295
  have hm := rNum_most st 4294967295
  have he : rNum st ((4294967295 : Nat) : Int) = rNum st 4294967295 := rfl
  rw [he] at hm
  clear he
  generalize rNum st 4294967295 = r at *
  obtain ⟨u, st1⟩ := r
  simp only at hle hm C ⊢
  have D := Lib.hid (fun w1 (h : RAt br w1 st1) => rnum_any br st1 4294967295 w1 h (by omega))
  have hm2 := rNum_most st1 4294967295
  have he : rNum st1 ((4294967295 : Nat) : Int) = rNum st1 4294967295 := rfl
  rw [he] at hm2
  clear he
  generalize rNum st1 4294967295 = r at *
  obtain ⟨l, s2, b2⟩ := r
  simp only at hm2 D ⊢
  clear h
  have HJ := Lib.hid (join32 u l hm hm2)
  cases b2
  · simp only [Bool.false_eq_true, if_false]
    go_enter Tryd.func87, Tryd.ntmps87
    go_wp2_with fail
    refine C.out.mono ?_
    rintro e w1 ⟨rfl, hw, ho⟩
    go_wp2_with fail
    refine (D.out w1 hw).mono ?_
    rintro e w2 ⟨rfl, hw2, ho2⟩
    have H2 := Lib.hid hw2
    clear hw hw2
    go_wp2_with fail
    refine (ok_any br _ w2 H2.out).mono ?_
    rintro e w' ⟨rfl, rfl⟩
    simp only [Bool.not_false]
    go_wp2_with fail
    rw [HJ.out]
    refine (signed_any _ (by omega) w2).mono ?_
    rintro e w' ⟨rfl, rfl⟩
    go_wp2
    go_ret
    exact ⟨rfl, H2.out, ho.trans ho2⟩
  · simp only [if_true]
    go_enter Tryd.func87, Tryd.ntmps87
    go_wp2_with fail
    refine C.out.mono ?_
    rintro e w1 ⟨rfl, hw, ho⟩
    go_wp2_with fail
    refine (D.out w1 hw).mono ?_
    rintro e w2 ⟨rfl, hw2, ho2⟩
    have H2 := Lib.hid hw2
    clear hw hw2
    go_wp2_with fail
    refine (ok_any br _ w2 H2.out).mono ?_
    rintro e w' ⟨rfl, rfl⟩
    simp only [Bool.not_true]
    go_wp2
    go_ret
    exact ⟨rfl, H2.out, ho.trans ho2⟩

end Go.Proofs.YtomlbfkkhhhfkaaDoor.Pk
