/-
  The walk of PackMosts.
-/
import Derived.Test.YtbpdeehpeflbeaaNum
import Derived.Test.YtbpdeehpeflbeaaFlagsWalk
namespace Go.Proofs.Ytbpdeehpeflbeaa
open Go.RowKit

theorem i64_and16 (n : Int) : ∃ m : Nat, m < 65536 ∧ bits .and .i64 n 65535 = (m : Int) := by
  have h1 : (BitVec.ofInt 64 65535).toNat = 2 ^ 16 - 1 := by decide
  have key : (BitVec.ofInt 64 n &&& BitVec.ofInt 64 65535).toNat = (n % ((2 ^ 64 : Nat) : Int)).toNat % 2 ^ 16 := by
    rw [BitVec.toNat_and, BitVec.toNat_ofInt, h1, Nat.and_two_pow_sub_one_eq_mod]
  refine ⟨(n % ((2 ^ 64 : Nat) : Int)).toNat % 2 ^ 16, by omega, ?_⟩
  show IntKind.i64.wrap ((BitVec.ofInt 64 n &&& BitVec.ofInt 64 65535).toNat : Nat) = _
  rw [key, IntKind.wrap_i64]
  omega

theorem rNum_over (n : Nat) (h : n < 9223372036854775808) (most : Int) (hm : max most 0 < (n : Int)) (r : List UInt8) : rNum ⟨enc n ++ r, false⟩ most = (0, ⟨[], true⟩) := by
  unfold rNum
  simp only [Bool.false_eq_true, if_false, dec_enc n h r]
  rw [if_pos hm]

theorem mosts_mem {w w1 w2 w4 w6 W : World} {s : List UInt8} (hb1 : Below w.heap.size w w1) (hb2 : Below w1.heap.size w1 w2)
    (hb4 : Below (w2.alloc (.cells #[.string ⟨s.toArray⟩, .bool false] 61)).heap.size (w2.alloc (.cells #[.string ⟨s.toArray⟩, .bool false] 61)) w4)
    (hb6 : Below (w4.alloc (.cells #[.string ⟨s.toArray⟩, .bool false] 61)).heap.size (w4.alloc (.cells #[.string ⟨s.toArray⟩, .bool false] 61)) w6)
    (hW : W = w6.alloc (.cells #[.string ⟨s.toArray⟩, .bool false] 61)) :
    Below w.heap.size w W ∧ RAt w2.heap.size W ⟨s, false⟩ ∧ RAt w4.heap.size W ⟨s, false⟩ ∧ RAt w6.heap.size W ⟨s, false⟩ ∧ w.heap.size ≤ w2.heap.size ∧ w2.heap.size < w4.heap.size ∧ w4.heap.size < w6.heap.size := by
  subst hW
  have e1 := hb1.size
  have e2 := hb2.size
  have e4 := hb4.size
  have e6 := hb6.size
  simp only [World.size_alloc] at e4 e6
  have k2 : Below w.heap.size w w2 := hb1.trans (hb2.mono e1)
  have k3 := k2.alloc (by omega) (.cells #[.string ⟨s.toArray⟩, .bool false] 61)
  have k4 : Below w.heap.size w w4 := k3.trans (hb4.mono (by simp; omega))
  have k5 := k4.alloc (by omega) (.cells #[.string ⟨s.toArray⟩, .bool false] 61)
  have k6 : Below w.heap.size w w6 := k5.trans (hb6.mono (by simp; omega))
  have k7 := k6.alloc (by omega) (.cells #[.string ⟨s.toArray⟩, .bool false] 61)
  have ra4 : RAt w2.heap.size w4 ⟨s, false⟩ := (hb4.block _ (by simp)).trans (RAt.new w2 s)
  have ra6 : RAt w2.heap.size w6 ⟨s, false⟩ := (hb6.block _ (by simp; omega)).trans (ra4.alloc _)
  have rb6 : RAt w4.heap.size w6 ⟨s, false⟩ := (hb6.block _ (by simp)).trans (RAt.new w4 s)
  exact ⟨k7, ra6.alloc _, rb6.alloc _, RAt.new w6 s, by omega, by omega, by omega⟩

set_option maxHeartbeats 3200000 in
set_option maxRecDepth 100000 in
theorem mosts_over (n most : Int) (m : Nat) (hm : m < 65536) (hand : bits .and .i64 n 65535 = (m : Int)) (r : List UInt8) (hr : r.length ≤ 200) (ho : max most 0 < (m : Int)) (w : World) :
    Calls Try.prog 6 #[.int .i64 n, .int .i64 most, .string ⟨r.toArray⟩] w fun e w' => e = .returned (.bool true) ∧ Below w.heap.size w w' := by
    have hl9 := enc_len9 m (by omega)
    have HAP := Lib.hid (bytes_append (enc m) r)
    have HN := Lib.hid (rNum_over m (by omega) most ho r)
    have HM : Hid (rMany ⟨enc m ++ r, false⟩ most = (0, ⟨[], true⟩)) := by show _ = _; unfold rMany; rw [HN.out]; simp
    have HT : Hid (rText ⟨enc m ++ r, false⟩ most = ([], ⟨[], true⟩)) := by show _ = _; unfold rText; rw [HM.out]; simp
    obtain ⟨M, hM, hmx⟩ : ∃ M : Int, decide ((m : Int) ≤ M) = false ∧ (if most < 0 then (0 : Int) else most) = M := ⟨_, decide_eq_false (by rw [max_form]; omega), rfl⟩
    clear ho
    go_enter Try.func6, Try.ntmps6
    go_wp2_with fail
    refine (head_any w).mono ?_
    rintro e w1 ⟨rfl, hb1⟩
    go_wp2_with fail
    refine (numl_nat m (by omega) w1).mono ?_
    rintro e w2 ⟨rfl, hb2⟩
    go_wp2_with fail
    rw [HAP.out]
    refine (read_any (enc m ++ r) w2).mono ?_
    rintro e w3 ⟨rfl, rfl⟩
    go_wp2_with fail
    refine (numl_nat m (by omega) _).mono ?_
    rintro e w4 ⟨rfl, hb4⟩
    go_wp2_with fail
    rw [HAP.out]
    refine (read_any (enc m ++ r) w4).mono ?_
    rintro e w5 ⟨rfl, rfl⟩
    go_wp2_with fail
    refine (numl_nat m (by omega) _).mono ?_
    rintro e w6 ⟨rfl, hb6⟩
    go_wp2_with fail
    rw [HAP.out]
    refine (read_any (enc m ++ r) w6).mono ?_
    rintro e w7 ⟨rfl, rfl⟩
    obtain ⟨W, HW⟩ : ∃ W, Hid (W = w6.alloc (.cells #[.string ⟨(enc m ++ r).toArray⟩, .bool false] 61)) := ⟨_, Lib.hid rfl⟩
    rw [← HW.out]
    obtain ⟨hba, hra, hrb, hrc, hs1, hs2, hs3⟩ := mosts_mem hb1 hb2 hb4 hb6 HW.out
    have HRa := Lib.hid hra
    have HRb := Lib.hid hrb
    have HRc := Lib.hid hrc
    clear hra hrb hrc hb1 hb2 hb4 hb6 HW
    go_wp2_with fail
    refine ((rnum_any w2.heap.size _ most W HRa.out (by simp only [List.length_append]; omega))).mono ?_
    rintro e w8 ⟨rfl, hra8, ho8⟩
    rw [HN.out] at hra8 ⊢
    have HRa8 := Lib.hid hra8
    have HRb8 := Lib.hid (HRb.out.on ho8 (by omega))
    have HRc8 := Lib.hid (HRc.out.on ho8 (by omega))
    clear hra8
    go_wp2_with fail
    refine ((rtext_any w4.heap.size _ most w8 HRb8.out (by simp only [List.length_append]; omega))).mono ?_
    rintro e w9 ⟨rfl, hrb9, ho9⟩
    rw [HT.out] at hrb9 ⊢
    have HRb9 := Lib.hid hrb9
    have HRa9 := Lib.hid (HRa8.out.on ho9 (by omega))
    have HRc9 := Lib.hid (HRc8.out.on ho9 (by omega))
    clear hrb9
    go_wp2_with fail
    refine ((rmany_any w6.heap.size _ most w9 HRc9.out (by simp only [List.length_append]; omega))).mono ?_
    rintro e w10 ⟨rfl, hrc10, ho10⟩
    rw [HM.out] at hrc10 ⊢
    have HRc10 := Lib.hid hrc10
    have HRa10 := Lib.hid (HRa9.out.on ho10 (by omega))
    have HRb10 := Lib.hid (HRb9.out.on ho10 (by omega))
    have HB10 := Lib.hid (((hba.trans (ho8.below hs1)).trans (ho9.below (by omega))).trans (ho10.below (by omega)))
    clear hrc10 ho8 ho9 ho10 hba
    go_wp2_with fail
    refine (ok_any _ _ w10 HRa10.out).mono ?_
    rintro e w' ⟨rfl, rfl⟩
    simp only [Bool.not_true]
    go_wp2_with fail
    refine (ok_any _ _ w10 HRb10.out).mono ?_
    rintro e w' ⟨rfl, rfl⟩
    simp only [Bool.not_true]
    go_wp2_with fail
    refine (ok_any _ _ w10 HRc10.out).mono ?_
    rintro e w' ⟨rfl, rfl⟩
    simp only [Bool.not_true]
    go_wp2_with fail
    refine (rnum_nil _ _).mono ?_
    rintro e w' ⟨rfl, rfl⟩
    go_wp2_with fail
    refine (rtext_nil _ _).mono ?_
    rintro e w' ⟨rfl, rfl⟩
    go_wp2_with fail
    refine (rflag_nil _).mono ?_
    rintro e w' ⟨rfl, rfl⟩
    go_wp2_with fail
    refine (rmany_nil _ _).mono ?_
    rintro e w' ⟨rfl, rfl⟩
    go_wp2_with fail
    refine (ok_nil _).mono ?_
    rintro e w' ⟨rfl, rfl⟩
    go_wp2_with fail
    refine (done_nil _).mono ?_
    rintro e w' ⟨rfl, rfl⟩
    go_wp2
    go_ret
    exact ⟨rfl, HB10.out⟩


set_option maxHeartbeats 3200000 in
set_option maxRecDepth 100000 in
theorem mosts_few (n most : Int) (m : Nat) (hm : m < 65536) (hand : bits .and .i64 n 65535 = (m : Int)) (r : List UInt8) (hr : r.length ≤ 200) (ho : (m : Int) ≤ max most 0) (hf : r.length < m) (w : World) :
    Calls Try.prog 6 #[.int .i64 n, .int .i64 most, .string ⟨r.toArray⟩] w fun e w' => e = .returned (.bool true) ∧ Below w.heap.size w w' := by
    have hl9 := enc_len9 m (by omega)
    have HAP := Lib.hid (bytes_append (enc m) r)
    have HN := Lib.hid (rNum_enc m (by omega) most ho r)
    have HM : Hid (rMany ⟨enc m ++ r, false⟩ most = (0, ⟨[], true⟩)) := by show _ = _; unfold rMany; rw [HN.out]; simp [hf]
    have HT : Hid (rText ⟨enc m ++ r, false⟩ most = ([], ⟨[], true⟩)) := by show _ = _; unfold rText; rw [HM.out]; simp
    obtain ⟨M, hM, hmx⟩ : ∃ M : Int, decide ((m : Int) ≤ M) = true ∧ (if most < 0 then (0 : Int) else most) = M := ⟨_, decide_eq_true (by rw [max_form]; omega), rfl⟩
    have hf' : decide (m ≤ r.length) = false := decide_eq_false (by omega)
    clear ho hf
    go_enter Try.func6, Try.ntmps6
    go_wp2_with fail
    refine (head_any w).mono ?_
    rintro e w1 ⟨rfl, hb1⟩
    go_wp2_with fail
    refine (numl_nat m (by omega) w1).mono ?_
    rintro e w2 ⟨rfl, hb2⟩
    go_wp2_with fail
    rw [HAP.out]
    refine (read_any (enc m ++ r) w2).mono ?_
    rintro e w3 ⟨rfl, rfl⟩
    go_wp2_with fail
    refine (numl_nat m (by omega) _).mono ?_
    rintro e w4 ⟨rfl, hb4⟩
    go_wp2_with fail
    rw [HAP.out]
    refine (read_any (enc m ++ r) w4).mono ?_
    rintro e w5 ⟨rfl, rfl⟩
    go_wp2_with fail
    refine (numl_nat m (by omega) _).mono ?_
    rintro e w6 ⟨rfl, hb6⟩
    go_wp2_with fail
    rw [HAP.out]
    refine (read_any (enc m ++ r) w6).mono ?_
    rintro e w7 ⟨rfl, rfl⟩
    obtain ⟨W, HW⟩ : ∃ W, Hid (W = w6.alloc (.cells #[.string ⟨(enc m ++ r).toArray⟩, .bool false] 61)) := ⟨_, Lib.hid rfl⟩
    rw [← HW.out]
    obtain ⟨hba, hra, hrb, hrc, hs1, hs2, hs3⟩ := mosts_mem hb1 hb2 hb4 hb6 HW.out
    have HRa := Lib.hid hra
    have HRb := Lib.hid hrb
    have HRc := Lib.hid hrc
    clear hra hrb hrc hb1 hb2 hb4 hb6 HW
    go_wp2_with fail
    refine ((rnum_any w2.heap.size _ most W HRa.out (by simp only [List.length_append]; omega))).mono ?_
    rintro e w8 ⟨rfl, hra8, ho8⟩
    rw [HN.out] at hra8 ⊢
    have HRa8 := Lib.hid hra8
    have HRb8 := Lib.hid (HRb.out.on ho8 (by omega))
    have HRc8 := Lib.hid (HRc.out.on ho8 (by omega))
    clear hra8
    go_wp2_with fail
    refine ((rtext_any w4.heap.size _ most w8 HRb8.out (by simp only [List.length_append]; omega))).mono ?_
    rintro e w9 ⟨rfl, hrb9, ho9⟩
    rw [HT.out] at hrb9 ⊢
    have HRb9 := Lib.hid hrb9
    have HRa9 := Lib.hid (HRa8.out.on ho9 (by omega))
    have HRc9 := Lib.hid (HRc8.out.on ho9 (by omega))
    clear hrb9
    go_wp2_with fail
    refine ((rmany_any w6.heap.size _ most w9 HRc9.out (by simp only [List.length_append]; omega))).mono ?_
    rintro e w10 ⟨rfl, hrc10, ho10⟩
    rw [HM.out] at hrc10 ⊢
    have HRc10 := Lib.hid hrc10
    have HRa10 := Lib.hid (HRa9.out.on ho10 (by omega))
    have HRb10 := Lib.hid (HRb9.out.on ho10 (by omega))
    have HB10 := Lib.hid (((hba.trans (ho8.below hs1)).trans (ho9.below (by omega))).trans (ho10.below (by omega)))
    clear hrc10 ho8 ho9 ho10 hba
    go_wp2_with fail
    refine (ok_any _ _ w10 HRa10.out).mono ?_
    rintro e w' ⟨rfl, rfl⟩
    simp only [Bool.not_false]
    go_wp2_with fail
    refine (ok_any _ _ w10 HRb10.out).mono ?_
    rintro e w' ⟨rfl, rfl⟩
    simp only [Bool.not_true]
    go_wp2_with fail
    refine (ok_any _ _ w10 HRc10.out).mono ?_
    rintro e w' ⟨rfl, rfl⟩
    simp only [Bool.not_true]
    go_wp2_with fail
    refine (rnum_nil _ _).mono ?_
    rintro e w' ⟨rfl, rfl⟩
    go_wp2_with fail
    refine (rtext_nil _ _).mono ?_
    rintro e w' ⟨rfl, rfl⟩
    go_wp2_with fail
    refine (rflag_nil _).mono ?_
    rintro e w' ⟨rfl, rfl⟩
    go_wp2_with fail
    refine (rmany_nil _ _).mono ?_
    rintro e w' ⟨rfl, rfl⟩
    go_wp2_with fail
    refine (ok_nil _).mono ?_
    rintro e w' ⟨rfl, rfl⟩
    go_wp2_with fail
    refine (done_nil _).mono ?_
    rintro e w' ⟨rfl, rfl⟩
    go_wp2
    go_ret
    exact ⟨rfl, HB10.out⟩


set_option maxHeartbeats 3200000 in
set_option maxRecDepth 100000 in
theorem mosts_fit (n most : Int) (m : Nat) (hm : m < 65536) (hand : bits .and .i64 n 65535 = (m : Int)) (r : List UInt8) (hr : r.length ≤ 200) (ho : (m : Int) ≤ max most 0) (hf : m ≤ r.length) (w : World) :
    Calls Try.prog 6 #[.int .i64 n, .int .i64 most, .string ⟨r.toArray⟩] w fun e w' => e = .returned (.bool true) ∧ Below w.heap.size w w' := by
    have hl9 := enc_len9 m (by omega)
    have HAP := Lib.hid (bytes_append (enc m) r)
    have HN := Lib.hid (rNum_enc m (by omega) most ho r)
    have HM : Hid (rMany ⟨enc m ++ r, false⟩ most = (m, ⟨r, false⟩)) := by show _ = _; unfold rMany; rw [HN.out, if_neg (by simp; omega)]
    have HT : Hid (rText ⟨enc m ++ r, false⟩ most = (r.take m, ⟨r.drop m, false⟩)) := by show _ = _; unfold rText; rw [HM.out]; simp
    obtain ⟨M, hM, hmx⟩ : ∃ M : Int, decide ((m : Int) ≤ M) = true ∧ (if most < 0 then (0 : Int) else most) = M := ⟨_, decide_eq_true (by rw [max_form]; omega), rfl⟩
    have hex : (⟨r.toArray⟩ : ByteArray).extract 0 m = ⟨(r.take m).toArray⟩ := by rw [cut_bytes]; rfl
    clear ho
    go_enter Try.func6, Try.ntmps6
    go_wp2_with fail
    refine (head_any w).mono ?_
    rintro e w1 ⟨rfl, hb1⟩
    go_wp2_with fail
    refine (numl_nat m (by omega) w1).mono ?_
    rintro e w2 ⟨rfl, hb2⟩
    go_wp2_with fail
    rw [HAP.out]
    refine (read_any (enc m ++ r) w2).mono ?_
    rintro e w3 ⟨rfl, rfl⟩
    go_wp2_with fail
    refine (numl_nat m (by omega) _).mono ?_
    rintro e w4 ⟨rfl, hb4⟩
    go_wp2_with fail
    rw [HAP.out]
    refine (read_any (enc m ++ r) w4).mono ?_
    rintro e w5 ⟨rfl, rfl⟩
    go_wp2_with fail
    refine (numl_nat m (by omega) _).mono ?_
    rintro e w6 ⟨rfl, hb6⟩
    go_wp2_with fail
    rw [HAP.out]
    refine (read_any (enc m ++ r) w6).mono ?_
    rintro e w7 ⟨rfl, rfl⟩
    obtain ⟨W, HW⟩ : ∃ W, Hid (W = w6.alloc (.cells #[.string ⟨(enc m ++ r).toArray⟩, .bool false] 61)) := ⟨_, Lib.hid rfl⟩
    rw [← HW.out]
    obtain ⟨hba, hra, hrb, hrc, hs1, hs2, hs3⟩ := mosts_mem hb1 hb2 hb4 hb6 HW.out
    have HRa := Lib.hid hra
    have HRb := Lib.hid hrb
    have HRc := Lib.hid hrc
    clear hra hrb hrc hb1 hb2 hb4 hb6 HW
    go_wp2_with fail
    refine ((rnum_any w2.heap.size _ most W HRa.out (by simp only [List.length_append]; omega))).mono ?_
    rintro e w8 ⟨rfl, hra8, ho8⟩
    rw [HN.out] at hra8 ⊢
    have HRa8 := Lib.hid hra8
    have HRb8 := Lib.hid (HRb.out.on ho8 (by omega))
    have HRc8 := Lib.hid (HRc.out.on ho8 (by omega))
    clear hra8
    go_wp2_with fail
    refine ((rtext_any w4.heap.size _ most w8 HRb8.out (by simp only [List.length_append]; omega))).mono ?_
    rintro e w9 ⟨rfl, hrb9, ho9⟩
    rw [HT.out] at hrb9 ⊢
    have HRb9 := Lib.hid hrb9
    have HRa9 := Lib.hid (HRa8.out.on ho9 (by omega))
    have HRc9 := Lib.hid (HRc8.out.on ho9 (by omega))
    clear hrb9
    go_wp2_with fail
    refine ((rmany_any w6.heap.size _ most w9 HRc9.out (by simp only [List.length_append]; omega))).mono ?_
    rintro e w10 ⟨rfl, hrc10, ho10⟩
    rw [HM.out] at hrc10 ⊢
    have HRc10 := Lib.hid hrc10
    have HRa10 := Lib.hid (HRa9.out.on ho10 (by omega))
    have HRb10 := Lib.hid (HRb9.out.on ho10 (by omega))
    have HB10 := Lib.hid (((hba.trans (ho8.below hs1)).trans (ho9.below (by omega))).trans (ho10.below (by omega)))
    clear hrc10 ho8 ho9 ho10 hba
    go_wp2_with fail
    refine (ok_any _ _ w10 HRa10.out).mono ?_
    rintro e w' ⟨rfl, rfl⟩
    simp only [Bool.not_false]
    go_wp2_with fail
    refine (ok_any _ _ w10 HRb10.out).mono ?_
    rintro e w' ⟨rfl, rfl⟩
    simp only [Bool.not_false]
    go_wp2_with fail
    refine (ok_any _ _ w10 HRc10.out).mono ?_
    rintro e w' ⟨rfl, rfl⟩
    simp only [Bool.not_false]
    go_wp2_with fail
    refine (rnum_nil _ _).mono ?_
    rintro e w' ⟨rfl, rfl⟩
    go_wp2_with fail
    refine (rtext_nil _ _).mono ?_
    rintro e w' ⟨rfl, rfl⟩
    go_wp2_with fail
    refine (rflag_nil _).mono ?_
    rintro e w' ⟨rfl, rfl⟩
    go_wp2_with fail
    refine (rmany_nil _ _).mono ?_
    rintro e w' ⟨rfl, rfl⟩
    go_wp2_with fail
    refine (ok_nil _).mono ?_
    rintro e w' ⟨rfl, rfl⟩
    go_wp2_with fail
    refine (done_nil _).mono ?_
    rintro e w' ⟨rfl, rfl⟩
    go_wp2
    go_ret
    exact ⟨rfl, HB10.out⟩


end Go.Proofs.Ytbpdeehpeflbeaa
