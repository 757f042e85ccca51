/-
  The statements' own num: a number as bytes, by the page.
-/
import Derived.Test.YtbpdeehpeflbeaaBack
namespace Go.Proofs.Ytbpdeehpeflbeaa
open Go.RowKit

set_option maxHeartbeats 800000 in
set_option maxRecDepth 100000 in
theorem numl_nat (n : Nat) (hn : n < 9223372036854775808) (w : World) :
    Calls Try.prog 27 #[.int .i64 n] w fun e w' => e = .returned (.string ⟨(enc n).toArray⟩) ∧ Below w.heap.size w w' := by
  obtain ⟨i0, hi, hz0, hz1, hz2⟩ := info_parts byte_info
  have hl9 := enc_len9 n hn
  go_enter Try.func27, Try.ntmps27
  go_wp2
  go_loopw [0, 3] (fun s v wr => ∃ (m : Nat) (bs' : List UInt8), s = .int .i64 m ∧ m ≤ n ∧ Row w.heap.size wr v bs' ∧ bs' ++ enc m = enc n ∧ Below w.heap.size w wr) (fun s _ _ => (intOf s).toNat)
  case atStart => exact ⟨n, [], rfl, Nat.le_refl _, World.ownsRow_made w #[] 0 (Nat.le_refl _) (by simp [maxLen]) rfl, by simp, (Below.refl _ _).alloc (Nat.le_refl _) _⟩
  case round =>
    obtain ⟨m, bs', rfl, hm, hrow, heq, hk⟩ := hrel
    have HL : Hid (bs'.length + (enc m).length ≤ 9) := by
      have := congrArg List.length heq
      simp only [List.length_append] at this
      show _ ≤ _
      omega
    have HE := Lib.hid heq
    have HB := Lib.hid hk.size
    clear heq
    by_cases hgt : 127 < m
    · obtain ⟨c, HC, HM⟩ : ∃ c : UInt8, Hid (c = UInt8.ofNat (m % 128 + 128)) ∧ Hid ((m : Int) % 128 + 128 = (c.toNat : Int)) := ⟨_, rfl, by show _ = _; rw [ofNat_byte _ (by omega)]; omega⟩
      go_wp2_with (at_builtin; refine wpList_append_own _ rfl (.tmp 11) (.tmp 16) 26 rfl w.heap.size 5 i0 (.int .u8 0) 1 1 Try.underlying26 hi hz0 hz1 hz2 rfl (by decide) _ bs'.length (bs'.map B8) rfl (hrow.alloc _) ⟨wr.heap.size, 0, none⟩ 1 1 [B8 c] rfl rfl ?c1 ?c2 ?c3 ?c4 ?c5 ?_)
      case c1 =>
        intro j u hj
        match j, hj with
        | 0, hj => simp at hj; subst hj; simp [Addr.add, B8, HM.out]
      case c2 => intro u hu; simp at hu; subst hu; rfl
      case c3 => have := HL.out; unfold maxLen; omega
      case c4 => have := HL.out; omega
      case c5 => have := HB.out; simp; omega
      intro v' w1 hown' hgrow _
      have R : Row w.heap.size w1 v' (bs' ++ [c]) ∧ Below w.heap.size w w1 :=
        ⟨by unfold Row; simpa using hown', (hk.alloc HB.out _).grown hgrow (by have := HB.out; simp; omega) (fun k hk => ((World.ownsRow.lt hrow) k hk).1)⟩
      clear hown' hgrow hrow
      go_wp2
      go_roundw
      case rel => exact ⟨m / 128, bs' ++ [c], by go_num, by omega, R.1, by rw [List.append_assoc, List.singleton_append, HC.out, ← enc_big hgt]; exact HE.out, R.2⟩
      case measure => simp [intOf]; omega
    · obtain ⟨c, HC, HM⟩ : ∃ c : UInt8, Hid (c = UInt8.ofNat m) ∧ Hid ((m : Int) = (c.toNat : Int)) := ⟨_, rfl, by show _ = _; rw [ofNat_byte _ (by omega)]⟩
      go_wp2_with (at_builtin; refine wpList_append_own _ rfl (.tmp 18) (.tmp 21) 26 rfl w.heap.size 5 i0 (.int .u8 0) 1 1 Try.underlying26 hi hz0 hz1 hz2 rfl (by decide) _ bs'.length (bs'.map B8) rfl (hrow.alloc _) ⟨wr.heap.size, 0, none⟩ 1 1 [B8 c] rfl rfl ?d1 ?d2 ?d3 ?d4 ?d5 ?_)
      case d1 =>
        intro j u hj
        match j, hj with
        | 0, hj => simp at hj; subst hj; simp [Addr.add, B8, HM.out]
      case d2 => intro u hu; simp at hu; subst hu; rfl
      case d3 => have := HL.out; unfold maxLen; omega
      case d4 => have := HL.out; omega
      case d5 => have := HB.out; simp; omega
      intro v' w1 hown' hgrow _
      have R : Row w.heap.size w1 v' (bs' ++ [c]) ∧ Below w.heap.size w w1 :=
        ⟨by unfold Row; simpa using hown', (hk.alloc HB.out _).grown hgrow (by have := HB.out; simp; omega) (fun k hk => ((World.ownsRow.lt hrow) k hk).1)⟩
      have hr := run_string w1 w.heap.size v' (bs' ++ [c]) R.1
      clear hown' hgrow hrow
      go_wp2
      go_ret
      refine ⟨?_, R.2⟩
      rw [← HE.out, enc_small hgt, ← HC.out]
      simp

set_option maxHeartbeats 800000 in
set_option maxRecDepth 100000 in
theorem numl_neg (a : Int) (ha : a < 0) (w : World) :
    Calls Try.prog 27 #[.int .i64 a] w fun e w' => e = .returned (.string ⟨#[0]⟩) ∧ Below w.heap.size w w' := by
  obtain ⟨i0, hi, hz0, hz1, hz2⟩ := info_parts byte_info
  go_enter Try.func27, Try.ntmps27
  go_wp2
  go_loopw [0, 3] (fun s v wr => s = .int .i64 0 ∧ Row w.heap.size wr v [] ∧ Below w.heap.size w wr) (fun s _ _ => (intOf s).toNat)
  case atStart => exact ⟨rfl, World.ownsRow_made w #[] 0 (Nat.le_refl _) (by simp [maxLen]) rfl, (Below.refl _ _).alloc (Nat.le_refl _) _⟩
  case round =>
    obtain ⟨rfl, hrow, hk⟩ := hrel
    have HB := Lib.hid hk.size
    go_wp2_with (at_builtin; refine wpList_append_own _ rfl (.tmp 18) (.tmp 21) 26 rfl w.heap.size 5 i0 (.int .u8 0) 1 1 Try.underlying26 hi hz0 hz1 hz2 rfl (by decide) _ 0 [] rfl (hrow.alloc _) ⟨wr.heap.size, 0, none⟩ 1 1 [B8 0] rfl rfl ?d1 ?d2 ?d3 ?d4 ?d5 ?_)
    case d1 =>
      intro j u hj
      match j, hj with
      | 0, hj => simp at hj; subst hj; simp [Addr.add, B8]
    case d2 => intro u hu; simp at hu; subst hu; rfl
    case d3 => unfold maxLen; omega
    case d4 => omega
    case d5 => have := HB.out; simp; omega
    intro v' w1 hown' hgrow _
    have R : Row w.heap.size w1 v' [0] ∧ Below w.heap.size w w1 :=
      ⟨by unfold Row; simpa using hown', (hk.alloc HB.out _).grown hgrow (by have := HB.out; simp; omega) (fun k hk => ((World.ownsRow.lt hrow) k hk).1)⟩
    have hr := run_string w1 w.heap.size v' [0] R.1
    clear hown' hgrow hrow
    go_wp2
    go_ret
    exact ⟨rfl, R.2⟩

theorem numl_any (a : Int) (hmax : a ≤ 9223372036854775807) (w : World) :
    Calls Try.prog 27 #[.int .i64 a] w fun e w' => e = .returned (.string ⟨(encI a).toArray⟩) ∧ Below w.heap.size w w' := by
  rcases Int.lt_or_le a 0 with h | h
  · have he : encI a = [0] := by unfold encI; rw [show a.toNat = 0 from by omega]; rfl
    rw [he]
    exact numl_neg a h w
  · obtain ⟨n, rfl⟩ := Int.eq_ofNat_of_zero_le h
    exact numl_nat n (by omega) w

end Go.Proofs.Ytbpdeehpeflbeaa
