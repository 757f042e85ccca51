/-
  pack's first: the number at the beginning of a text.
-/
import Derived.Test.YtomlbfkkhhhfkaaDoorProg
import Derived.Test.YtomlbfkkhhhfkaaDoorPkDec
import Derived.WalkKit
import Derived.Lib.Hide
namespace Go.Proofs.YtomlbfkkhhhfkaaDoor.Pk
open Go.RowKit

def decN (d : Option (Nat × Nat)) : Nat := match d with | none => 0 | some (n, _) => n
def decK (d : Option (Nat × Nat)) : Nat := match d with | none => 0 | some (_, k) => k

theorem wraps63 (n : Int) (h₀ : 0 ≤ n) (h₁ : n < 2 ^ 63) : IntKind.i64.wrap n = n := by rw [IntKind.wrap_i64]; omega
theorem wrap64_nat (n : Nat) (h : n < 9223372036854775808) : wrap64 (n : Int) = (n : Int) := by
  have := wraps63 (n : Int) (by omega) (by omega)
  rwa [IntWalk.i64_left] at this
theorem pow128 (i : Nat) : (128 : Nat) ^ i = 2 ^ (7 * i) := by rw [Nat.pow_mul]
theorem and127_nat (c : Nat) (hc : c < 256) : bits .and .u8 (c : Int) 127 = ((c % 128 : Nat) : Int) := by
  have h := u8_and_nat c 127 hc (by omega)
  rw [nat_mask7] at h
  exact h
theorem and128_yes (c : Nat) (hc : c < 256) (h : 128 ≤ c) : (bits .and .u8 (c : Int) 128 != 0) = true := by
  have h1 := u8_and_nat c 128 hc (by omega)
  have h2 := nat_bit 7 c
  rw [show (2 : Nat) ^ 7 = 128 from rfl] at h2
  rw [h2] at h1
  have h3 : bits .and .u8 (c : Int) 128 = ((c / 128 % 2 * 128 : Nat) : Int) := h1
  rw [h3, bne_iff_ne]
  omega
theorem and128_no (c : Nat) (h : c < 128) : (bits .and .u8 (c : Int) 128 != 0) = false := by
  have h1 := u8_and_nat c 128 (by omega) (by omega)
  have h2 := nat_bit 7 c
  rw [show (2 : Nat) ^ 7 = 128 from rfl] at h2
  rw [h2] at h1
  have h3 : bits .and .u8 (c : Int) 128 = ((c / 128 % 2 * 128 : Nat) : Int) := h1
  rw [h3, show c / 128 % 2 * 128 = 0 from by omega]
  rfl
theorem or_step (c i n : Nat) (hc : c < 256) (hi : i ≤ 8) (hn : n < 128 ^ i) :
    bits .or .i64 (n : Int) (wrap64 (wrap64 (bits .and .u8 (c : Int) 127) * 2 ^ (7 * i))) = ((n + 128 ^ i * (c % 128) : Nat) : Int) := by
  rw [and127_nat c hc, wrap64_nat _ (by omega)]
  have hp : (2 : Nat) ^ (7 * i) ≤ 2 ^ 56 := Nat.pow_le_pow_right (by omega) (by omega)
  have hx : c % 128 * 2 ^ (7 * i) ≤ 127 * 2 ^ 56 := Nat.mul_le_mul (by omega) hp
  have hcast : ((c % 128 : Nat) : Int) * 2 ^ (7 * i) = ((c % 128 * 2 ^ (7 * i) : Nat) : Int) := by simp
  rw [hcast, wrap64_nat _ (by omega)]
  rw [pow128] at hn ⊢
  have hor := (bits_nat .i64 63 (by decide) wraps63 n (c % 128 * 2 ^ (7 * i)) (by omega) (by omega)).2
  rw [hor, Nat.or_comm, nat_join (7 * i) _ n (Nat.mul_mod_left _ _) hn, Nat.add_comm, Nat.mul_comm]
theorem or_zero : bits .or .i64 0 (wrap64 (wrap64 (bits .and .u8 0 127))) = 0 := by
  have := or_step 0 0 0 (by omega) (by omega) (by omega)
  simpa using this
theorem drop_bytes (s : ByteArray) (i : Nat) (h : i < s.size) : s.data.toList.drop i = s[i] :: s.data.toList.drop (i + 1) := by
  rw [List.drop_eq_getElem_cons (by simpa using h)]
  rfl

set_option maxHeartbeats 800000 in
set_option maxRecDepth 100000 in
theorem first_any (s : ByteArray) (hs : s.size ≤ maxLen) (w : World) :
    Calls Tryd.prog 98 #[.string s] w fun e w' => e = .returned (.tuple #[.int .i64 (decN (dec s.data.toList)), .int .i64 (decK (dec s.data.toList))]) ∧ w = w' := by
  unfold maxLen at hs
  obtain ⟨L, hL1, hL2, hL3, hmn⟩ : ∃ L : Nat, L ≤ 9 ∧ L ≤ s.size ∧ (L < 9 → s.size ≤ L) ∧ (if (9 : Int) < (s.size : Int) then (9 : Int) else (s.size : Int)) = (L : Int) := by
    by_cases h : 9 < s.size
    · exact ⟨9, by omega, by omega, by omega, by rw [if_pos (by omega)]; rfl⟩
    · exact ⟨s.size, by omega, by omega, by omega, by rw [if_neg (by omega)]⟩
  go_enter Tryd.func98, Tryd.ntmps98
  go_wp2
  go_loop [4, 9] (fun t u => ∃ i n : Nat, u = .int .i64 i ∧ t = .int .i64 n ∧ i ≤ L ∧ n < 128 ^ i ∧ fin i n (decF (9 - i) (s.data.toList.drop i)) = dec s.data.toList) (fun _ u => 9 - (intOf u).toNat)
  case atStart => exact ⟨0, 0, rfl, rfl, by omega, by simp, by simp [fin_zero]; rfl⟩
  case round =>
    obtain ⟨i, n, rfl, rfl, hi, hn, heq⟩ := hrel
    have HE := Lib.hid heq
    clear heq
    by_cases hlt : i < L
    · have hil : i < s.size := by omega
      have HD := Lib.hid (drop_bytes s i hil)
      have hcb : s[i].toNat < 256 := s[i].toNat_lt
      by_cases hc : 128 ≤ s[i].toNat
      · have hb := and128_yes s[i].toNat hcb hc
        have HV := Lib.hid (or_step s[i].toNat i n hcb (by omega) hn)
        have HF := Lib.hid (fin_more i n (8 - i) s[i] (s.data.toList.drop (i + 1)) hc)
        have HP : Hid (n + 128 ^ i * (s[i].toNat % 128) < 128 ^ (i + 1)) := by
          show _ < _
          have h1 : s[i].toNat % 128 ≤ 127 := by omega
          have h2 := Nat.mul_le_mul_left (128 ^ i) h1
          rw [Nat.pow_succ]
          omega
        go_wp2
        go_round
        case rel =>
          refine ⟨i + 1, n + 128 ^ i * (s[i].toNat % 128), by go_num, by rw [HV.out], by omega, HP.out, ?_⟩
          rw [← HE.out, HD.out, show 9 - i = (8 - i) + 1 from by omega, HF.out, show 9 - (i + 1) = 8 - i from by omega, show s[i].toNat % 128 = s[i].toNat - 128 from by omega]
        case measure => simp [intOf]; omega
      · have hb := and128_no s[i].toNat (by omega)
        have HV := Lib.hid (or_step s[i].toNat i n hcb (by omega) hn)
        have HF := Lib.hid (fin_last i n (8 - i) s[i] (s.data.toList.drop (i + 1)) (by omega))
        by_cases hz : s[i].toNat = 0
        · by_cases hi0 : 0 < i
          · have HR : Hid (dec s.data.toList = none) := by
              show _ = _
              rw [← HE.out, HD.out, show 9 - i = (8 - i) + 1 from by omega, HF.out, if_pos ⟨hz, hi0⟩]
            go_wp2
            go_ret2
            rw [HR.out]
            exact ⟨rfl, rfl⟩
          · obtain rfl : i = 0 := by omega
            obtain rfl : n = 0 := by simpa using hn
            have HR : Hid (dec s.data.toList = some (0, 1)) := by
              show _ = _
              rw [← HE.out, HD.out, show 9 - 0 = (8 - 0) + 1 from by omega, HF.out, if_neg (by omega), hz]
            clear HV HF
            go_wp2
            go_ret2
            rw [HR.out, or_zero]
            exact ⟨rfl, rfl⟩
        · have HR : Hid (dec s.data.toList = some (n + 128 ^ i * s[i].toNat, i + 1)) := by
            show _ = _
            rw [← HE.out, HD.out, show 9 - i = (8 - i) + 1 from by omega, HF.out, if_neg (by omega)]
          go_wp2
          go_ret2
          rw [HR.out, HV.out, show s[i].toNat % 128 = s[i].toNat from by omega]
          exact ⟨by simp [decN, decK], rfl⟩
    · have HR : Hid (dec s.data.toList = none) := by
        show _ = _
        rw [← HE.out]
        by_cases h9 : i = 9
        · subst h9; exact fin_none _ _ _
        · rw [List.drop_of_length_le (by simp; omega)]; exact fin_nil _ _ _
      go_wp2
      go_ret2
      rw [HR.out]
      exact ⟨rfl, rfl⟩
end Go.Proofs.YtomlbfkkhhhfkaaDoor.Pk
