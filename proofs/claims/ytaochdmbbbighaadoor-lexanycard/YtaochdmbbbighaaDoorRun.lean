/-
  The bytes at a text's beginning that are all of one kind.
-/
import Derived.Test.YtaochdmbbbighaaDoorChars
namespace Go.Proofs.YtaochdmbbbighaaDoor
open Go.RowKit

theorem drop_bytes (s : ByteArray) (i : Nat) (h : i < s.size) : s.data.toList.drop i = s[i] :: s.data.toList.drop (i + 1) := by
  rw [List.drop_eq_getElem_cons (by simpa using h)]
  rfl
theorem tw_end (p : UInt8 → Bool) (l : Bs) (k : Nat) (hk : k ≤ (l.takeWhile p).length) (he : (l.drop k).takeWhile p = []) : l.takeWhile p = l.take k := by
  induction l generalizing k with
  | nil => simp
  | cons c r ih =>
    cases k with
    | zero => simpa using he
    | succ k =>
      by_cases h : p c = true
      · simp only [List.takeWhile_cons, h, if_true, List.take_succ_cons]
        rw [ih k (by simpa [h] using hk) (by simpa using he)]
      · simp [h] at hk
theorem tw_more (p : UInt8 → Bool) (l : Bs) (k : Nat) (c : UInt8) (r : Bs) (hk : k ≤ (l.takeWhile p).length) (hd : l.drop k = c :: r) (h : p c = true) : k + 1 ≤ (l.takeWhile p).length := by
  induction l generalizing k with
  | nil => simp at hd
  | cons x l ih =>
    cases k with
    | zero =>
      simp at hd
      obtain ⟨rfl, rfl⟩ := hd
      simp [h]
    | succ k =>
      by_cases hx : p x = true
      · simp only [List.takeWhile_cons, hx, if_true, List.length_cons] at hk ⊢
        have := ih k (by omega) (by simpa using hd)
        omega
      · simp [hx] at hk
theorem str_take (s : ByteArray) (k : Nat) (l : Bs) (hl : l = s.data.toList.take k) : s.extract 0 k = ⟨l.toArray⟩ := by
  subst hl
  apply ByteArray.ext
  rw [ByteArray.data_extract]
  apply Array.ext'
  simp

set_option maxHeartbeats 400000 in
theorem run_nm (s : ByteArray) (w : World) (hs : s.size ≤ maxLen) :
    Calls Tryd.prog 28 #[.string s, .func (.func 29) #[] #[]] w fun e w' => e = .returned (.string ⟨(s.data.toList.takeWhile inNm).toArray⟩) ∧ w = w' := by
  unfold maxLen at hs
  go_enter Tryd.func28, Tryd.ntmps28
  go_wp2
  go_loop [5] (fun n => ∃ k : Nat, n = .int .i64 k ∧ k ≤ s.size ∧ k ≤ (s.data.toList.takeWhile inNm).length) (fun n => s.size - (intOf n).toNat)
  case atStart => exact ⟨0, rfl, by omega, by omega⟩
  case round =>
    obtain ⟨k, rfl, hk, hk2⟩ := hrel
    by_cases hlt : k < s.size
    · have hd := Lib.hid (drop_bytes s k hlt)
      by_cases hp : inNm s[k] = true
      · have H2 := tw_more inNm _ k _ _ hk2 hd.out hp
        go_wp2_with (go_at_call 29; refine (nm_any _ _).mono ?_; rintro e w' ⟨rfl, rfl⟩)
        go_round
        case rel => exact ⟨k + 1, by go_num, by omega, H2⟩
        case measure => simp [intOf]; omega
      · have H2 := Lib.hid (tw_end inNm _ k hk2 (by rw [hd.out]; simp [hp]))
        go_wp2_with (go_at_call 29; refine (nm_any _ _).mono ?_; rintro e w' ⟨rfl, rfl⟩)
        go_ret
        exact ⟨by rw [str_take s k _ H2.out]; rfl, rfl⟩
    · have H2 := Lib.hid (tw_end inNm _ k hk2 (by rw [List.drop_of_length_le (by simp; omega)]; rfl))
      go_wp2_with (go_at_call 29; refine (nm_any _ _).mono ?_; rintro e w' ⟨rfl, rfl⟩)
      go_ret
      exact ⟨by rw [str_take s k _ H2.out]; rfl, rfl⟩
set_option maxHeartbeats 400000 in
theorem run_dg (s : ByteArray) (w : World) (hs : s.size ≤ maxLen) :
    Calls Tryd.prog 28 #[.string s, .func (.func 31) #[] #[]] w fun e w' => e = .returned (.string ⟨(s.data.toList.takeWhile isDg).toArray⟩) ∧ w = w' := by
  unfold maxLen at hs
  go_enter Tryd.func28, Tryd.ntmps28
  go_wp2
  go_loop [5] (fun n => ∃ k : Nat, n = .int .i64 k ∧ k ≤ s.size ∧ k ≤ (s.data.toList.takeWhile isDg).length) (fun n => s.size - (intOf n).toNat)
  case atStart => exact ⟨0, rfl, by omega, by omega⟩
  case round =>
    obtain ⟨k, rfl, hk, hk2⟩ := hrel
    by_cases hlt : k < s.size
    · have hd := Lib.hid (drop_bytes s k hlt)
      by_cases hp : isDg s[k] = true
      · have H2 := tw_more isDg _ k _ _ hk2 hd.out hp
        go_wp2_with (go_at_call 31; refine (dg_any _ _).mono ?_; rintro e w' ⟨rfl, rfl⟩)
        go_round
        case rel => exact ⟨k + 1, by go_num, by omega, H2⟩
        case measure => simp [intOf]; omega
      · have H2 := Lib.hid (tw_end isDg _ k hk2 (by rw [hd.out]; simp [hp]))
        go_wp2_with (go_at_call 31; refine (dg_any _ _).mono ?_; rintro e w' ⟨rfl, rfl⟩)
        go_ret
        exact ⟨by rw [str_take s k _ H2.out]; rfl, rfl⟩
    · have H2 := Lib.hid (tw_end isDg _ k hk2 (by rw [List.drop_of_length_le (by simp; omega)]; rfl))
      go_wp2_with (go_at_call 31; refine (dg_any _ _).mono ?_; rintro e w' ⟨rfl, rfl⟩)
      go_ret
      exact ⟨by rw [str_take s k _ H2.out]; rfl, rfl⟩
end Go.Proofs.YtaochdmbbbighaaDoor
