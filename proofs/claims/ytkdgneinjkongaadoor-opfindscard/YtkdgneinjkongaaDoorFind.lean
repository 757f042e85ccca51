/-
  The code of a name; the names; what numbers are, as a text.
-/
import Derived.Test.YtkdgneinjkongaaDoorCode
import Derived.Lib.Strings
namespace Go.Proofs.YtkdgneinjkongaaDoor
open Go.RowKit

theorem str_data (s : ByteArray) : str s.data.toList = s := by cases s; simp [str]
theorem data_str (l : Bs) : (str l).data.toList = l := by simp [str]
/-- what Find tells -/
@[reducible] def findV (k : Nat) : Value := .tuple #[.int .i64 (k : Int), .int .i64 (if k = 0 then 23 else 0)]
theorem beq_str (l : Bs) (s : ByteArray) : ((str l).toList == s.toList) = decide (l = s.data.toList) := by
  rw [Lib.toList_data, Lib.toList_data, data_str, Bool.eq_iff_iff]; simp

set_option maxHeartbeats 400000 in
theorem find13 (s : ByteArray) (w : World) (hT : TabR w) :
    Calls Tryd.prog 13 #[.string s] w fun e w' => e = .returned (findV (findN s.data.toList)) ∧ w = w' := by
  have HT := Lib.hid hT
  clear hT
  go_enter Tryd.func13, Tryd.ntmps13
  go_wp2
  go_loop [4] (fun n => ∃ k : Nat, n = .int .i64 k ∧ 1 ≤ k ∧ k ≤ 33 ∧ Hid (∀ j, 1 ≤ j → j < k → nameN j ≠ s.data.toList)) (fun n => 33 - (intOf n).toNat)
  case atStart => exact ⟨1, rfl, by omega, by omega, Lib.hid (fun j a b => by omega)⟩
  case round =>
    obtain ⟨k, rfl, hk1, hk2, HN⟩ := hrel
    by_cases hlt : k ≤ 32
    · have q := HT.out.name (k := k) (by omega)
      unfold S8 at q
      have hb := beq_str (nameN k) s
      by_cases hq : nameN k = s.data.toList
      · have H1 : ((str (nameN k)).toList == s.toList) = true := by rw [hb]; exact decide_eq_true hq
        have HF : Hid (findN s.data.toList = k) := Lib.hid (by rw [← hq]; exact find_of hk1 hlt)
        clear hb hq
        go_wp2
        rw [HF.out]
        have h0 : k ≠ 0 := by omega
        exact bodyPost_ret (v := findV k) (by simp [results, Tryd.results13, go_sem, h0]) rfl ⟨rfl, rfl⟩
      · have H1 : ((str (nameN k)).toList == s.toList) = false := by rw [hb]; exact decide_eq_false hq
        have HQ := Lib.hid hq
        clear hb hq
        go_wp2
        go_round
        case rel => exact ⟨k + 1, by go_num, by omega, by omega, Lib.hid (fun j a b => by by_cases e : j = k; · subst e; exact HQ.out
                                                                                          · exact HN.out j a (by omega))⟩
        case measure => simp [intOf]; omega
    · have HF : Hid (findN s.data.toList = 0) := Lib.hid (find_none (fun j a b => HN.out j a (by omega)))
      go_wp2
      rw [HF.out]
      exact bodyPost_ret (v := findV 0) (by simp [results, Tryd.results13, go_sem]) rfl ⟨rfl, rfl⟩

def poolsL : Bs := [110, 46, 108, 108, 46, 46, 46, 46, 46, 46, 46, 46, 46, 46, 46, 102, 102, 99, 116, 116, 116, 46, 99, 99, 109, 109, 106, 106, 46, 46, 46, 98]
theorem pools12 (w : World) : Calls Tryd.prog 12 #[] w fun e w' => e = .returned (S8 poolsL) ∧ w = w' := by
  go_enter Tryd.func12, Tryd.ntmps12
  go_wp2
  go_ret
  exact ⟨rfl, rfl⟩
end Go.Proofs.YtkdgneinjkongaaDoor
