/-
  The closure that counts the ends of lines.
-/
import Derived.Test.YtojkagfbdpjckaaDoorLnH
namespace Go.Proofs.YtojkagfbdpjckaaDoor
open Go.RowKit

theorem nls_take (s : Bs) (k : Nat) (h : k < s.length) : nls (s.take (k + 1)) = nls (s.take k) + (if s[k] = 10 then 1 else 0) := by
  rw [List.take_succ_eq_append_getElem h, nls_app]
  congr 1
  unfold nls
  rw [List.count_singleton]
  by_cases hq : s[k] = 10 <;> simp [hq]
theorem nls_le (s : Bs) : nls s ≤ s.length := List.count_le_length
set_option maxHeartbeats 1000000 in
theorem breaks22 (s : ByteArray) (w : World) (hs : s.size ≤ 140737488355328) :
    Calls Tryd.prog 22 #[.string s] w fun e w' => e = .returned (.int .i64 (nls s.data.toList)) ∧ w' = w := by
  have HN := Lib.hid (fun k (h : k < s.size) => nls_take s.data.toList k h)
  have HLe := Lib.hid (fun k => Nat.le_trans (nls_le (s.data.toList.take k)) (List.length_take_le k s.data.toList))
  go_enter Tryd.func22, Tryd.ntmps22
  go_wp2
  go_loopw [3, 4] (fun n i wr => ∃ k : Nat, k ≤ s.size ∧ i = .int .i64 k ∧ n = .int .i64 (nls (s.data.toList.take k)) ∧ wr = w) (fun n i _ => s.size - (intOf i).toNat)
  case atStart => exact ⟨0, Nat.zero_le _, rfl, rfl, rfl⟩
  case round =>
    obtain ⟨k, hk, rfl, rfl, rfl⟩ := hrel
    by_cases hlt : k < s.size
    · have hbk : s[k] = s.data.toList[k]'hlt := by rw [Array.getElem_toList]; rfl
      have hle := HLe.out k
      by_cases hb : s.data.toList[k]'hlt = 10
      · have hq : ((s[k].toNat : Int) == 10) = true := by rw [hbk, hb]; rfl
        have h1 := HN.out k hlt
        rw [if_pos hb] at h1
        have H1 := Lib.hid h1
        clear h1 hb hbk
        go_wp2
        go_roundw
        case rel => exact ⟨k + 1, by omega, by go_num, by rw [H1.out]; go_num, by first | rfl | trivial⟩
        case measure => simp [intOf]; omega
      · have hq : ((s[k].toNat : Int) == 10) = false := by
          rw [hbk, beq_eq_false_iff_ne]
          intro h
          exact hb (UInt8.toNat.inj (by have h2 : (s.data.toList[k]'hlt).toNat = 10 := (by omega); rw [h2]; rfl))
        have h1 := HN.out k hlt
        rw [if_neg hb] at h1
        have H1 := Lib.hid h1
        clear h1 hb hbk
        go_wp2
        go_roundw
        case rel => exact ⟨k + 1, by omega, by go_num, by rw [H1.out]; rfl, by first | rfl | trivial⟩
        case measure => simp [intOf]; omega
    · have HE : Hid (s.data.toList.take k = s.data.toList) := Lib.hid (List.take_of_length_le (by show s.size ≤ k; omega))
      go_wp2
      go_ret
      refine ⟨?_, rfl⟩
      show Ending.returned (.int .i64 (nls (s.data.toList.take k))) = _
      rw [HE.out]
end Go.Proofs.YtojkagfbdpjckaaDoor
