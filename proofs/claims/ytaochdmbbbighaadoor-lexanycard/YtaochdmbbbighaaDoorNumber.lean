/-
  Numbers.
-/
import Derived.Test.YtaochdmbbbighaaDoorWord
namespace Go.Proofs.YtaochdmbbbighaaDoor
open Go.RowKit

theorem dg_bounds {c : UInt8} (h : isDg c = true) : 48 ≤ (c.toNat : Int) ∧ (c.toNat : Int) ≤ 57 := by
  simpa [isDg] using h

set_option maxHeartbeats 400000 in
theorem number_any (s : ByteArray) (hs : s.size ≤ maxLen) (hd : ∀ c ∈ s.data.toList, isDg c = true) (w : World) :
    Calls Tryd.prog 32 #[.string s] w fun e w' => e = .returned (ansV (numT s.data.toList)) ∧ Below w.heap.size w w' := by
  unfold maxLen at hs
  have HS := Lib.hid (str_data s)
  have HD := Lib.hid hd
  clear hd
  go_enter Tryd.func32, Tryd.ntmps32
  go_wp2
  go_loop [4, 8] (fun n i => ∃ v k : Nat, n = .int .i64 v ∧ i = .int .i64 k ∧ k ≤ s.size ∧ v ≤ 288230376151711744 ∧ numV 0 s.data.toList = numV v (s.data.toList.drop k)) (fun _ i => s.size - (intOf i).toNat)
  case atStart => exact ⟨0, 0, rfl, rfl, by omega, by omega, rfl⟩
  case round =>
    obtain ⟨v, k, rfl, rfl, hk, hv, hn⟩ := hrel
    have HN := Lib.hid hn
    clear hn
    by_cases hlt : k < s.size
    · have HC := Lib.hid (drop_bytes s k hlt)
      obtain ⟨h1, h2⟩ := dg_bounds (HD.out s[k] (List.mem_of_mem_drop (i := k) (by rw [HC.out]; exact List.mem_cons_self)))
      by_cases hq : 288230376151711744 < 10 * v + (s[k].toNat - 48)
      · have HE : Hid (numT s.data.toList = (⟨0, [], 0⟩, 22)) := Lib.hid (by unfold numT; rw [HN.out, HC.out, numV, if_pos hq])
        have hq' : 288230376151711744 < 10 * (v : Int) + ((s[k].toNat : Int) - 48) := by omega
        go_wp2
        rw [HE.out]
        exact bodyPost_ret (v := ansV (⟨0, [], 0⟩, 22)) (by simp [results, Tryd.results32, go_sem]; rfl) rfl ⟨rfl, (Below.refl _ _).alloc (Nat.le_refl _) _⟩
      · have HE : Hid (numV 0 s.data.toList = numV (10 * v + (s[k].toNat - 48)) (s.data.toList.drop (k + 1))) := Lib.hid (by rw [HN.out, HC.out, numV, if_neg hq])
        have hq' : ¬ 288230376151711744 < 10 * (v : Int) + ((s[k].toNat : Int) - 48) := by omega
        go_wp2
        go_round
        case rel => exact ⟨10 * v + (s[k].toNat - 48), k + 1, by congr 1; omega, by go_num, by omega, by omega, HE.out⟩
        case measure => simp [intOf]; omega
    · have HE : Hid (numT s.data.toList = (⟨4, s.data.toList, v⟩, 0)) := Lib.hid (by unfold numT; rw [HN.out, List.drop_of_length_le (by simp; omega), numV])
      go_wp2
      rw [HE.out]
      exact bodyPost_ret (v := ansV (⟨4, s.data.toList, v⟩, 0)) (by simp [results, Tryd.results32, go_sem, HS.out]) rfl ⟨rfl, (Below.refl _ _).alloc (Nat.le_refl _) _⟩
end Go.Proofs.YtaochdmbbbighaaDoor
