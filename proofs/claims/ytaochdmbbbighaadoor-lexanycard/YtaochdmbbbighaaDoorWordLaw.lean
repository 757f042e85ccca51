/-
  The statements' own list of words.
-/
import Derived.Test.YtaochdmbbbighaaDoorHead
namespace Go.Proofs.YtaochdmbbbighaaDoor
open Go.RowKit

theorem texts_new (w : World) (ts : List Bs) (k : Nat) (hk : k < ts.length) : (w.alloc (.cells (ts.map S8).toArray 9)).cell? ⟨w.heap.size, k, none⟩ = some (.string (str ts[k])) := by
  rw [cell_of_row (w.alloc (.cells (ts.map S8).toArray 9)) w.heap.size k (ts.map S8).toArray 9 (0, 0) (by show (w.heap.push _)[w.heap.size]? = _; simp)]
  simp [hk, S8]

set_option maxHeartbeats 400000 in
set_option maxRecDepth 100000 in
theorem word_any (s : ByteArray) (w : World) : Calls Tryd.prog 11 #[.string s] w fun e w' => e = .returned (.bool (isWd s.data.toList)) ∧ Below w.heap.size w w' := by
  go_enter Tryd.func11, Tryd.ntmps11
  go_wp2
  have hW : Below w.heap.size w (w.alloc (.cells (wordsL.map S8).toArray 9)) := (Below.refl _ _).alloc (Nat.le_refl _) _
  have hC := Lib.hid (texts_new w wordsL)
  have e0 : Obj.cells (wordsL.map S8).toArray 9 = Obj.cells #[Value.string { data := #[97, 115] }, Value.string { data := #[98, 111, 111, 108] },
      Value.string { data := #[99, 108, 97, 115, 115] }, Value.string { data := #[101, 108, 115, 101] },
      Value.string { data := #[101, 120, 116, 101, 110, 100, 115] }, Value.string { data := #[102, 97, 108, 115, 101] },
      Value.string { data := #[102, 105, 101, 108, 100] }, Value.string { data := #[105, 102] },
      Value.string { data := #[105, 110, 116] }, Value.string { data := #[105, 115] },
      Value.string { data := #[108, 101, 110, 103, 116, 104] }, Value.string { data := #[108, 101, 116] },
      Value.string { data := #[109, 101, 116, 104, 111, 100] }, Value.string { data := #[110, 101, 119] },
      Value.string { data := #[110, 117, 108, 108] }, Value.string { data := #[112, 114, 105, 110, 116] },
      Value.string { data := #[114, 101, 116, 117, 114, 110] }, Value.string { data := #[115, 116, 97, 116, 105, 99] },
      Value.string { data := #[116, 104, 105, 115] }, Value.string { data := #[116, 114, 117, 101] },
      Value.string { data := #[119, 104, 105, 108, 101] }] 9 := rfl
  rw [← e0]
  clear e0
  generalize w.alloc (.cells (wordsL.map S8).toArray 9) = w1 at hW hC ⊢
  go_loop [7] (fun n => ∃ k : Nat, n = .int .i64 k ∧ k ≤ 21 ∧ (wordsL.take k).any (· == s.data.toList) = false) (fun n => 21 - (intOf n).toNat)
  case atStart => exact ⟨0, rfl, by omega, rfl⟩
  case round =>
    obtain ⟨k, rfl, hk, hn⟩ := hrel
    have HN := Lib.hid hn
    clear hn
    by_cases hlt : k < 21
    · have hc := hC.out k hlt
      have hb : ((str (wordsL[k]'hlt)).toList == s.toList) = (wordsL[k]'hlt == s.data.toList) := by
        rw [Lib.toList_data, Lib.toList_data]
        simp [str]
      by_cases hq : (wordsL[k]'hlt == s.data.toList) = true
      · have H1 := hb.trans hq
        have HQ : Hid (isWd s.data.toList = true) := Lib.hid (by unfold isWd; rw [List.any_eq_true]; exact ⟨_, List.getElem_mem hlt, hq⟩)
        clear hb hq
        go_wp2
        go_ret
        exact ⟨by rw [HQ.out]; rfl, hW⟩
      · have hq' : (wordsL[k]'hlt == s.data.toList) = false := by simpa using hq
        have H1 := hb.trans hq'
        have HQ := Lib.hid (any_take_succ (· == s.data.toList) wordsL k hlt HN.out hq')
        clear hb hq hq'
        go_wp2
        go_round
        case rel => exact ⟨k + 1, by go_num, by omega, HQ.out⟩
        case measure => simp [intOf]; omega
    · have HQ : Hid (isWd s.data.toList = false) := Lib.hid (by have h := HN.out; rwa [List.take_of_length_le (by show 21 ≤ k; omega)] at h)
      go_wp2
      go_ret
      exact ⟨by rw [HQ.out]; rfl, hW⟩
end Go.Proofs.YtaochdmbbbighaaDoor
