/-
  Marks; how many bytes a remark has.
-/
import Derived.Test.YtaochdmbbbighaaDoorNumber
import Derived.Lib.Slices
namespace Go.Proofs.YtaochdmbbbighaaDoor
open Go.RowKit

set_option maxHeartbeats 400000 in
theorem prefix_any (s t : ByteArray) (w : World) :
    Calls Tryd.prog 24 #[.string s, .string t] w fun e w' => e = .returned (.bool (t.data.toList.isPrefixOf s.data.toList)) ∧ w = w' := by
  have h0 := Lib.hasPrefix_of_take s.data.toList t.data.toList
  rw [← Lib.size_eq, ← Lib.size_eq] at h0
  have H0 : Hid (_ = t.data.toList.isPrefixOf s.data.toList) := Lib.hid h0
  clear h0
  go_enter Tryd.func24, Tryd.ntmps24
  go_wp2
  · rename_i h
    go_ret
    refine ⟨?_, rfl⟩
    show Ending.returned (Value.bool ((s.extract 0 t.size).toList == t.toList)) = _
    rw [Lib.extract_toList, Lib.toList_data, ← H0.out]
    simp [h]
  · rename_i h
    go_ret
    refine ⟨?_, rfl⟩
    show Ending.returned (Value.bool false) = _
    rw [← H0.out]
    simp [h]

theorem find_take_succ {α : Type} (p : α → Bool) (l : List α) (k : Nat) (h : k < l.length) (h1 : (l.take k).find? p = none) (h2 : p l[k] = false) : (l.take (k + 1)).find? p = none := by
  rw [List.take_succ_eq_append_getElem h, List.find?_append, h1]; simp [h2]
theorem find_take_hit {α : Type} (p : α → Bool) (l : List α) (k : Nat) (h : k < l.length) (h1 : (l.take k).find? p = none) (h2 : p l[k] = true) : l.find? p = some l[k] := by
  conv => lhs; rw [← List.take_append_drop k l]
  rw [List.find?_append, h1, List.drop_eq_getElem_cons h, List.find?_cons_of_pos h2]
  rfl

theorem TabS.keep {w w' : World} {b : Nat} {ts : List Bs} (h : TabS w b ts) (hb : Below w.heap.size w w') : TabS w' b ts := fun j v hv => by
  have h1 := h j v hv
  rw [← h1]
  exact hb.cell (p := ⟨b, 0 + j, none⟩) (block_lt_of_cell h1)

set_option maxHeartbeats 400000 in
theorem mark_any (s : ByteArray) (w : World) (hT : TabS w 1 marksL) :
    Calls Tryd.prog 33 #[.string s] w fun e w' => e = .returned (ansV (markT s.data.toList)) ∧ Below w.heap.size w w' := by
  obtain ⟨Z, hZ⟩ : ∃ Z, Z = marksL.map S8 := ⟨_, rfl⟩
  have hr : (w.alloc (.cells #[.int .i64 0, .string ⟨#[]⟩, .int .i64 0, .int .i64 0, .int .i64 0] 34)).rangeAt 1 0 Z := by rw [hZ]; exact hT.keep ((Below.refl _ _).alloc (Nat.le_refl _) _)
  have HL : Hid ((Tryd.prog.info? 74).map (·.size) = some Z.length) := Lib.hid (by rw [hZ]; exact info74)
  have HZ := Lib.hid hZ
  clear hZ hT
  go_enter Tryd.func33, Tryd.ntmps33
  go_wp2_with (with_reducible refine wpList_load_mid rfl 74 (.global 1) rfl 1 0 rfl Z _ hr Tryd.underlying74 rfl HL.out ?_)
  go_loop [7] (fun n => ∃ k : Nat, n = .int .i64 k ∧ k ≤ 22 ∧ (marksL.take k).find? (fun m => m.isPrefixOf s.data.toList) = none) (fun n => 22 - (intOf n).toNat)
  case atStart => exact ⟨0, rfl, by omega, rfl⟩
  case round =>
    obtain ⟨k, rfl, hk, hn⟩ := hrel
    have HN := Lib.hid hn
    clear hn hr
    by_cases hlt : k < 22
    · have hix : ∀ w, (Instr.index 74 (.agg Z.toArray) (.int .i64 k)).run Tryd.prog w = .ok (S8 (marksL[k]'hlt)) w := fun w => by rw [HZ.out]; exact index_tab 74 22 Tryd.underlying74 marksL rfl k hlt w
      unfold S8 at hix
      have HB : Hid ((str (marksL[k]'hlt)).data.toList.isPrefixOf s.data.toList = (marksL[k]'hlt).isPrefixOf s.data.toList) := Lib.hid (by simp [str])
      by_cases hq : (marksL[k]'hlt).isPrefixOf s.data.toList = true
      · have HM : Hid (markT s.data.toList = (⟨5, marksL[k]'hlt, 0⟩, 0)) := Lib.hid (by unfold markT; rw [find_take_hit _ marksL k hlt HN.out hq])
        have hq' := HB.out.trans hq
        clear hq
        go_wp2_with (go_at_call 24; refine (prefix_any _ _ _).mono ?_; rintro e w' ⟨rfl, rfl⟩)
        rw [HM.out]
        exact bodyPost_ret (v := ansV (⟨5, marksL[k]'hlt, 0⟩, 0)) (by simp [results, Tryd.results33, go_sem]) rfl ⟨rfl, (Below.refl _ _).alloc (Nat.le_refl _) _⟩
      · have hq1 : (marksL[k]'hlt).isPrefixOf s.data.toList = false := Bool.eq_false_iff.2 hq
        have HQ := Lib.hid (find_take_succ (fun m => m.isPrefixOf s.data.toList) marksL k hlt HN.out hq1)
        have hq' := HB.out.trans hq1
        clear hq hq1
        go_wp2_with (go_at_call 24; refine (prefix_any _ _ _).mono ?_; rintro e w' ⟨rfl, rfl⟩)
        go_round
        case rel => exact ⟨k + 1, by go_num, by omega, HQ.out⟩
        case measure => simp [intOf]; omega
    · have HM : Hid (markT s.data.toList = (⟨0, [], 0⟩, 20)) := Lib.hid (by have h := HN.out; rw [List.take_of_length_le (by show 22 ≤ k; omega)] at h; unfold markT; rw [h])
      go_wp2
      rw [HM.out]
      exact bodyPost_ret (v := ansV (⟨0, [], 0⟩, 20)) (by simp [results, Tryd.results33, go_sem]; rfl) rfl ⟨rfl, (Below.refl _ _).alloc (Nat.le_refl _) _⟩
end Go.Proofs.YtaochdmbbbighaaDoor
