/-
  Which names are words; names, numbers, marks.
-/
import Derived.Test.YtaochdmbbbighaaDoorRun
import Derived.Deep.MidRow
import Derived.Lib.Strings
namespace Go.Proofs.YtaochdmbbbighaaDoor
open Go.RowKit

/-- bytes as a text -/
def str (l : Bs) : ByteArray := ⟨l.toArray⟩
def S8 (l : Bs) : Value := .string (str l)
/-- a table of texts in a block -/
def TabS (w : World) (b : Nat) (ts : List Bs) : Prop := w.rangeAt b 0 (ts.map S8)

theorem info9 : (Tryd.prog.info? 9).map (fun i => i.size) = some 1 := by kernel_rfl
theorem size9 (w : World) : (sizeOf 9).run Tryd.prog w = .ok 1 w := by kernel_rfl
theorem index_tab (t n : Nat) (h : Tryd.prog.underlying t = some (.array n 9)) (ts : List Bs) (hl : ts.length = n) (k : Nat) (hk : k < ts.length) (w : World) :
    (Instr.index t (.agg (ts.map S8).toArray) (.int .i64 k)).run Tryd.prog w = .ok (S8 ts[k]) w := by
  have h1 : (0 : Int) ≤ k ∧ (k : Int) < n := by omega
  simp only [Instr.index, asIntOf, run_underlying h, Sem.run_bind, Result.andThen_ok, Sem.run_pure, if_pos h1, size9]
  simp [part, Sem.run_bind, hk]

theorem info76 : (Tryd.prog.info? 76).map (·.size) = some 21 := by kernel_rfl
theorem info74 : (Tryd.prog.info? 74).map (·.size) = some 22 := by kernel_rfl
theorem any_take_succ {α : Type} (p : α → Bool) (l : List α) (k : Nat) (h : k < l.length) (h1 : (l.take k).any p = false) (h2 : p l[k] = false) : (l.take (k + 1)).any p = false := by
  rw [List.take_succ_eq_append_getElem h, List.any_append, h1]; simp [h2]

set_option maxHeartbeats 400000 in
theorem isWord_any (s : ByteArray) (w : World) (hT : TabS w 2 wordsL) :
    Calls Tryd.prog 42 #[.string s] w fun e w' => e = .returned (.bool (isWd s.data.toList)) ∧ w = w' := by
  obtain ⟨Z, hZ⟩ : ∃ Z, Z = wordsL.map S8 := ⟨_, rfl⟩
  have hr : w.rangeAt 2 0 Z := by rw [hZ]; exact hT
  have HL : Hid ((Tryd.prog.info? 76).map (·.size) = some Z.length) := Lib.hid (by rw [hZ]; exact info76)
  have HZ := Lib.hid hZ
  clear hZ hT
  go_enter Tryd.func42, Tryd.ntmps42
  go_wp2_with (with_reducible refine wpList_load_mid rfl 76 (.global 2) rfl 2 0 rfl Z _ hr Tryd.underlying76 rfl HL.out ?_)
  go_loop [6] (fun n => ∃ k : Nat, n = .int .i64 k ∧ k ≤ 21 ∧ (wordsL.take k).any (· == s.data.toList) = false) (fun n => 21 - (intOf n).toNat)
  case atStart => exact ⟨0, rfl, by omega, rfl⟩
  case round =>
    obtain ⟨k, rfl, hk, hn⟩ := hrel
    have HN := Lib.hid hn
    clear hn
    by_cases hlt : k < 21
    · have hix : (Instr.index 76 (.agg Z.toArray) (.int .i64 k)).run Tryd.prog w = .ok (S8 (wordsL[k]'hlt)) w := by rw [HZ.out]; exact index_tab 76 21 Tryd.underlying76 wordsL rfl k hlt w
      unfold S8 at hix
      have hb : (s.toList == (str (wordsL[k]'hlt)).toList) = (wordsL[k]'hlt == s.data.toList) := by
        rw [Lib.toList_data, Lib.toList_data]
        simp [str, Bool.beq_comm]
      by_cases hq : (wordsL[k]'hlt == s.data.toList) = true
      · have H1 := hb.trans hq
        have HQ : Hid (isWd s.data.toList = true) := Lib.hid (by unfold isWd; rw [List.any_eq_true]; exact ⟨_, List.getElem_mem hlt, hq⟩)
        clear hb hq
        go_wp2
        go_ret
        exact ⟨by rw [HQ.out]; rfl, rfl⟩
      · have hq' : (wordsL[k]'hlt == s.data.toList) = false := by simpa using hq
        have H1 := hb.trans hq'
        have HQ := Lib.hid (any_take_succ (· == s.data.toList) wordsL k hlt HN.out hq')
        clear hb hq hq'
        go_wp2
        go_round
        case rel => exact ⟨k + 1, by go_num, by omega, HQ.out⟩
        case measure => simp [intOf]; omega
    · have HQ : Hid (isWd s.data.toList = false) := Lib.hid (by have h := HN.out; rwa [List.take_of_length_le (by show 21 ≤ k; omega)] at h)
      go_wp2
      go_ret
      exact ⟨by rw [HQ.out]; rfl, rfl⟩

/-- a token as a value -/
@[reducible] def tokV (t : Tok) (l c : Int) : Value := .agg #[.int .i64 (t.kind : Int), .string (str t.text), .int .i64 (t.num : Int), .int .i64 l, .int .i64 c]
/-- what is told beside an error -/
@[reducible] def ansV (r : Tok × Nat) : Value := .tuple #[tokV r.1 0 0, .int .i64 (r.2 : Int)]

theorem name_long (k : Nat) (s : ByteArray) (w : World) (h : 40 < s.size) :
    Calls Tryd.prog 27 #[.int .i64 (k : Int), .string s] w fun e w' => e = .returned (ansV (nameT k s.data.toList)) ∧ Below w.heap.size w w' := by
  have HE : Hid (nameT k s.data.toList = (⟨0, [], 0⟩, 4)) := Lib.hid (by unfold nameT; rw [if_pos (by simpa using h)])
  go_enter Tryd.func27, Tryd.ntmps27
  go_wp2
  rw [HE.out]
  exact bodyPost_ret (v := ansV (⟨0, [], 0⟩, 4)) (by simp [results, Tryd.results27, go_sem]; rfl) rfl ⟨rfl, (Below.refl _ _).alloc (Nat.le_refl _) _⟩
theorem str_data (s : ByteArray) : str s.data.toList = s := by cases s; simp [str]
theorem name_any (k : Nat) (s : ByteArray) (w : World) (hT : TabS w 2 wordsL) :
    Calls Tryd.prog 27 #[.int .i64 (k : Int), .string s] w fun e w' => e = .returned (ansV (nameT k s.data.toList)) ∧ Below w.heap.size w w' := by
  by_cases h : 40 < s.size
  · exact name_long k s w h
  · have hT2 : TabS (w.alloc (.cells #[.int .i64 0, .string ⟨#[]⟩, .int .i64 0, .int .i64 0, .int .i64 0] 34)) 2 wordsL := fun j v hv => by
      have h1 := hT j v hv
      have hb := block_lt_of_cell h1
      rw [← h1]
      exact ((Below.refl w.heap.size w).alloc (Nat.le_refl _) _).cell (p := ⟨2, 0 + j, none⟩) hb
    have HS := Lib.hid (str_data s)
    by_cases hw : isWd s.data.toList = true
    · have HE : Hid (nameT k s.data.toList = (⟨1, s.data.toList, 0⟩, 0)) := Lib.hid (by unfold nameT; rw [if_neg (by simpa using h), if_pos hw])
      go_enter Tryd.func27, Tryd.ntmps27
      go_wp2_with (go_at_call 42; refine (isWord_any _ _ hT2).mono ?_; rintro e w' ⟨rfl, rfl⟩)
      rw [HE.out]
      exact bodyPost_ret (v := ansV (⟨1, s.data.toList, 0⟩, 0)) (by simp [results, Tryd.results27, go_sem, HS.out]) rfl ⟨rfl, (Below.refl _ _).alloc (Nat.le_refl _) _⟩
    · have HE : Hid (nameT k s.data.toList = (⟨k, s.data.toList, 0⟩, 0)) := Lib.hid (by unfold nameT; rw [if_neg (by simpa using h), if_neg hw])
      go_enter Tryd.func27, Tryd.ntmps27
      go_wp2_with (go_at_call 42; refine (isWord_any _ _ hT2).mono ?_; rintro e w' ⟨rfl, rfl⟩)
      rw [HE.out]
      exact bodyPost_ret (v := ansV (⟨k, s.data.toList, 0⟩, 0)) (by simp [results, Tryd.results27, go_sem, HS.out]) rfl ⟨rfl, (Below.refl _ _).alloc (Nat.le_refl _) _⟩
end Go.Proofs.YtaochdmbbbighaaDoor
