/-
  How many bytes a remark has; the token with which a text begins.
-/
import Derived.Test.YtaochdmbbbighaaDoorMark
import Derived.Lib.Bytealg
namespace Go.Proofs.YtaochdmbbbighaaDoor
open Go.RowKit

set_option maxHeartbeats 1000000 in
set_option maxRecDepth 100000 in
theorem ix_in (s : ByteArray) (c : Int) (w : World) :
    Calls Tryd.prog 45 #[.string s, .int .u8 c] w fun e w' => e = .returned (.int .i64 (Lib.indexByte s.data.toList c.toNat.toUInt8)) ∧ w = w' := by
  go_enter Tryd.func45, Tryd.ntmps45
  go_wp2
  rw [run_callFunc_extern Tryd.func46 (by kernel_rfl) (by kernel_rfl) (by kernel_rfl) (e := Extern.BytealgIndexByte.indexByte) (by kernel_rfl), Lib.run_indexByteString]
  simp only [Result.andThen]
  rw [Oper.upon_value]
  go_wp2
  go_ret
  exact ⟨rfl, rfl⟩
theorem ix_any (s : ByteArray) (c : Int) (w : World) :
    Calls Tryd.prog 41 #[.string s, .int .u8 c] w fun e w' => e = .returned (.int .i64 (Lib.indexByte s.data.toList c.toNat.toUInt8)) ∧ w = w' := by
  go_enter Tryd.func41, Tryd.ntmps41
  go_wp2_with (go_at_call 45; refine (ix_in _ _ _).mono ?_; rintro e w' ⟨rfl, rfl⟩)
  go_ret
  exact ⟨rfl, rfl⟩

theorem ix_rem (l : Bs) : (Lib.indexByte l 10 = -1 ∧ remN l = l.length) ∨ Lib.indexByte l 10 = (remN l : Int) := by
  induction l with
  | nil => exact .inl ⟨rfl, rfl⟩
  | cons c r ih =>
    by_cases h : c = 10
    · subst h
      exact .inr (by simp [Lib.indexByte, remN])
    · have e : remN (c :: r) = remN r + 1 := by simp [remN, h]
      rw [e, Lib.indexByte, if_neg (by simpa using h)]
      rcases ih with ⟨h1, h2⟩ | h1
      · exact .inl ⟨by rw [h1]; rfl, by simp [h2]⟩
      · refine .inr ?_
        rw [h1, if_neg (by simp)]
        rfl

theorem remark_any (s : ByteArray) (w : World) : Calls Tryd.prog 25 #[.string s] w fun e w' => e = .returned (.int .i64 (remN s.data.toList : Int)) ∧ w = w' := by
  have H10 : Hid ((10 : Int).toNat.toUInt8 = 10) := Lib.hid rfl
  rcases ix_rem s.data.toList with ⟨h1, h2⟩ | h1
  · have HS : Hid ((remN s.data.toList : Int) = s.size) := Lib.hid (by rw [h2]; simp)
    have H1 := Lib.hid h1
    clear h1 h2
    go_enter Tryd.func25, Tryd.ntmps25
    go_wp2_with (go_at_call 41; refine (ix_any _ _ _).mono ?_; rintro e w' ⟨rfl, rfl⟩; rw [H10.out, H1.out])
    go_ret
    exact ⟨by rw [HS.out]; rfl, rfl⟩
  · have H1 := Lib.hid h1
    have hge : (0 : Int) ≤ (remN s.data.toList : Int) := by omega
    clear h1
    go_enter Tryd.func25, Tryd.ntmps25
    go_wp2_with (go_at_call 41; refine (ix_any _ _ _).mono ?_; rintro e w' ⟨rfl, rfl⟩; rw [H10.out, H1.out])
    go_ret
    exact ⟨rfl, rfl⟩

theorem str_list (l : Bs) : (str l).data.toList = l := by simp [str]
theorem str_size (l : Bs) : (str l).size = l.length := rfl
theorem data_of_nil {s : ByteArray} (h : s.data.toList = []) : s = ⟨#[]⟩ := by
  cases s; simp at h; simp [h]

theorem bcell {W w1 : World} (hb : Below W.heap.size W w1) : (∀ b o, b < W.heap.size → w1.cell? ⟨b, o, none⟩ = W.cell? ⟨b, o, none⟩) ∧ (∀ b o, b < W.heap.size → w1.frozen? ⟨b, o, none⟩ = W.frozen? ⟨b, o, none⟩) :=
  ⟨fun b o h => hb.cell (p := ⟨b, o, none⟩) h, fun b o h => hb.frozen (p := ⟨b, o, none⟩) h⟩
theorem alloc_below {w w2 : World} {X : Obj} (hb : Below (w.alloc X).heap.size (w.alloc X) w2) : Below w.heap.size w w2 := ((Below.refl _ _).alloc (Nat.le_refl _) _).trans (hb.mono (by simp))

theorem results_two {fn : Func} {p s : Tmp} {ty : TypeId} {a : Addr} {v u : Value} {tmps : Array Value} {P : Program} {w : World} (h : fn.results = #[.cell p ty, .tmp s]) (ha : tmps.getD p undef = .pointer (some a)) (hu : tmps.getD s undef = u) (hv : (loadVar ty a).run P w = .ok v w) :
    (results fn tmps).run P w = .ok (.tuple #[v, u]) w := by
  subst hu
  rw [Array.getD_eq_getD_getElem?] at ha
  simp only [results, h]
  simp [ha, asAddr, hv, Result.andThen]
@[reducible] def put5 (w : World) (b : Nat) (a0 a1 a2 a3 a4 : Value) : World := ((((w.setCell ⟨b, 0, none⟩ a0).setCell ⟨b, 1, none⟩ a1).setCell ⟨b, 2, none⟩ a2).setCell ⟨b, 3, none⟩ a3).setCell ⟨b, 4, none⟩ a4
theorem put5_blk {w : World} {b t : Nat} {x0 x1 x2 x3 x4 : Value} (h : w.heap[b]? = some (.cells #[x0, x1, x2, x3, x4] t (0, 0))) (a0 a1 a2 a3 a4 : Value) : (put5 w b a0 a1 a2 a3 a4).heap[b]? = some (.cells #[a0, a1, a2, a3, a4] t (0, 0)) := by
  simp [World.setCell, Array.getElem?_modify, h]
theorem put5_below {B : Nat} {w w2 : World} {b : Nat} (h : Below B w w2) (hb : B ≤ b) (a0 a1 a2 a3 a4 : Value) : Below B w (put5 w2 b a0 a1 a2 a3 a4) :=
  ((((h.setCell (p := ⟨b, 0, none⟩) hb _).setCell (p := ⟨b, 1, none⟩) hb _).setCell (p := ⟨b, 2, none⟩) hb _).setCell (p := ⟨b, 3, none⟩) hb _).setCell (p := ⟨b, 4, none⟩) hb _
theorem info34 : (Tryd.prog.info? 34).map (·.size) = some 5 := by kernel_rfl
theorem tok_load {w : World} {b : Nat} {x0 x1 x2 x3 x4 : Value} (h : w.heap[b]? = some (.cells #[x0, x1, x2, x3, x4] 34 (0, 0))) : (loadVar 34 ⟨b, 0, none⟩).run Tryd.prog w = .ok (.agg #[x0, x1, x2, x3, x4]) w :=
  run_loadVar_row w b 34 34 _ _ _ h Tryd.underlying34 rfl info34
theorem new_blk {w w2 : World} {X : Obj} (hb : Below (w.alloc X).heap.size (w.alloc X) w2) : w2.heap[w.heap.size]? = some X := by
  rw [hb.block w.heap.size (by simp)]
  show (w.heap.push X)[w.heap.size]? = some X
  simp
theorem ans_load {w w2 : World} {x0 x1 x2 x3 x4 : Value} (hb : Below (w.alloc (.cells #[x0, x1, x2, x3, x4] 34)).heap.size (w.alloc (.cells #[x0, x1, x2, x3, x4] 34)) w2) (R : Tok × Nat) :
    (loadVar 34 ⟨w.heap.size, 0, none⟩).run Tryd.prog (put5 w2 w.heap.size (.int .i64 (R.1.kind : Int)) (.string (str R.1.text)) (.int .i64 (R.1.num : Int)) (.int .i64 0) (.int .i64 0)) = .ok (tokV R.1 0 0) (put5 w2 w.heap.size (.int .i64 (R.1.kind : Int)) (.string (str R.1.text)) (.int .i64 (R.1.num : Int)) (.int .i64 0) (.int .i64 0)) :=
  tok_load (put5_blk (new_blk hb) _ _ _ _ _)
theorem ans_below {w w2 : World} {X : Obj} (hb : Below (w.alloc X).heap.size (w.alloc X) w2) (R : Tok × Nat) : Below w.heap.size w (put5 w2 w.heap.size (.int .i64 (R.1.kind : Int)) (.string (str R.1.text)) (.int .i64 (R.1.num : Int)) (.int .i64 0) (.int .i64 0)) :=
  put5_below (alloc_below hb) (Nat.le_refl _) _ _ _ _ _

theorem tw_size (s : ByteArray) : (str (s.data.toList.takeWhile isDg)).size ≤ s.size := by
  rw [str_size]
  have := (List.takeWhile_sublist isDg (l := s.data.toList)).length_le
  simpa using this

set_option maxHeartbeats 400000 in
theorem first_any (s : ByteArray) (hs : s.size ≤ maxLen) (w : World) (h1 : TabS w 1 marksL) (h2 : TabS w 2 wordsL) :
    Calls Tryd.prog 18 #[.string s] w fun e w' => e = .returned (ansV (first s.data.toList)) ∧ Below w.heap.size w w' := by
  rcases hl : s.data.toList with _ | ⟨c, r⟩
  · obtain rfl := data_of_nil hl
    clear hl
    go_enter Tryd.func18, Tryd.ntmps18
    go_wp2
    exact bodyPost_ret (v := ansV (⟨0, [], 0⟩, 0)) (by simp [results, Tryd.results18, go_sem]; rfl) rfl ⟨rfl, (Below.refl _ _).alloc (Nat.le_refl _) _⟩
  · have hsz : 0 < s.size := by
      have h : s.data.toList.length = r.length + 1 := by rw [hl]; rfl
      have h' : s.data.toList.length = s.size := by simp
      omega
    obtain rfl : s[0] = c := by
      have := drop_bytes s 0 hsz
      rw [List.drop_zero, hl] at this
      exact (List.cons.inj this).1.symm
    have HF : Hid (first (s[0] :: r) = if isUp s[0] then nameT 2 (s.data.toList.takeWhile inNm) else if isLo s[0] then nameT 3 (s.data.toList.takeWhile inNm) else if isDg s[0] then numT (s.data.toList.takeWhile isDg) else markT s.data.toList) := Lib.hid (by rw [hl]; rfl)
    have hne : s.toList.isEmpty = false := by rw [Lib.toList_data, hl]; rfl
    have hne2 : ¬ s.toList = [] := by rw [Lib.toList_data, hl]; simp
    have h2' : TabS (w.alloc (.cells #[.int .i64 0, .string ⟨#[]⟩, .int .i64 0, .int .i64 0, .int .i64 0] 34)) 2 wordsL := h2.keep ((Below.refl _ _).alloc (Nat.le_refl _) _)
    have h1' : TabS (w.alloc (.cells #[.int .i64 0, .string ⟨#[]⟩, .int .i64 0, .int .i64 0, .int .i64 0] 34)) 1 marksL := h1.keep ((Below.refl _ _).alloc (Nat.le_refl _) _)
    have HS := Lib.hid hs
    clear h1 h2 hl
    rw [HF.out]
    by_cases hu : isUp s[0] = true
    · rw [if_pos hu]
      go_enter Tryd.func18, Tryd.ntmps18
      go_wp2_with (first
        | (go_at_call 26; refine (up_any _ _).mono ?_; rintro e w' ⟨rfl, rfl⟩)
        | (go_at_call 28; refine (run_nm _ _ HS.out).mono ?_; rintro e w' ⟨rfl, rfl⟩))
      refine (name_any 2 (str (s.data.toList.takeWhile inNm)) _ h2').mono ?_
      rintro e w2 ⟨rfl, hb⟩
      try rw [str_list]
      obtain ⟨R, hR⟩ : ∃ R, R = nameT 2 (s.data.toList.takeWhile inNm) := ⟨_, rfl⟩
      rw [← hR]
      have HR := Lib.hid hR
      clear hR
      obtain ⟨hc, hf⟩ := bcell hb
      have hz : w.heap.size < w2.heap.size := by have := hb.size; simp at this; omega
      go_wp2
      exact bodyPost_ret (v := ansV R) (results_two Tryd.results18 rfl rfl (ans_load hb R)) rfl ⟨by rw [HR.out], ans_below hb R⟩
    rw [if_neg hu]
    have hu' := Bool.eq_false_iff.2 hu
    clear hu
    by_cases hl : isLo s[0] = true
    · rw [if_pos hl]
      go_enter Tryd.func18, Tryd.ntmps18
      go_wp2_with (first
        | (go_at_call 26; refine (up_any _ _).mono ?_; rintro e w' ⟨rfl, rfl⟩)
        | (go_at_call 30; refine (lo_any _ _).mono ?_; rintro e w' ⟨rfl, rfl⟩)
        | (go_at_call 28; refine (run_nm _ _ HS.out).mono ?_; rintro e w' ⟨rfl, rfl⟩))
      refine (name_any 3 (str (s.data.toList.takeWhile inNm)) _ h2').mono ?_
      rintro e w2 ⟨rfl, hb⟩
      try rw [str_list]
      obtain ⟨R, hR⟩ : ∃ R, R = nameT 3 (s.data.toList.takeWhile inNm) := ⟨_, rfl⟩
      rw [← hR]
      have HR := Lib.hid hR
      clear hR
      obtain ⟨hc, hf⟩ := bcell hb
      have hz : w.heap.size < w2.heap.size := by have := hb.size; simp at this; omega
      go_wp2
      exact bodyPost_ret (v := ansV R) (results_two Tryd.results18 rfl rfl (ans_load hb R)) rfl ⟨by rw [HR.out], ans_below hb R⟩
    rw [if_neg hl]
    have hl' := Bool.eq_false_iff.2 hl
    clear hl
    by_cases hd : isDg s[0] = true
    · rw [if_pos hd]
      go_enter Tryd.func18, Tryd.ntmps18
      go_wp2_with (first
        | (go_at_call 26; refine (up_any _ _).mono ?_; rintro e w' ⟨rfl, rfl⟩)
        | (go_at_call 30; refine (lo_any _ _).mono ?_; rintro e w' ⟨rfl, rfl⟩)
        | (go_at_call 31; refine (dg_any _ _).mono ?_; rintro e w' ⟨rfl, rfl⟩)
        | (go_at_call 28; refine (run_dg _ _ HS.out).mono ?_; rintro e w' ⟨rfl, rfl⟩))
      refine (number_any (str (s.data.toList.takeWhile isDg)) (Nat.le_trans (tw_size s) HS.out) (by rw [str_list]; exact takeWhile_all _ _) _).mono ?_
      rintro e w2 ⟨rfl, hb⟩
      try rw [str_list]
      obtain ⟨R, hR⟩ : ∃ R, R = numT (s.data.toList.takeWhile isDg) := ⟨_, rfl⟩
      rw [← hR]
      have HR := Lib.hid hR
      clear hR
      obtain ⟨hc, hf⟩ := bcell hb
      have hz : w.heap.size < w2.heap.size := by have := hb.size; simp at this; omega
      go_wp2
      exact bodyPost_ret (v := ansV R) (results_two Tryd.results18 rfl rfl (ans_load hb R)) rfl ⟨by rw [HR.out], ans_below hb R⟩
    · rw [if_neg hd]
      have hd' := Bool.eq_false_iff.2 hd
      clear hd
      go_enter Tryd.func18, Tryd.ntmps18
      go_wp2_with (first
        | (go_at_call 26; refine (up_any _ _).mono ?_; rintro e w' ⟨rfl, rfl⟩)
        | (go_at_call 30; refine (lo_any _ _).mono ?_; rintro e w' ⟨rfl, rfl⟩)
        | (go_at_call 31; refine (dg_any _ _).mono ?_; rintro e w' ⟨rfl, rfl⟩))
      refine (mark_any s _ h1').mono ?_
      rintro e w2 ⟨rfl, hb⟩
      try rw [str_list]
      obtain ⟨R, hR⟩ : ∃ R, R = markT s.data.toList := ⟨_, rfl⟩
      rw [← hR]
      have HR := Lib.hid hR
      clear hR
      obtain ⟨hc, hf⟩ := bcell hb
      have hz : w.heap.size < w2.heap.size := by have := hb.size; simp at this; omega
      go_wp2
      exact bodyPost_ret (v := ansV R) (results_two Tryd.results18 rfl rfl (ans_load hb R)) rfl ⟨by rw [HR.out], ans_below hb R⟩
end Go.Proofs.YtaochdmbbbighaaDoor
