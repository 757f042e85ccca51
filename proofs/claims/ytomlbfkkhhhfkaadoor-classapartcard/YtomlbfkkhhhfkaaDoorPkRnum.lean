/-
  The Reader's Num, Flag, Many, Text, Int, Done.
-/
import Derived.Test.YtomlbfkkhhhfkaaDoorPkRd
namespace Go.Proofs.YtomlbfkkhhhfkaaDoor.Pk
open Go.RowKit

theorem cut_bytes (l : List UInt8) (a b : Nat) : (⟨l.toArray⟩ : ByteArray).extract a b = ⟨((l.drop a).take (b - a)).toArray⟩ := by
  apply ByteArray.ext
  simp [List.extract_eq_take_drop]
theorem drop_cut (l : List UInt8) (k : Nat) : (⟨l.toArray⟩ : ByteArray).extract k l.length = ⟨(l.drop k).toArray⟩ := by
  rw [cut_bytes, List.take_of_length_le (by simp)]
theorem max_form (a : Int) : (if a < 0 then (0 : Int) else a) = max a 0 := by omega

set_option maxHeartbeats 800000 in
set_option maxRecDepth 100000 in
theorem rnum_any (br : Nat) (st : St) (most : Int) (w : World) (h : RAt br w st) (hs : st.s.length ≤ 140737488355328) :
    Calls Tryd.prog 74 #[.pointer (some ⟨br, 0, none⟩), .int .i64 most] w fun e w' => e = .returned (.int .i64 ((rNum st most).1 : Nat)) ∧ RAt br w' (rNum st most).2 ∧ On br w w' := by
  have H := Lib.hid h
  have h0 := h.c0
  have h2 := h.f0 0
  clear h
  rcases hb : st.bad with _ | _
  · rcases hd : dec st.s with _ | ⟨n, k⟩
    · have hr : rNum st most = (0, ⟨[], true⟩) := by unfold rNum; rw [hb, hd]; rfl
      rw [hr]
      have HD := Lib.hid hd
      have HB := Lib.hid hb
      clear hd hb hr
      go_enter Tryd.func74, Tryd.ntmps74
      go_wp2_with fail
      refine (ok_any br st w H.out).mono ?_
      rintro e w' ⟨rfl, rfl⟩
      rw [HB.out]
      go_wp2_with fail
      refine (first_any _ (by unfold maxLen; simp [ByteArray.size]; omega) w).mono ?_
      rintro e w' ⟨rfl, rfl⟩
      simp only [HD.out, decN, decK]
      go_wp2_with fail
      refine (fail_any br st w H.out).mono ?_
      rintro e w' ⟨rfl, hw', hon⟩
      go_wp2
      go_ret
      exact ⟨rfl, hw', hon⟩
    · obtain ⟨hn, hk, hsp⟩ := dec_sound _ _ _ hd
      have hk1 : 1 ≤ k := by rw [hk]; exact enc_pos n
      have hkl : k ≤ st.s.length := by
        have := congrArg List.length hsp
        simp only [List.length_append, List.length_drop] at this
        omega
      clear hk hsp
      by_cases hm : max most 0 < (n : Int)
      · have hr : rNum st most = (0, ⟨[], true⟩) := by unfold rNum; rw [hb, hd]; simp only [hm, if_true]; rfl
        rw [hr]
        have HD := Lib.hid hd
        have HB := Lib.hid hb
        obtain ⟨M, hM, hmx⟩ : ∃ M, M < (n : Int) ∧ (if most < 0 then (0 : Int) else most) = M := ⟨_, by rw [max_form]; exact hm, rfl⟩
        clear hd hb hr hm
        go_enter Tryd.func74, Tryd.ntmps74
        go_wp2_with fail
        refine (ok_any br st w H.out).mono ?_
        rintro e w' ⟨rfl, rfl⟩
        rw [HB.out]
        go_wp2_with fail
        refine (first_any _ (by unfold maxLen; simp [ByteArray.size]; omega) w).mono ?_
        rintro e w' ⟨rfl, rfl⟩
        simp only [HD.out, decN, decK]
        go_wp2_with fail
        refine (fail_any br st w H.out).mono ?_
        rintro e w' ⟨rfl, hw', hon⟩
        go_wp2
        go_ret
        exact ⟨rfl, hw', hon⟩
      · have hr : rNum st most = (n, ⟨st.s.drop k, false⟩) := by unfold rNum; rw [hb, hd]; simp only [hm, if_false]; rfl
        rw [hr]
        have HD := Lib.hid hd
        have HB := Lib.hid hb
        obtain ⟨M, hM, hmx⟩ : ∃ M, decide (M < (n : Int)) = false ∧ (if most < 0 then (0 : Int) else most) = M := ⟨_, by rw [max_form]; exact decide_eq_false hm, rfl⟩
        have hk0 : ((k : Int) == 0) = false := beq_eq_false_iff_ne.2 (by omega)
        clear hd hb hr hm
        go_enter Tryd.func74, Tryd.ntmps74
        go_wp2_with fail
        refine (ok_any br st w H.out).mono ?_
        rintro e w' ⟨rfl, rfl⟩
        rw [HB.out]
        go_wp2_with fail
        refine (first_any _ (by unfold maxLen; simp [ByteArray.size]; omega) w).mono ?_
        rintro e w' ⟨rfl, rfl⟩
        simp only [HD.out, decN, decK]
        go_wp2
        go_ret
        rw [drop_cut]
        refine ⟨rfl, ?_, (On.refl _ _).setCell 0 _⟩
        have := H.out.set0 (st.s.drop k)
        rw [HB.out] at this
        exact this
  · have hr : rNum st most = (0, st) := by unfold rNum; rw [hb]; rfl
    rw [hr]
    have HB := Lib.hid hb
    clear hr hb
    go_enter Tryd.func74, Tryd.ntmps74
    go_wp2_with fail
    refine (ok_any br st w H.out).mono ?_
    rintro e w' ⟨rfl, rfl⟩
    rw [HB.out]
    go_wp2
    go_ret
    exact ⟨rfl, H.out, On.refl _ _⟩

end Go.Proofs.YtomlbfkkhhhfkaaDoor.Pk
