/-
  The Reader's Flag, Many, Text, Int, Done; those of a nil Reader; signed.
-/
import Derived.Test.YtomlbfkkhhhfkaaDoorPkRnum
namespace Go.Proofs.YtomlbfkkhhhfkaaDoor.Pk
open Go.RowKit

def rFlag (st : St) : Bool × St := (decide ((rNum st 1).1 = 1), (rNum st 1).2)
def rMany (st : St) (most : Int) : Nat × St :=
  if (rNum st most).2.bad = false ∧ (rNum st most).2.s.length < (rNum st most).1 then (0, ⟨[], true⟩) else rNum st most
def rText (st : St) (most : Int) : List UInt8 × St :=
  if (rMany st most).2.bad then ([], (rMany st most).2) else
    ((rMany st most).2.s.take (rMany st most).1, ⟨(rMany st most).2.s.drop (rMany st most).1, false⟩)

theorem rNum_len (st : St) (most : Int) : (rNum st most).2.s.length ≤ st.s.length := by
  unfold rNum
  split
  · simp
  · split
    · simp
    · split <;> simp
theorem rNum_lt (st : St) (most : Int) : (rNum st most).1 < 9223372036854775808 := by
  unfold rNum
  split
  · simp
  · split
    · simp
    · rename_i n k hd
      split
      · simp
      · exact (dec_sound _ _ _ hd).1
theorem rNum_bad (st : St) (most : Int) (h : (rNum st most).2.bad = true) : (rNum st most).1 = 0 := by
  unfold rNum at h ⊢
  split
  · rfl
  · rename_i hb
    rw [if_neg hb] at h
    split
    · rfl
    · rename_i n k hd
      rw [hd] at h
      simp only at h
      split
      · rfl
      · rename_i hm
        rw [if_neg hm] at h
        simp at h
theorem rMany_len (st : St) (most : Int) : (rMany st most).2.s.length ≤ st.s.length := by
  unfold rMany
  split
  · simp
  · exact rNum_len _ _

set_option maxHeartbeats 400000 in
theorem rflag_any (br : Nat) (st : St) (w : World) (h : RAt br w st) (hs : st.s.length ≤ 140737488355328) :
    Calls Tryd.prog 99 #[.pointer (some ⟨br, 0, none⟩)] w fun e w' => e = .returned (.bool (rFlag st).1) ∧ RAt br w' (rFlag st).2 ∧ On br w w' := by
  have C := Lib.hid (rnum_any br st 1 w h hs)
  unfold rFlag
  generalize rNum st 1 = r at *
  obtain ⟨n, st1⟩ := r
  clear h
  simp only at C ⊢
  have hn : (decide (n = 1)) = ((n : Int) == 1) := by
    by_cases h1 : n = 1
    · subst h1; rfl
    · rw [decide_eq_false h1, eq_comm, beq_eq_false_iff_ne]; omega
  rw [hn]
  clear hn
  go_enter Tryd.func99, Tryd.ntmps99
  go_wp2_with fail
  refine C.out.mono ?_
  rintro e w' ⟨rfl, hw, ho⟩
  go_wp2
  go_ret
  exact ⟨rfl, hw, ho⟩

set_option maxHeartbeats 400000 in
theorem rmany_any (br : Nat) (st : St) (most : Int) (w : World) (h : RAt br w st) (hs : st.s.length ≤ 140737488355328) :
    Calls Tryd.prog 43 #[.pointer (some ⟨br, 0, none⟩), .int .i64 most] w fun e w' => e = .returned (.int .i64 ((rMany st most).1 : Nat)) ∧ RAt br w' (rMany st most).2 ∧ On br w w' := by
  have C := Lib.hid (rnum_any br st most w h hs)
  unfold rMany
  have hlt := rNum_lt st most
  have hle := rNum_len st most
  have hbd := rNum_bad st most
  generalize rNum st most = r at *
  obtain ⟨n, s1, b1⟩ := r
  simp only at hlt hle hbd C ⊢
  clear h
  cases b1
  · clear hbd
    by_cases hn : s1.length < n
    · rw [if_pos ⟨rfl, hn⟩]
      go_enter Tryd.func43, Tryd.ntmps43
      go_wp2_with fail
      refine C.out.mono ?_
      rintro e w1 ⟨rfl, hw, ho⟩
      have H1 := Lib.hid hw
      have h0 := hw.c0
      clear hw
      go_wp2_with fail
      refine (ok_any br _ w1 H1.out).mono ?_
      rintro e w' ⟨rfl, rfl⟩
      simp only [Bool.not_false]
      go_wp2_with fail
      refine (fail_any br _ w1 H1.out).mono ?_
      rintro e w' ⟨rfl, hw', hon⟩
      go_wp2
      go_ret
      exact ⟨rfl, hw', ho.trans hon⟩
    · rw [if_neg (by simp; omega)]
      have hn' : decide (s1.length < n) = false := decide_eq_false (by omega)
      go_enter Tryd.func43, Tryd.ntmps43
      go_wp2_with fail
      refine C.out.mono ?_
      rintro e w1 ⟨rfl, hw, ho⟩
      have H1 := Lib.hid hw
      have h0 := hw.c0
      clear hw
      go_wp2_with fail
      refine (ok_any br _ w1 H1.out).mono ?_
      rintro e w' ⟨rfl, rfl⟩
      simp only [Bool.not_false]
      go_wp2
      go_ret
      exact ⟨rfl, H1.out, ho⟩
  · have := hbd rfl
    subst this
    rw [if_neg (by simp)]
    clear hbd
    go_enter Tryd.func43, Tryd.ntmps43
    go_wp2_with fail
    refine C.out.mono ?_
    rintro e w1 ⟨rfl, hw, ho⟩
    have H1 := Lib.hid hw
    clear hw
    go_wp2_with fail
    refine (ok_any br _ w1 H1.out).mono ?_
    rintro e w' ⟨rfl, rfl⟩
    simp only [Bool.not_true]
    go_wp2
    go_ret
    exact ⟨rfl, H1.out, ho⟩

set_option maxHeartbeats 400000 in
theorem rtext_any (br : Nat) (st : St) (most : Int) (w : World) (h : RAt br w st) (hs : st.s.length ≤ 140737488355328) :
    Calls Tryd.prog 44 #[.pointer (some ⟨br, 0, none⟩), .int .i64 most] w fun e w' => e = .returned (.string ⟨(rText st most).1.toArray⟩) ∧ RAt br w' (rText st most).2 ∧ On br w w' := by
  have C := Lib.hid (rmany_any br st most w h hs)
  unfold rText
  have hle := rMany_len st most
  have hfit : (rMany st most).2.bad = false → (rMany st most).1 ≤ (rMany st most).2.s.length := by
    unfold rMany
    split
    · simp
    · intro hb
      rename_i hn
      rcases Nat.lt_or_ge (rNum st most).2.s.length (rNum st most).1 with h' | h'
      · exact absurd ⟨hb, h'⟩ hn
      · exact h'
  generalize rMany st most = r at *
  obtain ⟨n, s1, b1⟩ := r
  simp only at hle C hfit ⊢
  clear h
  cases b1
  · have hn := hfit rfl
    clear hfit
    simp only [Bool.false_eq_true, if_false]
    go_enter Tryd.func44, Tryd.ntmps44
    go_wp2_with fail
    refine C.out.mono ?_
    rintro e w1 ⟨rfl, hw, ho⟩
    have H1 := Lib.hid hw
    have h0 := hw.c0
    have f0 := hw.f0 0
    clear hw
    go_wp2_with fail
    refine (ok_any br _ w1 H1.out).mono ?_
    rintro e w' ⟨rfl, rfl⟩
    simp only [Bool.not_false]
    go_wp2
    go_ret
    rw [drop_cut, cut_bytes]
    exact ⟨rfl, H1.out.set0 (s1.drop n), ho.trans ((On.refl _ _).setCell 0 _)⟩
  · clear hfit
    simp only [if_true]
    go_enter Tryd.func44, Tryd.ntmps44
    go_wp2_with fail
    refine C.out.mono ?_
    rintro e w1 ⟨rfl, hw, ho⟩
    have H1 := Lib.hid hw
    clear hw
    go_wp2_with fail
    refine (ok_any br _ w1 H1.out).mono ?_
    rintro e w' ⟨rfl, rfl⟩
    simp only [Bool.not_true]
    go_wp2
    go_ret
    exact ⟨rfl, H1.out, ho⟩

def rDone (st : St) : Int := if st.bad = false ∧ st.s = [] then 0 else 2

set_option maxHeartbeats 400000 in
theorem done_any (br : Nat) (st : St) (w : World) (h : RAt br w st) :
    Calls Tryd.prog 45 #[.pointer (some ⟨br, 0, none⟩)] w fun e w' => e = .returned (.int .i64 (rDone st)) ∧ w = w' := by
  have h0 := h.c0
  have H := Lib.hid h
  clear h
  obtain ⟨s, b⟩ := st
  unfold rDone
  cases b
  · cases s with
    | nil =>
      rw [if_pos ⟨rfl, rfl⟩]
      go_enter Tryd.func45, Tryd.ntmps45
      go_wp2_with fail
      refine (ok_any br _ w H.out).mono ?_
      rintro e w' ⟨rfl, rfl⟩
      simp only [Bool.not_false]
      go_wp2
      go_ret
      exact ⟨rfl, rfl⟩
    | cons c s =>
      rw [if_neg (by simp)]
      go_enter Tryd.func45, Tryd.ntmps45
      go_wp2_with fail
      refine (ok_any br _ w H.out).mono ?_
      rintro e w' ⟨rfl, rfl⟩
      simp only [Bool.not_false]
      go_wp2
      go_ret
      exact ⟨rfl, rfl⟩
  · rw [if_neg (by simp)]
    go_enter Tryd.func45, Tryd.ntmps45
    go_wp2_with fail
    refine (ok_any br _ w H.out).mono ?_
    rintro e w' ⟨rfl, rfl⟩
    simp only [Bool.not_true]
    go_wp2
    go_ret
    exact ⟨rfl, rfl⟩

theorem rnum_nil (most : Int) (w : World) : Calls Tryd.prog 74 #[.pointer none, .int .i64 most] w fun e w' => e = .returned (.int .i64 0) ∧ w = w' := by
  go_enter Tryd.func74, Tryd.ntmps74
  go_wp2_with (go_at_call 75; refine (ok_nil _).mono ?_; rintro e w' ⟨rfl, rfl⟩)
  go_ret
  exact ⟨rfl, rfl⟩
theorem rflag_nil (w : World) : Calls Tryd.prog 99 #[.pointer none] w fun e w' => e = .returned (.bool false) ∧ w = w' := by
  go_enter Tryd.func99, Tryd.ntmps99
  go_wp2_with (go_at_call 74; refine (rnum_nil _ _).mono ?_; rintro e w' ⟨rfl, rfl⟩)
  go_ret
  exact ⟨rfl, rfl⟩
theorem rmany_nil (most : Int) (w : World) : Calls Tryd.prog 43 #[.pointer none, .int .i64 most] w fun e w' => e = .returned (.int .i64 0) ∧ w = w' := by
  go_enter Tryd.func43, Tryd.ntmps43
  go_wp2_with (first | (go_at_call 74; refine (rnum_nil _ _).mono ?_; rintro e w' ⟨rfl, rfl⟩) | (go_at_call 75; refine (ok_nil _).mono ?_; rintro e w' ⟨rfl, rfl⟩))
  go_ret
  exact ⟨rfl, rfl⟩
theorem rtext_nil (most : Int) (w : World) : Calls Tryd.prog 44 #[.pointer none, .int .i64 most] w fun e w' => e = .returned (.string ⟨#[]⟩) ∧ w = w' := by
  go_enter Tryd.func44, Tryd.ntmps44
  go_wp2_with (first | (go_at_call 43; refine (rmany_nil _ _).mono ?_; rintro e w' ⟨rfl, rfl⟩) | (go_at_call 75; refine (ok_nil _).mono ?_; rintro e w' ⟨rfl, rfl⟩))
  go_ret
  exact ⟨rfl, rfl⟩
theorem done_nil (w : World) : Calls Tryd.prog 45 #[.pointer none] w fun e w' => e = .returned (.int .i64 2) ∧ w = w' := by
  go_enter Tryd.func45, Tryd.ntmps45
  go_wp2_with (go_at_call 75; refine (ok_nil _).mono ?_; rintro e w' ⟨rfl, rfl⟩)
  go_ret
  exact ⟨rfl, rfl⟩

end Go.Proofs.YtomlbfkkhhhfkaaDoor.Pk
