/-
  The walk of PackReads.
-/
import Derived.Test.YtbpdeehpeflbeaaSound
namespace Go.Proofs.Ytbpdeehpeflbeaa
open Go.RowKit

set_option maxHeartbeats 3200000 in
set_option maxRecDepth 100000 in
theorem reads_main (S : List UInt8) (ks : List Int) (A : Option Addr) (cap : Nat) (w : World) (hA : Arg w A (ints ks)) (hS : S.length ≤ 100) (hk20 : ks.length ≤ 20) :
    Calls Try.prog 5 #[.string ⟨S.toArray⟩, .slice A ks.length cap] w fun e w' => e = .returned (.bool true) ∧ Below w.heap.size w w' := by
  go_enter Try.func5, Try.ntmps5
  go_wp2_with fail
  refine (head_any w).mono ?_
  rintro e w1 ⟨rfl, hb1⟩
  have hs1 := hb1.size
  go_wp2_with fail
  refine (read_any S w1).mono ?_
  rintro e w2 ⟨rfl, rfl⟩
  have hb2 : Below w.heap.size w (w1.alloc (.cells #[.string ⟨S.toArray⟩, .bool false] 61)) := hb1.alloc hs1 _
  have hr2 : RAt w1.heap.size (w1.alloc (.cells #[.string ⟨S.toArray⟩, .bool false] 61)) ⟨S, false⟩ := RAt.new w1 S
  have HR2 := Lib.hid hr2
  clear hr2
  generalize w1.heap.size = br at *
  go_wp2
  go_loopw [6, 25] (fun t i wr => ∃ k at_ : Nat, i = .int .i64 k ∧ k ≤ ks.length ∧ t = .int .i64 at_ ∧ at_ ≤ S.length ∧ RAt br wr ⟨S.drop at_, false⟩ ∧ Below w.heap.size w wr) (fun _ i _ => ks.length - (intOf i).toNat)
  case atStart => exact ⟨0, 0, rfl, by omega, rfl, by omega, HR2.out, hb2⟩
  case round =>
    obtain ⟨k, at_, rfl, hk, rfl, hat, hr, hbk⟩ := hrel
    have HR := Lib.hid hr
    clear hr HR2 hb2 hb1
    by_cases hkl : k < ks.length
    · obtain ⟨z, HZ⟩ : ∃ z, Hid (z = ks[k]) := ⟨ks[k], Lib.hid rfl⟩
      obtain ⟨ad, rfl, hc⟩ : ∃ ad, A = some ad ∧ wr.cell? (ad.add k) = some (.int .i64 z) := by
        obtain ⟨ad, h1, h2⟩ := hA.at_ hbk k (by simpa [ints] using hkl)
        exact ⟨ad, h1, by rw [HZ.out]; simpa [ints] using h2⟩
      have C := readp_any br z 0 [] ⟨S.drop at_, false⟩ wr HR.out (by simp; omega)
      have hκ := kind_lt z
      generalize kindOf z = κ at *
      have hsd := rdP_sound κ hκ (S.drop at_)
      have hln := rdP_len κ ⟨S.drop at_, false⟩
      generalize rdP κ ⟨S.drop at_, false⟩ = r at *
      obtain ⟨N, T, st'⟩ := r
      simp only at C hsd hln
      have HC := Lib.hid C
      clear C hA HZ
      unfold partV at HC
      go_wp2_with fail
      refine HC.out.mono ?_
      rintro e w4 ⟨rfl, hr4, hk4⟩
      have hb4 : Below w.heap.size w w4 := hbk.trans (hk4.below hbk.size (by omega))
      have HR4 := Lib.hid hr4
      have hs4 := hk4.size
      have hbr4 := lt_of_block hr4
      clear hr4 hk4
      rcases hbad : st'.bad with _ | _
      · obtain ⟨e1, n1, n2, t1⟩ := hsd hbad
        have hst : st' = ⟨st'.s, false⟩ := St.eq_of hbad
        have HK : Hid (layAll [(⟨(κ : Int), N, T⟩ : Pt)] = layP κ N T) := by show _ = _; simp [layAll, layB, kindOf_small κ hκ]
        obtain ⟨X, HX⟩ : ∃ X, Hid (X = layP κ N T) := ⟨_, Lib.hid rfl⟩
        rw [← HX.out] at e1 HK
        have hxl : at_ + X.length ≤ S.length := by
          have := congrArg List.length e1
          simp only [List.length_drop, List.length_append] at this
          omega
        have hrest : st'.s = S.drop (at_ + X.length) := by
          rw [← List.drop_drop, e1, List.drop_left]
        have hex : (⟨S.toArray⟩ : ByteArray).extract at_ (at_ + X.length) = ⟨X.toArray⟩ := by
          rw [cut_bytes, e1, show at_ + X.length - at_ = X.length from by omega, List.take_left]
        have HR5 : Hid (RAt br w4 ⟨S.drop (at_ + X.length), false⟩) := by
          show RAt _ _ _
          rw [← hrest, ← hst]
          exact HR4.out
        have hsl : ∀ W : World, (Instr.slice 9 (.string ⟨S.toArray⟩) (some (.int .i64 (at_ : Int))) (some (.int .i64 ((at_ : Int) + (X.length : Int)))) none).run Try.prog W = .ok (.string ⟨X.toArray⟩) W := by
          intro W
          rw [run_slice_string W 9 ⟨S.toArray⟩ .i64 .i64 (at_ : Int) ((at_ : Int) + (X.length : Int)) Try.underlying9 (by omega) (by omega) (by simp [ByteArray.size]; omega)]
          rw [← hex]
          congr 3
        have hlt1 : decide (S.length - at_ < X.length) = false := decide_eq_false (by omega)
        have hlt2 : decide ((S.length : Int) - (at_ : Int) < (X.length : Int)) = false := decide_eq_false (by omega)
        clear hsd e1 hst hrest hbad HR4 hln HX HR HC
        go_wp2_with fail
        refine (ok_any br _ _ (HR5.out.alloc _)).mono ?_
        rintro e w' ⟨rfl, rfl⟩
        simp only [Bool.not_false]
        have hpa : PArg ((w4.alloc (.cells #[.int .i64 (κ : Int), .int .i64 N, .string ⟨T.toArray⟩] 30)).alloc (.cells #[.int .i64 (κ : Int), .int .i64 N, .string ⟨T.toArray⟩] 30)) (some ⟨w4.heap.size + 1, 0, none⟩) [⟨(κ : Int), N, T⟩] :=
          .inr ⟨_, rfl, by simp, fun i hi => by
            simp at hi
            subst hi
            have := cells3 (heap_alloc_new (w4.alloc (.cells #[.int .i64 (κ : Int), .int .i64 N, .string ⟨T.toArray⟩] 30)) (.cells #[.int .i64 (κ : Int), .int .i64 N, .string ⟨T.toArray⟩] 30))
            simp only [World.size_alloc] at this
            exact ⟨this.1, this.2.1, this.2.2.1⟩⟩
        have C2 := layp_any [⟨(κ : Int), N, T⟩] (some ⟨w4.heap.size + 1, 0, none⟩) 1 _ hpa (by simp; omega) (by simp) (by rw [HK.out]; omega)
        rw [HK.out] at C2
        have HC2 := Lib.hid C2
        have HBB : Hid (Below w.heap.size w ((w4.alloc (.cells #[.int .i64 (κ : Int), .int .i64 N, .string ⟨T.toArray⟩] 30)).alloc (.cells #[.int .i64 (κ : Int), .int .i64 N, .string ⟨T.toArray⟩] 30))) :=
          (hb4.alloc hb4.size _).alloc (by have := hb4.size; simp; omega) _
        clear C2 hpa
        go_wp2_with fail
        refine HC2.out.mono ?_
        rintro e w5 ⟨rfl, hb5⟩
        have HR6 : Hid (RAt br w5 ⟨S.drop (at_ + X.length), false⟩) := (hb5.block br (by simp; omega)).trans ((HR5.out.alloc _).alloc _)
        have HB5 := Lib.hid (HBB.out.trans (hb5.mono (by have := hb4.size; simp; omega)))
        clear hb5 HC2
        go_wp2
        go_roundw
        case rel => exact ⟨k + 1, at_ + X.length, by go_num, by omega, by go_num, hxl, HR6.out, HB5.out⟩
        case measure => simp [intOf]; omega
      · have HBD := Lib.hid hbad
        have hdn : rDone st' = 2 := by unfold rDone; rw [if_neg (by simp [hbad])]
        have HDN := Lib.hid hdn
        have hsl : st'.s.length ≤ 140737488355328 := by simp only [List.length_drop] at hln; omega
        have HBB : Hid (Below w.heap.size w (w4.alloc (.cells #[.int .i64 (κ : Int), .int .i64 N, .string ⟨T.toArray⟩] 30))) := hb4.alloc hb4.size _
        have HR5 : Hid (RAt br (w4.alloc (.cells #[.int .i64 (κ : Int), .int .i64 N, .string ⟨T.toArray⟩] 30)) st') := HR4.out.alloc _
        clear hsd hbad hdn HR4 hln HR HC
        go_wp2_with fail
        refine (ok_any br st' _ HR5.out).mono ?_
        rintro e w' ⟨rfl, rfl⟩
        rw [HBD.out]
        simp only [Bool.not_true]
        go_wp2_with fail
        refine (done_any br st' _ HR5.out).mono ?_
        rintro e w' ⟨rfl, rfl⟩
        rw [HDN.out]
        go_wp2_with fail
        refine (rnum_any br st' 9 _ HR5.out hsl).mono ?_
        rintro e w5 ⟨rfl, hr5, ho5⟩
        rw [bad_num st' HBD.out] at hr5 ⊢
        have HR6 := Lib.hid hr5
        clear hr5
        go_wp2_with fail
        refine (rtext_any br st' 9 w5 HR6.out hsl).mono ?_
        rintro e w6 ⟨rfl, hr6, ho6⟩
        rw [bad_text st' HBD.out] at hr6 ⊢
        have HR7 := Lib.hid hr6
        clear hr6
        go_wp2_with fail
        refine (rflag_any br st' w6 HR7.out hsl).mono ?_
        rintro e w7 ⟨rfl, hr7, ho7⟩
        rw [bad_flag st' HBD.out] at hr7 ⊢
        have HR8 := Lib.hid hr7
        clear hr7
        go_wp2_with fail
        refine (rint_any br st' w7 HR8.out hsl).mono ?_
        rintro e w8 ⟨rfl, hr8, ho8⟩
        rw [bad_int st' HBD.out] at hr8 ⊢
        have HR9 := Lib.hid hr8
        clear hr8
        go_wp2_with fail
        refine (rmany_any br st' 5 w8 HR9.out hsl).mono ?_
        rintro e w9 ⟨rfl, hr9, ho9⟩
        rw [bad_many st' HBD.out] at hr9 ⊢
        clear hr9
        go_wp2
        go_ret
        exact ⟨rfl, HBB.out.trans ((((ho5.trans ho6).trans ho7).trans (ho8.trans ho9)).below (by omega))⟩
    · clear hA
      by_cases he : at_ = S.length
      · have hd0 : rDone ⟨S.drop at_, false⟩ = 0 := by unfold rDone; rw [if_pos ⟨rfl, by simp only; rw [he, List.drop_length]⟩]
        have HD := Lib.hid hd0
        have hq : ((at_ : Int) == (S.length : Int)) = true := by rw [he]; simp
        clear hd0 he
        go_wp2_with fail
        refine (done_any br _ wr HR.out).mono ?_
        rintro e w' ⟨rfl, rfl⟩
        rw [HD.out]
        go_wp2
        go_ret
        exact ⟨by simp_all, hbk⟩
      · have hd0 : rDone ⟨S.drop at_, false⟩ = 2 := by unfold rDone; rw [if_neg (by simp only [true_and]; intro h; rw [List.drop_eq_nil_iff] at h; omega)]
        have HD := Lib.hid hd0
        have hq : ((at_ : Int) == (S.length : Int)) = false := beq_eq_false_iff_ne.2 (by omega)
        clear hd0 he
        go_wp2_with fail
        refine (done_any br _ wr HR.out).mono ?_
        rintro e w' ⟨rfl, rfl⟩
        rw [HD.out]
        go_wp2
        go_ret
        exact ⟨by simp_all, hbk⟩

end Go.Proofs.Ytbpdeehpeflbeaa
