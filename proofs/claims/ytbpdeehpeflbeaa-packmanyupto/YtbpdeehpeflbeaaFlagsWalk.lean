/-
  The walk of PackFlags.
-/
import Derived.Test.YtbpdeehpeflbeaaBack
namespace Go.Proofs.Ytbpdeehpeflbeaa
open Go.RowKit

/-- a slice that came in: it holds these values, one cell each -/
def Arg (w : World) (A : Option Addr) (xs : List Value) : Prop :=
  xs = [] ∨ ∃ ad : Addr, A = some ad ∧ ad.block < w.heap.size ∧ ∀ i (h : i < xs.length), w.cell? (ad.add i) = some xs[i]

theorem Arg.vals {base bw : Nat} {w w' : World} {A : Option Addr} {xs : List Value} (h : Arg w A xs) (hb : Below w.heap.size w w') (h1 : w.heap.size ≤ base) (h2 : w.heap.size ≤ bw) : Vals base bw w' A xs := by
  rcases h with h | ⟨ad, e, hlt, hc⟩
  · exact .inl h
  · exact .inr ⟨ad, e, .inl (by omega), by omega, fun i hi => (hb.cell (by rw [add_block]; exact hlt)).trans (hc i hi)⟩
theorem Arg.at_ {w w' : World} {A : Option Addr} {xs : List Value} (h : Arg w A xs) (hb : Below w.heap.size w w') (i : Nat) (hi : i < xs.length) : ∃ ad, A = some ad ∧ w'.cell? (ad.add i) = some xs[i] := by
  rcases h with h | ⟨ad, e, hlt, hc⟩
  · subst h; simp at hi
  · exact ⟨ad, e, (hb.cell (by rw [add_block]; exact hlt)).trans (hc i hi)⟩

theorem rFlag_flag (b : Bool) (r : List UInt8) : rFlag ⟨flagB b :: r, false⟩ = (b, ⟨r, false⟩) := by
  unfold rFlag
  cases b
  · have := rNum_enc 0 (by omega) 1 (by omega) r
    rw [show flagB false :: r = enc 0 ++ r from rfl, this]
    rfl
  · have := rNum_enc 1 (by omega) 1 (by omega) r
    rw [show flagB true :: r = enc 1 ++ r from rfl, this]
    rfl
theorem rFlag_yes (c : UInt8) (h : c.toNat < 2) : rFlag ⟨[c], false⟩ = (decide (c.toNat = 1), ⟨[], false⟩) := by
  unfold rFlag rNum
  simp only [Bool.false_eq_true, if_false, dec, decF, if_pos (show c.toNat < 128 by omega)]
  rw [if_neg (by omega)]
  rfl
theorem rFlag_no (c : UInt8) (h : ¬ c.toNat < 2) : rFlag ⟨[c], false⟩ = (false, ⟨[], true⟩) := by
  unfold rFlag rNum
  by_cases h2 : c.toNat < 128
  · simp only [Bool.false_eq_true, if_false, dec, decF, if_pos h2]
    rw [if_pos (by omega)]
    rfl
  · simp only [Bool.false_eq_true, if_false, dec, decF, if_neg h2]
    rfl

theorem bytes_append (a b : List UInt8) : (⟨a.toArray⟩ : ByteArray) ++ ⟨b.toArray⟩ = ⟨(a ++ b).toArray⟩ := by
  apply ByteArray.ext
  simp

set_option maxHeartbeats 1600000 in
set_option maxRecDepth 100000 in
theorem packFlags_walk (fs : List Bool) (A : Option Addr) (cap : Nat) (c : UInt8) (w : World) (hA : Arg w A (bools fs)) (hl : fs.length < 9223372036854775808) :
    Calls Try.prog 8 #[.slice A fs.length cap, .int .u8 (c.toNat : Int)] w fun e w' => e = .returned (.bool true) ∧ Below w.heap.size w w' := by
  by_cases h60 : 60 < fs.length
  · go_enter Try.func8, Try.ntmps8
    go_wp2_with fail
    refine (head_any w).mono ?_
    rintro e w1 ⟨rfl, hb1⟩
    go_wp2
    go_ret
    exact ⟨rfl, hb1⟩
  · go_enter Try.func8, Try.ntmps8
    go_wp2_with fail
    refine (head_any w).mono ?_
    rintro e w1 ⟨rfl, hb1⟩
    have hs1 := hb1.size
    have hba : Below w.heap.size w (w1.alloc (.cells #[.slice none 0 0] 28)) := hb1.alloc hs1 _
    go_wp2_with fail
    refine (flag_any (w1.heap.size + 1) w1.heap.size fs A cap [] (w1.alloc (.cells #[.slice none 0 0] 28)) (WAt.new _ w1) (by omega) (by simp) (hA.vals hba (by omega) hs1) (by simp; omega)).mono ?_
    rintro e w2 ⟨rfl, hw2, hk2⟩
    rw [List.nil_append] at hw2
    have hb2 : Below w.heap.size w w2 := hba.trans (hk2.below (by omega) hs1)
    clear hba
    go_wp2_with fail
    refine (string_any _ _ _ w2 hw2).mono ?_
    rintro e w' ⟨rfl, rfl⟩
    have hcv : (convert 26 9 (.slice (some ⟨w2.heap.size, 0, none⟩) 1 1)).run Try.prog (w2.alloc (.cells #[.int .u8 (c.toNat : Int)] 5)) = .ok (.string ⟨[c].toArray⟩) (w2.alloc (.cells #[.int .u8 (c.toNat : Int)] 5)) := by
      have := run_string (w2.alloc (.cells #[.int .u8 (c.toNat : Int)] 5)) w2.heap.size (.slice (some ⟨w2.heap.size, 0, none⟩) 1 1) [c] (World.ownsRow_lit w2 #[.int .u8 (c.toNat : Int)] 1 (Nat.le_refl _) (by simp [maxLen]) rfl)
      exact this
    have hap := bytes_append (fs.map flagB) [c]
    have HA := Lib.hid hap
    clear hw2 hk2 hap
    go_wp2_with fail
    clear hcv
    rw [show (⟨(fs.map flagB).toArray⟩ : ByteArray) ++ ⟨#[c]⟩ = ⟨(fs.map flagB ++ [c]).toArray⟩ from HA.out]
    refine (read_any (fs.map flagB ++ [c]) _).mono ?_
    rintro e w4 ⟨rfl, rfl⟩
    obtain ⟨W, HW⟩ : ∃ W, Hid (W = (w2.alloc (.cells #[.int .u8 (c.toNat : Int)] 5)).alloc (.cells #[.string ⟨(fs.map flagB ++ [c]).toArray⟩, .bool false] 61)) := ⟨_, Lib.hid rfl⟩
    have hR : RAt (w2.alloc (.cells #[.int .u8 (c.toNat : Int)] 5)).heap.size W ⟨fs.map flagB ++ [c], false⟩ := by rw [HW.out]; exact RAt.new _ _
    have hbW : Below w.heap.size w W := by
      rw [HW.out]
      have := hb2.size
      exact (hb2.alloc this _).alloc (by simp; omega) _
    rw [← HW.out]
    have hbr : w.heap.size ≤ (w2.alloc (.cells #[.int .u8 (c.toNat : Int)] 5)).heap.size := by have := hb2.size; simp; omega
    generalize (w2.alloc (.cells #[.int .u8 (c.toNat : Int)] 5)).heap.size = br at *
    have HR := Lib.hid hR
    clear HW hR hb2 hb1
    go_wp2
    go_loopw [35] (fun i wr => ∃ k : Nat, i = .int .i64 k ∧ k ≤ fs.length ∧ RAt br wr ⟨(fs.drop k).map flagB ++ [c], false⟩ ∧ Below w.heap.size w wr) (fun i _ => fs.length - (intOf i).toNat)
    case atStart => exact ⟨0, rfl, by omega, HR.out, hbW⟩
    case round =>
      obtain ⟨k, rfl, hk, hr, hbk⟩ := hrel
      have HRk := Lib.hid hr
      clear hr
      by_cases hkl : k < fs.length
      · obtain ⟨f, HF⟩ : ∃ f, Hid (f = fs[k]) := ⟨fs[k], Lib.hid rfl⟩
        obtain ⟨ad, rfl, hc⟩ : ∃ ad, A = some ad ∧ wr.cell? (ad.add k) = some (.bool f) := by
          obtain ⟨ad, h1, h2⟩ := hA.at_ hbk k (by simpa [bools] using hkl)
          exact ⟨ad, h1, by rw [HF.out]; simpa [bools] using h2⟩
        have HD : Hid ((fs.drop k).map flagB ++ [c] = flagB f :: ((fs.drop (k + 1)).map flagB ++ [c])) := by
          show _ = _
          rw [List.drop_eq_getElem_cons hkl, HF.out]
          rfl
        have HC := Lib.hid (rflag_any br ⟨(fs.drop k).map flagB ++ [c], false⟩ wr HRk.out (by simp; omega))
        rw [HD.out, rFlag_flag] at HC
        clear hA HR
        go_wp2_with fail
        refine HC.out.mono ?_
        rintro e w6 ⟨rfl, hr6, ho6⟩
        have hff : (f != f) = false := by simp
        go_wp2
        go_roundw
        case rel => exact ⟨k + 1, by go_num, by omega, hr6, hbk.trans (ho6.below hbr)⟩
        case measure => simp [intOf]; omega
      · have HC := Lib.hid (rflag_any br ⟨(fs.drop k).map flagB ++ [c], false⟩ wr HRk.out (by simp; omega))
        rw [List.drop_of_length_le (by omega), List.map_nil, List.nil_append] at HC
        clear hA HR
        by_cases hc2 : c.toNat < 2
        · rw [rFlag_yes c hc2] at HC
          have hc1 : (decide (c.toNat = 1)) = ((c.toNat : Int) == 1) := by
            by_cases h1 : c.toNat = 1
            · rw [h1]; rfl
            · rw [decide_eq_false h1, eq_comm, beq_eq_false_iff_ne]; omega
          rw [hc1] at HC
          clear hc1
          go_wp2_with fail
          refine HC.out.mono ?_
          rintro e w6 ⟨rfl, hr6, ho6⟩
          have H6 := Lib.hid hr6
          clear hr6
          go_wp2_with fail
          refine (ok_any br _ w6 H6.out).mono ?_
          rintro e w' ⟨rfl, rfl⟩
          simp only [Bool.not_false]
          go_wp2
          go_ret
          exact ⟨by simp, hbk.trans (ho6.below hbr)⟩
        · rw [rFlag_no c hc2] at HC
          have hc1 : ((c.toNat : Int) == 1) = false := beq_eq_false_iff_ne.2 (by omega)
          have hc3 : decide (c.toNat < 2) = false := decide_eq_false (by omega)
          go_wp2_with fail
          refine HC.out.mono ?_
          rintro e w6 ⟨rfl, hr6, ho6⟩
          have H6 := Lib.hid hr6
          clear hr6
          go_wp2_with fail
          refine (ok_any br _ w6 H6.out).mono ?_
          rintro e w' ⟨rfl, rfl⟩
          simp only [Bool.not_true]
          go_wp2
          go_ret
          exact ⟨by simp; omega, hbk.trans (ho6.below hbr)⟩

end Go.Proofs.Ytbpdeehpeflbeaa
