/-
  The walk of PackLays: few, and both loops.
-/
import Derived.Test.YtbpdeehpeflbeaaSound
namespace Go.Proofs.Ytbpdeehpeflbeaa
open Go.RowKit

/-- few parts, with short texts -/
def fewB (ps : List Pt) : Bool := ps.all (fun p => decide (p.s.length ≤ 300)) && decide (ps.length ≤ 20)

set_option maxHeartbeats 800000 in
set_option maxRecDepth 100000 in
theorem few_any (ps : List Pt) (A : Option Addr) (c : Nat) (w : World) (hA : PArg w A ps) (hl : ps.length ≤ 9223372036854775807) :
    Calls Try.prog 11 #[.slice A ps.length c] w fun e w' => e = .returned (.bool (fewB ps)) ∧ Below w.heap.size w w' := by
  go_enter Try.func11, Try.ntmps11
  go_wp2
  go_loopw [7] (fun i wr => ∃ k : Nat, i = .int .i64 k ∧ k ≤ ps.length ∧ ((ps.take k).all (fun p => decide (p.s.length ≤ 300)) = true) ∧ Below w.heap.size w wr) (fun i _ => ps.length - (intOf i).toNat)
  case atStart => exact ⟨0, rfl, by omega, by simp, Below.refl _ _⟩
  case round =>
    obtain ⟨k, rfl, hk, hall, hbk⟩ := hrel
    have HALL := Lib.hid hall
    clear hall
    by_cases hkl : k < ps.length
    · obtain ⟨kk, n, s, HP⟩ : ∃ kk n s, Hid (ps[k] = ⟨kk, n, s⟩) := ⟨_, _, _, Lib.hid rfl⟩
      obtain ⟨ad, rfl, c0, c1, c2⟩ := hA.at_ hbk k hkl
      rw [HP.out] at c0 c1 c2
      simp only at c0 c1 c2
      have HBA := Lib.hid (hbk.alloc hbk.size (.cells #[.int .i64 kk, .int .i64 n, .string ⟨s.toArray⟩] 30))
      clear hA
      by_cases hs : 300 < s.length
      · have HF : Hid (fewB ps = false) := by
          show _ = _
          unfold fewB
          rw [Bool.and_eq_false_iff]
          left
          rw [List.all_eq_false]
          exact ⟨ps[k], List.getElem_mem hkl, by rw [HP.out]; simp; omega⟩
        go_wp2
        go_ret
        rw [HF.out]
        exact ⟨rfl, HBA.out⟩
      · have HA2 : Hid ((ps.take (k + 1)).all (fun p => decide (p.s.length ≤ 300)) = true) := by
          show _ = _
          rw [List.take_succ_eq_append_getElem hkl, List.all_append, HALL.out, HP.out]
          simp
          omega
        go_wp2
        go_roundw
        case rel => exact ⟨k + 1, by go_num, by omega, HA2.out, HBA.out⟩
        case measure => simp [intOf]; omega
    · have HF : Hid (fewB ps = decide (ps.length ≤ 20)) := by
        show _ = _
        have := HALL.out
        rw [List.take_of_length_le (by omega)] at this
        unfold fewB
        rw [this, Bool.true_and]
      go_wp2
      go_ret
      rw [HF.out]
      exact ⟨by congr 2; simp; omega, hbk⟩

theorem PArg.keep {w w' : World} {A : Option Addr} {ps : List Pt} (h : PArg w A ps) (hb : Below w.heap.size w w') : PArg w' A ps := by
  rcases h with h | ⟨ad, e, hlt, hc⟩
  · exact .inl h
  · exact .inr ⟨ad, e, Nat.lt_of_lt_of_le hlt hb.size, fun i hi => ⟨(hb.cell (by rw [add_block]; exact hlt)).trans (hc i hi).1, (hb.cell (by show (ad.add (i * 3)).block < _; rw [add_block]; exact hlt)).trans (hc i hi).2.1, (hb.cell (by show (ad.add (i * 3)).block < _; rw [add_block]; exact hlt)).trans (hc i hi).2.2⟩⟩

theorem layAll_drop (ps : List Pt) (k : Nat) (h : k < ps.length) : layAll (ps.drop k) = layB ps[k] ++ layAll (ps.drop (k + 1)) := by
  unfold layAll; rw [List.drop_eq_getElem_cons h, List.flatMap_cons]

theorem encAll_of1 (n : Int) (s : List UInt8) : encAll [n] = layP 0 n s := by simp [encAll, layP]
theorem textAll_of1 (n : Int) (s : List UInt8) : textAll [s] = layP 1 n s := by simp [textAll, layP]
theorem flagAll_of1 (n : Int) (s : List UInt8) : [((bitOf n : Nat) : Int) == 1].map flagB = layP 2 n s := by
  have := bit_lt n
  unfold layP
  rcases (show bitOf n = 0 ∨ bitOf n = 1 by omega) with h | h <;> rw [h] <;> rfl
theorem intAll_of1 (n : Int) (s : List UInt8) : intAll [n] = layP 3 n s := by simp [intAll, layP]

/-- what was laid of the first k parts is in the Writer -/
def Laid (w : World) (base bw : Nat) (ps : List Pt) (k : Nat) (wr : World) : Prop := WAt base bw wr (layAll (ps.take k)) ∧ Below w.heap.size w wr ∧ base ≤ wr.heap.size

theorem layP_len (κ : Nat) (hκ : κ < 4) (n : Int) (h1 : -9223372036854775808 ≤ n) (h2 : n ≤ 9223372036854775807) (s : List UInt8) (hs : s.length ≤ 300) : (layP κ n s).length ≤ 309 := by
  rcases (show κ = 0 ∨ κ = 1 ∨ κ = 2 ∨ κ = 3 by omega) with rfl | rfl | rfl | rfl
  · have := encI_len n h2; simp only [layP]; omega
  · have := enc_len9 s.length (by omega); simp only [layP, textB, List.length_append]; omega
  · have := enc_len9 (bitOf n) (by have := bit_lt n; omega); simp only [layP]; omega
  · have := intB_len n h1 h2; simp only [layP]; omega
theorem layAll_len (ps : List Pt) (hz : ∀ p ∈ ps, -9223372036854775808 ≤ p.n ∧ p.n ≤ 9223372036854775807) (hs : ∀ p ∈ ps, p.s.length ≤ 300) : (layAll ps).length ≤ 309 * ps.length := by
  induction ps with
  | nil => simp [layAll]
  | cons p ps ih =>
    have h1 : (layB p).length ≤ 309 := layP_len (kindOf p.k) (kind_lt _) p.n (hz p (by simp)).1 (hz p (by simp)).2 p.s (hs p (by simp))
    have h2 := ih (fun q hq => hz q (by simp [hq])) (fun q hq => hs q (by simp [hq]))
    simp only [layAll, List.flatMap_cons, List.length_append, List.length_cons] at *
    omega

/-- what is read back of a part that was laid -/
def backN (κ : Nat) (n : Int) : Int := match κ with | 0 => max n 0 | 1 => 0 | 2 => (bitOf n : Int) | _ => n
def backS (κ : Nat) (s : List UInt8) : List UInt8 := match κ with | 1 => s | _ => []
theorem rdP_lay (κ : Nat) (hκ : κ < 4) (n : Int) (h1 : -9223372036854775808 ≤ n) (h2 : n ≤ 9223372036854775807) (s : List UInt8) (hs : s.length ≤ 300) (r : List UInt8) :
    rdP κ ⟨layP κ n s ++ r, false⟩ = (backN κ n, backS κ s, ⟨r, false⟩) := by
  rcases (show κ = 0 ∨ κ = 1 ∨ κ = 2 ∨ κ = 3 by omega) with rfl | rfl | rfl | rfl
  · simp only [rdP, layP, backN, backS, encI]
    rw [rNum_enc _ (by omega) _ (by omega)]
    simp only [Prod.mk.injEq, and_true]
    omega
  · simp only [rdP, layP, backN, backS, textB]
    have e : rNum ⟨enc s.length ++ s ++ r, false⟩ 1000 = (s.length, ⟨s ++ r, false⟩) := by
      rw [List.append_assoc]; exact rNum_enc _ (by omega) _ (by omega) _
    have e2 : rMany ⟨enc s.length ++ s ++ r, false⟩ 1000 = (s.length, ⟨s ++ r, false⟩) := by
      unfold rMany; rw [e, if_neg (by simp)]
    unfold rText
    rw [e2]
    simp
  · have hb := bit_lt n
    simp only [rdP, layP, backN, backS]
    unfold rFlag
    rw [rNum_enc _ (by omega) _ (by omega)]
    rcases (show bitOf n = 0 ∨ bitOf n = 1 by omega) with h | h <;> rw [h] <;> simp
  · simp only [rdP, layP, backN, backS]
    rw [rInt_intB n h1 h2]

set_option maxHeartbeats 3200000 in
set_option maxRecDepth 100000 in
theorem lays_main (ps : List Pt) (A : Option Addr) (c : Nat) (w : World) (hA : PArg w A ps) (hz : ∀ p ∈ ps, -9223372036854775808 ≤ p.n ∧ p.n ≤ 9223372036854775807) (hs : ∀ p ∈ ps, p.s.length ≤ 300) (hl : ps.length ≤ 20) :
    Calls Try.prog 3 #[.slice A ps.length c] w fun e w' => e = .returned (.bool true) ∧ Below w.heap.size w w' := by
  have hall : (layAll ps).length ≤ 309 * ps.length := layAll_len ps hz hs
  have hfew : fewB ps = true := by
    unfold fewB
    rw [Bool.and_eq_true]
    exact ⟨List.all_eq_true.2 fun p hp => decide_eq_true (hs p hp), decide_eq_true hl⟩
  have HF := Lib.hid hfew
  clear hfew
  go_enter Try.func3, Try.ntmps3
  go_wp2_with fail
  refine (head_any w).mono ?_
  rintro e w1 ⟨rfl, hb1⟩
  go_wp2_with fail
  have hA1 : PArg w1 A ps := hA.keep hb1
  refine (few_any ps A c w1 hA1 (by omega)).mono ?_
  rintro e w2 ⟨rfl, hb2⟩
  rw [HF.out]
  have hb12 : Below w.heap.size w w2 := hb1.trans (hb2.mono hb1.size)
  clear hA1 hb1 hb2
  have HL0 : Hid (Laid w (w2.heap.size + 1) w2.heap.size ps 0 (w2.alloc (.cells #[.slice none 0 0] 28))) :=
    ⟨by simpa [layAll] using WAt.new (w2.heap.size + 1) w2, hb12.alloc hb12.size _, by simp⟩
  have hbz := hb12.size
  go_wp2
  go_loopw [21] (fun i wr => ∃ k : Nat, i = .int .i64 k ∧ k ≤ ps.length ∧ Laid w (w2.heap.size + 1) w2.heap.size ps k wr) (fun i _ => ps.length - (intOf i).toNat)
  case atStart => exact ⟨0, rfl, by omega, HL0.out⟩
  case round =>
    obtain ⟨k, rfl, hk, hlaid⟩ := hrel
    obtain ⟨hw, hbk, hbs⟩ := hlaid
    have HW := Lib.hid hw
    clear hw HL0
    by_cases hkl : k < ps.length
    · obtain ⟨kk, n, s, HP⟩ : ∃ kk n s, Hid (ps[k] = ⟨kk, n, s⟩) := ⟨_, _, _, Lib.hid rfl⟩
      have hzk := hz ps[k] (List.getElem_mem hkl)
      have hsk := hs ps[k] (List.getElem_mem hkl)
      obtain ⟨ad, rfl, c0, c1, c2⟩ := hA.at_ hbk k hkl
      have HS := layAll_snoc ps k hkl
      rw [HP.out] at hzk hsk c0 c1 c2
      simp only at hzk hsk c0 c1 c2
      have hka := kind_and kk
      have hkl4 := kind_lt kk
      unfold layB at HS
      rw [HP.out] at HS
      simp only at HS
      have HS := Lib.hid HS
      have htk : (layAll (ps.take k)).length ≤ 6180 := by have := layAll_take ps k; omega
      clear hA HP HF
      generalize kindOf kk = κ at *
      generalize layAll (ps.take k) = T at *
      have HBB := Lib.hid (fun o => (hbk.alloc hbk.size (.cells #[.int .i64 kk, .int .i64 n, .string ⟨s.toArray⟩] 30)).alloc (by have := hbk.size; simp; omega) o)
      rcases (show κ = 0 ∨ κ = 1 ∨ κ = 2 ∨ κ = 3 by omega) with rfl | rfl | rfl | rfl
      · have C := num_any (w2.heap.size + 1) w2.heap.size [n] (by simpa using hzk) (some ⟨wr.heap.size + 1, 0, none⟩) 1 T ((wr.alloc (.cells #[.int .i64 kk, .int .i64 n, .string ⟨s.toArray⟩] 30)).alloc (.cells #[.int .i64 n] 3)) ((HW.out.alloc _).alloc _) (by omega) (by simp; omega) (vals_new (by simp) (by decide) (by omega)) (by simp; omega)
        rw [encAll_of1 n s] at C
        have HC := Lib.hid C
        clear C
        go_wp2_with fail
        refine HC.out.mono ?_
        rintro e w3 ⟨rfl, hw3, hk3⟩
        have HW3 := Lib.hid hw3
        have HB3 := Lib.hid ((HBB.out _).trans (hk3.below (by omega) (by omega)))
        have HZ3 : Hid (w2.heap.size + 1 ≤ w3.heap.size) := Nat.le_trans (by simp; omega) hk3.size
        clear hw3 hk3
        go_wp2
        go_roundw
        case rel => exact ⟨k + 1, by go_num, by omega, by rw [HS.out]; exact HW3.out, HB3.out, HZ3.out⟩
        case measure => simp [intOf]; omega
      · have C := text_any (w2.heap.size + 1) w2.heap.size [s] (some ⟨wr.heap.size + 1, 0, none⟩) 1 T ((wr.alloc (.cells #[.int .i64 kk, .int .i64 n, .string ⟨s.toArray⟩] 30)).alloc (.cells #[.string ⟨s.toArray⟩] 9)) ((HW.out.alloc _).alloc _) (by omega) (by simp; omega) (vals_new (by simp) (by decide) (by omega)) (by simp) (by rw [textAll_of1 n s]; have := layP_len 1 (by omega) n hzk.1 hzk.2 s hsk; omega)
        rw [textAll_of1 n s] at C
        have HC := Lib.hid C
        clear C
        go_wp2_with fail
        refine HC.out.mono ?_
        rintro e w3 ⟨rfl, hw3, hk3⟩
        have HW3 := Lib.hid hw3
        have HB3 := Lib.hid ((HBB.out _).trans (hk3.below (by omega) (by omega)))
        have HZ3 : Hid (w2.heap.size + 1 ≤ w3.heap.size) := Nat.le_trans (by simp; omega) hk3.size
        clear hw3 hk3
        go_wp2
        go_roundw
        case rel => exact ⟨k + 1, by go_num, by omega, by rw [HS.out]; exact HW3.out, HB3.out, HZ3.out⟩
        case measure => simp [intOf]; omega
      · have hbn := bit_and n
        have C := flag_any (w2.heap.size + 1) w2.heap.size [((bitOf n : Nat) : Int) == 1] (some ⟨wr.heap.size + 1, 0, none⟩) 1 T ((wr.alloc (.cells #[.int .i64 kk, .int .i64 n, .string ⟨s.toArray⟩] 30)).alloc (.cells #[.bool (((bitOf n : Nat) : Int) == 1)] 4)) ((HW.out.alloc _).alloc _) (by omega) (by simp; omega) (vals_new (by simp) (by decide) (by omega)) (by simp; omega)
        rw [flagAll_of1 n s] at C
        have HC := Lib.hid C
        clear C
        go_wp2_with fail
        refine HC.out.mono ?_
        rintro e w3 ⟨rfl, hw3, hk3⟩
        have HW3 := Lib.hid hw3
        have HB3 := Lib.hid ((HBB.out _).trans (hk3.below (by omega) (by omega)))
        have HZ3 : Hid (w2.heap.size + 1 ≤ w3.heap.size) := Nat.le_trans (by simp; omega) hk3.size
        clear hw3 hk3
        go_wp2
        go_roundw
        case rel => exact ⟨k + 1, by go_num, by omega, by rw [HS.out]; exact HW3.out, HB3.out, HZ3.out⟩
        case measure => simp [intOf]; omega
      · have C := wint_any (w2.heap.size + 1) w2.heap.size [n] (by simpa using hzk) (some ⟨wr.heap.size + 1, 0, none⟩) 1 T ((wr.alloc (.cells #[.int .i64 kk, .int .i64 n, .string ⟨s.toArray⟩] 30)).alloc (.cells #[.int .i64 n] 2)) ((HW.out.alloc _).alloc _) (by omega) (by simp; omega) (vals_new (by simp) (by decide) (by omega)) (by simp; omega)
        rw [intAll_of1 n s] at C
        have HC := Lib.hid C
        clear C
        go_wp2_with fail
        refine HC.out.mono ?_
        rintro e w3 ⟨rfl, hw3, hk3⟩
        have HW3 := Lib.hid hw3
        have HB3 := Lib.hid ((HBB.out _).trans (hk3.below (by omega) (by omega)))
        have HZ3 : Hid (w2.heap.size + 1 ≤ w3.heap.size) := Nat.le_trans (by simp; omega) hk3.size
        clear hw3 hk3
        go_wp2
        go_roundw
        case rel => exact ⟨k + 1, by go_num, by omega, by rw [HS.out]; exact HW3.out, HB3.out, HZ3.out⟩
        case measure => simp [intOf]; omega
    · have HW' : Hid (WAt (w2.heap.size + 1) w2.heap.size wr (layAll ps)) := by
        have := HW.out
        rw [List.take_of_length_le (by omega)] at this
        exact this
      clear HW HF
      have hAr : PArg wr A ps := hA.keep hbk
      have HC := Lib.hid (layp_any ps A c wr hAr hz (by omega) (by omega))
      have hbkz := hbk.size
      clear hAr
      go_wp2_with fail
      refine (string_any _ _ _ wr HW'.out).mono ?_
      rintro e w' ⟨rfl, rfl⟩
      go_wp2_with fail
      refine HC.out.mono ?_
      rintro e w4 ⟨rfl, hb4⟩
      have hbw4 : Below w.heap.size w w4 := hbk.trans (hb4.mono hbkz)
      clear hb4 HC HW'
      go_wp2_with fail
      refine (read_any (layAll ps) w4).mono ?_
      rintro e w5 ⟨rfl, rfl⟩
      have HR0 : Hid (RAt w4.heap.size (w4.alloc (.cells #[.string ⟨(layAll ps).toArray⟩, .bool false] 61)) ⟨layAll ps, false⟩) := RAt.new w4 _
      have hb5 : Below w.heap.size w (w4.alloc (.cells #[.string ⟨(layAll ps).toArray⟩, .bool false] 61)) := hbw4.alloc hbw4.size _
      have hbr : w.heap.size ≤ w4.heap.size := hbw4.size
      have HB5 := Lib.hid hb5
      clear hb5 hbw4 hbk
      generalize w4.heap.size = br at *
      go_wp2
      go_loopw [67] (fun i wr => ∃ k : Nat, i = .int .i64 k ∧ k ≤ ps.length ∧ RAt br wr ⟨layAll (ps.drop k), false⟩ ∧ Below w.heap.size w wr) (fun i _ => ps.length - (intOf i).toNat)
      case atStart => exact ⟨0, rfl, by omega, HR0.out, HB5.out⟩
      case round =>
        clear HR0 HB5 hbs hbkz
        obtain ⟨k, rfl, hk, hr, hbk⟩ := hrel
        have HR := Lib.hid hr
        clear hr
        by_cases hkl : k < ps.length
        · obtain ⟨kk, n, s, HP⟩ : ∃ kk n s, Hid (ps[k] = ⟨kk, n, s⟩) := ⟨_, _, _, Lib.hid rfl⟩
          have hzk := hz ps[k] (List.getElem_mem hkl)
          have hsk := hs ps[k] (List.getElem_mem hkl)
          obtain ⟨ad, rfl, c0, c1, c2⟩ := hA.at_ hbk k hkl
          have HD := layAll_drop ps k hkl
          rw [HP.out] at hzk hsk c0 c1 c2
          simp only at hzk hsk c0 c1 c2
          have hka := kind_and kk
          have hkl4 := kind_lt kk
          unfold layB at HD
          rw [HP.out] at HD
          simp only at HD
          have HR1 := HR.out
          rw [HD] at HR1
          have hln : (layP (kindOf kk) n s ++ layAll (ps.drop (k + 1))).length ≤ 140737488355328 := by
            rw [← HD]
            have : layAll ps = layAll (ps.take k) ++ layAll (ps.drop k) := by unfold layAll; rw [← List.flatMap_append, List.take_append_drop]
            have := congrArg List.length this
            rw [List.length_append] at this
            omega
          have C := readp_any br kk n s ⟨layP (kindOf kk) n s ++ layAll (ps.drop (k + 1)), false⟩ (wr.alloc (.cells #[.int .i64 kk, .int .i64 n, .string ⟨s.toArray⟩] 30)) (HR1.alloc _) hln
          rw [rdP_lay (kindOf kk) hkl4 n hzk.1 hzk.2 s hsk] at C
          have hbrl := lt_of_block HR1
          have HC := Lib.hid C
          have HBA := Lib.hid (hbk.alloc hbk.size (.cells #[.int .i64 kk, .int .i64 n, .string ⟨s.toArray⟩] 30))
          have hbkz := hbk.size
          clear hA HP HR HD HR1 C hln hbk
          unfold partV at HC
          generalize kindOf kk = κ at *
          go_wp2_with fail
          refine HC.out.mono ?_
          rintro e w6 ⟨rfl, hr6, hk6⟩
          have hp6 : w6.heap[wr.heap.size]? = some (.cells #[.int .i64 kk, .int .i64 n, .string ⟨s.toArray⟩] 30 (0, 0)) := (hk6.block _ (by simp) (by omega)).trans (heap_alloc_new wr _)
          obtain ⟨p0, p1, p2, pf⟩ := cells3 hp6
          have HR6 := Lib.hid hr6
          have hz6 : wr.heap.size < w6.heap.size := by have := hk6.size; simp at this; omega
          have HB6 := Lib.hid (HBA.out.trans (hk6.below (by simp; omega) hbr))
          clear hr6 hk6 hp6 pf HC HBA
          rcases (show κ = 0 ∨ κ = 1 ∨ κ = 2 ∨ κ = 3 by omega) with rfl | rfl | rfl | rfl
          · obtain ⟨M, HM, hmx⟩ : ∃ M : Int, Hid (max n 0 = M) ∧ (if n < 0 then (0 : Int) else n) = M := ⟨_, by rw [max_form]; exact Lib.hid rfl, rfl⟩
            simp only [backN, backS]
            rw [HM.out]
            go_wp2_with fail
            refine (ok_any br _ _ ((HR6.out.alloc _).alloc _)).mono ?_
            rintro e w' ⟨rfl, rfl⟩
            simp only [Bool.not_false]
            have HB8 : Hid (∀ o1 o2, Below w.heap.size w ((w6.alloc o1).alloc o2)) := fun o1 o2 => (HB6.out.alloc (by omega) _).alloc (by simp; omega) _
            have HR8 : Hid (∀ o1 o2, RAt br ((w6.alloc o1).alloc o2) ⟨layAll (ps.drop (k + 1)), false⟩) := fun o1 o2 => (HR6.out.alloc _).alloc _
            go_wp2
            go_roundw
            case rel => exact ⟨k + 1, by go_num, by omega, HR8.out _ _, HB8.out _ _⟩
            case measure => simp [intOf]; omega
          · simp only [backN, backS]
            go_wp2_with fail
            refine (ok_any br _ _ ((HR6.out.alloc _).alloc _)).mono ?_
            rintro e w' ⟨rfl, rfl⟩
            simp only [Bool.not_false]
            have HB8 : Hid (∀ o1 o2, Below w.heap.size w ((w6.alloc o1).alloc o2)) := fun o1 o2 => (HB6.out.alloc (by omega) _).alloc (by simp; omega) _
            have HR8 : Hid (∀ o1 o2, RAt br ((w6.alloc o1).alloc o2) ⟨layAll (ps.drop (k + 1)), false⟩) := fun o1 o2 => (HR6.out.alloc _).alloc _
            go_wp2
            go_roundw
            case rel => exact ⟨k + 1, by go_num, by omega, HR8.out _ _, HB8.out _ _⟩
            case measure => simp [intOf]; omega
          · have hbn := bit_and n
            simp only [backN, backS]
            go_wp2_with fail
            refine (ok_any br _ _ ((HR6.out.alloc _).alloc _)).mono ?_
            rintro e w' ⟨rfl, rfl⟩
            simp only [Bool.not_false]
            have HB8 : Hid (∀ o1 o2, Below w.heap.size w ((w6.alloc o1).alloc o2)) := fun o1 o2 => (HB6.out.alloc (by omega) _).alloc (by simp; omega) _
            have HR8 : Hid (∀ o1 o2, RAt br ((w6.alloc o1).alloc o2) ⟨layAll (ps.drop (k + 1)), false⟩) := fun o1 o2 => (HR6.out.alloc _).alloc _
            go_wp2
            go_roundw
            case rel => exact ⟨k + 1, by go_num, by omega, HR8.out _ _, HB8.out _ _⟩
            case measure => simp [intOf]; omega
          · simp only [backN, backS]
            go_wp2_with fail
            refine (ok_any br _ _ ((HR6.out.alloc _).alloc _)).mono ?_
            rintro e w' ⟨rfl, rfl⟩
            simp only [Bool.not_false]
            have HB8 : Hid (∀ o1 o2, Below w.heap.size w ((w6.alloc o1).alloc o2)) := fun o1 o2 => (HB6.out.alloc (by omega) _).alloc (by simp; omega) _
            have HR8 : Hid (∀ o1 o2, RAt br ((w6.alloc o1).alloc o2) ⟨layAll (ps.drop (k + 1)), false⟩) := fun o1 o2 => (HR6.out.alloc _).alloc _
            go_wp2
            go_roundw
            case rel => exact ⟨k + 1, by go_num, by omega, HR8.out _ _, HB8.out _ _⟩
            case measure => simp [intOf]; omega
        · have HR' : Hid (RAt br wr ⟨[], false⟩) := by
            have := HR.out
            rw [List.drop_of_length_le (by omega)] at this
            exact this
          clear HR
          go_wp2_with fail
          refine (done_any br _ wr HR'.out).mono ?_
          rintro e w' ⟨rfl, rfl⟩
          rw [show rDone ⟨[], false⟩ = 0 from rfl]
          go_wp2
          go_ret
          exact ⟨rfl, hbk⟩

end Go.Proofs.Ytbpdeehpeflbeaa
