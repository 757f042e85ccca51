/-
  The document's example; the walks of OpCodes and OpFinds.
-/
import Derived.Test.YtkdgneinjkongaaDoorText
namespace Go.Proofs.YtkdgneinjkongaaDoor
open Go.RowKit Go.Lib Go.Sort

theorem text_local : textN 3 2 = [108, 111, 99, 97, 108, 32, 50] := by decide +kernel
theorem kd3 : kd 3 = 3 := rfl
theorem head7 (w : World) (hT : TabR w) (hP : Pow w) : Calls Tryd.prog 7 #[] w fun e w' => e = .returned (.bool true) ∧ Below w.heap.size w w' := by
  have HC : Hid (∀ x, Below w.heap.size w x → Calls Tryd.prog 18 #[.agg #[.int .i64 3, .int .i64 2]] x fun e w' => e = .returned (.string ⟨#[108, 111, 99, 97, 108, 32, 50]⟩) ∧ Below x.heap.size x w') := Lib.hid (fun x hx => (text18 3 2 (by decide) (by decide) x (hT.below hx) (hP.below hx)).mono fun e w' ⟨a, b⟩ => ⟨by rw [a, kd3, text_local]; rfl, b⟩)
  clear hT hP
  go_enter Tryd.func7, Tryd.ntmps7
  go_wp2_with (go_at_call 18; (with_reducible refine (HC.out _ (by first | exact Below.refl _ _ | exact below1 _ _)).mono ?_); rintro e w' ⟨rfl, hb⟩)
  go_ret
  exact ⟨rfl, hb⟩

def poolB (j : Nat) : Nat := (poolsL.getD j 0).toNat
theorem pool_byte : ∀ j ∈ List.range 32, (poolB j = 46 ∧ poolN (j + 1) = 0) ∨ (poolB j ≠ 46 ∧ poolN (j + 1) = (poolB j : Int) ∧ poolB j < 128 ∧ poolB j ≠ 0) := by decide +kernel
theorem pools_at : ∀ j (h : j < (str poolsL).size), ((str poolsL)[j]'h).toNat = poolB j := by
  intro j h
  have h' : j < poolsL.length := h
  show (poolsL[j]'h').toNat = _
  unfold poolB
  rw [List.getD_eq_getElem?_getD, List.getElem?_eq_getElem h']; rfl
theorem pools_size : (str poolsL).size = 32 := rfl
set_option maxHeartbeats 1000000 in
set_option maxRecDepth 100000 in
theorem codes_out (c : Int) (h : ¬ (1 ≤ c ∧ c ≤ 32)) (w : World) (hT : TabR w) (hP : Pow w) :
    Calls Tryd.prog 3 #[.int .i64 c] w fun e w' => e = .returned (.bool true) ∧ Below w.heap.size w w' := by
  have HT : Hid (∀ x, Below w.heap.size w x → TabR x) := Lib.hid (fun x hx => hT.below hx)
  have HP : Hid (∀ x, Below w.heap.size w x → Pow x) := Lib.hid (fun x hx => hP.below hx)
  have HN : Hid (∀ x, TabR x → Calls Tryd.prog 9 #[.int .i64 c] x fun e w' => e = .returned (.string ⟨#[]⟩) ∧ x = w') := Lib.hid (fun x hx => (name9 c x hx).mono fun e w' ⟨a, b⟩ => ⟨by rw [a, kd_out h]; rfl, b⟩)
  have HO : Hid (∀ x, TabR x → Calls Tryd.prog 10 #[.int .i64 c] x fun e w' => e = .returned (.int .i32 0) ∧ x = w') := Lib.hid (fun x hx => (pool10 c x hx).mono fun e w' ⟨a, b⟩ => ⟨by rw [a, kd_out h]; rfl, b⟩)
  have HE : Hid (∀ x, Calls Tryd.prog 11 #[.int .i64 c] x fun e w' => e = .returned (.bool false) ∧ x = w') := Lib.hid (fun x => (ends11 c x).mono fun e w' ⟨a, b⟩ => ⟨by rw [a, decide_eq_false (by omega), decide_eq_false (by omega)]; rfl, b⟩)
  have HK : Hid (∀ x, Calls Tryd.prog 8 #[.int .i64 c] x fun e w' => e = .returned (.bool false) ∧ x = w') := Lib.hid (fun x => known_out c h x)
  clear hT hP
  by_cases h1 : c < 1
  all_goals
    go_enter Tryd.func3, Tryd.ntmps3
    go_wp2_with fail
    refine (head7 w (HT.out _ (Below.refl _ _)) (HP.out _ (Below.refl _ _))).mono ?_
    rintro e w1 ⟨rfl, hb⟩
    have HT1 := Lib.hid (HT.out _ hb)
    go_wp2_with (first
      | (go_at_call 8; (with_reducible refine (HK.out _).mono ?_); rintro e w' ⟨rfl, rfl⟩)
      | (go_at_call 9; (with_reducible refine (HN.out _ HT1.out).mono ?_); rintro e w' ⟨rfl, rfl⟩)
      | (go_at_call 10; (with_reducible refine (HO.out _ HT1.out).mono ?_); rintro e w' ⟨rfl, rfl⟩)
      | (go_at_call 11; (with_reducible refine (HE.out _).mono ?_); rintro e w' ⟨rfl, rfl⟩))
    all_goals first
      | omega
      | (go_ret
         exact ⟨rfl, hb⟩)

set_option maxHeartbeats 1000000 in
set_option maxRecDepth 100000 in
theorem codes_in1 (j : Nat) (h : j < 32) (b1 b2 : Bool) (q27 : ((j : Int) + 1 == 27) = b1) (q29 : ((j : Int) + 1 == 29) = b2) (w : World) (hT : TabR w) (hP : Pow w) :
    Calls Tryd.prog 3 #[.int .i64 ((j : Int) + 1)] w fun e w' => e = .returned (.bool true) ∧ Below w.heap.size w w' := by
  have HT : Hid (∀ x, Below w.heap.size w x → TabR x) := Lib.hid (fun x hx => hT.below hx)
  have HP : Hid (∀ x, Below w.heap.size w x → Pow x) := Lib.hid (fun x hx => hP.below hx)
  have ek : kd ((j : Int) + 1) = j + 1 := by have := kd_nat (k := j + 1) (by omega) (by omega); rwa [Int.natCast_add] at this
  obtain ⟨X, hX⟩ : ∃ X, X = str (nameN (j + 1)) := ⟨_, rfl⟩
  obtain ⟨PL, hPL⟩ : ∃ X, X = str poolsL := ⟨_, rfl⟩
  have hsz : j < PL.size := by rw [hPL, pools_size]; exact h
  have hbyte : (PL[j]'hsz).toNat = poolB j := by subst hPL; exact pools_at j hsz
  have HPL : Hid (∀ x, Calls Tryd.prog 12 #[] x fun e w' => e = .returned (.string PL) ∧ x = w') := Lib.hid (fun x => (pools12 x).mono fun e w' ⟨a, b⟩ => ⟨by rw [a, hPL]; rfl, b⟩)
  have HN : Hid (∀ x, TabR x → Calls Tryd.prog 9 #[.int .i64 ((j : Int) + 1)] x fun e w' => e = .returned (.string X) ∧ x = w') := Lib.hid (fun x hx => (name9 _ x hx).mono fun e w' ⟨a, b⟩ => ⟨by rw [a, ek, hX]; rfl, b⟩)
  have HE : Hid (∀ x, Calls Tryd.prog 11 #[.int .i64 ((j : Int) + 1)] x fun e w' => e = .returned (.bool (b1 || b2)) ∧ x = w') := Lib.hid (fun x => (ends11 _ x).mono fun e w' ⟨a, b⟩ => ⟨by rw [a, ← q27, ← q29]; congr 2, b⟩)
  have HK : Hid (∀ x, Calls Tryd.prog 8 #[.int .i64 ((j : Int) + 1)] x fun e w' => e = .returned (.bool true) ∧ x = w') := Lib.hid (fun x => by have := known_in (j + 1) (by omega) (by omega) x; rwa [Int.natCast_add] at this)
  have HF : Hid (∀ x, TabR x → Calls Tryd.prog 13 #[.string X] x fun e w' => e = .returned (.tuple #[.int .i64 ((j : Int) + 1), .int .i64 0]) ∧ x = w') := Lib.hid (fun x hx => (find13 X x hx).mono fun e w' ⟨a, b⟩ => ⟨by rw [a, hX, data_str, find_of (by omega) (by omega)]; unfold findV; rw [if_neg (by omega)]; rfl, b⟩)
  have HM : Hid (∀ x, Calls Tryd.prog 14 #[] x fun e w' => e = .returned (.slice (some ⟨x.heap.size, 0, none⟩) 32 32) ∧ w'.cell? ⟨x.heap.size, j, none⟩ = some (.string X) ∧ Below x.heap.size x w') := Lib.hid (fun x => (names14 x).mono fun e w' ⟨a, b, d⟩ => ⟨a, by rw [b.cell, names_at h, hX]; rfl, d⟩)
  obtain ⟨pb, hpb⟩ : ∃ n, poolB j = n := ⟨_, rfl⟩
  have hb := pool_byte j (List.mem_range.2 h)
  have HO0 : Hid (∀ x, TabR x → Calls Tryd.prog 10 #[.int .i64 ((j : Int) + 1)] x fun e w' => e = .returned (.int .i32 (poolN (j + 1))) ∧ x = w') := Lib.hid (fun x hx => (pool10 _ x hx).mono fun e w' ⟨a, b⟩ => ⟨by rw [a, ek], b⟩)
  rw [hpb] at hbyte hb
  have hj1 : ¬ ((j : Int) + 1 < 1) := by omega
  have hj2 : ¬ (32 < (j : Int) + 1) := by omega
  have heq : (X.toList == X.toList) = true := by simp
  clear hT hP hX hPL ek hpb
  have hb' : (pb = 46 ∧ poolN (j + 1) = 0) ∨ (((pb : Int) == 46) = false ∧ poolN (j + 1) = (pb : Int) ∧ pb < 128) := hb.imp id (fun ⟨a, b, d, _⟩ => ⟨by simpa using (by omega : (pb : Int) ≠ 46), b, d⟩)
  clear hb
  rcases hb' with ⟨rfl, hp⟩ | ⟨hne, hp, hlt⟩ <;> cases b1 <;> cases b2
  all_goals
    rw [hp] at HO0
    simp only [Bool.or_false, Bool.or_true] at HE
    clear hp
    go_enter Tryd.func3, Tryd.ntmps3
    go_wp2_with fail
    refine (head7 w (HT.out _ (Below.refl _ _)) (HP.out _ (Below.refl _ _))).mono ?_
    rintro e w1 ⟨rfl, hb⟩
    have HT1 := Lib.hid (HT.out _ hb)
    go_wp2_with (first
      | (go_at_call 8; (with_reducible refine (HK.out _).mono ?_); rintro e w' ⟨rfl, rfl⟩)
      | (go_at_call 12; (with_reducible refine (HPL.out _).mono ?_); rintro e w' ⟨rfl, rfl⟩))
    refine (HM.out _).mono ?_
    rintro e w2 ⟨rfl, hm2, hb2⟩
    have HB2 : Hid (Below w.heap.size w w2) := Lib.hid (hb.trans (hb2.mono hb.size))
    have HT2 := Lib.hid (HT.out _ HB2.out)
    clear hb hb2 HT1
    go_wp2_with (first
      | (go_at_call 13; (with_reducible refine (HF.out _ HT2.out).mono ?_); rintro e w' ⟨rfl, rfl⟩)
      | (go_at_call 8; (with_reducible refine (HK.out _).mono ?_); rintro e w' ⟨rfl, rfl⟩)
      | (go_at_call 9; (with_reducible refine (HN.out _ HT2.out).mono ?_); rintro e w' ⟨rfl, rfl⟩))
    refine (HM.out _).mono ?_
    rintro e w3 ⟨rfl, hm3, hb3⟩
    have HB3 : Hid (Below w.heap.size w w3) := Lib.hid (HB2.out.trans (hb3.mono HB2.out.size))
    have HT3 := Lib.hid (HT.out _ HB3.out)
    clear hb3 HT2 HB2 hm2
    go_wp2_with (first
      | (go_at_call 10; (with_reducible refine (HO0.out _ HT3.out).mono ?_); rintro e w' ⟨rfl, rfl⟩)
      | (go_at_call 11; (with_reducible refine (HE.out _).mono ?_); rintro e w' ⟨rfl, rfl⟩))
    go_ret
    exact ⟨rfl, HB3.out⟩
theorem codes3 (c : Int) (w : World) (hT : TabR w) (hP : Pow w) : Calls Tryd.prog 3 #[.int .i64 c] w fun e w' => e = .returned (.bool true) ∧ Below w.heap.size w w' := by
  by_cases h : 1 ≤ c ∧ c ≤ 32
  · obtain ⟨j, rfl⟩ : ∃ j : Nat, c = (j : Int) + 1 := ⟨(c - 1).toNat, by omega⟩
    exact codes_in1 j (by omega) _ _ rfl rfl w hT hP
  · exact codes_out c h w hT hP
end Go.Proofs.YtkdgneinjkongaaDoor
