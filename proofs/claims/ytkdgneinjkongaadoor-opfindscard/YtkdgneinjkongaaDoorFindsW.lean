/-
  The walk of OpFinds.
-/
import Derived.Test.YtkdgneinjkongaaDoorCodesW
namespace Go.Proofs.YtkdgneinjkongaaDoor
open Go.RowKit

set_option maxHeartbeats 1000000 in
set_option maxRecDepth 100000 in
theorem finds5 (s : ByteArray) (w : World) (hT : TabR w) (hP : Pow w) :
    Calls Tryd.prog 5 #[.string s] w fun e w' => e = .returned (.bool true) ∧ Below w.heap.size w w' := by
  have HT : Hid (∀ x, Below w.heap.size w x → TabR x) := Lib.hid (fun x hx => hT.below hx)
  have HP : Hid (∀ x, Below w.heap.size w x → Pow x) := Lib.hid (fun x hx => hP.below hx)
  obtain ⟨f, hf⟩ : ∃ f, f = findN s.data.toList := ⟨_, rfl⟩
  obtain ⟨E, hE⟩ : ∃ E : Int, E = if f = 0 then 23 else 0 := ⟨_, rfl⟩
  have HF : Hid (∀ x, TabR x → Calls Tryd.prog 13 #[.string s] x fun e w' => e = .returned (.tuple #[.int .i64 (f : Int), .int .i64 E]) ∧ x = w') := Lib.hid (fun x hx => (find13 s x hx).mono fun e w' ⟨a, b⟩ => ⟨by rw [a, hf, hE, hf], b⟩)
  have HM : Hid (∀ x, Calls Tryd.prog 14 #[] x fun e w' => e = .returned (.slice (some ⟨x.heap.size, 0, none⟩) 32 32) ∧ (∀ j, j < 32 → w'.cell? ⟨x.heap.size, j, none⟩ = some (.string (str (nameN (j + 1))))) ∧ Below x.heap.size x w') := Lib.hid (fun x => (names14 x).mono fun e w' ⟨a, b, d⟩ => ⟨a, fun j h => by rw [b.cell, names_at h]; rfl, d⟩)
  have HFE := Lib.hid hf
  have HEE := Lib.hid hE
  clear hT hP hf hE
  by_cases hl : 40 < s.size
  · go_enter Tryd.func5, Tryd.ntmps5
    go_wp2_with fail
    refine (head7 w (HT.out _ (Below.refl _ _)) (HP.out _ (Below.refl _ _))).mono ?_
    rintro e w1 ⟨rfl, hb⟩
    go_wp2
    go_ret
    exact ⟨rfl, hb⟩
  · go_enter Tryd.func5, Tryd.ntmps5
    go_wp2_with fail
    refine (head7 w (HT.out _ (Below.refl _ _)) (HP.out _ (Below.refl _ _))).mono ?_
    rintro e w1 ⟨rfl, hb⟩
    have HT1 := Lib.hid (HT.out _ hb)
    go_wp2_with (go_at_call 13; (with_reducible refine (HF.out _ HT1.out).mono ?_); rintro e w' ⟨rfl, rfl⟩)
    refine (HM.out _).mono ?_
    rintro e w2 ⟨rfl, hm2, hb2⟩
    have HM2 := Lib.hid hm2
    have HB2 : Hid (Below w.heap.size w w2) := Lib.hid (hb.trans (hb2.mono hb.size))
    clear hb hb2 hm2 HT1 HT HP HM HF
    go_wp2
    go_loop [19] (fun i => ∃ k : Nat, i = .int .i64 k ∧ k ≤ 32 ∧ Hid (∀ j, j < k → nameN (j + 1) ≠ s.data.toList)) (fun i => 32 - (intOf i).toNat)
    case atStart => exact ⟨0, rfl, by omega, Lib.hid (fun j a => by omega)⟩
    case round =>
      obtain ⟨k, rfl, hk, HN⟩ := hrel
      by_cases hlt : k < 32
      · have q := HM2.out k hlt
        have hb := beq_str (nameN (k + 1)) s
        by_cases hq : nameN (k + 1) = s.data.toList
        · have H1 : ((str (nameN (k + 1))).toList == s.toList) = true := by rw [hb]; exact decide_eq_true hq
          have hfk : f = k + 1 := by rw [HFE.out, ← hq, find_of (by omega) (by omega)]
          have hE0 : E = 0 := by rw [HEE.out, if_neg (by omega)]
          have g1 : (E == 0) = true := by simp [hE0]
          have g2 : ((f : Int) == (k : Int) + 1) = true := by simp; omega
          clear hb hq hfk hE0
          go_wp2
          go_ret
          exact ⟨rfl, HB2.out⟩
        · have H1 : ((str (nameN (k + 1))).toList == s.toList) = false := by rw [hb]; exact decide_eq_false hq
          have HQ := Lib.hid hq
          clear hb hq
          go_wp2
          go_round
          case rel => exact ⟨k + 1, by go_num, by omega, Lib.hid (fun j a => by by_cases e : j = k; · subst e; exact HQ.out
                                                                                · exact HN.out j (by omega))⟩
          case measure => simp [intOf]; omega
      · have hf0 : f = 0 := by rw [HFE.out]; exact find_none (fun j a b => by have := HN.out (j - 1) (by omega); rwa [Nat.sub_add_cancel a] at this)
        have hE0 : E = 23 := by rw [HEE.out, if_pos hf0]
        have g1 : (E == 23) = true := by simp [hE0]
        have g2 : ((f : Int) == 0) = true := by simp; omega
        clear hf0 hE0
        go_wp2
        go_ret
        exact ⟨rfl, HB2.out⟩
end Go.Proofs.YtkdgneinjkongaaDoor
