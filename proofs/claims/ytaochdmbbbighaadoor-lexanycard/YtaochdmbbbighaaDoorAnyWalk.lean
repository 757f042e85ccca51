/-
  LexAny: the walk.
-/
import Derived.Test.YtaochdmbbbighaaDoorJoinsWalk
import Derived.Test.YtaochdmbbbighaaDoorWordLaw
import Derived.Test.YtaochdmbbbighaaDoorAnyPlain
namespace Go.Proofs.YtaochdmbbbighaaDoor
open Go.RowKit

set_option maxHeartbeats 400000 in
set_option maxRecDepth 100000 in
theorem any_long (s : ByteArray) (w : World) (hT : Tabs w) (h : 600 < s.size) : Calls Tryd.prog 3 #[.string s] w fun e w' => e = .returned (.bool true) ∧ Below w.heap.size w w' := by
  go_enter Tryd.func3, Tryd.ntmps3
  go_wp2_with (go_at_call 9; refine (head_any w hT).mono ?_; rintro e w1 ⟨rfl, hb1⟩)
  go_ret
  exact ⟨rfl, hb1⟩
theorem errs {l : Bs} {o : Nat} {ts : List (Nat × Tok)} {r : Option (Nat × Nat)} (h : Lx l o ts r) (ho : o ≤ l.length) : ∀ e p, r = some (e, p) → (e = 20 ∨ e = 22 ∨ e = 4) ∧ p ≤ l.length := by
  induction h with
  | bad o p hp t er hf he =>
    intro e q h
    cases h
    refine ⟨?_, (skip_place ho hp).2⟩
    unfold first at hf
    split at hf
    · exact absurd (Prod.mk.inj hf).2.symm he
    · have nm : ∀ k s, nameT k s = (t, er) → er = 4 := fun k s h => by
        unfold nameT at h
        split at h
        · exact (Prod.mk.inj h).2.symm
        · exact absurd (Prod.mk.inj h).2.symm he
      split at hf
      · exact .inr (.inr (nm _ _ hf))
      · split at hf
        · exact .inr (.inr (nm _ _ hf))
        · split at hf
          · unfold numT at hf
            split at hf
            · exact absurd (Prod.mk.inj hf).2.symm he
            · exact .inr (.inl (Prod.mk.inj hf).2.symm)
          · unfold markT at hf
            split at hf
            · exact absurd (Prod.mk.inj hf).2.symm he
            · exact .inl (Prod.mk.inj hf).2.symm
  | fin => intro e q h; cases h
  | more o p hp t hf hk ts r hr ih =>
    obtain ⟨h1, h2⟩ := skip_place ho hp
    obtain ⟨h3, h4⟩ := first_more hf hk
    rw [List.length_drop] at h4
    exact ih (by omega)

set_option maxHeartbeats 1000000 in
set_option maxRecDepth 100000 in
theorem any_bad (s : ByteArray) (w : World) (hT : Tabs w) (h : ¬ 600 < s.size) (ts : List (Nat × Tok)) (er p : Nat) (hL : Lx s.data.toList 0 ts (some (er, p))) : Calls Tryd.prog 3 #[.string s] w fun e w' => e = .returned (.bool true) ∧ Below w.heap.size w w' := by
  have he := (errs hL (Nat.zero_le _) er p rfl).1
  have hl1 : 1 ≤ (posL s.data.toList p : Int) := by unfold posL lineOf; omega
  have hc1 : 1 ≤ (posC s.data.toList p : Int) := by unfold posC; omega
  have HL := Lib.hid hL
  clear hL
  rcases he with rfl | rfl | rfl
  all_goals
    go_enter Tryd.func3, Tryd.ntmps3
    go_wp2_with fail
    refine (head_any w hT).mono ?_
    rintro e w1 ⟨rfl, hb1⟩
    go_wp2_with fail
    refine (all_of rfl (by simp; omega) (hT.below hb1) HL.out).mono ?_
    rintro e w2 ⟨hb2, rfl⟩
    go_wp2
    go_ret
    exact ⟨rfl, (hb1.trans (hb2.mono hb1.size)).alloc (Nat.le_trans hb1.size hb2.size) _⟩
end Go.Proofs.YtaochdmbbbighaaDoor
