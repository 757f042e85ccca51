/-
  An expression is the same as itself.
-/
import Derived.Test.YtojkagfbdpjckaaDoorHead
namespace Go.Proofs.YtojkagfbdpjckaaDoor
open Go.RowKit

def SameOK (W : World) (t : Tree) (kk : Value) : Prop := ∀ w, Below W.heap.size W w → Calls Tryd.prog 12 #[exprV t kk, exprV t kk] w fun e w' => e = .returned (.bool true) ∧ Below w.heap.size w w'

set_option maxHeartbeats 1000000 in
theorem equal33 (W : World) (Q : Tree → Value → Prop) (hQ : ∀ t kk, t.ok → Q t kk → SameOK W t kk) (kids : List Tree) (ka : Option Addr) (kn kc : Nat) (hk : Kids W Q kids (.slice ka kn kc)) (w : World) (hw : Below W.heap.size W w) :
    Calls Tryd.prog 33 #[.slice ka kn kc, .slice ka kn kc, .func (.func 12) #[] #[]] w fun e w' => e = .returned (.bool true) ∧ Below w.heap.size w w' := by
  obtain ⟨hkn, hl, hc, hkk⟩ := hk.at
  unfold maxLen at hc
  have hB := hw.size
  have HK := Lib.hid hkk
  have HN := Lib.hid hkn
  have hl2 : kn ≤ kc := by omega
  clear hkk hkn hk hl
  go_enter Tryd.func33, Tryd.ntmps33
  go_wp2
  go_loopw [17] (fun i wr => ∃ k : Nat, k ≤ kn ∧ i = .int .i64 k ∧ Below w.heap.size w wr) (fun i _ => kn - (intOf i).toNat)
  case atStart => exact ⟨0, Nat.zero_le _, rfl, Below.refl _ _⟩
  case round =>
    obtain ⟨k, hk1, rfl, hbr⟩ := hrel
    have hwr : Below W.heap.size W wr := hw.trans (hbr.mono hB)
    have hsr := hbr.size
    by_cases hlt : k < kn
    · have hlt2 : k < kids.length := by rw [← HN.out]; exact hlt
      obtain ⟨g, o, kk, rfl, hcell, ⟨ka2, kn2, kc2, rfl⟩, hok, hq⟩ := HK.out k kids[k] (List.getElem?_eq_getElem hlt2)
      have HS := Lib.hid (hQ _ _ hok hq)
      have hc2 := hcell.below hwr
      clear hcell hok hq
      generalize kids[k] = t at *
      clear hlt2
      obtain ⟨kind, ln, co, num, name, tn, ta, kids', fn, fa, ow⟩ := t
      have c0 : wr.cell? ⟨g, o + k * 11, none⟩ = some (.int .i64 kind) := hc2 0 _ rfl
      have hgl : g < wr.heap.size := World.block_lt_of_cell? _ _ c0
      have c1 := hc2 1 _ rfl
      have c2 := hc2 2 _ rfl
      have c3 := hc2 3 _ rfl
      have c4 := hc2 4 _ rfl
      have c5 := hc2 5 _ rfl
      have c6 := hc2 6 _ rfl
      have c7 := hc2 7 _ rfl
      have c8 := hc2 8 _ rfl
      have c9 := hc2 9 _ rfl
      have c10 := hc2 10 _ rfl
      clear hc2
      go_wp2_with fail
      refine (HS.out _ (hwr.trans ((below2 wr _ _).mono (by omega)))).mono ?_
      rintro e w3 ⟨rfl, hb3⟩
      have hb4 : Below wr.heap.size wr w3 := (below2 wr _ _).trans (hb3.mono (by simp; omega))
      clear hb3
      go_wp2
      go_roundw
      case rel => exact ⟨k + 1, by omega, by go_num, hbr.trans (hb4.mono hsr)⟩
      case measure => simp [intOf]; omega
    · go_wp2
      go_ret
      exact ⟨rfl, hbr⟩

set_option maxHeartbeats 1000000 in
set_option maxRecDepth 100000 in
theorem same_q (W : World) (Q : Tree → Value → Prop) (hQ : ∀ t kk, t.ok → Q t kk → SameOK W t kk) (t : Tree) (kk : Value) (hk : Kids W Q t.kids kk) : SameOK W t kk := by
  intro w hw
  obtain ⟨ka, kc, rfl, _⟩ := id hk
  obtain ⟨kind, ln, co, num, name, tn, ta, kids, fn, fa, ow⟩ := t
  have hk' : Kids W Q kids (.slice ka kids.length kc) := hk
  show Calls Tryd.prog 12 #[exprV (.mk kind ln co num name tn ta kids fn fa ow) (.slice ka kids.length kc), exprV (.mk kind ln co num name tn ta kids fn fa ow) (.slice ka kids.length kc)] w _
  have HE := Lib.hid (fun x hx => equal33 W Q hQ kids ka kids.length kc hk' x hx)
  have hB := hw.size
  clear hk hk' hQ
  unfold exprV exprC
  go_enter Tryd.func12, Tryd.ntmps12
  go_wp2_with fail
  refine (HE.out _ (hw.trans ((below2 w _ _).mono hB))).mono ?_
  rintro e w1 ⟨rfl, hb1⟩
  have hb2 : Below w.heap.size w w1 := (below2 w _ _).trans (hb1.mono (by simp; omega))
  clear hb1
  go_wp2
  go_ret
  exact ⟨rfl, hb2⟩
theorem same_kin (W : World) : ∀ (d : Nat) (t : Tree) (kk : Value), Kin W d t.kids kk → SameOK W t kk
  | 0, t, kk, hk => same_q W _ (fun _ _ _ h => h.elim) t kk hk
  | d + 1, t, kk, hk => same_q W _ (fun t kk _ h => same_kin W d t kk h) t kk hk
theorem same12 (t : Tree) (kk : Value) (w : World) (hx : Ex w t kk) : Calls Tryd.prog 12 #[exprV t kk, exprV t kk] w fun e w' => e = .returned (.bool true) ∧ Below w.heap.size w w' := by
  obtain ⟨_, d, hk⟩ := hx
  exact same_kin w d t kk hk w (Below.refl _ _)
end Go.Proofs.YtojkagfbdpjckaaDoor
