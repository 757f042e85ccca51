/-
  Expressions in memory, and one of a list of them.
-/
import Derived.Test.YtojkagfbdpjckaaDoorSpec
import Derived.Test.YtojkagfbdpjckaaDoorProg
import Derived.WalkKit
import Derived.Lib.Hide
import Derived.Outline
namespace Go.Proofs.YtojkagfbdpjckaaDoor
open Go.RowKit

def exprC : Tree → Value → List Value
  | .mk kind ln co num name tn ta _ fn fa ow, k => [.int .i64 kind, .int .i64 ln, .int .i64 co, .int .i64 num, .string name, .string tn, .bool ta, k, .string fn, .bool fa, .string ow]
def exprV (t : Tree) (k : Value) : Value := .agg (exprC t k).toArray
def Tree.ok : Tree → Prop
  | .mk _ _ _ num _ _ _ _ _ _ _ => -9223372036854775808 ≤ num ∧ num ≤ 9223372036854775807

/-- A slice's value is that of these expressions, in this world. -/
def Kids (W : World) (Q : Tree → Value → Prop) (ks : List Tree) (k : Value) : Prop :=
  ∃ a cap, k = .slice a ks.length cap ∧ ks.length ≤ cap ∧ cap ≤ maxLen ∧ ∀ i t, ks[i]? = some t → ∃ b o kk, a = some ⟨b, o, none⟩ ∧ (∀ j v, (exprC t kk)[j]? = some v → W.cell? ⟨b, o + i * 11 + j, none⟩ = some v) ∧ (∃ ka kn kc, kk = .slice ka kn kc) ∧ t.ok ∧ Q t kk
def Kin (W : World) : Nat → List Tree → Value → Prop
  | 0, ks, k => Kids W (fun _ _ => False) ks k
  | d + 1, ks, k => Kids W (fun t kk => Kin W d t.kids kk) ks k

theorem kids_nil (W : World) (Q : Tree → Value → Prop) : Kids W Q [] (.slice none 0 0) := ⟨none, 0, rfl, Nat.le_refl _, Nat.zero_le _, fun i t h => by simp at h⟩

/-- What nth answers. -/
def Nth (Q : Tree → Value → Prop) (ks : List Tree) (i : Nat) (w : World) (e : Ending) (w' : World) : Prop :=
  ∃ t kk, e = .returned (exprV t kk) ∧ t = ks.getD i Tree.zero ∧ (t.ok ∧ Q t kk ∨ t = Tree.zero ∧ kk = .slice none 0 0) ∧ Below w.heap.size w w'

/-- The eleven cells of an expression. -/
def Cells11 (w : World) (b o : Nat) (t : Tree) (kk : Value) : Prop := ∀ j v, (exprC t kk)[j]? = some v → w.cell? ⟨b, o + j, none⟩ = some v
theorem Cells11.below {W w : World} {b o : Nat} {t : Tree} {kk : Value} (h : Cells11 W b o t kk) (hw : Below W.heap.size W w) : Cells11 w b o t kk := by
  intro j v hv
  have h1 := h j v hv
  rw [hw.cell (p := ⟨b, o + j, none⟩) (World.block_lt_of_cell? _ _ h1)]
  exact h1
theorem Kids.at {W : World} {Q : Tree → Value → Prop} {ks : List Tree} {a : Option Addr} {n cap : Nat} (h : Kids W Q ks (.slice a n cap)) : n = ks.length ∧ ks.length ≤ cap ∧ cap ≤ maxLen ∧ ∀ i t, ks[i]? = some t → ∃ b o kk, a = some ⟨b, o, none⟩ ∧ Cells11 W b (o + i * 11) t kk ∧ (∃ ka kn kc, kk = .slice ka kn kc) ∧ t.ok ∧ Q t kk := by
  obtain ⟨a', cap', e, hl, hc, hk⟩ := h
  cases e
  exact ⟨rfl, hl, hc, hk⟩

set_option maxHeartbeats 400000 in
theorem nth_any (W : World) (Q : Tree → Value → Prop) (ks : List Tree) (k : Value) (h : Kids W Q ks k) (i : Nat) (w : World) (hw : Below W.heap.size W w) :
    Calls Tryd.prog 51 #[k, .int .i64 i] w (Nth Q ks i w) := by
  obtain ⟨a, cap, rfl, _, _, _⟩ := id h
  obtain ⟨_, hl, hc, hk⟩ := h.at
  unfold maxLen at hc
  by_cases hlt : i < ks.length
  · obtain ⟨b, o, kk, rfl, hcell, ⟨ka, kn, kc, rfl⟩, hok, hq⟩ := hk i ks[i] (List.getElem?_eq_getElem hlt)
    have hg : ks.getD i Tree.zero = ks[i] := by simp [List.getD_eq_getElem?_getD, hlt]
    have HG := Lib.hid hg
    clear hg hk
    have hc2 := hcell.below hw
    generalize ks[i] = t at *
    obtain ⟨kind, ln, co, num, name, tn, ta, kids, fn, fa, ow⟩ := t
    have c0 : w.cell? ⟨b, o + i * 11, none⟩ = some (.int .i64 kind) := hc2 0 _ rfl
    have hb : b < w.heap.size := World.block_lt_of_cell? _ _ c0
    have c1 := hc2 1 _ rfl
    have c2 := hc2 2 _ rfl
    have c3 := hc2 3 _ rfl
    have c4 := hc2 4 _ rfl
    have c5 := hc2 5 _ rfl
    have c6 := hc2 6 _ rfl
    have c7 := hc2 7 _ rfl
    have c8 := hc2 8 _ rfl
    have c9 := hc2 9 _ rfl
    have c10 := hc2 10 _ rfl
    clear hc2 hcell
    go_enter Tryd.func51, Tryd.ntmps51
    go_wp2
    refine bodyPost_ret (v := exprV (.mk kind ln co num name tn ta kids fn fa ow) (.slice ka kn kc)) (by simp [results, Tryd.results51, go_sem, exprV, exprC]) rfl ?_
    exact ⟨_, _, rfl, HG.out.symm, Or.inl ⟨hok, hq⟩, (Below.refl _ _).alloc (Nat.le_refl _) _⟩
  · have hn : ks.getD i Tree.zero = Tree.zero := by simp [List.getD_eq_getElem?_getD, Nat.le_of_not_lt hlt]
    have HN := Lib.hid hn
    clear hn hk
    go_enter Tryd.func51, Tryd.ntmps51
    go_wp2
    refine bodyPost_ret (v := exprV Tree.zero (.slice none 0 0)) (by simp [results, Tryd.results51, go_sem, exprV, exprC, Tree.zero]) rfl ?_
    exact ⟨_, _, rfl, HN.out.symm, Or.inr ⟨rfl, rfl⟩, (Below.refl _ _).alloc (Nat.le_refl _) _⟩
end Go.Proofs.YtojkagfbdpjckaaDoor
