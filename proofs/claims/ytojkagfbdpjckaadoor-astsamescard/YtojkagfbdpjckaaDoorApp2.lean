/-
  Rows of cells in a block, as they are written; a slice that is copied, and one more behind it.
-/
import Derived.Test.YtojkagfbdpjckaaDoorApp
import Derived.Deep.RegionHeld
namespace Go.Proofs.YtojkagfbdpjckaaDoor
open Go.RowKit

/-- The first cells of a block, from this place on. -/
def Rw (w : World) (b o : Nat) (vs : List Value) : Prop := ∀ j v, vs[j]? = some v → w.cell? ⟨b, o + j, none⟩ = some v
theorem Rw.below {w w' : World} {b o : Nat} {vs : List Value} (h : Rw w b o vs) (hb : Below w.heap.size w w') : Rw w' b o vs := fun j v hv => (hb.cell (World.block_lt_of_cell? _ _ (h j v hv))).trans (h j v hv)
theorem Rw.other {w : World} {b o : Nat} {vs : List Value} (h : Rw w b o vs) {b' o' : Nat} (hne : b' ≠ b) (u : Value) : Rw (w.setCell ⟨b', o', none⟩ u) b o vs := fun j v hv => (World.cell?_setCell_far w ⟨b', o', none⟩ ⟨b, o + j, none⟩ u hne).trans (h j v hv)
theorem Rw.apart {w : World} {b o : Nat} {vs : List Value} (h : Rw w b o vs) {b' o' : Nat} (hne : ∀ j, j < vs.length → o' ≠ o + j) (u : Value) : Rw (w.setCell ⟨b', o', none⟩ u) b o vs := fun j v hv => by
  have hj := (List.getElem?_eq_some_iff.1 hv).1
  rw [World.cell?_setCell_other w _ _ u (fun e => hne j hj (by have := congrArg Addr.off e; simpa using this))]
  exact h j v hv
theorem Rw.set {w : World} {b o : Nat} {vs : List Value} (h : Rw w b o vs) (k : Nat) (hk : k < vs.length) (u : Value) : Rw (w.setCell ⟨b, o + k, none⟩ u) b o (vs.set k u) := by
  intro j v hv
  by_cases e : j = k
  · subst e
    rw [List.getElem?_set_self hk] at hv
    cases hv
    exact World.cell?_setCell_same w _ _ (by rw [h j _ (List.getElem?_eq_getElem hk)])
  · rw [List.getElem?_set_ne (by omega)] at hv
    rw [World.cell?_setCell_other w _ _ u (fun e' => e (by have := congrArg Addr.off e'; simp at this; omega))]
    exact h j v hv
theorem grown_below {w w' : World} {r : Option Nat} {B : Nat} (h : w.grownBy w' r) (hB : B ≤ w.heap.size) (hr : ∀ k, r = some k → B ≤ k) : Below B w w' :=
  ⟨h.os, h.tape, h.output, h.size, fun k hk => h.block k (by omega) (fun e => by have := hr k e.symm; omega)⟩

/-- append, by what its run is known to be. -/
theorem wp_append_run {o : Oper} {a : Act} {w : World} {K : Act → World → Prop} {Q : Exit → Act → World → Prop} (s x : Operand) (t : TypeId) (ho : o.op = .call { callee := .builtin .append, args := #[s, x], argTypes := #[t, t] }) (hty : o.type = t)
    {v u v' : Value} {w' : World} (hs : a.eval s = v) (hx : a.eval x = u) (hr : (Builtin.append_ #[t, t] t #[v, u]).run Tryd.prog w = .ok v' w') (h : K (a.put o.dst v') w') : o.wp Tryd.prog a w K Q := by
  unfold Oper.wp execOp
  simp only [ho, resolve, invoke, builtin, Sem.run_bind, Sem.run_pure, Result.andThen_ok, List.map_toArray, List.map_cons, List.map_nil, hs, hx, hty, hr]
  exact h
theorem wpList_append_run {ops : Array Oper} {rest : List Oper} {o : Oper} {a : Act} {w : World} {Q : Exit → Act → World → Prop} (hgd : o.guard = none) (s x : Operand) (t : TypeId) (ho : o.op = .call { callee := .builtin .append, args := #[s, x], argTypes := #[t, t] }) (hty : o.type = t)
    {v u v' : Value} {w' : World} (hs : a.eval s = v) (hx : a.eval x = u) (hr : (Builtin.append_ #[t, t] t #[v, u]).run Tryd.prog w = .ok v' w') (h : wpList Tryd.prog ops Q rest (a.put o.dst v') w') : wpList Tryd.prog ops Q (o :: rest) a w :=
  wpList_plain hgd fun _ hK => wp_append_run s x t ho hty hs hx hr (hK _ _ h)

/-- A slice that is copied to a new row, and one more element behind it. -/
theorem app_two {t e : TypeId} {i : TypeInfo} {size bytes : Nat} (ht : Tryd.prog.underlying t = some (.slice e)) (hi : Tryd.prog.info? e = some i) (hii : (i.size, i.bytes, i.zero.map (fun z => z.cells.size)) = (size, bytes, some size)) (hsz : 0 < size) (hby : bytes ≤ 1000)
    {X : World} {a : Option Addr} {m c : Nat} {C : Nat → List Value} (hl : ∀ i, i < m → (C i).length = size) (h1 : ∀ i, i < m → ∀ u ∈ C i, u.oneCell' = true)
    (hc : ∀ i, i < m → ∃ b o, a = some ⟨b, o, none⟩ ∧ ∀ j v, (C i)[j]? = some v → X.cell? ⟨b, o + i * size + j, none⟩ = some v) (hm0 : a = none → m = 0) (hm : m ≤ 10) (one : List Value) (ho : one.length = size) (ho1 : ∀ u ∈ one, u.oneCell' = true) :
    ∃ g5 c5 w5 g6 c6 w6, (Builtin.append_ #[t, t] t #[.slice (some ⟨X.heap.size, 0, none⟩) 0 0, .slice a m c]).run Tryd.prog (X.alloc (.cells #[] e)) = .ok (.slice (some ⟨g5, 0, none⟩) m c5) w5 ∧
      (Builtin.append_ #[t, t] t #[.slice (some ⟨g5, 0, none⟩) m c5, .slice (some ⟨w5.heap.size, 0, none⟩) 1 1]).run Tryd.prog (w5.alloc (.cells one.toArray e)) = .ok (.slice (some ⟨g6, 0, none⟩) (m + 1) c6) w6 ∧ Below X.heap.size X w5 ∧ Below X.heap.size X w6 := by
  have hown0 := World.ownsRow_made (base := X.heap.size) (e := e) (size := size) X #[] 0 (Nat.le_refl _) (by decide) (by simp)
  obtain ⟨v5, w5, hr5, ho5, hg5, hv5⟩ := app_run (t := t) ht hi hii hsz hown0 (by simp) (a := a) (m := m) (c := c) (C := C) hl h1 (fun i hi => by
    obtain ⟨b, o, ea, hcc⟩ := hc i hi
    exact ⟨b, o, ea, fun j v hv => ((below1 X _).cell (World.block_lt_of_cell? _ _ (hcc j v hv))).trans (hcc j v hv)⟩) hm0 (by unfold maxLen; omega) (by
      have := Nat.mul_le_mul (show 0 + m ≤ 10 by omega) hby
      omega) (by simp)
  have hb5 : Below X.heap.size X w5 := (below1 X _).trans (grown_below hg5 (by simp) (fun k hk => by simp [Value.ownBlock] at hk; omega))
  have e5 : ∃ g5 c5, v5 = .slice (some ⟨g5, 0, none⟩) m c5 ∧ X.heap.size ≤ g5 := by
    rcases ho5.2 with ⟨h, _⟩ | ⟨g, cap, cur, rfl, hb, _⟩
    · exact absurd h hv5
    · exact ⟨g, cap, by simp, hb⟩
  obtain ⟨g5, c5, rfl, hg5b⟩ := e5
  obtain ⟨v6, w6, hr6, ho6, hg6, hv6⟩ := app_run (t := t) ht hi hii hsz (ho5.alloc (.cells one.toArray e)) (by simp) (a := some ⟨w5.heap.size, 0, none⟩) (m := 1) (c := 1) (C := fun _ => one) (fun _ _ => ho) (fun _ _ => ho1) (fun i hi => by
    obtain rfl : i = 0 := by omega
    exact ⟨_, _, rfl, fun j v hv => by
      have := cell_row (heap_al1 w5 (.cells one.toArray e)) j (v := v) (by simpa using hv)
      simpa using this⟩) (fun h => by cases h) (by unfold maxLen; omega) (by
      have := Nat.mul_le_mul (show 0 + m + 1 ≤ 11 by omega) hby
      omega) (by have := hb5.size; simp; omega)
  have hb6 : Below X.heap.size X w6 := hb5.trans (((below1 w5 _).mono hb5.size).trans (grown_below hg6 (by have := hb5.size; simp; omega) (fun k hk => by simp [Value.ownBlock] at hk; omega)))
  have e6 : ∃ g6 c6, v6 = .slice (some ⟨g6, 0, none⟩) (m + 1) c6 := by
    rcases ho6.2 with ⟨h, _⟩ | ⟨g, cap, cur, rfl, hb, _⟩
    · exact absurd h hv6
    · exact ⟨g, cap, by simp⟩
  obtain ⟨g6, c6, rfl⟩ := e6
  exact ⟨g5, c5, w5, g6, c6, w6, hr5, hr6, hb5, hb6⟩
end Go.Proofs.YtojkagfbdpjckaaDoor
