/-
  Types as they are read.
-/
import Derived.Test.YtgnkkoeklipmiaaOpen
namespace Go.Proofs.Ytgnkkoeklipmiaa
open Go.ChangeShapes Go.WideShapes Go.ChangeAt Go.RowKit
open Go.ChangeMaps (open_string shut_string)
set_option linter.unusedVariables false
variable {H : Type} {enc : TypeId × Value → H} {w : World} {held : Bool}

set_option maxRecDepth 100000 in
theorem open_type {r : Reach} {b0 : Nat} {v : Value} {d : DataW H} {p : List MemPlace} (hv : Value.okWide Try.prog w r b0 44 v) (h : DataW.Trod enc Try.prog w 0 (fun _ => true) held 44 v d p) : ∃ n a, v = .agg #[.string n, .bool a] ∧ n.size ≤ maxLen := by
  obtain ⟨cs, rfl, hsz⟩ := okWide_struct Try.underlying44 hv
  obtain ⟨fuel, hfu⟩ := h
  obtain ⟨xs, n', _, hd, hl, hxl, hf⟩ := DataW.trod_struct Try.underlying44 hfu
  rw [c44] at hl
  obtain ⟨v0, v1, ecs⟩ := list2 hl
  rw [ecs] at hf
  have hx : xs.length = 2 := hxl
  obtain ⟨x0, e0⟩ := some_at hx (show 0 < 2 by omega)
  obtain ⟨x1, e1⟩ := some_at hx (show 1 < 2 by omega)
  have t0 : DataW.trod enc Try.prog w 0 (fun _ => true) held n' 9 (([v0, v1].drop 0).take (Try.prog.cellsOf 9)) = xs[0]? := hf 0 _ rfl
  have t1 : DataW.trod enc Try.prog w 0 (fun _ => true) held n' 4 (([v0, v1].drop 1).take (Try.prog.cellsOf 4)) = xs[1]? := hf 1 _ rfl
  rw [c9, e0] at t0
  rw [c4, e1] at t1
  obtain ⟨s, q0, _, hs⟩ := DataW.trod_string Try.underlying9 t0
  obtain ⟨b, q1, _⟩ := DataW.trod_bool Try.underlying4 t1
  simp at q0 q1
  subst q0 q1
  refine ⟨s, b, ?_, hs⟩
  have : cs = #[.string s, .bool b] := by
    cases cs
    simpa [Value.cells] using ecs
  rw [this]
end Go.Proofs.Ytgnkkoeklipmiaa
