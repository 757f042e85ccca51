/-
  Slices that come in, as lists.
-/
import Derived.Test.YtbpdeehpeflbeaaFlagsWalk
import Derived.ProofKit
import Derived.OpenShut
import Derived.SliceStrings
import Derived.Deep.Grids
namespace Go.Proofs.Ytbpdeehpeflbeaa
open Go.RowKit Go.ChangeShapes Go.WideShapes

theorem Arg.of_cells {w : World} {x : Addr} {xs : List Value} (h : ∀ i (hi : i < xs.length), w.cell? (x.add i) = some xs[i]) : Arg w (some x) xs := by
  rcases xs with _ | ⟨v, xs⟩
  · exact .inl rfl
  · refine .inr ⟨x, rfl, ?_, h⟩
    have := block_lt_of_cell (h 0 (by simp))
    rwa [add_block] at this

section
variable {H : Type} {enc : TypeId × Value → H} {w : World} {held : Bool} {t e : TypeId} {fuel : Nat} {A : Option Addr} {len cap : Nat} {x : DataW H × List MemPlace}

theorem arg_ints (ht : Try.prog.underlying t = some (.slice e)) (he : Try.prog.underlying e = some (.int .i64)) (hc : Try.prog.cellsOf e = 1)
    (h : DataW.trod enc Try.prog w 0 (fun _ => true) held fuel t [.slice A len cap] = some x) :
    ∃ zs : List Int, zs.length = len ∧ Arg w A (ints zs) ∧ (∀ z ∈ zs, -9223372036854775808 ≤ z ∧ z ≤ 9223372036854775807) ∧ len ≤ maxLen := by
  rcases open_ints ht he hc h with ⟨hcs, _⟩ | ⟨a, l, c, zs, hcs, _, hl, hm, hz, _, hcell, hwz⟩
  · simp at hcs
    obtain ⟨rfl, rfl, rfl⟩ := hcs
    exact ⟨[], rfl, .inl rfl, by simp, by simp⟩
  · simp at hcs
    obtain ⟨rfl, rfl, rfl⟩ := hcs
    simp only [if_true] at hz
    refine ⟨zs.take len, by rw [List.length_take]; omega, Arg.of_cells fun i hi => ?_, fun z hz' => bounds_i64 (hwz z (List.mem_of_mem_take hz')), by omega⟩
    have hi' : i < len := by simp [ints] at hi; omega
    rw [hcell i (by omega)]
    simp [ints, List.getD, List.getElem?_eq_getElem (show i < zs.length by omega)]

theorem arg_bools (ht : Try.prog.underlying t = some (.slice e)) (he : Try.prog.underlying e = some .bool) (hc : Try.prog.cellsOf e = 1)
    (h : DataW.trod enc Try.prog w 0 (fun _ => true) held fuel t [.slice A len cap] = some x) :
    ∃ fs : List Bool, fs.length = len ∧ Arg w A (bools fs) ∧ len ≤ maxLen := by
  rcases Deep.open_bools ht he hc h with ⟨hcs, _⟩ | ⟨a, l, c, B, hcs, _, hl, hm, _, hcell⟩
  · simp at hcs
    obtain ⟨rfl, rfl, rfl⟩ := hcs
    exact ⟨[], rfl, .inl rfl, by simp⟩
  · simp at hcs
    obtain ⟨rfl, rfl, rfl⟩ := hcs
    refine ⟨(List.range len).map B, by simp, Arg.of_cells fun i hi => ?_, by omega⟩
    have hi' : i < len := by simpa [bools] using hi
    rw [hcell i (by omega)]
    simp [bools]

theorem arg_strs (ht : Try.prog.underlying t = some (.slice e)) (he : Try.prog.underlying e = some .string) (hc : Try.prog.cellsOf e = 1)
    (h : DataW.trod enc Try.prog w 0 (fun _ => true) held fuel t [.slice A len cap] = some x) :
    ∃ ts : List (List UInt8), ts.length = len ∧ Arg w A (strs ts) ∧ (∀ s ∈ ts, s.length ≤ maxLen) ∧ len ≤ maxLen ∧ (len = 0 ∨ ∃ r ps, x = (.slice (ts.map fun s => .lit (.string s)) r, ps)) := by
  rcases open_strings ht he hc h with ⟨hcs, _⟩ | ⟨a, l, c, ss, hcs, _, hl, hm, hz, hx, hcell, hws⟩
  · simp at hcs
    obtain ⟨rfl, rfl, rfl⟩ := hcs
    exact ⟨[], rfl, .inl rfl, by simp, by simp, .inl rfl⟩
  · simp at hcs
    obtain ⟨rfl, rfl, rfl⟩ := hcs
    simp only [if_true] at hz
    refine ⟨(ss.take len).map fun s => s.data.toList, by rw [List.length_map, List.length_take]; omega, Arg.of_cells fun i hi => ?_, ?_, by omega, .inr ⟨ChangeShapes.strs (ss.drop len), _, by rw [hx, List.map_map]; rfl⟩⟩
    · have hi' : i < len := by simp [strs] at hi; omega
      rw [hcell i (by omega)]
      simp [strs, List.getD, List.getElem?_eq_getElem (show i < ss.length by omega)]
    · intro s hs
      simp only [List.mem_map] at hs
      obtain ⟨b, hb, rfl⟩ := hs
      have := hws b (List.mem_of_mem_take hb)
      rw [Array.length_toList]
      exact this
end

end Go.Proofs.Ytbpdeehpeflbeaa
