/-
  A slice of numbers that came in.
-/
import Derived.Test.YtkdgneinjkongaaDoorOpen
import Derived.Test.YtkdgneinjkongaaDoorInstrsW
namespace Go.Proofs.YtkdgneinjkongaaDoor
open Go.ChangeShapes Go.WideShapes Go.ChangeAt Go.RowKit

theorem Arg.of_cells {w : World} {x : Addr} {xs : List Value} (h : ∀ i (hi : i < xs.length), w.cell? (x.add i) = some xs[i]) : Arg w (some x) xs := by
  rcases xs with _ | ⟨v, xs⟩
  · exact .inl rfl
  · refine .inr ⟨x, rfl, ?_, h⟩
    have := World.block_lt_of_cell? _ _ (h 0 (by simp))
    rwa [add_block] at this
theorem arg_ints {H : Type} {enc : TypeId × Value → H} {w : World} {held : Bool} {t e : TypeId} {fuel : Nat} {A : Option Addr} {len cap : Nat} {x : DataW H × List MemPlace}
    (ht : Tryd.prog.underlying t = some (.slice e)) (he : Tryd.prog.underlying e = some (.int .i64)) (hc : Tryd.prog.cellsOf e = 1)
    (h : DataW.trod enc Tryd.prog w 0 (fun _ => true) held fuel t [.slice A len cap] = some x) :
    ∃ zs : List Int, zs.length = len ∧ Arg w A (ints zs) := by
  rcases open_ints ht he hc h with ⟨hcs, _⟩ | ⟨a, l, c, zs, hcs, _, hl, hm, hz, _, hcell, hwz⟩
  · simp at hcs
    obtain ⟨rfl, rfl, rfl⟩ := hcs
    exact ⟨[], rfl, .inl rfl⟩
  · simp at hcs
    obtain ⟨rfl, rfl, rfl⟩ := hcs
    simp only [if_true] at hz
    refine ⟨zs.take len, by rw [List.length_take]; omega, Arg.of_cells fun i hi => ?_⟩
    have hi' : i < len := by simp [ints] at hi; omega
    rw [hcell i (by omega)]
    simp [ints, List.getD, List.getElem?_eq_getElem (show i < zs.length by omega)]
theorem instrs4 (c x : Int) (ms : List Int) (a : Option Addr) (cap : Nat) (w : World) (hx : -9223372036854775808 ≤ x ∧ x ≤ 9223372036854775807) (hA : Arg w a (ints ms)) (hT : TabR w) (hP : Pow w) :
    Calls Tryd.prog 4 #[.int .i64 c, .int .i64 x, .slice a ms.length cap] w fun e w' => e = .returned (.bool true) ∧ Below w.heap.size w w' := by
  by_cases h : 10 < ms.length
  · exact instrs_long c x a _ cap w h hT hP
  · exact instrs_main c x ms a cap w hx.1 hx.2 hA h hT hP
end Go.Proofs.YtkdgneinjkongaaDoor
