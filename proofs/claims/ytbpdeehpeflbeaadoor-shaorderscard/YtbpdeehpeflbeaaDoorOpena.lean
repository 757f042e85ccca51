/-
  A digest that comes in.
-/
import Derived.Test.YtbpdeehpeflbeaaDoorOpen
import Derived.WideKeyArr2
namespace Go.Proofs.YtbpdeehpeflbeaaDoor
open Go.ChangeShapes Go.WideShapes Go.ChangeAt Go.RowKit

theorem cells24 : Tryd.prog.cellsOf 24 = 32 := by kernel_rfl
theorem cells5 : Tryd.prog.cellsOf 5 = 1 := by kernel_rfl

theorem open_digest {H : Type} {enc : TypeId × Value → H} {W : World} {base b0 : Nat} {sp : Nat → Bool} {held : Bool} {r : Reach} {v : Value} {d : DataW H} {ps : List MemPlace}
    (hval : Value.okWide Tryd.prog W r b0 24 v) (h : DataW.Trod enc Tryd.prog W base sp held 24 v d ps) :
    ∃ D : List Nat, v = .agg (D.map U8).toArray ∧ D.length = 32 ∧ ∀ x ∈ D, x < 256 := by
  simp only [Value.okWide, Tryd.underlying24] at hval
  obtain ⟨xs, rfl, hs, _⟩ := hval
  rw [cells24] at hs
  obtain ⟨fuel, hf⟩ := h
  cases fuel with
  | zero => simp [DataW.trod] at hf
  | succ m =>
    rw [DataW.trod_step] at hf
    unfold DataW.trodStep at hf
    simp only [Tryd.underlying24, Value.cells, cells24, cells5] at hf
    rw [if_pos (by simpa using hs)] at hf
    simp only [Option.map_eq_some_iff] at hf
    obtain ⟨ys, hy, _⟩ := hf
    have hat : ∀ i, i < 32 → ∃ a : Nat, a < 256 ∧ xs.toList[i]? = some (U8 a) := by
      intro i hi
      obtain ⟨y, _, hyy⟩ := Lib.mapM_at hy i i (by simp [hi])
      obtain ⟨a, ea, _, wa⟩ := DataW.trod_int Tryd.underlying5 hyy
      have wb : 0 ≤ a ∧ a < 256 := by
        simp [Lit.wf] at wa
        have m1 : IntKind.u8.min = 0 := by decide
        have m2 : IntKind.u8.max = 255 := by decide
        rw [m1, m2] at wa
        omega
      refine ⟨a.toNat, by omega, ?_⟩
      have h1 : ((xs.toList.drop (i * 1)).take 1)[0]? = some (.int .u8 a) := by rw [ea]; rfl
      rw [Nat.mul_one, List.getElem?_take_of_lt (by omega), List.getElem?_drop, Nat.add_zero] at h1
      rw [h1]
      unfold U8
      congr 2
      omega
    refine ⟨xs.toList.map fun v => (intOf v).toNat, ?_, by simpa using hs, ?_⟩
    · congr 1
      apply Array.ext'
      simp only
      apply List.ext_getElem?
      intro i
      by_cases hi : i < 32
      · obtain ⟨a, ha, e⟩ := hat i hi
        rw [List.getElem?_map, List.getElem?_map, e]
        rfl
      · rw [List.getElem?_eq_none (by simp; omega), List.getElem?_eq_none (by simp; omega)]
    · intro x hx
      obtain ⟨v, hv, rfl⟩ := List.mem_map.1 hx
      obtain ⟨i, hi, rfl⟩ := List.mem_iff_getElem.1 hv
      have hi' : i < 32 := by simp at hi; omega
      obtain ⟨a, ha, e⟩ := hat i hi'
      rw [List.getElem?_eq_getElem hi] at e
      rw [Option.some.inj e]
      exact ha

end Go.Proofs.YtbpdeehpeflbeaaDoor
