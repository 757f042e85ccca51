/-
  Files as an argument: a slice of files in memory.
-/
import Derived.Test.YthimpjfmelmhpaaDoorCsOpenF
namespace Go.Proofs.YthimpjfmelmhpaaDoor.Fc
open Go.ChangeShapes Go.WideShapes Go.ChangeAt Go.RowKit
open Go.ChangeMaps (open_string shut_string)
set_option linter.unusedVariables false
variable {H : Type} {enc : TypeId × Value → H} {w : World} {held : Bool}
theorem c44 : Tryd.prog.cellsOf 44 = 10 := by kernel_rfl
instance : Inhabited Fl := ⟨⟨default, [], [], [], [], [], []⟩⟩
set_option maxRecDepth 100000 in
/-- files as an argument -/
theorem open_files {r : Reach} {b0 : Nat} {v : Value} {d : DataW H} {p : List MemPlace} (hv : Value.okWide Tryd.prog w r b0 22 v) (h : DataW.Trod enc Tryd.prog w 0 (fun _ => true) held 22 v d p) : ∃ fs a n c, v = .slice a n c ∧ Sl w 10 (FlR w) fs (.slice a n c) := by
  obtain ⟨fuel, hf⟩ := h
  obtain ⟨a0, n0, c0, rfl⟩ := okWide_slice Tryd.underlying22 hv
  have hf' : DataW.trod enc Tryd.prog w 0 (fun _ => true) held fuel 22 [.slice a0 n0 c0] = some (d, p) := by simpa [Value.cells] using hf
  obtain ⟨fs, hs⟩ := trod_sl Tryd.underlying22 c44 (by decide) (fun m _ _ _ h => by obtain ⟨y, hy, hl⟩ := trod_file h; exact ⟨y, hy.1, hl⟩) hf'
  exact ⟨fs, a0, n0, c0, rfl, hs⟩
end Go.Proofs.YthimpjfmelmhpaaDoor.Fc
