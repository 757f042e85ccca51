/-
  The table that the rows list; a world in which it stands.
-/
import Derived.Test.YthimpjfmelmhpaaDoorRows
import Derived.Test.YthimpjfmelmhpaaDoorCsRight
import Derived.WalkKit
import Derived.ProofKit
import Derived.OpenShut
import Derived.ShutString
import Derived.ChangeOld
import Derived.ChangeSame
import Derived.Below
import Derived.Deep.DeepHandedRow
import Derived.Lib.LaidTab
import Derived.Stop.LaidErr
namespace Go.Proofs.YthimpjfmelmhpaaDoor.Fc
open Go.ChangeShapes Go.WideShapes Go.ChangeAt Go.RowKit
open Go.ChangeMaps (open_string shut_string)

theorem own : ownKnob Tryd.prog.godebug = none := by kernel_rfl
theorem laidOut : laidOutB Tryd.prog = true := by kernel_rfl

def rowData {H : Type} (r : Bs × Int) : DataW H := .agg [.lit (.string r.1), .lit (.int .i32 r.2)]
def rowsData {H : Type} (ts : List (Bs × Int)) : DataW H := .agg (ts.map rowData)
theorem c9 : Tryd.prog.cellsOf 9 = 1 := by kernel_rfl
theorem c21 : Tryd.prog.cellsOf 21 = 1 := by kernel_rfl
theorem c102 : Tryd.prog.cellsOf 148 = 2 := by kernel_rfl
theorem c103 : Tryd.prog.cellsOf 149 = 66 := by kernel_rfl
theorem cells_of_rows {H : Type} {enc : TypeId × Value → H} {w : World} {base : Nat} {sp : Nat → Bool} {held : Bool} {fuel : Nat} {cs : List Value} {zs : List (Bs × Int)} {p : List MemPlace}
    (h : DataW.trod enc Tryd.prog w base sp held fuel 149 cs = some (rowsData zs, p)) :
    ∀ i, i < 33 → ∃ n q, zs[i]? = some (n, q) ∧ cs[i * 2]? = some (S8 n) ∧ cs[i * 2 + 1]? = some (.int .i32 q) := by
  cases fuel with
  | zero => simp [DataW.trod] at h
  | succ fuel =>
    simp only [DataW.trod, Tryd.underlying149, c102, c103] at h
    split at h
    · rename_i hl
      obtain ⟨xs, hm, hx⟩ := Option.map_eq_some_iff.1 h
      have hxs : xs.map (·.1) = zs.map rowData := by
        have := congrArg Prod.fst hx
        simpa [rowsData] using this
      intro i hi
      obtain ⟨b, hb, hf⟩ := Lib.mapM_at hm i i (by simp [hi])
      have h2 : (xs.map (·.1))[i]? = some b.1 := by simp [hb]
      rw [hxs, List.getElem?_map, Option.map_eq_some_iff] at h2
      obtain ⟨⟨n, q⟩, hz, hr⟩ := h2
      obtain ⟨y0, y1, m, rfl, hl2, t0, t1⟩ := trod_struct2 Tryd.underlying148 hf
      obtain ⟨s, e0, rfl, _⟩ := DataW.trod_string Tryd.underlying9 t0
      obtain ⟨k, e1, rfl, _⟩ := DataW.trod_int Tryd.underlying21 t1
      simp only [rowData, DataW.agg.injEq, List.cons.injEq, DataW.lit.injEq, Lit.string.injEq, Lit.int.injEq, and_true, true_and] at hr
      obtain ⟨r1, r2⟩ := hr
      refine ⟨n, q, hz, ?_, ?_⟩
      · have := congrArg (·[0]?) e0
        simp [c9, List.getElem?_drop] at this
        rw [this, S8, r1]; cases s; simp [str]
      · have := congrArg (·[0]?) e1
        simp [c21, List.getElem?_drop] at this
        rw [this, r2]
    · cases h
theorem gTab : Tryd.prog.globalNamed "kiln/op.table" = some 0 := by kernel_rfl
theorem tTab : (Tryd.prog.globals[0]?).map (·.type) = some 149 := by kernel_rfl
theorem cells_flat : ∀ j v, cellsL[j]? = some v → ∃ i, i < 33 ∧ ((j = i * 2 ∧ v = S8 (nameN i)) ∨ (j = i * 2 + 1 ∧ v = .int .i32 (poolN i))) := by
  intro j v hv
  have hl : cellsL.length = 66 := rfl
  have hj : j < 66 := by rw [← hl]; exact (List.getElem?_eq_some_iff.1 hv).1
  refine ⟨j / 2, by omega, ?_⟩
  rcases Nat.mod_two_eq_zero_or_one j with h | h
  · left
    have e : j = j / 2 * 2 := by omega
    refine ⟨e, ?_⟩
    have := cells_name (j / 2) (by omega)
    rw [← e, hv] at this
    exact Option.some.inj this
  · right
    have e : j = j / 2 * 2 + 1 := by omega
    refine ⟨e, ?_⟩
    have := cells_pool (j / 2) (by omega)
    rw [← e, hv] at this
    exact Option.some.inj this
abbrev laidL {H : Type} : List (String × DataW H) := [("kiln/op.table", Rows.laid_kiln_op_table)]
theorem laid_rows {H : Type} : (Rows.laid_kiln_op_table : DataW H) = rowsData rowsL := rfl
theorem tab_of {W : World} (h : laidMet Tryd.prog laidL W) : TabR W := by
  obtain ⟨ps, ⟨g', t', cs, fuel, p, q, hg', ht', hvar, hd, _, _⟩, _⟩ := h
  obtain rfl := Option.some.inj (gTab.symm.trans hg')
  obtain rfl := Option.some.inj (tTab.symm.trans ht')
  rw [laid_rows] at hd
  have e1 := cells_of_rows hd
  intro j v hv
  obtain ⟨i, hi, hc⟩ := cells_flat j v hv
  obtain ⟨n, m, hz, h0, h1⟩ := e1 i hi
  have := hz.symm.trans (rows_at hi)
  simp only [Option.some.injEq, Prod.mk.injEq] at this
  obtain ⟨rfl, rfl⟩ := this
  have hcell := World.var?_cell gTab hvar j
  rw [hcell]
  rcases hc with ⟨rfl, rfl⟩ | ⟨rfl, rfl⟩
  · simpa using h0
  · simpa using h1
/-- a world whose variable of that number holds these cells -/
def putTab (w : World) (g : Nat) (cs : Array Value) : World := { w with heap := w.heap.modify g fun | .cells _ t frozen => .cells cs t frozen | o => o }
noncomputable def laidWorld (os : Os) : World := putTab (World.holding Tryd.prog os ⟨#[], #[], []⟩) 0 cellsL.toArray
end Go.Proofs.YthimpjfmelmhpaaDoor.Fc
