/-
  The tables that the rows list; a world in which they stand.
-/
import Derived.Test.YtaochdmbbbighaaDoorRows
import Derived.Test.YtaochdmbbbighaaDoorHead
import Derived.WalkKit
import Derived.ProofKit
import Derived.OpenShut
import Derived.ShutString
import Derived.ChangeOld
import Derived.Below
import Derived.Deep.DeepHandedRow
import Derived.Lib.LaidTab
import Derived.Stop.LaidErr
namespace Go.Proofs.YtaochdmbbbighaaDoor
open Go.ChangeShapes Go.WideShapes Go.ChangeAt Go.RowKit
open Go.ChangeMaps (open_string shut_string)

theorem own : ownKnob Tryd.prog.godebug = none := by kernel_rfl
theorem laidOut : laidOutB Tryd.prog = true := by kernel_rfl

def textData {H : Type} (ts : List Bs) : DataW H := .agg (ts.map fun t => .lit (.string t))
theorem cells_of_texts {H : Type} {enc : TypeId × Value → H} {P : Program} {w : World} {base : Nat} {sp : Nat → Bool} {held : Bool} {fuel : Nat} {t e : TypeId} {n : Nat} {cs : List Value} {zs : List Bs} {p : List MemPlace}
    (ht : P.underlying t = some (.array n e)) (he : P.underlying e = some .string) (hce : P.cellsOf e = 1) (hct : P.cellsOf t = n)
    (h : DataW.trod enc P w base sp held fuel t cs = some (textData zs, p)) : cs = zs.map S8 := by
  cases fuel with
  | zero => simp [DataW.trod] at h
  | succ fuel =>
    simp only [DataW.trod, ht, hce, hct, Nat.mul_one] at h
    split at h
    · rename_i hl
      obtain ⟨xs, hm, hx⟩ := Option.map_eq_some_iff.1 h
      have hxs : xs.map (·.1) = zs.map fun z => (DataW.lit (.string z) : DataW H) := by
        have := congrArg Prod.fst hx
        simpa [textData] using this
      have hxl : xs.length = n := by simpa using Lib.mapM_length hm
      have hzl : zs.length = n := by
        have := congrArg List.length hxs
        simp at this
        omega
      apply List.ext_getElem?
      intro i
      by_cases hi : i < n
      · obtain ⟨b, hb, hf⟩ := Lib.mapM_at hm i i (by simp [hi])
        obtain ⟨s, hc, rfl, _⟩ := DataW.trod_string he hf
        have h1 : cs[i]? = some (.string s) := by
          have := congrArg (·[0]?) hc
          simpa [List.getElem?_take, List.getElem?_drop] using this
        have h2 : (xs.map (·.1))[i]? = some (DataW.lit (.string s.data.toList) : DataW H) := by simp [hb]
        rw [hxs] at h2
        simp only [List.getElem?_map, Option.map_eq_some_iff, DataW.lit.injEq, Lit.string.injEq] at h2
        obtain ⟨z', hz', hz2⟩ := h2
        rw [h1, List.getElem?_map, hz', hz2, Option.map_some, S8, str_data]
      · rw [List.getElem?_eq_none (by omega), List.getElem?_eq_none (by simp; omega)]
    · cases h

theorem tab_of_head {W : World} {name : String} {zs : List Bs} {rest : List (String × DataW Unit)} {g : Nat} {t e : TypeId} {n : Nat}
    (hg : Tryd.prog.globalNamed name = some g) (hty : (Tryd.prog.globals[g]?).map (·.type) = some t) (ht : Tryd.prog.underlying t = some (.array n e)) (he : Tryd.prog.underlying e = some .string) (hce : Tryd.prog.cellsOf e = 1) (hct : Tryd.prog.cellsOf t = n)
    (h : laidMet Tryd.prog ((name, textData zs) :: rest) W) : TabS W g zs := by
  obtain ⟨ps, ⟨g', t', cs, fuel, p, q, hg', ht', hvar, hd, _, _⟩, _⟩ := h
  obtain rfl := Option.some.inj (hg.symm.trans hg')
  obtain rfl := Option.some.inj (hty.symm.trans ht')
  have e1 := cells_of_texts ht he hce hct hd
  intro j v hv
  have h1 := World.var?_cell hg hvar j
  rw [Nat.zero_add, h1]
  have e2 : cs = (zs.map S8).toArray := by rw [← e1]
  rw [e2]
  simpa using hv

theorem gMarks : Tryd.prog.globalNamed "kiln/lex.marks" = some 1 := by kernel_rfl
theorem gWords : Tryd.prog.globalNamed "kiln/lex.words" = some 2 := by kernel_rfl
theorem tMarks : (Tryd.prog.globals[1]?).map (·.type) = some 74 := by kernel_rfl
theorem tWords : (Tryd.prog.globals[2]?).map (·.type) = some 76 := by kernel_rfl
theorem c9 : Tryd.prog.cellsOf 9 = 1 := by kernel_rfl
theorem c74 : Tryd.prog.cellsOf 74 = 22 := by kernel_rfl
theorem c76 : Tryd.prog.cellsOf 76 = 21 := by kernel_rfl
theorem tabs_of {W : World} (h : laidMet Tryd.prog [("kiln/lex.marks", Rows.laid_kiln_lex_marks), ("kiln/lex.words", Rows.laid_kiln_lex_words)] W) : Tabs W := by
  have h1 : TabS W 1 marksL := tab_of_head (zs := marksL) gMarks tMarks Tryd.underlying74 Tryd.underlying9 c9 c74 h
  have h2 : TabS W 2 wordsL := tab_of_head (zs := wordsL) gWords tWords Tryd.underlying76 Tryd.underlying9 c9 c76 h.tail
  exact ⟨h1, h2, block_lt_of_cell (h2 0 _ rfl)⟩

/-- a world whose variable of that number holds these cells -/
def putTab (w : World) (g : Nat) (cs : Array Value) : World := { w with heap := w.heap.modify g fun | .cells _ t frozen => .cells cs t frozen | o => o }
noncomputable def laidWorld (os : Os) : World := putTab (putTab (World.holding Tryd.prog os ⟨#[], #[], []⟩) 1 (marksL.map S8).toArray) 2 (wordsL.map S8).toArray
end Go.Proofs.YtaochdmbbbighaaDoor
