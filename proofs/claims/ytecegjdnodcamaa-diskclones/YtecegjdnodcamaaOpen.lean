/-
  Slices that come in, as lists.
-/
import Derived.Test.YtecegjdnodcamaaLastWalk
import Derived.ProofKit
import Derived.OpenShut
import Derived.SliceStrings
import Derived.Deep.Grids
namespace Go.Proofs.Ytecegjdnodcamaa
open Go.RowKit Go.ChangeShapes Go.WideShapes

/-- a slice of ints that came in -/
def IArg (w : World) (A : Option Addr) (zs : List Int) : Prop := zs = [] ∨ ∃ ad : Addr, A = some ad ∧ ad.block < w.heap.size ∧ ∀ i (h : i < zs.length), w.cell? (ad.add i) = some (.int .i64 zs[i])
theorem IArg.at_ {w w' : World} {A : Option Addr} {zs : List Int} (h : IArg w A zs) (hb : Below w.heap.size w w') (i : Nat) (hi : i < zs.length) : ∃ ad, A = some ad ∧ w'.cell? (ad.add i) = some (.int .i64 zs[i]) := by
  rcases h with h | ⟨ad, e, hlt, hc⟩
  · subst h; simp at hi
  · exact ⟨ad, e, (hb.cell (by rw [add_block]; exact hlt)).trans (hc i hi)⟩

section
variable {H : Type} {enc : TypeId × Value → H} {w : World} {held : Bool} {t e : TypeId} {fuel : Nat} {A : Option Addr} {len cap : Nat} {x : DataW H × List MemPlace}

theorem arg_ints (ht : Try.prog.underlying t = some (.slice e)) (he : Try.prog.underlying e = some (.int .i64)) (hc : Try.prog.cellsOf e = 1)
    (h : DataW.trod enc Try.prog w 0 (fun _ => true) held fuel t [.slice A len cap] = some x) :
    ∃ zs : List Int, zs.length = len ∧ IArg w A zs ∧ (∀ z ∈ zs, -9223372036854775808 ≤ z ∧ z ≤ 9223372036854775807) ∧ len ≤ maxLen := by
  rcases open_ints ht he hc h with ⟨hcs, _⟩ | ⟨a, l, c, zs, hcs, _, hl, hm, hz, _, hcell, hwz⟩
  · simp at hcs
    obtain ⟨rfl, rfl, rfl⟩ := hcs
    exact ⟨[], rfl, .inl rfl, by simp, by simp⟩
  · simp at hcs
    obtain ⟨rfl, rfl, rfl⟩ := hcs
    simp only [if_true] at hz
    have hcc : ∀ i (hi : i < (zs.take len).length), w.cell? (a.add i) = some (.int .i64 (zs.take len)[i]) := by
      intro i hi
      have hi' : i < len := by rw [List.length_take] at hi; omega
      rw [hcell i (by omega)]
      simp [List.getD, List.getElem?_eq_getElem (show i < zs.length by omega)]
    refine ⟨zs.take len, by rw [List.length_take]; omega, ?_, fun z hz' => bounds_i64 (hwz z (List.mem_of_mem_take hz')), by omega⟩
    rcases Nat.eq_zero_or_pos (zs.take len).length with h0 | h0
    · exact .inl (List.eq_nil_of_length_eq_zero h0)
    · exact .inr ⟨a, rfl, by have := block_lt_of_cell (hcc 0 h0); rwa [add_block] at this, hcc⟩

theorem arg_bools (ht : Try.prog.underlying t = some (.slice e)) (he : Try.prog.underlying e = some .bool) (hc : Try.prog.cellsOf e = 1)
    (h : DataW.trod enc Try.prog w 0 (fun _ => true) held fuel t [.slice A len cap] = some x) :
    ∃ fs : List Bool, fs.length = len ∧ BArg w A fs ∧ len ≤ maxLen := by
  rcases Deep.open_bools ht he hc h with ⟨hcs, _⟩ | ⟨a, l, c, B, hcs, _, hl, hm, _, hcell⟩
  · simp at hcs
    obtain ⟨rfl, rfl, rfl⟩ := hcs
    exact ⟨[], rfl, .inl rfl, by simp⟩
  · simp at hcs
    obtain ⟨rfl, rfl, rfl⟩ := hcs
    have hcc : ∀ i (hi : i < ((List.range len).map B).length), w.cell? (a.add i) = some (.bool ((List.range len).map B)[i]) := by
      intro i hi
      have hi' : i < len := by simpa using hi
      rw [hcell i (by omega)]
      simp
    refine ⟨(List.range len).map B, by simp, ?_, by omega⟩
    rcases Nat.eq_zero_or_pos ((List.range len).map B).length with h0 | h0
    · exact .inl (List.eq_nil_of_length_eq_zero h0)
    · exact .inr ⟨a, rfl, by have := block_lt_of_cell (hcc 0 h0); rwa [add_block] at this, hcc⟩

theorem arg_strs (ht : Try.prog.underlying t = some (.slice e)) (he : Try.prog.underlying e = some .string) (hc : Try.prog.cellsOf e = 1)
    (h : DataW.trod enc Try.prog w 0 (fun _ => true) held fuel t [.slice A len cap] = some x) :
    ∃ ts : List ByteArray, ts.length = len ∧ SArg w A ts ∧ (∀ s ∈ ts, s.size ≤ maxLen) ∧ len ≤ maxLen := by
  rcases open_strings ht he hc h with ⟨hcs, _⟩ | ⟨a, l, c, ss, hcs, _, hl, hm, hz, hx, hcell, hws⟩
  · simp at hcs
    obtain ⟨rfl, rfl, rfl⟩ := hcs
    exact ⟨[], rfl, .inl rfl, by simp, by simp⟩
  · simp at hcs
    obtain ⟨rfl, rfl, rfl⟩ := hcs
    simp only [if_true] at hz
    have hcc : ∀ i (hi : i < (ss.take len).length), w.cell? (a.add i) = some (.string (ss.take len)[i]) := by
      intro i hi
      have hi' : i < len := by rw [List.length_take] at hi; omega
      rw [hcell i (by omega)]
      simp [List.getD, List.getElem?_eq_getElem (show i < ss.length by omega)]
    refine ⟨ss.take len, by rw [List.length_take]; omega, ?_, fun s hs => hws s (List.mem_of_mem_take hs), by omega⟩
    rcases Nat.eq_zero_or_pos (ss.take len).length with h0 | h0
    · exact .inl (List.eq_nil_of_length_eq_zero h0)
    · exact .inr ⟨a, rfl, by have := block_lt_of_cell (hcc 0 h0); rwa [add_block] at this, hcc⟩
end

end Go.Proofs.Ytecegjdnodcamaa
