/-
  A slice of parts that comes in, as a list.
-/
import Derived.Test.YtbpdeehpeflbeaaLaysWalk
import Derived.Test.YtbpdeehpeflbeaaOpen
import Derived.Deep.Slices
import Derived.Deep.Strs
namespace Go.Proofs.Ytbpdeehpeflbeaa
open Go.RowKit Go.ChangeShapes Go.WideShapes

theorem cells?_three {w : World} {base : Nat} {a : Addr} {cs : List Value} (h : w.cells? base a 3 = some cs) :
    ∃ x y z, cs = [x, y, z] ∧ w.cell? a = some x ∧ w.cell? ⟨a.block, a.off + 1, none⟩ = some y ∧ w.cell? ⟨a.block, a.off + 2, none⟩ = some z := by
  unfold World.cells? at h
  split at h
  · have e : (List.range 3) = [0, 1, 2] := rfl
    rw [e] at h
    simp only [List.mapM_cons, List.mapM_nil, Option.bind_eq_bind, Option.bind_eq_some_iff, Option.pure_def] at h
    obtain ⟨x, hx, ys, ⟨y, hy, zs, ⟨z, hz, ws, hws, h3⟩, h2⟩, h1⟩ := h
    simp only [Option.some.injEq] at hws h3 h2 h1
    subst hws h3 h2 h1
    refine ⟨x, y, z, rfl, by simpa [Addr.add] using hx, by simpa [Addr.add] using hy, by simpa [Addr.add] using hz⟩
  · cases h

theorem arg_parts {H : Type} {enc : TypeId × Value → H} {w : World} {held : Bool} {fuel : Nat} {A : Option Addr} {len cap : Nat} {x : DataW H × List MemPlace}
    (h : DataW.trod enc Try.prog w 0 (fun _ => true) held fuel 22 [.slice A len cap] = some x) :
    ∃ ps : List Pt, ps.length = len ∧ PArg w A ps ∧ (∀ p ∈ ps, -9223372036854775808 ≤ p.n ∧ p.n ≤ 9223372036854775807) ∧ len ≤ maxLen := by
  have hc30 : Try.prog.cellsOf 30 = 3 := by kernel_rfl
  have hc3 : Try.prog.cellsOf 3 = 1 := by kernel_rfl
  have hc9 : Try.prog.cellsOf 9 = 1 := by kernel_rfl
  rcases Deep.open_slice Try.underlying22 h with ⟨hcs, _⟩ | ⟨a, l, c, m, n, D, Pl, hcs, _, hl, hm, hmm, _, hel⟩
  · simp at hcs
    obtain ⟨rfl, rfl, rfl⟩ := hcs
    exact ⟨[], rfl, .inl rfl, by simp, by simp⟩
  · simp at hcs
    obtain ⟨rfl, rfl, rfl⟩ := hcs
    simp only [if_true] at hmm
    have each : ∀ i, i < len → ∃ p : Pt, (w.cell? (a.add (i * 3)) = some (.int .i64 p.k) ∧ w.cell? ⟨(a.add (i * 3)).block, (a.add (i * 3)).off + 1, none⟩ = some (.int .i64 p.n) ∧ w.cell? ⟨(a.add (i * 3)).block, (a.add (i * 3)).off + 2, none⟩ = some (.string ⟨p.s.toArray⟩)) ∧ (-9223372036854775808 ≤ p.n ∧ p.n ≤ 9223372036854775807) := by
      intro i hi
      obtain ⟨cs', hcs', hd⟩ := hel i (by omega)
      rw [hc30] at hcs'
      obtain ⟨u, v, z, rfl, h0, h1, h2⟩ := cells?_three hcs'
      obtain ⟨y0, y1, y2, n', _, _, t0, t1, t2⟩ := Deep.trod_struct3 Try.underlying30 hd
      simp only [hc3, hc9, List.drop_zero, List.take_succ_cons, List.take_zero, List.drop_succ_cons] at t0 t1 t2
      obtain ⟨k0, e0, _, _⟩ := DataW.trod_int Try.underlying3 t0
      obtain ⟨n0, e1, _, wn⟩ := DataW.trod_int Try.underlying3 t1
      obtain ⟨s0, e2, _, _⟩ := DataW.trod_string Try.underlying9 t2
      simp only [List.cons.injEq, and_true] at e0 e1 e2
      subst e0 e1 e2
      exact ⟨⟨k0, n0, s0.data.toList⟩, ⟨h0, h1, by simpa using h2⟩, bounds_i64 wn⟩
    have : Inhabited Pt := ⟨⟨0, 0, []⟩⟩
    obtain ⟨f, hf⟩ := Deep.choose_lt each
    refine ⟨(List.range len).map f, by simp, ?_, ?_, by omega⟩
    · rcases Nat.eq_zero_or_pos len with h0 | h0
      · subst h0; exact .inl (by simp)
      · refine .inr ⟨a, rfl, ?_, fun i hi => ?_⟩
        · have := block_lt_of_cell (hf 0 h0).1.1
          rwa [add_block] at this
        · have hi' : i < len := by simpa using hi
          simp only [List.getElem_map, List.getElem_range]
          exact (hf i hi').1
    · intro p hp
      simp only [List.mem_map, List.mem_range] at hp
      obtain ⟨i, hi, rfl⟩ := hp
      exact (hf i hi).2

end Go.Proofs.Ytbpdeehpeflbeaa
