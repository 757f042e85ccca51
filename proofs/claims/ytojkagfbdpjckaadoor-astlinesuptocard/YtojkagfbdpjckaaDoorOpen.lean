/-
  Arguments as they are read: types and expressions; the tables that the rows list; a world in which they stand.
-/
import Derived.Test.YtojkagfbdpjckaaDoorRows
import Derived.Test.YtojkagfbdpjckaaDoorHead
import Derived.WalkKit
import Derived.ProofKit
import Derived.OpenShut
import Derived.ShutString
import Derived.ChangeOld
import Derived.Below
import Derived.Deep.DeepHandedRow
import Derived.Deep.Slices
import Derived.Lib.LaidTab
import Derived.Stop.LaidErr
namespace Go.Proofs.YtojkagfbdpjckaaDoor
open Go.ChangeShapes Go.WideShapes Go.ChangeAt Go.RowKit
open Go.ChangeMaps (open_string shut_string)

theorem own : ownKnob Tryd.prog.godebug = none := by kernel_rfl
theorem laidOut : laidOutB Tryd.prog = true := by kernel_rfl

theorem cells_at {w : World} {base : Nat} {a : Addr} {n : Nat} {cs : List Value} (h : w.cells? base a n = some cs) : cs.length = n ∧ ∀ j v, cs[j]? = some v → w.cell? (a.add j) = some v := by
  unfold World.cells? at h
  split at h
  · have hl : cs.length = n := by simpa using Lib.mapM_length h
    refine ⟨hl, fun j v hv => ?_⟩
    have hj : j < n := by rw [← hl]; exact (List.getElem?_eq_some_iff.1 hv).1
    obtain ⟨b, hb, hf⟩ := Lib.mapM_at h j j (by simp [hj])
    rw [hb] at hv
    cases hv
    exact hf
  · cases h
theorem list2 {cs : List Value} (h : cs.length = 2) : ∃ a b, cs = [a, b] := by
  match cs, h with
  | [a, b], _ => exact ⟨a, b, rfl⟩
theorem list11 {cs : List Value} (h : cs.length = 11) : ∃ v0 v1 v2 v3 v4 v5 v6 v7 v8 v9 v10, cs = [v0, v1, v2, v3, v4, v5, v6, v7, v8, v9, v10] := by
  match cs, h with
  | [v0, v1, v2, v3, v4, v5, v6, v7, v8, v9, v10], _ => exact ⟨v0, v1, v2, v3, v4, v5, v6, v7, v8, v9, v10, rfl⟩
theorem some_at {α : Type} {xs : List α} {i n : Nat} (h : xs.length = n) (hi : i < n) : ∃ x, xs[i]? = some x := ⟨xs[i], List.getElem?_eq_getElem (by omega)⟩

theorem c2 : Tryd.prog.cellsOf 2 = 1 := by kernel_rfl
theorem c3 : Tryd.prog.cellsOf 3 = 1 := by kernel_rfl
theorem c4 : Tryd.prog.cellsOf 4 = 1 := by kernel_rfl
theorem c9 : Tryd.prog.cellsOf 9 = 1 := by kernel_rfl
theorem c22 : Tryd.prog.cellsOf 22 = 1 := by kernel_rfl
theorem c24 : Tryd.prog.cellsOf 24 = 2 := by kernel_rfl
theorem c26 : Tryd.prog.cellsOf 26 = 2 := by kernel_rfl
theorem c27 : Tryd.prog.cellsOf 27 = 1 := by kernel_rfl
theorem c29 : Tryd.prog.cellsOf 29 = 11 := by kernel_rfl

variable {H : Type} {enc : TypeId × Value → H} {w : World} {held : Bool}
theorem trod_type {fuel : Nat} {cs : List Value} {x : DataW H × List MemPlace} (h : DataW.trod enc Tryd.prog w 0 (fun _ => true) held fuel 26 cs = some x) : ∃ n a, cs = [.string n, .bool a] ∧ n.size ≤ maxLen := by
  obtain ⟨xs, n', _, _, hl, hxl, hf⟩ := DataW.trod_struct Tryd.underlying26 h
  rw [c26] at hl
  obtain ⟨u, v, rfl⟩ := list2 hl
  have hx : xs.length = 2 := hxl
  obtain ⟨x0, e0⟩ := some_at hx (show 0 < 2 by omega)
  obtain ⟨x1, e1⟩ := some_at hx (show 1 < 2 by omega)
  have t0 : DataW.trod enc Tryd.prog w 0 (fun _ => true) held n' 9 (([u, v].drop 0).take (Tryd.prog.cellsOf 9)) = xs[0]? := hf 0 _ rfl
  have t1 : DataW.trod enc Tryd.prog w 0 (fun _ => true) held n' 4 (([u, v].drop 1).take (Tryd.prog.cellsOf 4)) = xs[1]? := hf 1 _ rfl
  rw [c9, e0] at t0
  rw [c4, e1] at t1
  obtain ⟨s, e2, _, hs⟩ := DataW.trod_string Tryd.underlying9 t0
  obtain ⟨b, e3, _⟩ := DataW.trod_bool Tryd.underlying4 t1
  simp at e2 e3
  subst e2 e3
  exact ⟨s, b, rfl, hs⟩

theorem trod_pos {fuel : Nat} {cs : List Value} {x : DataW H × List MemPlace} (h : DataW.trod enc Tryd.prog w 0 (fun _ => true) held fuel 24 cs = some x) : ∃ a b, cs = [.int .i64 a, .int .i64 b] := by
  obtain ⟨xs, n', _, _, hl, hxl, hf⟩ := DataW.trod_struct Tryd.underlying24 h
  rw [c24] at hl
  obtain ⟨u, v, rfl⟩ := list2 hl
  have hx : xs.length = 2 := hxl
  obtain ⟨x0, e0⟩ := some_at hx (show 0 < 2 by omega)
  obtain ⟨x1, e1⟩ := some_at hx (show 1 < 2 by omega)
  have t0 : DataW.trod enc Tryd.prog w 0 (fun _ => true) held n' 3 (([u, v].drop 0).take (Tryd.prog.cellsOf 3)) = xs[0]? := hf 0 _ rfl
  have t1 : DataW.trod enc Tryd.prog w 0 (fun _ => true) held n' 3 (([u, v].drop 1).take (Tryd.prog.cellsOf 3)) = xs[1]? := hf 1 _ rfl
  rw [c3, e0] at t0
  rw [c3, e1] at t1
  obtain ⟨s, e2, _⟩ := DataW.trod_int Tryd.underlying3 t0
  obtain ⟨b, e3, _⟩ := DataW.trod_int Tryd.underlying3 t1
  simp at e2 e3
  subst e2 e3
  exact ⟨s, b, rfl⟩

/-- A slice of which each element is an expression. -/
theorem trod_kids {fuel : Nat} {v : Value} {x : DataW H × List MemPlace} (ih : ∀ m, m < fuel → ∀ {cs : List Value} {x : DataW H × List MemPlace}, DataW.trod enc Tryd.prog w 0 (fun _ => true) held m 29 cs = some x → ∃ t kk, cs = exprC t kk ∧ t.ok ∧ Kin w m t.kids kk)
    (h : DataW.trod enc Tryd.prog w 0 (fun _ => true) held fuel 27 [v] = some x) : ∃ ks, Kin w fuel ks v := by
  rcases DataW.trod_slice Tryd.underlying27 h with ⟨hcs, _⟩ | ⟨a, len, cap, elems, rest, n, rfl, hcs, _, _, hl, hm, hlen, hel, _, _⟩
  · simp at hcs
    subst hcs
    exact ⟨[], by cases fuel <;> exact kids_nil _ _⟩
  · simp at hcs
    subst hcs
    rw [c29] at hel
    have each : ∀ i, i < len → ∃ p : Tree × Value, (∀ j v, (exprC p.1 p.2)[j]? = some v → w.cell? ((a.add (i * 11)).add j) = some v) ∧ p.1.ok ∧ Kin w n p.1.kids p.2 := by
      intro i hi
      have h1 := hel i hi
      rw [List.getElem?_eq_getElem (by omega)] at h1
      obtain ⟨cs', hcs', hd⟩ := Option.bind_eq_some_iff.1 h1
      obtain ⟨t, kk, rfl, hok, hkin⟩ := ih n (by omega) hd
      exact ⟨(t, kk), (cells_at hcs').2, hok, hkin⟩
    have : Inhabited (Tree × Value) := ⟨(Tree.zero, undef)⟩
    obtain ⟨f, hf⟩ := Deep.choose_lt each
    refine ⟨(List.range len).map (fun i => (f i).1), ?_⟩
    refine ⟨some a, cap, by simp, by simpa using hl, hm, fun i t hi => ?_⟩
    have hi' : i < len := by simpa using (List.getElem?_eq_some_iff.1 hi).1
    obtain ⟨hc, hok, hk⟩ := hf i hi'
    obtain rfl : (f i).1 = t := by simpa [hi'] using hi
    obtain ⟨u, hu⟩ : ∃ u, (exprC (f 0).1 (f 0).2)[0]? = some u := by cases (f 0).1; exact ⟨_, rfl⟩
    have h0 := (hf 0 (by omega)).1 0 u hu
    obtain ⟨b, o, spot⟩ := a
    have hspot : spot = none := by simpa [Addr.add] using World.cell?_spot h0
    subst hspot
    refine ⟨b, o, (f i).2, rfl, fun j v hv => by have := hc j v hv; rwa [add_plain, add_plain] at this, ?_, hok, hk⟩
    cases n with
    | zero => obtain ⟨a, cap, e, _⟩ := hk; exact ⟨a, _, cap, e⟩
    | succ d => obtain ⟨a, cap, e, _⟩ := hk; exact ⟨a, _, cap, e⟩

theorem trod_expr : ∀ (fuel : Nat) {cs : List Value} {x : DataW H × List MemPlace}, DataW.trod enc Tryd.prog w 0 (fun _ => true) held fuel 29 cs = some x → ∃ t kk, cs = exprC t kk ∧ t.ok ∧ Kin w fuel t.kids kk := by
  intro fuel
  induction fuel using Nat.strongRecOn with
  | _ fuel ih =>
  intro cs x h
  obtain ⟨xs, n', rfl, _, hl, hxl, hf⟩ := DataW.trod_struct Tryd.underlying29 h
  rw [c29] at hl
  obtain ⟨v0, v1, v2, v3, v4, v5, v6, v7, v8, v9, v10, rfl⟩ := list11 hl
  have hx : xs.length = 8 := hxl
  obtain ⟨x0, e0⟩ := some_at hx (show 0 < 8 by omega)
  obtain ⟨x1, e1⟩ := some_at hx (show 1 < 8 by omega)
  obtain ⟨x2, e2⟩ := some_at hx (show 2 < 8 by omega)
  obtain ⟨x3, e3⟩ := some_at hx (show 3 < 8 by omega)
  obtain ⟨x4, e4⟩ := some_at hx (show 4 < 8 by omega)
  obtain ⟨x5, e5⟩ := some_at hx (show 5 < 8 by omega)
  obtain ⟨x6, e6⟩ := some_at hx (show 6 < 8 by omega)
  obtain ⟨x7, e7⟩ := some_at hx (show 7 < 8 by omega)
  have t0 : DataW.trod enc Tryd.prog w 0 (fun _ => true) held n' 22 (([v0, v1, v2, v3, v4, v5, v6, v7, v8, v9, v10].drop 0).take (Tryd.prog.cellsOf 22)) = xs[0]? := hf 0 _ rfl
  rw [c22, e0] at t0
  have t1 : DataW.trod enc Tryd.prog w 0 (fun _ => true) held n' 24 (([v0, v1, v2, v3, v4, v5, v6, v7, v8, v9, v10].drop 1).take (Tryd.prog.cellsOf 24)) = xs[1]? := hf 1 _ rfl
  rw [c24, e1] at t1
  have t2 : DataW.trod enc Tryd.prog w 0 (fun _ => true) held n' 2 (([v0, v1, v2, v3, v4, v5, v6, v7, v8, v9, v10].drop 3).take (Tryd.prog.cellsOf 2)) = xs[2]? := hf 2 _ rfl
  rw [c2, e2] at t2
  have t3 : DataW.trod enc Tryd.prog w 0 (fun _ => true) held n' 9 (([v0, v1, v2, v3, v4, v5, v6, v7, v8, v9, v10].drop 4).take (Tryd.prog.cellsOf 9)) = xs[3]? := hf 3 _ rfl
  rw [c9, e3] at t3
  have t4 : DataW.trod enc Tryd.prog w 0 (fun _ => true) held n' 26 (([v0, v1, v2, v3, v4, v5, v6, v7, v8, v9, v10].drop 5).take (Tryd.prog.cellsOf 26)) = xs[4]? := hf 4 _ rfl
  rw [c26, e4] at t4
  have t5 : DataW.trod enc Tryd.prog w 0 (fun _ => true) held n' 27 (([v0, v1, v2, v3, v4, v5, v6, v7, v8, v9, v10].drop 7).take (Tryd.prog.cellsOf 27)) = xs[5]? := hf 5 _ rfl
  rw [c27, e5] at t5
  have t6 : DataW.trod enc Tryd.prog w 0 (fun _ => true) held n' 26 (([v0, v1, v2, v3, v4, v5, v6, v7, v8, v9, v10].drop 8).take (Tryd.prog.cellsOf 26)) = xs[6]? := hf 6 _ rfl
  rw [c26, e6] at t6
  have t7 : DataW.trod enc Tryd.prog w 0 (fun _ => true) held n' 9 (([v0, v1, v2, v3, v4, v5, v6, v7, v8, v9, v10].drop 10).take (Tryd.prog.cellsOf 9)) = xs[7]? := hf 7 _ rfl
  rw [c9, e7] at t7
  obtain ⟨a0, q0, _⟩ := DataW.trod_int Tryd.underlying22 t0
  obtain ⟨a1, a2, q1⟩ := trod_pos t1
  obtain ⟨a3, q3, _, wn⟩ := DataW.trod_int Tryd.underlying2 t2
  obtain ⟨a4, q4, _, _⟩ := DataW.trod_string Tryd.underlying9 t3
  obtain ⟨a5, a6, q5, _⟩ := trod_type t4
  obtain ⟨ks, hks⟩ := trod_kids (fun m hm => ih m (by omega)) t5
  obtain ⟨a8, a9, q8, _⟩ := trod_type t6
  obtain ⟨a10, q10, _, _⟩ := DataW.trod_string Tryd.underlying9 t7
  simp at q0 q1 q3 q4 q5 q8 q10
  obtain ⟨rfl, rfl⟩ := q1
  obtain ⟨rfl, rfl⟩ := q5
  obtain ⟨rfl, rfl⟩ := q8
  subst q0 q3 q4 q10
  exact ⟨.mk a0 a1 a2 a3 a4 a5 a6 ks a8 a9 a10, v7, rfl, bounds_i64 wn, hks.le (by omega)⟩

set_option maxRecDepth 100000 in
theorem open_type {r : Reach} {b0 : Nat} {v : Value} {d : DataW H} {p : List MemPlace} (hv : Value.okWide Tryd.prog w r b0 26 v) (h : DataW.Trod enc Tryd.prog w 0 (fun _ => true) held 26 v d p) : ∃ n a, v = .agg #[.string n, .bool a] := by
  obtain ⟨cs, rfl, hsz⟩ := okWide_struct Tryd.underlying26 hv
  obtain ⟨fuel, hf⟩ := h
  obtain ⟨n, a, e, _⟩ := trod_type hf
  exact ⟨n, a, by rw [show cs = #[.string n, .bool a] from by cases cs; simpa [Value.cells] using e]⟩
set_option maxRecDepth 100000 in
theorem open_expr {r : Reach} {b0 : Nat} {v : Value} {d : DataW H} {p : List MemPlace} (hv : Value.okWide Tryd.prog w r b0 29 v) (h : DataW.Trod enc Tryd.prog w 0 (fun _ => true) held 29 v d p) : ∃ t kk, v = exprV t kk ∧ Ex w t kk := by
  obtain ⟨cs, rfl, hsz⟩ := okWide_struct Tryd.underlying29 hv
  obtain ⟨fuel, hf⟩ := h
  obtain ⟨t, kk, e, hok, hk⟩ := trod_expr fuel hf
  exact ⟨t, kk, by rw [exprV, ← e]; simp [Value.cells], hok, fuel, hk⟩

theorem tPow : (Tryd.prog.globals[0]?).map (·.type) = some 104 := by kernel_rfl
theorem c104 : Tryd.prog.cellsOf 104 = 20 := by kernel_rfl
theorem c96 : Tryd.prog.cellsOf 96 = 1 := by kernel_rfl
def b32L : List Int := [0, 1, 28, 2, 29, 14, 24, 3, 30, 22, 20, 15, 25, 17, 4, 8, 31, 27, 13, 23, 21, 19, 16, 7, 26, 12, 18, 6, 11, 5, 10, 9]
def b64L : List Int := [0, 1, 56, 2, 57, 49, 28, 3, 61, 58, 42, 50, 38, 29, 17, 4, 62, 47, 59, 36, 45, 43, 51, 22, 53, 39, 33, 30, 24, 18, 12, 5, 63, 55, 48, 27, 60, 41, 37, 16, 46, 35, 44, 21, 52, 32, 23, 11, 54, 26, 40, 15, 34, 20, 31, 10, 25, 14, 19, 9, 13, 8, 7, 6]
theorem pow_of {W : World} (h : laidMet Tryd.prog [("math/bits.deBruijn32tab", Rows.laid_math_bits_deBruijn32tab), ("math/bits.deBruijn64tab", Rows.laid_math_bits_deBruijn64tab), ("internal/strconv.uint64pow10", Rows.laid_internal_strconv_uint64pow10)] W) : Pow W :=
  Lib.tabIs_of_head gPow tPow Tryd.underlying104 Tryd.underlying96 c96 c104 h.tail.tail
/-- a world whose variable of that number holds these cells -/
def putTab (w : World) (g : Nat) (cs : Array Value) : World := { w with heap := w.heap.modify g fun | .cells _ t frozen => .cells cs t frozen | o => o }
noncomputable def laidWorld (os : Os) : World := putTab (putTab (putTab (World.holding Tryd.prog os ⟨#[], #[], []⟩) 1 (b32L.map (Value.int .u8)).toArray) 2 (b64L.map (Value.int .u8)).toArray) 0 (Lib.pow10Tab.map (Value.int .u64)).toArray
end Go.Proofs.YtojkagfbdpjckaaDoor
