/-
  The table that the rows list; a world in which it stands.
  Files as they are read.
  Files as an argument: a slice of files in memory.
-/
import Derived.Test.YthimpjfmelmhpaaDoorRows
import Derived.Test.YthimpjfmelmhpaaDoorCsRight
import Derived.WalkKit
import Derived.ProofKit
import Derived.OpenShut
import Derived.ShutString
import Derived.ChangeOld
import Derived.ChangeSame
import Derived.Below
import Derived.Deep.DeepHandedRow
import Derived.Lib.LaidTab
import Derived.Stop.LaidErr
import Derived.Deep.Slices
import Derived.SizedLaws
namespace Go.Proofs.YthimpjfmelmhpaaDoor.Fc
open Go.ChangeShapes Go.WideShapes Go.ChangeAt Go.RowKit
open Go.ChangeMaps (open_string shut_string)

theorem own : ownKnob Tryd.prog.godebug = none := by kernel_rfl
theorem laidOut : laidOutB Tryd.prog = true := by kernel_rfl

def rowData {H : Type} (r : Bs × Int) : DataW H := .agg [.lit (.string r.1), .lit (.int .i32 r.2)]
def rowsData {H : Type} (ts : List (Bs × Int)) : DataW H := .agg (ts.map rowData)
theorem c9 : Tryd.prog.cellsOf 9 = 1 := by kernel_rfl
theorem c21 : Tryd.prog.cellsOf 21 = 1 := by kernel_rfl
theorem c102 : Tryd.prog.cellsOf 148 = 2 := by kernel_rfl
theorem c103 : Tryd.prog.cellsOf 149 = 66 := by kernel_rfl
theorem cells_of_rows {H : Type} {enc : TypeId × Value → H} {w : World} {base : Nat} {sp : Nat → Bool} {held : Bool} {fuel : Nat} {cs : List Value} {zs : List (Bs × Int)} {p : List MemPlace}
    (h : DataW.trod enc Tryd.prog w base sp held fuel 149 cs = some (rowsData zs, p)) :
    ∀ i, i < 33 → ∃ n q, zs[i]? = some (n, q) ∧ cs[i * 2]? = some (S8 n) ∧ cs[i * 2 + 1]? = some (.int .i32 q) := by
  cases fuel with
  | zero => simp [DataW.trod] at h
  | succ fuel =>
    simp only [DataW.trod, Tryd.underlying149, c102, c103] at h
    split at h
    · rename_i hl
      obtain ⟨xs, hm, hx⟩ := Option.map_eq_some_iff.1 h
      have hxs : xs.map (·.1) = zs.map rowData := by
        have := congrArg Prod.fst hx
        simpa [rowsData] using this
      intro i hi
      obtain ⟨b, hb, hf⟩ := Lib.mapM_at hm i i (by simp [hi])
      have h2 : (xs.map (·.1))[i]? = some b.1 := by simp [hb]
      rw [hxs, List.getElem?_map, Option.map_eq_some_iff] at h2
      obtain ⟨⟨n, q⟩, hz, hr⟩ := h2
      obtain ⟨y0, y1, m, rfl, hl2, t0, t1⟩ := trod_struct2 Tryd.underlying148 hf
      obtain ⟨s, e0, rfl, _⟩ := DataW.trod_string Tryd.underlying9 t0
      obtain ⟨k, e1, rfl, _⟩ := DataW.trod_int Tryd.underlying21 t1
      simp only [rowData, DataW.agg.injEq, List.cons.injEq, DataW.lit.injEq, Lit.string.injEq, Lit.int.injEq, and_true, true_and] at hr
      obtain ⟨r1, r2⟩ := hr
      refine ⟨n, q, hz, ?_, ?_⟩
      · have := congrArg (·[0]?) e0
        simp [c9, List.getElem?_drop] at this
        rw [this, S8, r1]; cases s; simp [str]
      · have := congrArg (·[0]?) e1
        simp [c21, List.getElem?_drop] at this
        rw [this, r2]
    · cases h
theorem gTab : Tryd.prog.globalNamed "kiln/op.table" = some 0 := by kernel_rfl
theorem tTab : (Tryd.prog.globals[0]?).map (·.type) = some 149 := by kernel_rfl
theorem cells_flat : ∀ j v, cellsL[j]? = some v → ∃ i, i < 33 ∧ ((j = i * 2 ∧ v = S8 (nameN i)) ∨ (j = i * 2 + 1 ∧ v = .int .i32 (poolN i))) := by
  intro j v hv
  have hl : cellsL.length = 66 := rfl
  have hj : j < 66 := by rw [← hl]; exact (List.getElem?_eq_some_iff.1 hv).1
  refine ⟨j / 2, by omega, ?_⟩
  rcases Nat.mod_two_eq_zero_or_one j with h | h
  · left
    have e : j = j / 2 * 2 := by omega
    refine ⟨e, ?_⟩
    have := cells_name (j / 2) (by omega)
    rw [← e, hv] at this
    exact Option.some.inj this
  · right
    have e : j = j / 2 * 2 + 1 := by omega
    refine ⟨e, ?_⟩
    have := cells_pool (j / 2) (by omega)
    rw [← e, hv] at this
    exact Option.some.inj this
abbrev laidL {H : Type} : List (String × DataW H) := [("kiln/op.table", Rows.laid_kiln_op_table)]
theorem laid_rows {H : Type} : (Rows.laid_kiln_op_table : DataW H) = rowsData rowsL := rfl
theorem tab_of {W : World} (h : laidMet Tryd.prog laidL W) : TabR W := by
  obtain ⟨ps, ⟨g', t', cs, fuel, p, q, hg', ht', hvar, hd, _, _⟩, _⟩ := h
  obtain rfl := Option.some.inj (gTab.symm.trans hg')
  obtain rfl := Option.some.inj (tTab.symm.trans ht')
  rw [laid_rows] at hd
  have e1 := cells_of_rows hd
  intro j v hv
  obtain ⟨i, hi, hc⟩ := cells_flat j v hv
  obtain ⟨n, m, hz, h0, h1⟩ := e1 i hi
  have := hz.symm.trans (rows_at hi)
  simp only [Option.some.injEq, Prod.mk.injEq] at this
  obtain ⟨rfl, rfl⟩ := this
  have hcell := World.var?_cell gTab hvar j
  rw [hcell]
  rcases hc with ⟨rfl, rfl⟩ | ⟨rfl, rfl⟩
  · simpa using h0
  · simpa using h1
/-- a world whose variable of that number holds these cells -/
def putTab (w : World) (g : Nat) (cs : Array Value) : World := { w with heap := w.heap.modify g fun | .cells _ t frozen => .cells cs t frozen | o => o }
noncomputable def laidWorld (os : Os) : World := putTab (World.holding Tryd.prog os ⟨#[], #[], []⟩) 0 cellsL.toArray
end Go.Proofs.YthimpjfmelmhpaaDoor.Fc
namespace Go.Proofs.YthimpjfmelmhpaaDoor.Fc
open Go.ChangeShapes Go.WideShapes Go.ChangeAt Go.RowKit
open Go.ChangeMaps (open_string shut_string)
set_option linter.unusedVariables false

def OkI (n : Int) : Prop := -9223372036854775808 ≤ n ∧ n ≤ 9223372036854775807
theorem cells_at {w : World} {base : Nat} {a : Addr} {n : Nat} {cs : List Value} (h : w.cells? base a n = some cs) : cs.length = n ∧ ∀ j v, cs[j]? = some v → w.cell? (a.add j) = some v := by
  unfold World.cells? at h
  split at h
  · have hl : cs.length = n := by simpa using Lib.mapM_length h
    refine ⟨hl, fun j v hv => ?_⟩
    have hj : j < n := by rw [← hl]; exact (List.getElem?_eq_some_iff.1 hv).1
    obtain ⟨b, hb, hf⟩ := Lib.mapM_at h j j (by simp [hj])
    rw [hb] at hv
    cases hv
    exact hf
  · cases h
theorem some_at {α : Type} {xs : List α} {i n : Nat} (h : xs.length = n) (hi : i < n) : ∃ x, xs[i]? = some x := ⟨xs[i], List.getElem?_eq_getElem (by omega)⟩
instance : Inhabited Fc := ⟨⟨⟨#[]⟩, ⟨#[]⟩, [], []⟩⟩

theorem list2 {cs : List Value} (h : cs.length = 2) : ∃ v0 v1, cs = [v0, v1] := by
  match cs, h with
  | [v0, v1], _ => exact ⟨v0, v1, rfl⟩
theorem list3 {cs : List Value} (h : cs.length = 3) : ∃ v0 v1 v2, cs = [v0, v1, v2] := by
  match cs, h with
  | [v0, v1, v2], _ => exact ⟨v0, v1, v2, rfl⟩
theorem list4 {cs : List Value} (h : cs.length = 4) : ∃ v0 v1 v2 v3, cs = [v0, v1, v2, v3] := by
  match cs, h with
  | [v0, v1, v2, v3], _ => exact ⟨v0, v1, v2, v3, rfl⟩
theorem list5 {cs : List Value} (h : cs.length = 5) : ∃ v0 v1 v2 v3 v4, cs = [v0, v1, v2, v3, v4] := by
  match cs, h with
  | [v0, v1, v2, v3, v4], _ => exact ⟨v0, v1, v2, v3, v4, rfl⟩
theorem c4 : Tryd.prog.cellsOf 4 = 1 := by kernel_rfl
theorem c22 : Tryd.prog.cellsOf 32 = 1 := by kernel_rfl
theorem c23 : Tryd.prog.cellsOf 33 = 1 := by kernel_rfl
theorem c25 : Tryd.prog.cellsOf 35 = 4 := by kernel_rfl
theorem c60 : Tryd.prog.cellsOf 49 = 2 := by kernel_rfl
theorem c28 : Tryd.prog.cellsOf 37 = 1 := by kernel_rfl
theorem c63 : Tryd.prog.cellsOf 51 = 5 := by kernel_rfl
theorem c75 : Tryd.prog.cellsOf 68 = 3 := by kernel_rfl

variable {H : Type} {enc : TypeId × Value → H} {w : World} {held : Bool}

/-- A slice of structs of n cells, each of which is read as a datum. -/
theorem trod_sl {α : Type} [Inhabited α] {t e : TypeId} {n : Nat} {R : α → List Value → Prop} (ht : Tryd.prog.underlying t = some (.slice e)) (hc : Tryd.prog.cellsOf e = n) (hn : 0 < n) {fuel : Nat} {v : Value} {x : DataW H × List MemPlace}
    (ih : ∀ m, m < fuel → ∀ {cs : List Value} {x : DataW H × List MemPlace}, DataW.trod enc Tryd.prog w 0 (fun _ => true) held m e cs = some x → ∃ y, R y cs ∧ cs.length = n)
    (h : DataW.trod enc Tryd.prog w 0 (fun _ => true) held fuel t [v] = some x) : ∃ xs, Sl w n R xs v := by
  rcases DataW.trod_slice ht h with ⟨hcs, _⟩ | ⟨a, len, cap, elems, rest, m, rfl, hcs, _, _, hl, hm, hlen, hel, _, _⟩
  · simp at hcs
    subst hcs
    exact ⟨[], Sl.nil _ _ _⟩
  · simp at hcs
    subst hcs
    rw [hc] at hel
    have each : ∀ i, i < len → ∃ p : α × List Value, (∀ j v, p.2[j]? = some v → w.cell? ((a.add (i * n)).add j) = some v) ∧ R p.1 p.2 ∧ p.2.length = n := by
      intro i hi
      have h1 := hel i hi
      rw [List.getElem?_eq_getElem (by omega)] at h1
      obtain ⟨cs', hcs', hd⟩ := Option.bind_eq_some_iff.1 h1
      obtain ⟨y, hy, hl⟩ := ih m (by omega) hd
      exact ⟨(y, cs'), (cells_at hcs').2, hy, hl⟩
    obtain ⟨f, hf⟩ := Deep.choose_lt each
    refine ⟨(List.range len).map (fun i => (f i).1), some a, cap, by simp, by simpa using hl, hm, fun i t hi => ?_⟩
    have hi' : i < len := by simpa using (List.getElem?_eq_some_iff.1 hi).1
    obtain ⟨hc', hr, hl'⟩ := hf i hi'
    obtain rfl : (f i).1 = t := by simpa [hi'] using hi
    obtain ⟨u, hu⟩ : ∃ u, (f 0).2[0]? = some u := ⟨(f 0).2[0]'(by have := (hf 0 (by omega)).2.2; omega), List.getElem?_eq_getElem _⟩
    have h0 := (hf 0 (by omega)).1 0 u hu
    obtain ⟨b, o, spot⟩ := a
    have hspot : spot = none := by simpa [Addr.add] using World.cell?_spot h0
    subst hspot
    exact ⟨b, o, (f i).2, rfl, fun j v hv => by have := hc' j v hv; rwa [add_plain, add_plain] at this, hr⟩

theorem trod_type {fuel : Nat} {cs : List Value} {x : DataW H × List MemPlace} (h : DataW.trod enc Tryd.prog w 0 (fun _ => true) held fuel 49 cs = some x) : ∃ y, TyR y cs ∧ cs.length = 2 := by
  obtain ⟨xs, n', _, _, hl, hxl, hf⟩ := DataW.trod_struct Tryd.underlying49 h
  rw [c60] at hl
  obtain ⟨v0, v1, rfl⟩ := list2 hl
  have hx : xs.length = 2 := hxl
  obtain ⟨x0, e0⟩ := some_at hx (show 0 < 2 by omega)
  have t0 : DataW.trod enc Tryd.prog w 0 (fun _ => true) held n' 9 (([v0, v1].drop 0).take (Tryd.prog.cellsOf 9)) = xs[0]? := hf 0 _ rfl
  rw [c9, e0] at t0
  obtain ⟨x1, e1⟩ := some_at hx (show 1 < 2 by omega)
  have t1 : DataW.trod enc Tryd.prog w 0 (fun _ => true) held n' 4 (([v0, v1].drop 1).take (Tryd.prog.cellsOf 4)) = xs[1]? := hf 1 _ rfl
  rw [c4, e1] at t1
  obtain ⟨s, e2, _, hs⟩ := DataW.trod_string Tryd.underlying9 t0
  obtain ⟨b, e3, _⟩ := DataW.trod_bool Tryd.underlying4 t1
  simp at e2 e3
  subst e2 e3
  exact ⟨⟨s, b⟩, rfl, rfl⟩

theorem trod_var {fuel : Nat} {cs : List Value} {x : DataW H × List MemPlace} (h : DataW.trod enc Tryd.prog w 0 (fun _ => true) held fuel 68 cs = some x) : ∃ y, VrR y cs ∧ cs.length = 3 := by
  obtain ⟨xs, n', _, _, hl, hxl, hf⟩ := DataW.trod_struct Tryd.underlying68 h
  rw [c75] at hl
  obtain ⟨v0, v1, v2, rfl⟩ := list3 hl
  have hx : xs.length = 2 := hxl
  obtain ⟨x0, e0⟩ := some_at hx (show 0 < 2 by omega)
  have t0 : DataW.trod enc Tryd.prog w 0 (fun _ => true) held n' 9 (([v0, v1, v2].drop 0).take (Tryd.prog.cellsOf 9)) = xs[0]? := hf 0 _ rfl
  rw [c9, e0] at t0
  obtain ⟨x1, e1⟩ := some_at hx (show 1 < 2 by omega)
  have t1 : DataW.trod enc Tryd.prog w 0 (fun _ => true) held n' 49 (([v0, v1, v2].drop 1).take (Tryd.prog.cellsOf 49)) = xs[1]? := hf 1 _ rfl
  rw [c60, e1] at t1
  obtain ⟨s, q0, _, _⟩ := DataW.trod_string Tryd.underlying9 t0
  obtain ⟨⟨a, b⟩, q1, _⟩ := trod_type t1
  simp [TyR] at q0 q1
  obtain ⟨rfl, rfl⟩ := q1
  subst q0
  exact ⟨⟨s, a, b⟩, rfl, rfl⟩

theorem trod_sig {fuel : Nat} {cs : List Value} {x : DataW H × List MemPlace} (h : DataW.trod enc Tryd.prog w 0 (fun _ => true) held fuel 51 cs = some x) : ∃ y, SgR w y cs ∧ cs.length = 5 := by
  obtain ⟨xs, n', _, _, hl, hxl, hf⟩ := DataW.trod_struct Tryd.underlying51 h
  rw [c63] at hl
  obtain ⟨v0, v1, v2, v3, v4, rfl⟩ := list5 hl
  have hx : xs.length = 4 := hxl
  obtain ⟨x0, e0⟩ := some_at hx (show 0 < 4 by omega)
  have t0 : DataW.trod enc Tryd.prog w 0 (fun _ => true) held n' 9 (([v0, v1, v2, v3, v4].drop 0).take (Tryd.prog.cellsOf 9)) = xs[0]? := hf 0 _ rfl
  rw [c9, e0] at t0
  obtain ⟨x1, e1⟩ := some_at hx (show 1 < 4 by omega)
  have t1 : DataW.trod enc Tryd.prog w 0 (fun _ => true) held n' 4 (([v0, v1, v2, v3, v4].drop 1).take (Tryd.prog.cellsOf 4)) = xs[1]? := hf 1 _ rfl
  rw [c4, e1] at t1
  obtain ⟨x2, e2⟩ := some_at hx (show 2 < 4 by omega)
  have t2 : DataW.trod enc Tryd.prog w 0 (fun _ => true) held n' 37 (([v0, v1, v2, v3, v4].drop 2).take (Tryd.prog.cellsOf 37)) = xs[2]? := hf 2 _ rfl
  rw [c28, e2] at t2
  obtain ⟨x3, e3⟩ := some_at hx (show 3 < 4 by omega)
  have t3 : DataW.trod enc Tryd.prog w 0 (fun _ => true) held n' 49 (([v0, v1, v2, v3, v4].drop 3).take (Tryd.prog.cellsOf 49)) = xs[3]? := hf 3 _ rfl
  rw [c60, e3] at t3
  obtain ⟨s, q0, _, _⟩ := DataW.trod_string Tryd.underlying9 t0
  obtain ⟨st, q1, _⟩ := DataW.trod_bool Tryd.underlying4 t1
  obtain ⟨ps, hps⟩ := trod_sl Tryd.underlying37 c60 (by decide) (fun m _ _ _ h => trod_type h) t2
  obtain ⟨⟨a, b⟩, q3, _⟩ := trod_type t3
  obtain ⟨pa, pc, rfl⟩ := hps.form
  simp [TyR] at q0 q1 q3
  obtain ⟨rfl, rfl⟩ := q3
  subst q0 q1
  exact ⟨⟨s, st, ps, a, b⟩, ⟨pa, _, pc, rfl, hps⟩, rfl⟩

theorem trod_face {fuel : Nat} {cs : List Value} {x : DataW H × List MemPlace} (h : DataW.trod enc Tryd.prog w 0 (fun _ => true) held fuel 35 cs = some x) : ∃ y, FcR w y cs ∧ cs.length = 4 := by
  obtain ⟨xs, n', _, _, hl, hxl, hf⟩ := DataW.trod_struct Tryd.underlying35 h
  rw [c25] at hl
  obtain ⟨v0, v1, v2, v3, rfl⟩ := list4 hl
  have hx : xs.length = 4 := hxl
  obtain ⟨x0, e0⟩ := some_at hx (show 0 < 4 by omega)
  have t0 : DataW.trod enc Tryd.prog w 0 (fun _ => true) held n' 9 (([v0, v1, v2, v3].drop 0).take (Tryd.prog.cellsOf 9)) = xs[0]? := hf 0 _ rfl
  rw [c9, e0] at t0
  obtain ⟨x1, e1⟩ := some_at hx (show 1 < 4 by omega)
  have t1 : DataW.trod enc Tryd.prog w 0 (fun _ => true) held n' 9 (([v0, v1, v2, v3].drop 1).take (Tryd.prog.cellsOf 9)) = xs[1]? := hf 1 _ rfl
  rw [c9, e1] at t1
  obtain ⟨x2, e2⟩ := some_at hx (show 2 < 4 by omega)
  have t2 : DataW.trod enc Tryd.prog w 0 (fun _ => true) held n' 32 (([v0, v1, v2, v3].drop 2).take (Tryd.prog.cellsOf 32)) = xs[2]? := hf 2 _ rfl
  rw [c22, e2] at t2
  obtain ⟨x3, e3⟩ := some_at hx (show 3 < 4 by omega)
  have t3 : DataW.trod enc Tryd.prog w 0 (fun _ => true) held n' 33 (([v0, v1, v2, v3].drop 3).take (Tryd.prog.cellsOf 33)) = xs[3]? := hf 3 _ rfl
  rw [c23, e3] at t3
  obtain ⟨s, q0, _, _⟩ := DataW.trod_string Tryd.underlying9 t0
  obtain ⟨u, q1, _, _⟩ := DataW.trod_string Tryd.underlying9 t1
  obtain ⟨fs, hfs⟩ := trod_sl Tryd.underlying32 c75 (by decide) (fun m _ _ _ h => trod_var h) t2
  obtain ⟨ms, hms⟩ := trod_sl Tryd.underlying33 c63 (by decide) (fun m _ _ _ h => trod_sig h) t3
  obtain ⟨fa, fc, rfl⟩ := hfs.form
  obtain ⟨ma, mc, rfl⟩ := hms.form
  simp at q0 q1
  subst q0 q1
  exact ⟨⟨s, u, fs, ms⟩, ⟨fa, _, fc, ma, _, mc, rfl, hfs, hms⟩, rfl⟩



theorem c2 : Tryd.prog.cellsOf 2 = 1 := by kernel_rfl
theorem c3 : Tryd.prog.cellsOf 3 = 1 := by kernel_rfl
theorem c26 : Tryd.prog.cellsOf 36 = 1 := by kernel_rfl
theorem c27 : Tryd.prog.cellsOf 30 = 1 := by kernel_rfl
theorem c29 : Tryd.prog.cellsOf 38 = 1 := by kernel_rfl
theorem c30 : Tryd.prog.cellsOf 39 = 1 := by kernel_rfl
theorem c33 : Tryd.prog.cellsOf 42 = 1 := by kernel_rfl
theorem c64 : Tryd.prog.cellsOf 93 = 1 := by kernel_rfl
theorem c67 : Tryd.prog.cellsOf 52 = 1 := by kernel_rfl
theorem c32 : Tryd.prog.cellsOf 41 = 5 := by kernel_rfl
theorem c35 : Tryd.prog.cellsOf 44 = 10 := by kernel_rfl
theorem c66 : Tryd.prog.cellsOf 95 = 2 := by kernel_rfl
theorem c69 : Tryd.prog.cellsOf 54 = 3 := by kernel_rfl
theorem c77 : Tryd.prog.cellsOf 87 = 4 := by kernel_rfl
theorem c79 : Tryd.prog.cellsOf 58 = 6 := by kernel_rfl
theorem list6 {cs : List Value} (h : cs.length = 6) : ∃ v0 v1 v2 v3 v4 v5, cs = [v0, v1, v2, v3, v4, v5] := by
  match cs, h with
  | [v0, v1, v2, v3, v4, v5], _ => exact ⟨v0, v1, v2, v3, v4, v5, rfl⟩
theorem list10 {cs : List Value} (h : cs.length = 10) : ∃ v0 v1 v2 v3 v4 v5 v6 v7 v8 v9, cs = [v0, v1, v2, v3, v4, v5, v6, v7, v8, v9] := by
  match cs, h with
  | [v0, v1, v2, v3, v4, v5, v6, v7, v8, v9], _ => exact ⟨v0, v1, v2, v3, v4, v5, v6, v7, v8, v9, rfl⟩
instance : Inhabited Bd := ⟨⟨0, 0, []⟩⟩
theorem trod_str {fuel : Nat} {cs : List Value} {x : DataW H × List MemPlace} (h : DataW.trod enc Tryd.prog w 0 (fun _ => true) held fuel 9 cs = some x) : ∃ y, StrR y cs ∧ cs.length = 1 := by
  obtain ⟨s, e, _, _⟩ := DataW.trod_string Tryd.underlying9 h
  subst e
  exact ⟨s, rfl, rfl⟩
theorem trod_num {fuel : Nat} {cs : List Value} {x : DataW H × List MemPlace} (h : DataW.trod enc Tryd.prog w 0 (fun _ => true) held fuel 2 cs = some x) : ∃ y, (NmR y cs ∧ OkI y) ∧ cs.length = 1 := by
  obtain ⟨n, e, _, wf⟩ := DataW.trod_int Tryd.underlying2 h
  subst e
  refine ⟨n, ⟨rfl, ?_⟩, rfl⟩
  simp only [Lit.wf, Bool.and_eq_true, decide_eq_true_eq] at wf
  rw [show IntKind.i64.min = -9223372036854775808 by decide, show IntKind.i64.max = 9223372036854775807 by decide] at wf
  exact wf
theorem trod_ins {fuel : Nat} {cs : List Value} {x : DataW H × List MemPlace} (h : DataW.trod enc Tryd.prog w 0 (fun _ => true) held fuel 95 cs = some x) : ∃ y, InR y cs ∧ cs.length = 2 := by
  obtain ⟨xs, n', _, _, hl, hxl, hf⟩ := DataW.trod_struct Tryd.underlying95 h
  rw [c66] at hl
  obtain ⟨v0, v1, rfl⟩ := list2 hl
  have hx : xs.length = 2 := hxl
  obtain ⟨x0, e0⟩ := some_at hx (show 0 < 2 by omega)
  have t0 : DataW.trod enc Tryd.prog w 0 (fun _ => true) held n' 93 (([v0, v1].drop 0).take (Tryd.prog.cellsOf 93)) = xs[0]? := hf 0 _ rfl
  rw [c64, e0] at t0
  obtain ⟨x1, e1⟩ := some_at hx (show 1 < 2 by omega)
  have t1 : DataW.trod enc Tryd.prog w 0 (fun _ => true) held n' 3 (([v0, v1].drop 1).take (Tryd.prog.cellsOf 3)) = xs[1]? := hf 1 _ rfl
  rw [c3, e1] at t1
  obtain ⟨a, q0, _⟩ := DataW.trod_int Tryd.underlying93 t0
  obtain ⟨b, q1, _⟩ := DataW.trod_int Tryd.underlying3 t1
  simp at q0 q1
  subst q0 q1
  exact ⟨(a, b), rfl, rfl⟩
theorem trod_fd {fuel : Nat} {cs : List Value} {x : DataW H × List MemPlace} (h : DataW.trod enc Tryd.prog w 0 (fun _ => true) held fuel 87 cs = some x) : ∃ y, FdR y cs ∧ cs.length = 4 := by
  obtain ⟨xs, n', _, _, hl, hxl, hf⟩ := DataW.trod_struct Tryd.underlying87 h
  rw [c77] at hl
  obtain ⟨v0, v1, v2, v3, rfl⟩ := list4 hl
  have hx : xs.length = 2 := hxl
  obtain ⟨x0, e0⟩ := some_at hx (show 0 < 2 by omega)
  have t0 : DataW.trod enc Tryd.prog w 0 (fun _ => true) held n' 68 (([v0, v1, v2, v3].drop 0).take (Tryd.prog.cellsOf 68)) = xs[0]? := hf 0 _ rfl
  rw [c75, e0] at t0
  obtain ⟨x1, e1⟩ := some_at hx (show 1 < 2 by omega)
  have t1 : DataW.trod enc Tryd.prog w 0 (fun _ => true) held n' 9 (([v0, v1, v2, v3].drop 3).take (Tryd.prog.cellsOf 9)) = xs[1]? := hf 1 _ rfl
  rw [c9, e1] at t1
  obtain ⟨⟨a, b, c⟩, q0, _⟩ := trod_var t0
  obtain ⟨s, q1, _⟩ := trod_str t1
  simp [VrR, StrR] at q0 q1
  obtain ⟨rfl, rfl, rfl⟩ := q0
  subst q1
  exact ⟨(⟨a, b, c⟩, s), rfl, rfl⟩
theorem trod_mt {fuel : Nat} {cs : List Value} {x : DataW H × List MemPlace} (h : DataW.trod enc Tryd.prog w 0 (fun _ => true) held fuel 58 cs = some x) : ∃ y, MtR w y cs ∧ cs.length = 6 := by
  obtain ⟨xs, n', _, _, hl, hxl, hf⟩ := DataW.trod_struct Tryd.underlying58 h
  rw [c79] at hl
  obtain ⟨v0, v1, v2, v3, v4, v5, rfl⟩ := list6 hl
  have hx : xs.length = 2 := hxl
  obtain ⟨x0, e0⟩ := some_at hx (show 0 < 2 by omega)
  have t0 : DataW.trod enc Tryd.prog w 0 (fun _ => true) held n' 51 (([v0, v1, v2, v3, v4, v5].drop 0).take (Tryd.prog.cellsOf 51)) = xs[0]? := hf 0 _ rfl
  rw [c63, e0] at t0
  obtain ⟨x1, e1⟩ := some_at hx (show 1 < 2 by omega)
  have t1 : DataW.trod enc Tryd.prog w 0 (fun _ => true) held n' 9 (([v0, v1, v2, v3, v4, v5].drop 5).take (Tryd.prog.cellsOf 9)) = xs[1]? := hf 1 _ rfl
  rw [c9, e1] at t1
  obtain ⟨m, ⟨a, n, c, q0, hps⟩, _⟩ := trod_sig t0
  obtain ⟨s, q1, _⟩ := trod_str t1
  simp [StrR] at q0 q1
  obtain ⟨rfl, rfl, rfl, rfl, rfl⟩ := q0
  subst q1
  exact ⟨(m, s), ⟨a, n, c, rfl, hps⟩, rfl⟩
theorem trod_bd {fuel : Nat} {cs : List Value} {x : DataW H × List MemPlace} (h : DataW.trod enc Tryd.prog w 0 (fun _ => true) held fuel 54 cs = some x) : ∃ y, BdR w y cs ∧ cs.length = 3 := by
  obtain ⟨xs, n', _, _, hl, hxl, hf⟩ := DataW.trod_struct Tryd.underlying54 h
  rw [c69] at hl
  obtain ⟨v0, v1, v2, rfl⟩ := list3 hl
  have hx : xs.length = 3 := hxl
  obtain ⟨x0, e0⟩ := some_at hx (show 0 < 3 by omega)
  have t0 : DataW.trod enc Tryd.prog w 0 (fun _ => true) held n' 3 (([v0, v1, v2].drop 0).take (Tryd.prog.cellsOf 3)) = xs[0]? := hf 0 _ rfl
  rw [c3, e0] at t0
  obtain ⟨x1, e1⟩ := some_at hx (show 1 < 3 by omega)
  have t1 : DataW.trod enc Tryd.prog w 0 (fun _ => true) held n' 3 (([v0, v1, v2].drop 1).take (Tryd.prog.cellsOf 3)) = xs[1]? := hf 1 _ rfl
  rw [c3, e1] at t1
  obtain ⟨x2, e2⟩ := some_at hx (show 2 < 3 by omega)
  have t2 : DataW.trod enc Tryd.prog w 0 (fun _ => true) held n' 52 (([v0, v1, v2].drop 2).take (Tryd.prog.cellsOf 52)) = xs[2]? := hf 2 _ rfl
  rw [c67, e2] at t2
  obtain ⟨a, q0, _⟩ := DataW.trod_int Tryd.underlying3 t0
  obtain ⟨b, q1, _⟩ := DataW.trod_int Tryd.underlying3 t1
  simp at q0 q1
  subst q0 q1
  obtain ⟨co, hco⟩ := trod_sl Tryd.underlying52 c66 (by decide) (fun m _ _ _ h => trod_ins h) t2
  obtain ⟨ca, cc, rfl⟩ := hco.form
  exact ⟨⟨a, b, co⟩, ⟨ca, _, cc, rfl, hco⟩, rfl⟩
def PlR (W : World) (y : List Int × List ByteArray × List Ty × List Fd × List Mt) (cs : List Value) : Prop := ∃ v0 v1 v2 v3 v4, cs = [v0, v1, v2, v3, v4] ∧ Sl W 1 (fun y cs => NmR y cs ∧ OkI y) y.1 v0 ∧ Sl W 1 StrR y.2.1 v1 ∧ Sl W 2 TyR y.2.2.1 v2 ∧ Sl W 4 FdR y.2.2.2.1 v3 ∧ Sl W 6 (MtR W) y.2.2.2.2 v4
theorem trod_pool {fuel : Nat} {cs : List Value} {x : DataW H × List MemPlace} (h : DataW.trod enc Tryd.prog w 0 (fun _ => true) held fuel 41 cs = some x) : ∃ y, PlR w y cs ∧ cs.length = 5 := by
  obtain ⟨xs, n', _, _, hl, hxl, hf⟩ := DataW.trod_struct Tryd.underlying41 h
  rw [c32] at hl
  obtain ⟨v0, v1, v2, v3, v4, rfl⟩ := list5 hl
  have hx : xs.length = 5 := hxl
  obtain ⟨x0, e0⟩ := some_at hx (show 0 < 5 by omega)
  have t0 : DataW.trod enc Tryd.prog w 0 (fun _ => true) held n' 36 (([v0, v1, v2, v3, v4].drop 0).take (Tryd.prog.cellsOf 36)) = xs[0]? := hf 0 _ rfl
  rw [c26, e0] at t0
  obtain ⟨x1, e1⟩ := some_at hx (show 1 < 5 by omega)
  have t1 : DataW.trod enc Tryd.prog w 0 (fun _ => true) held n' 30 (([v0, v1, v2, v3, v4].drop 1).take (Tryd.prog.cellsOf 30)) = xs[1]? := hf 1 _ rfl
  rw [c27, e1] at t1
  obtain ⟨x2, e2⟩ := some_at hx (show 2 < 5 by omega)
  have t2 : DataW.trod enc Tryd.prog w 0 (fun _ => true) held n' 37 (([v0, v1, v2, v3, v4].drop 2).take (Tryd.prog.cellsOf 37)) = xs[2]? := hf 2 _ rfl
  rw [c28, e2] at t2
  obtain ⟨x3, e3⟩ := some_at hx (show 3 < 5 by omega)
  have t3 : DataW.trod enc Tryd.prog w 0 (fun _ => true) held n' 38 (([v0, v1, v2, v3, v4].drop 3).take (Tryd.prog.cellsOf 38)) = xs[3]? := hf 3 _ rfl
  rw [c29, e3] at t3
  obtain ⟨x4, e4⟩ := some_at hx (show 4 < 5 by omega)
  have t4 : DataW.trod enc Tryd.prog w 0 (fun _ => true) held n' 39 (([v0, v1, v2, v3, v4].drop 4).take (Tryd.prog.cellsOf 39)) = xs[4]? := hf 4 _ rfl
  rw [c30, e4] at t4
  obtain ⟨nu, hnu⟩ := trod_sl (R := fun y cs => NmR y cs ∧ OkI y) Tryd.underlying36 c2 (by decide) (fun m _ _ _ h => trod_num h) t0
  obtain ⟨cl, hcl⟩ := trod_sl Tryd.underlying30 c9 (by decide) (fun m _ _ _ h => trod_str h) t1
  obtain ⟨ty, hty⟩ := trod_sl Tryd.underlying37 c60 (by decide) (fun m _ _ _ h => trod_type h) t2
  obtain ⟨fd, hfd⟩ := trod_sl Tryd.underlying38 c77 (by decide) (fun m _ _ _ h => trod_fd h) t3
  obtain ⟨mt, hmt⟩ := trod_sl Tryd.underlying39 c79 (by decide) (fun m _ _ _ h => trod_mt h) t4
  exact ⟨(nu, cl, ty, fd, mt), ⟨v0, v1, v2, v3, v4, rfl, hnu, hcl, hty, hfd, hmt⟩, rfl⟩
theorem sl_both {α : Type} {W : World} {n : Nat} {R : α → List Value → Prop} {P : α → Prop} {xs : List α} {v : Value} (h : Sl W n (fun y cs => R y cs ∧ P y) xs v) : Sl W n R xs v ∧ ∀ x ∈ xs, P x := by
  obtain ⟨a, cap, e, hl, hc, hk⟩ := h
  refine ⟨⟨a, cap, e, hl, hc, fun i x hi => ?_⟩, fun x hx => ?_⟩
  · obtain ⟨b, o, cs, ea, hcell, hq⟩ := hk i x hi
    exact ⟨b, o, cs, ea, hcell, hq.1⟩
  · obtain ⟨i, hi⟩ := List.getElem?_of_mem hx
    obtain ⟨b, o, cs, ea, hcell, hq⟩ := hk i x hi
    exact hq.2
theorem trod_file {fuel : Nat} {cs : List Value} {x : DataW H × List MemPlace} (h : DataW.trod enc Tryd.prog w 0 (fun _ => true) held fuel 44 cs = some x) : ∃ y, (FlR w y cs ∧ ∀ z ∈ y.nu, OkI z) ∧ cs.length = 10 := by
  obtain ⟨xs, n', _, _, hl, hxl, hf⟩ := DataW.trod_struct Tryd.underlying44 h
  rw [c35] at hl
  obtain ⟨v0, v1, v2, v3, v4, v5, v6, v7, v8, v9, rfl⟩ := list10 hl
  have hx : xs.length = 3 := hxl
  obtain ⟨x0, e0⟩ := some_at hx (show 0 < 3 by omega)
  have t0 : DataW.trod enc Tryd.prog w 0 (fun _ => true) held n' 35 (([v0, v1, v2, v3, v4, v5, v6, v7, v8, v9].drop 0).take (Tryd.prog.cellsOf 35)) = xs[0]? := hf 0 _ rfl
  rw [c25, e0] at t0
  obtain ⟨x1, e1⟩ := some_at hx (show 1 < 3 by omega)
  have t1 : DataW.trod enc Tryd.prog w 0 (fun _ => true) held n' 41 (([v0, v1, v2, v3, v4, v5, v6, v7, v8, v9].drop 4).take (Tryd.prog.cellsOf 41)) = xs[1]? := hf 1 _ rfl
  rw [c32, e1] at t1
  obtain ⟨x2, e2⟩ := some_at hx (show 2 < 3 by omega)
  have t2 : DataW.trod enc Tryd.prog w 0 (fun _ => true) held n' 42 (([v0, v1, v2, v3, v4, v5, v6, v7, v8, v9].drop 9).take (Tryd.prog.cellsOf 42)) = xs[2]? := hf 2 _ rfl
  rw [c33, e2] at t2
  obtain ⟨fc, ⟨a8, n8, c8, a9, n9, c9', q0, hf8, hf9⟩, _⟩ := trod_face t0
  obtain ⟨⟨nu, cl, ty, fd, mt⟩, ⟨u0, u1, u2, u3, u4, q1, hnu, hcl, hty, hfd, hmt⟩, _⟩ := trod_pool t1
  obtain ⟨bd, hbd⟩ := trod_sl Tryd.underlying42 c69 (by decide) (fun m _ _ _ h => trod_bd h) t2
  obtain ⟨hn1, hn2⟩ := sl_both hnu
  obtain ⟨a1, k1, rfl⟩ := hn1.form
  obtain ⟨a2, k2, rfl⟩ := hcl.form
  obtain ⟨a3, k3, rfl⟩ := hty.form
  obtain ⟨a4, k4, rfl⟩ := hfd.form
  obtain ⟨a5, k5, rfl⟩ := hmt.form
  obtain ⟨a0, k0, rfl⟩ := hbd.form
  simp at q0 q1
  obtain ⟨rfl, rfl, rfl, rfl⟩ := q0
  obtain ⟨rfl, rfl, rfl, rfl, rfl⟩ := q1
  exact ⟨⟨fc, nu, cl, ty, fd, mt, bd⟩, ⟨⟨a8, n8, c8, a9, n9, c9', a1, _, k1, a2, _, k2, a3, _, k3, a4, _, k4, a5, _, k5, a0, _, k0, rfl, ⟨a8, n8, c8, a9, n9, c9', rfl, hf8, hf9⟩, ⟨hn1, hcl, hty, hfd, hmt⟩, hbd⟩, hn2⟩, rfl⟩
end Go.Proofs.YthimpjfmelmhpaaDoor.Fc
namespace Go.Proofs.YthimpjfmelmhpaaDoor.Fc
open Go.ChangeShapes Go.WideShapes Go.ChangeAt Go.RowKit
open Go.ChangeMaps (open_string shut_string)
set_option linter.unusedVariables false
variable {H : Type} {enc : TypeId × Value → H} {w : World} {held : Bool}
theorem c44 : Tryd.prog.cellsOf 44 = 10 := by kernel_rfl
instance : Inhabited Fl := ⟨⟨default, [], [], [], [], [], []⟩⟩
set_option maxRecDepth 100000 in
/-- files as an argument -/
theorem open_files {r : Reach} {b0 : Nat} {v : Value} {d : DataW H} {p : List MemPlace} (hv : Value.okWide Tryd.prog w r b0 22 v) (h : DataW.Trod enc Tryd.prog w 0 (fun _ => true) held 22 v d p) : ∃ fs a n c, v = .slice a n c ∧ Sl w 10 (FlR w) fs (.slice a n c) := by
  obtain ⟨fuel, hf⟩ := h
  obtain ⟨a0, n0, c0, rfl⟩ := okWide_slice Tryd.underlying22 hv
  have hf' : DataW.trod enc Tryd.prog w 0 (fun _ => true) held fuel 22 [.slice a0 n0 c0] = some (d, p) := by simpa [Value.cells] using hf
  obtain ⟨fs, hs⟩ := trod_sl Tryd.underlying22 c44 (by decide) (fun m _ _ _ h => by obtain ⟨y, hy, hl⟩ := trod_file h; exact ⟨y, hy.1, hl⟩) hf'
  exact ⟨fs, a0, n0, c0, rfl, hs⟩
end Go.Proofs.YthimpjfmelmhpaaDoor.Fc
