/-
  Files as they are read.
  Archives that are cut off; how long a file's bytes are: plain facts.
  Files as they are read: several, and what holds of an argument's numbers and names.
-/
import Derived.Test.YtomlbfkkhhhfkaaDoorCsOpen
import Derived.Test.YtomlbfkkhhhfkaaDoorCsCod
import Derived.Deep.Slices
import Derived.SizedLaws
import Derived.Test.YtomlbfkkhhhfkaaDoorUNP
import Derived.Test.YtomlbfkkhhhfkaaDoorCsFew3
import Derived.Test.YtomlbfkkhhhfkaaDoorR12
namespace Go.Proofs.YtomlbfkkhhhfkaaDoor.Fc
open Go.ChangeShapes Go.WideShapes Go.ChangeAt Go.RowKit
open Go.ChangeMaps (open_string shut_string)
set_option linter.unusedVariables false

theorem cells_at {w : World} {base : Nat} {a : Addr} {n : Nat} {cs : List Value} (h : w.cells? base a n = some cs) : cs.length = n ∧ ∀ j v, cs[j]? = some v → w.cell? (a.add j) = some v := by
  unfold World.cells? at h
  split at h
  · have hl : cs.length = n := by simpa using Lib.mapM_length h
    refine ⟨hl, fun j v hv => ?_⟩
    have hj : j < n := by rw [← hl]; exact (List.getElem?_eq_some_iff.1 hv).1
    obtain ⟨b, hb, hf⟩ := Lib.mapM_at h j j (by simp [hj])
    rw [hb] at hv
    cases hv
    exact hf
  · cases h
theorem some_at {α : Type} {xs : List α} {i n : Nat} (h : xs.length = n) (hi : i < n) : ∃ x, xs[i]? = some x := ⟨xs[i], List.getElem?_eq_getElem (by omega)⟩
instance : Inhabited Fc := ⟨⟨⟨#[]⟩, ⟨#[]⟩, [], []⟩⟩

theorem list2 {cs : List Value} (h : cs.length = 2) : ∃ v0 v1, cs = [v0, v1] := by
  match cs, h with
  | [v0, v1], _ => exact ⟨v0, v1, rfl⟩
theorem list3 {cs : List Value} (h : cs.length = 3) : ∃ v0 v1 v2, cs = [v0, v1, v2] := by
  match cs, h with
  | [v0, v1, v2], _ => exact ⟨v0, v1, v2, rfl⟩
theorem list4 {cs : List Value} (h : cs.length = 4) : ∃ v0 v1 v2 v3, cs = [v0, v1, v2, v3] := by
  match cs, h with
  | [v0, v1, v2, v3], _ => exact ⟨v0, v1, v2, v3, rfl⟩
theorem list5 {cs : List Value} (h : cs.length = 5) : ∃ v0 v1 v2 v3 v4, cs = [v0, v1, v2, v3, v4] := by
  match cs, h with
  | [v0, v1, v2, v3, v4], _ => exact ⟨v0, v1, v2, v3, v4, rfl⟩
theorem c4 : Tryd.prog.cellsOf 4 = 1 := by kernel_rfl
theorem c22 : Tryd.prog.cellsOf 22 = 1 := by kernel_rfl
theorem c23 : Tryd.prog.cellsOf 23 = 1 := by kernel_rfl
theorem c25 : Tryd.prog.cellsOf 25 = 4 := by kernel_rfl
theorem c60 : Tryd.prog.cellsOf 60 = 2 := by kernel_rfl
theorem c28 : Tryd.prog.cellsOf 28 = 1 := by kernel_rfl
theorem c63 : Tryd.prog.cellsOf 63 = 5 := by kernel_rfl
theorem c75 : Tryd.prog.cellsOf 75 = 3 := by kernel_rfl

variable {H : Type} {enc : TypeId × Value → H} {w : World} {held : Bool}

/-- A slice of structs of n cells, each of which is read as a datum. -/
theorem trod_sl {α : Type} [Inhabited α] {t e : TypeId} {n : Nat} {R : α → List Value → Prop} (ht : Tryd.prog.underlying t = some (.slice e)) (hc : Tryd.prog.cellsOf e = n) (hn : 0 < n) {fuel : Nat} {v : Value} {x : DataW H × List MemPlace}
    (ih : ∀ m, m < fuel → ∀ {cs : List Value} {x : DataW H × List MemPlace}, DataW.trod enc Tryd.prog w 0 (fun _ => true) held m e cs = some x → ∃ y, R y cs ∧ cs.length = n)
    (h : DataW.trod enc Tryd.prog w 0 (fun _ => true) held fuel t [v] = some x) : ∃ xs, Sl w n R xs v := by
  rcases DataW.trod_slice ht h with ⟨hcs, _⟩ | ⟨a, len, cap, elems, rest, m, rfl, hcs, _, _, hl, hm, hlen, hel, _, _⟩
  · simp at hcs
    subst hcs
    exact ⟨[], Sl.nil _ _ _⟩
  · simp at hcs
    subst hcs
    rw [hc] at hel
    have each : ∀ i, i < len → ∃ p : α × List Value, (∀ j v, p.2[j]? = some v → w.cell? ((a.add (i * n)).add j) = some v) ∧ R p.1 p.2 ∧ p.2.length = n := by
      intro i hi
      have h1 := hel i hi
      rw [List.getElem?_eq_getElem (by omega)] at h1
      obtain ⟨cs', hcs', hd⟩ := Option.bind_eq_some_iff.1 h1
      obtain ⟨y, hy, hl⟩ := ih m (by omega) hd
      exact ⟨(y, cs'), (cells_at hcs').2, hy, hl⟩
    obtain ⟨f, hf⟩ := Deep.choose_lt each
    refine ⟨(List.range len).map (fun i => (f i).1), some a, cap, by simp, by simpa using hl, hm, fun i t hi => ?_⟩
    have hi' : i < len := by simpa using (List.getElem?_eq_some_iff.1 hi).1
    obtain ⟨hc', hr, hl'⟩ := hf i hi'
    obtain rfl : (f i).1 = t := by simpa [hi'] using hi
    obtain ⟨u, hu⟩ : ∃ u, (f 0).2[0]? = some u := ⟨(f 0).2[0]'(by have := (hf 0 (by omega)).2.2; omega), List.getElem?_eq_getElem _⟩
    have h0 := (hf 0 (by omega)).1 0 u hu
    obtain ⟨b, o, spot⟩ := a
    have hspot : spot = none := by simpa [Addr.add] using World.cell?_spot h0
    subst hspot
    exact ⟨b, o, (f i).2, rfl, fun j v hv => by have := hc' j v hv; rwa [add_plain, add_plain] at this, hr⟩

theorem trod_type {fuel : Nat} {cs : List Value} {x : DataW H × List MemPlace} (h : DataW.trod enc Tryd.prog w 0 (fun _ => true) held fuel 60 cs = some x) : ∃ y, TyR y cs ∧ cs.length = 2 := by
  obtain ⟨xs, n', _, _, hl, hxl, hf⟩ := DataW.trod_struct Tryd.underlying60 h
  rw [c60] at hl
  obtain ⟨v0, v1, rfl⟩ := list2 hl
  have hx : xs.length = 2 := hxl
  obtain ⟨x0, e0⟩ := some_at hx (show 0 < 2 by omega)
  have t0 : DataW.trod enc Tryd.prog w 0 (fun _ => true) held n' 9 (([v0, v1].drop 0).take (Tryd.prog.cellsOf 9)) = xs[0]? := hf 0 _ rfl
  rw [c9, e0] at t0
  obtain ⟨x1, e1⟩ := some_at hx (show 1 < 2 by omega)
  have t1 : DataW.trod enc Tryd.prog w 0 (fun _ => true) held n' 4 (([v0, v1].drop 1).take (Tryd.prog.cellsOf 4)) = xs[1]? := hf 1 _ rfl
  rw [c4, e1] at t1
  obtain ⟨s, e2, _, hs⟩ := DataW.trod_string Tryd.underlying9 t0
  obtain ⟨b, e3, _⟩ := DataW.trod_bool Tryd.underlying4 t1
  simp at e2 e3
  subst e2 e3
  exact ⟨⟨s, b⟩, rfl, rfl⟩

theorem trod_var {fuel : Nat} {cs : List Value} {x : DataW H × List MemPlace} (h : DataW.trod enc Tryd.prog w 0 (fun _ => true) held fuel 75 cs = some x) : ∃ y, VrR y cs ∧ cs.length = 3 := by
  obtain ⟨xs, n', _, _, hl, hxl, hf⟩ := DataW.trod_struct Tryd.underlying75 h
  rw [c75] at hl
  obtain ⟨v0, v1, v2, rfl⟩ := list3 hl
  have hx : xs.length = 2 := hxl
  obtain ⟨x0, e0⟩ := some_at hx (show 0 < 2 by omega)
  have t0 : DataW.trod enc Tryd.prog w 0 (fun _ => true) held n' 9 (([v0, v1, v2].drop 0).take (Tryd.prog.cellsOf 9)) = xs[0]? := hf 0 _ rfl
  rw [c9, e0] at t0
  obtain ⟨x1, e1⟩ := some_at hx (show 1 < 2 by omega)
  have t1 : DataW.trod enc Tryd.prog w 0 (fun _ => true) held n' 60 (([v0, v1, v2].drop 1).take (Tryd.prog.cellsOf 60)) = xs[1]? := hf 1 _ rfl
  rw [c60, e1] at t1
  obtain ⟨s, q0, _, _⟩ := DataW.trod_string Tryd.underlying9 t0
  obtain ⟨⟨a, b⟩, q1, _⟩ := trod_type t1
  simp [TyR] at q0 q1
  obtain ⟨rfl, rfl⟩ := q1
  subst q0
  exact ⟨⟨s, a, b⟩, rfl, rfl⟩

theorem trod_sig {fuel : Nat} {cs : List Value} {x : DataW H × List MemPlace} (h : DataW.trod enc Tryd.prog w 0 (fun _ => true) held fuel 63 cs = some x) : ∃ y, SgR w y cs ∧ cs.length = 5 := by
  obtain ⟨xs, n', _, _, hl, hxl, hf⟩ := DataW.trod_struct Tryd.underlying63 h
  rw [c63] at hl
  obtain ⟨v0, v1, v2, v3, v4, rfl⟩ := list5 hl
  have hx : xs.length = 4 := hxl
  obtain ⟨x0, e0⟩ := some_at hx (show 0 < 4 by omega)
  have t0 : DataW.trod enc Tryd.prog w 0 (fun _ => true) held n' 9 (([v0, v1, v2, v3, v4].drop 0).take (Tryd.prog.cellsOf 9)) = xs[0]? := hf 0 _ rfl
  rw [c9, e0] at t0
  obtain ⟨x1, e1⟩ := some_at hx (show 1 < 4 by omega)
  have t1 : DataW.trod enc Tryd.prog w 0 (fun _ => true) held n' 4 (([v0, v1, v2, v3, v4].drop 1).take (Tryd.prog.cellsOf 4)) = xs[1]? := hf 1 _ rfl
  rw [c4, e1] at t1
  obtain ⟨x2, e2⟩ := some_at hx (show 2 < 4 by omega)
  have t2 : DataW.trod enc Tryd.prog w 0 (fun _ => true) held n' 28 (([v0, v1, v2, v3, v4].drop 2).take (Tryd.prog.cellsOf 28)) = xs[2]? := hf 2 _ rfl
  rw [c28, e2] at t2
  obtain ⟨x3, e3⟩ := some_at hx (show 3 < 4 by omega)
  have t3 : DataW.trod enc Tryd.prog w 0 (fun _ => true) held n' 60 (([v0, v1, v2, v3, v4].drop 3).take (Tryd.prog.cellsOf 60)) = xs[3]? := hf 3 _ rfl
  rw [c60, e3] at t3
  obtain ⟨s, q0, _, _⟩ := DataW.trod_string Tryd.underlying9 t0
  obtain ⟨st, q1, _⟩ := DataW.trod_bool Tryd.underlying4 t1
  obtain ⟨ps, hps⟩ := trod_sl Tryd.underlying28 c60 (by decide) (fun m _ _ _ h => trod_type h) t2
  obtain ⟨⟨a, b⟩, q3, _⟩ := trod_type t3
  obtain ⟨pa, pc, rfl⟩ := hps.form
  simp [TyR] at q0 q1 q3
  obtain ⟨rfl, rfl⟩ := q3
  subst q0 q1
  exact ⟨⟨s, st, ps, a, b⟩, ⟨pa, _, pc, rfl, hps⟩, rfl⟩

theorem trod_face {fuel : Nat} {cs : List Value} {x : DataW H × List MemPlace} (h : DataW.trod enc Tryd.prog w 0 (fun _ => true) held fuel 25 cs = some x) : ∃ y, FcR w y cs ∧ cs.length = 4 := by
  obtain ⟨xs, n', _, _, hl, hxl, hf⟩ := DataW.trod_struct Tryd.underlying25 h
  rw [c25] at hl
  obtain ⟨v0, v1, v2, v3, rfl⟩ := list4 hl
  have hx : xs.length = 4 := hxl
  obtain ⟨x0, e0⟩ := some_at hx (show 0 < 4 by omega)
  have t0 : DataW.trod enc Tryd.prog w 0 (fun _ => true) held n' 9 (([v0, v1, v2, v3].drop 0).take (Tryd.prog.cellsOf 9)) = xs[0]? := hf 0 _ rfl
  rw [c9, e0] at t0
  obtain ⟨x1, e1⟩ := some_at hx (show 1 < 4 by omega)
  have t1 : DataW.trod enc Tryd.prog w 0 (fun _ => true) held n' 9 (([v0, v1, v2, v3].drop 1).take (Tryd.prog.cellsOf 9)) = xs[1]? := hf 1 _ rfl
  rw [c9, e1] at t1
  obtain ⟨x2, e2⟩ := some_at hx (show 2 < 4 by omega)
  have t2 : DataW.trod enc Tryd.prog w 0 (fun _ => true) held n' 22 (([v0, v1, v2, v3].drop 2).take (Tryd.prog.cellsOf 22)) = xs[2]? := hf 2 _ rfl
  rw [c22, e2] at t2
  obtain ⟨x3, e3⟩ := some_at hx (show 3 < 4 by omega)
  have t3 : DataW.trod enc Tryd.prog w 0 (fun _ => true) held n' 23 (([v0, v1, v2, v3].drop 3).take (Tryd.prog.cellsOf 23)) = xs[3]? := hf 3 _ rfl
  rw [c23, e3] at t3
  obtain ⟨s, q0, _, _⟩ := DataW.trod_string Tryd.underlying9 t0
  obtain ⟨u, q1, _, _⟩ := DataW.trod_string Tryd.underlying9 t1
  obtain ⟨fs, hfs⟩ := trod_sl Tryd.underlying22 c75 (by decide) (fun m _ _ _ h => trod_var h) t2
  obtain ⟨ms, hms⟩ := trod_sl Tryd.underlying23 c63 (by decide) (fun m _ _ _ h => trod_sig h) t3
  obtain ⟨fa, fc, rfl⟩ := hfs.form
  obtain ⟨ma, mc, rfl⟩ := hms.form
  simp at q0 q1
  subst q0 q1
  exact ⟨⟨s, u, fs, ms⟩, ⟨fa, _, fc, ma, _, mc, rfl, hfs, hms⟩, rfl⟩



theorem c2 : Tryd.prog.cellsOf 2 = 1 := by kernel_rfl
theorem c3 : Tryd.prog.cellsOf 3 = 1 := by kernel_rfl
theorem c26 : Tryd.prog.cellsOf 26 = 1 := by kernel_rfl
theorem c27 : Tryd.prog.cellsOf 27 = 1 := by kernel_rfl
theorem c29 : Tryd.prog.cellsOf 29 = 1 := by kernel_rfl
theorem c30 : Tryd.prog.cellsOf 30 = 1 := by kernel_rfl
theorem c33 : Tryd.prog.cellsOf 33 = 1 := by kernel_rfl
theorem c64 : Tryd.prog.cellsOf 64 = 1 := by kernel_rfl
theorem c67 : Tryd.prog.cellsOf 67 = 1 := by kernel_rfl
theorem c32 : Tryd.prog.cellsOf 32 = 5 := by kernel_rfl
theorem c35 : Tryd.prog.cellsOf 35 = 10 := by kernel_rfl
theorem c66 : Tryd.prog.cellsOf 66 = 2 := by kernel_rfl
theorem c69 : Tryd.prog.cellsOf 69 = 3 := by kernel_rfl
theorem c77 : Tryd.prog.cellsOf 77 = 4 := by kernel_rfl
theorem c79 : Tryd.prog.cellsOf 79 = 6 := by kernel_rfl
theorem list6 {cs : List Value} (h : cs.length = 6) : ∃ v0 v1 v2 v3 v4 v5, cs = [v0, v1, v2, v3, v4, v5] := by
  match cs, h with
  | [v0, v1, v2, v3, v4, v5], _ => exact ⟨v0, v1, v2, v3, v4, v5, rfl⟩
theorem list10 {cs : List Value} (h : cs.length = 10) : ∃ v0 v1 v2 v3 v4 v5 v6 v7 v8 v9, cs = [v0, v1, v2, v3, v4, v5, v6, v7, v8, v9] := by
  match cs, h with
  | [v0, v1, v2, v3, v4, v5, v6, v7, v8, v9], _ => exact ⟨v0, v1, v2, v3, v4, v5, v6, v7, v8, v9, rfl⟩
instance : Inhabited Bd := ⟨⟨0, 0, []⟩⟩
theorem trod_str {fuel : Nat} {cs : List Value} {x : DataW H × List MemPlace} (h : DataW.trod enc Tryd.prog w 0 (fun _ => true) held fuel 9 cs = some x) : ∃ y, StrR y cs ∧ cs.length = 1 := by
  obtain ⟨s, e, _, _⟩ := DataW.trod_string Tryd.underlying9 h
  subst e
  exact ⟨s, rfl, rfl⟩
theorem trod_num {fuel : Nat} {cs : List Value} {x : DataW H × List MemPlace} (h : DataW.trod enc Tryd.prog w 0 (fun _ => true) held fuel 2 cs = some x) : ∃ y, (NmR y cs ∧ OkI y) ∧ cs.length = 1 := by
  obtain ⟨n, e, _, wf⟩ := DataW.trod_int Tryd.underlying2 h
  subst e
  refine ⟨n, ⟨rfl, ?_⟩, rfl⟩
  simp only [Lit.wf, Bool.and_eq_true, decide_eq_true_eq] at wf
  rw [show IntKind.i64.min = -9223372036854775808 by decide, show IntKind.i64.max = 9223372036854775807 by decide] at wf
  exact wf
theorem trod_ins {fuel : Nat} {cs : List Value} {x : DataW H × List MemPlace} (h : DataW.trod enc Tryd.prog w 0 (fun _ => true) held fuel 66 cs = some x) : ∃ y, InR y cs ∧ cs.length = 2 := by
  obtain ⟨xs, n', _, _, hl, hxl, hf⟩ := DataW.trod_struct Tryd.underlying66 h
  rw [c66] at hl
  obtain ⟨v0, v1, rfl⟩ := list2 hl
  have hx : xs.length = 2 := hxl
  obtain ⟨x0, e0⟩ := some_at hx (show 0 < 2 by omega)
  have t0 : DataW.trod enc Tryd.prog w 0 (fun _ => true) held n' 64 (([v0, v1].drop 0).take (Tryd.prog.cellsOf 64)) = xs[0]? := hf 0 _ rfl
  rw [c64, e0] at t0
  obtain ⟨x1, e1⟩ := some_at hx (show 1 < 2 by omega)
  have t1 : DataW.trod enc Tryd.prog w 0 (fun _ => true) held n' 3 (([v0, v1].drop 1).take (Tryd.prog.cellsOf 3)) = xs[1]? := hf 1 _ rfl
  rw [c3, e1] at t1
  obtain ⟨a, q0, _⟩ := DataW.trod_int Tryd.underlying64 t0
  obtain ⟨b, q1, _⟩ := DataW.trod_int Tryd.underlying3 t1
  simp at q0 q1
  subst q0 q1
  exact ⟨(a, b), rfl, rfl⟩
theorem trod_fd {fuel : Nat} {cs : List Value} {x : DataW H × List MemPlace} (h : DataW.trod enc Tryd.prog w 0 (fun _ => true) held fuel 77 cs = some x) : ∃ y, FdR y cs ∧ cs.length = 4 := by
  obtain ⟨xs, n', _, _, hl, hxl, hf⟩ := DataW.trod_struct Tryd.underlying77 h
  rw [c77] at hl
  obtain ⟨v0, v1, v2, v3, rfl⟩ := list4 hl
  have hx : xs.length = 2 := hxl
  obtain ⟨x0, e0⟩ := some_at hx (show 0 < 2 by omega)
  have t0 : DataW.trod enc Tryd.prog w 0 (fun _ => true) held n' 75 (([v0, v1, v2, v3].drop 0).take (Tryd.prog.cellsOf 75)) = xs[0]? := hf 0 _ rfl
  rw [c75, e0] at t0
  obtain ⟨x1, e1⟩ := some_at hx (show 1 < 2 by omega)
  have t1 : DataW.trod enc Tryd.prog w 0 (fun _ => true) held n' 9 (([v0, v1, v2, v3].drop 3).take (Tryd.prog.cellsOf 9)) = xs[1]? := hf 1 _ rfl
  rw [c9, e1] at t1
  obtain ⟨⟨a, b, c⟩, q0, _⟩ := trod_var t0
  obtain ⟨s, q1, _⟩ := trod_str t1
  simp [VrR, StrR] at q0 q1
  obtain ⟨rfl, rfl, rfl⟩ := q0
  subst q1
  exact ⟨(⟨a, b, c⟩, s), rfl, rfl⟩
theorem trod_mt {fuel : Nat} {cs : List Value} {x : DataW H × List MemPlace} (h : DataW.trod enc Tryd.prog w 0 (fun _ => true) held fuel 79 cs = some x) : ∃ y, MtR w y cs ∧ cs.length = 6 := by
  obtain ⟨xs, n', _, _, hl, hxl, hf⟩ := DataW.trod_struct Tryd.underlying79 h
  rw [c79] at hl
  obtain ⟨v0, v1, v2, v3, v4, v5, rfl⟩ := list6 hl
  have hx : xs.length = 2 := hxl
  obtain ⟨x0, e0⟩ := some_at hx (show 0 < 2 by omega)
  have t0 : DataW.trod enc Tryd.prog w 0 (fun _ => true) held n' 63 (([v0, v1, v2, v3, v4, v5].drop 0).take (Tryd.prog.cellsOf 63)) = xs[0]? := hf 0 _ rfl
  rw [c63, e0] at t0
  obtain ⟨x1, e1⟩ := some_at hx (show 1 < 2 by omega)
  have t1 : DataW.trod enc Tryd.prog w 0 (fun _ => true) held n' 9 (([v0, v1, v2, v3, v4, v5].drop 5).take (Tryd.prog.cellsOf 9)) = xs[1]? := hf 1 _ rfl
  rw [c9, e1] at t1
  obtain ⟨m, ⟨a, n, c, q0, hps⟩, _⟩ := trod_sig t0
  obtain ⟨s, q1, _⟩ := trod_str t1
  simp [StrR] at q0 q1
  obtain ⟨rfl, rfl, rfl, rfl, rfl⟩ := q0
  subst q1
  exact ⟨(m, s), ⟨a, n, c, rfl, hps⟩, rfl⟩
theorem trod_bd {fuel : Nat} {cs : List Value} {x : DataW H × List MemPlace} (h : DataW.trod enc Tryd.prog w 0 (fun _ => true) held fuel 69 cs = some x) : ∃ y, BdR w y cs ∧ cs.length = 3 := by
  obtain ⟨xs, n', _, _, hl, hxl, hf⟩ := DataW.trod_struct Tryd.underlying69 h
  rw [c69] at hl
  obtain ⟨v0, v1, v2, rfl⟩ := list3 hl
  have hx : xs.length = 3 := hxl
  obtain ⟨x0, e0⟩ := some_at hx (show 0 < 3 by omega)
  have t0 : DataW.trod enc Tryd.prog w 0 (fun _ => true) held n' 3 (([v0, v1, v2].drop 0).take (Tryd.prog.cellsOf 3)) = xs[0]? := hf 0 _ rfl
  rw [c3, e0] at t0
  obtain ⟨x1, e1⟩ := some_at hx (show 1 < 3 by omega)
  have t1 : DataW.trod enc Tryd.prog w 0 (fun _ => true) held n' 3 (([v0, v1, v2].drop 1).take (Tryd.prog.cellsOf 3)) = xs[1]? := hf 1 _ rfl
  rw [c3, e1] at t1
  obtain ⟨x2, e2⟩ := some_at hx (show 2 < 3 by omega)
  have t2 : DataW.trod enc Tryd.prog w 0 (fun _ => true) held n' 67 (([v0, v1, v2].drop 2).take (Tryd.prog.cellsOf 67)) = xs[2]? := hf 2 _ rfl
  rw [c67, e2] at t2
  obtain ⟨a, q0, _⟩ := DataW.trod_int Tryd.underlying3 t0
  obtain ⟨b, q1, _⟩ := DataW.trod_int Tryd.underlying3 t1
  simp at q0 q1
  subst q0 q1
  obtain ⟨co, hco⟩ := trod_sl Tryd.underlying67 c66 (by decide) (fun m _ _ _ h => trod_ins h) t2
  obtain ⟨ca, cc, rfl⟩ := hco.form
  exact ⟨⟨a, b, co⟩, ⟨ca, _, cc, rfl, hco⟩, rfl⟩
def PlR (W : World) (y : List Int × List ByteArray × List Ty × List Fd × List Mt) (cs : List Value) : Prop := ∃ v0 v1 v2 v3 v4, cs = [v0, v1, v2, v3, v4] ∧ Sl W 1 (fun y cs => NmR y cs ∧ OkI y) y.1 v0 ∧ Sl W 1 StrR y.2.1 v1 ∧ Sl W 2 TyR y.2.2.1 v2 ∧ Sl W 4 FdR y.2.2.2.1 v3 ∧ Sl W 6 (MtR W) y.2.2.2.2 v4
theorem trod_pool {fuel : Nat} {cs : List Value} {x : DataW H × List MemPlace} (h : DataW.trod enc Tryd.prog w 0 (fun _ => true) held fuel 32 cs = some x) : ∃ y, PlR w y cs ∧ cs.length = 5 := by
  obtain ⟨xs, n', _, _, hl, hxl, hf⟩ := DataW.trod_struct Tryd.underlying32 h
  rw [c32] at hl
  obtain ⟨v0, v1, v2, v3, v4, rfl⟩ := list5 hl
  have hx : xs.length = 5 := hxl
  obtain ⟨x0, e0⟩ := some_at hx (show 0 < 5 by omega)
  have t0 : DataW.trod enc Tryd.prog w 0 (fun _ => true) held n' 26 (([v0, v1, v2, v3, v4].drop 0).take (Tryd.prog.cellsOf 26)) = xs[0]? := hf 0 _ rfl
  rw [c26, e0] at t0
  obtain ⟨x1, e1⟩ := some_at hx (show 1 < 5 by omega)
  have t1 : DataW.trod enc Tryd.prog w 0 (fun _ => true) held n' 27 (([v0, v1, v2, v3, v4].drop 1).take (Tryd.prog.cellsOf 27)) = xs[1]? := hf 1 _ rfl
  rw [c27, e1] at t1
  obtain ⟨x2, e2⟩ := some_at hx (show 2 < 5 by omega)
  have t2 : DataW.trod enc Tryd.prog w 0 (fun _ => true) held n' 28 (([v0, v1, v2, v3, v4].drop 2).take (Tryd.prog.cellsOf 28)) = xs[2]? := hf 2 _ rfl
  rw [c28, e2] at t2
  obtain ⟨x3, e3⟩ := some_at hx (show 3 < 5 by omega)
  have t3 : DataW.trod enc Tryd.prog w 0 (fun _ => true) held n' 29 (([v0, v1, v2, v3, v4].drop 3).take (Tryd.prog.cellsOf 29)) = xs[3]? := hf 3 _ rfl
  rw [c29, e3] at t3
  obtain ⟨x4, e4⟩ := some_at hx (show 4 < 5 by omega)
  have t4 : DataW.trod enc Tryd.prog w 0 (fun _ => true) held n' 30 (([v0, v1, v2, v3, v4].drop 4).take (Tryd.prog.cellsOf 30)) = xs[4]? := hf 4 _ rfl
  rw [c30, e4] at t4
  obtain ⟨nu, hnu⟩ := trod_sl (R := fun y cs => NmR y cs ∧ OkI y) Tryd.underlying26 c2 (by decide) (fun m _ _ _ h => trod_num h) t0
  obtain ⟨cl, hcl⟩ := trod_sl Tryd.underlying27 c9 (by decide) (fun m _ _ _ h => trod_str h) t1
  obtain ⟨ty, hty⟩ := trod_sl Tryd.underlying28 c60 (by decide) (fun m _ _ _ h => trod_type h) t2
  obtain ⟨fd, hfd⟩ := trod_sl Tryd.underlying29 c77 (by decide) (fun m _ _ _ h => trod_fd h) t3
  obtain ⟨mt, hmt⟩ := trod_sl Tryd.underlying30 c79 (by decide) (fun m _ _ _ h => trod_mt h) t4
  exact ⟨(nu, cl, ty, fd, mt), ⟨v0, v1, v2, v3, v4, rfl, hnu, hcl, hty, hfd, hmt⟩, rfl⟩
theorem sl_both {α : Type} {W : World} {n : Nat} {R : α → List Value → Prop} {P : α → Prop} {xs : List α} {v : Value} (h : Sl W n (fun y cs => R y cs ∧ P y) xs v) : Sl W n R xs v ∧ ∀ x ∈ xs, P x := by
  obtain ⟨a, cap, e, hl, hc, hk⟩ := h
  refine ⟨⟨a, cap, e, hl, hc, fun i x hi => ?_⟩, fun x hx => ?_⟩
  · obtain ⟨b, o, cs, ea, hcell, hq⟩ := hk i x hi
    exact ⟨b, o, cs, ea, hcell, hq.1⟩
  · obtain ⟨i, hi⟩ := List.getElem?_of_mem hx
    obtain ⟨b, o, cs, ea, hcell, hq⟩ := hk i x hi
    exact hq.2
theorem trod_file {fuel : Nat} {cs : List Value} {x : DataW H × List MemPlace} (h : DataW.trod enc Tryd.prog w 0 (fun _ => true) held fuel 35 cs = some x) : ∃ y, (FlR w y cs ∧ ∀ z ∈ y.nu, OkI z) ∧ cs.length = 10 := by
  obtain ⟨xs, n', _, _, hl, hxl, hf⟩ := DataW.trod_struct Tryd.underlying35 h
  rw [c35] at hl
  obtain ⟨v0, v1, v2, v3, v4, v5, v6, v7, v8, v9, rfl⟩ := list10 hl
  have hx : xs.length = 3 := hxl
  obtain ⟨x0, e0⟩ := some_at hx (show 0 < 3 by omega)
  have t0 : DataW.trod enc Tryd.prog w 0 (fun _ => true) held n' 25 (([v0, v1, v2, v3, v4, v5, v6, v7, v8, v9].drop 0).take (Tryd.prog.cellsOf 25)) = xs[0]? := hf 0 _ rfl
  rw [c25, e0] at t0
  obtain ⟨x1, e1⟩ := some_at hx (show 1 < 3 by omega)
  have t1 : DataW.trod enc Tryd.prog w 0 (fun _ => true) held n' 32 (([v0, v1, v2, v3, v4, v5, v6, v7, v8, v9].drop 4).take (Tryd.prog.cellsOf 32)) = xs[1]? := hf 1 _ rfl
  rw [c32, e1] at t1
  obtain ⟨x2, e2⟩ := some_at hx (show 2 < 3 by omega)
  have t2 : DataW.trod enc Tryd.prog w 0 (fun _ => true) held n' 33 (([v0, v1, v2, v3, v4, v5, v6, v7, v8, v9].drop 9).take (Tryd.prog.cellsOf 33)) = xs[2]? := hf 2 _ rfl
  rw [c33, e2] at t2
  obtain ⟨fc, ⟨a8, n8, c8, a9, n9, c9', q0, hf8, hf9⟩, _⟩ := trod_face t0
  obtain ⟨⟨nu, cl, ty, fd, mt⟩, ⟨u0, u1, u2, u3, u4, q1, hnu, hcl, hty, hfd, hmt⟩, _⟩ := trod_pool t1
  obtain ⟨bd, hbd⟩ := trod_sl Tryd.underlying33 c69 (by decide) (fun m _ _ _ h => trod_bd h) t2
  obtain ⟨hn1, hn2⟩ := sl_both hnu
  obtain ⟨a1, k1, rfl⟩ := hn1.form
  obtain ⟨a2, k2, rfl⟩ := hcl.form
  obtain ⟨a3, k3, rfl⟩ := hty.form
  obtain ⟨a4, k4, rfl⟩ := hfd.form
  obtain ⟨a5, k5, rfl⟩ := hmt.form
  obtain ⟨a0, k0, rfl⟩ := hbd.form
  simp at q0 q1
  obtain ⟨rfl, rfl, rfl, rfl⟩ := q0
  obtain ⟨rfl, rfl, rfl, rfl, rfl⟩ := q1
  exact ⟨⟨fc, nu, cl, ty, fd, mt, bd⟩, ⟨⟨a8, n8, c8, a9, n9, c9', a1, _, k1, a2, _, k2, a3, _, k3, a4, _, k4, a5, _, k5, a0, _, k0, rfl, ⟨a8, n8, c8, a9, n9, c9', rfl, hf8, hf9⟩, ⟨hn1, hcl, hty, hfd, hmt⟩, hbd⟩, hn2⟩, rfl⟩
set_option maxRecDepth 100000 in
theorem open_file {r : Reach} {b0 : Nat} {v : Value} {d : DataW H} {p : List MemPlace} (hv : Value.okWide Tryd.prog w r b0 35 v) (h : DataW.Trod enc Tryd.prog w 0 (fun _ => true) held 35 v d p) : ∃ f cs, v = .agg cs.toArray ∧ FlR w f cs ∧ ∀ z ∈ f.nu, OkI z := by
  obtain ⟨cs, rfl, hsz⟩ := okWide_struct Tryd.underlying35 hv
  obtain ⟨fuel, hf⟩ := h
  obtain ⟨f, ⟨hf, hn⟩, hl⟩ := trod_file hf
  exact ⟨f, cs.toList, by simp, by simpa [Value.cells] using hf, hn⟩
end Go.Proofs.YtomlbfkkhhhfkaaDoor.Fc
namespace Go.Proofs.YtomlbfkkhhhfkaaDoor.Fc
set_option linter.unusedVariables false

theorem mask_and (n : Int) (j m : Nat) (hj : j ≤ 16) (hm : (BitVec.ofInt 64 m).toNat = 2 ^ j - 1) : ∃ q : Nat, q < 2 ^ j ∧ bits .and .i64 n m = (q : Int) := by
  have key : (BitVec.ofInt 64 n &&& BitVec.ofInt 64 m).toNat = (n % ((2 ^ 64 : Nat) : Int)).toNat % 2 ^ j := by
    rw [BitVec.toNat_and, BitVec.toNat_ofInt, hm, Nat.and_two_pow_sub_one_eq_mod]
  have h2 : 2 ^ j ≤ 2 ^ 16 := Nat.pow_le_pow_right (by omega) hj
  have h3 : (n % ((2 ^ 64 : Nat) : Int)).toNat % 2 ^ j < 2 ^ j := Nat.mod_lt _ (Nat.pow_pos (by omega))
  refine ⟨(n % ((2 ^ 64 : Nat) : Int)).toNat % 2 ^ j, h3, ?_⟩
  show IntKind.i64.wrap ((BitVec.ofInt 64 n &&& BitVec.ofInt 64 m).toNat : Nat) = _
  rw [key, IntKind.wrap_i64]
  omega
theorem class_iff (x : ByteArray) : RightP ⟨x, ⟨#[]⟩, [], []⟩ ↔ classB x = true :=
  ⟨fun h => h.name, fun h => ⟨h, .inl rfl, Nat.zero_le _, Nat.zero_le _, fun k y hk => by simp at hk, fun k y hk => by simp at hk⟩⟩
theorem fd_iff (x : Fd) : RightP ⟨x.2, ⟨#[]⟩, [x.1], []⟩ ↔ FdS x := by
  constructor
  · intro h
    obtain ⟨a, b, c⟩ := h.fs 0 x.1 rfl
    exact ⟨h.name, ltS_pos a, b, c⟩
  · rintro ⟨a, b, c, d⟩
    refine ⟨a, .inl rfl, by show 1 ≤ 200; omega, Nat.zero_le _, fun k y hk => ?_, fun k y hk => by simp at hk⟩
    match k, hk with
    | 0, hk =>
      simp at hk; subst hk
      exact ⟨ltS_nil b, c, d⟩
    | k + 1, hk => simp at hk
theorem mt_iff (x : Mt) : RightP ⟨x.2, ⟨#[]⟩, [], [x.1]⟩ ↔ MtS x := by
  constructor
  · intro h
    exact ⟨h.name, ⟨by show classB ⟨#[65]⟩ = true; unfold classB greatB; decide +kernel, .inl rfl, Nat.zero_le _, by show 1 ≤ 200; omega, fun k y hk => by simp at hk, h.ms⟩⟩
  · rintro ⟨a, h⟩
    exact ⟨a, .inl rfl, Nat.zero_le _, by show 1 ≤ 200; omega, fun k y hk => by simp at hk, h.ms⟩
theorem right_iff {f : Fl} (h : FewF f) : RightS f ↔ RightF f := by
  constructor
  · intro r
    exact ⟨r.fc, ⟨by have := h.nu; omega, ⟨by have := h.cl; omega, fun x hx => (class_iff x).2 (r.cl x hx)⟩, ⟨by have := h.ty; omega, r.ty⟩, ⟨by have := h.fd; omega, fun x hx => (fd_iff x).2 (r.fd x hx)⟩, ⟨by have := h.mt; omega, fun x hx => (mt_iff x).2 (r.mt x hx)⟩⟩, r.ln, r.bd⟩
  · intro r
    obtain ⟨_, ⟨_, b⟩, ⟨_, c⟩, ⟨_, d⟩, ⟨_, e⟩⟩ := r.po
    exact ⟨r.fc, r.ln, fun x hx => (class_iff x).1 (b x hx), c, fun x hx => (fd_iff x).1 (d x hx), fun x hx => (mt_iff x).1 (e x hx), r.bd⟩
theorem right_ints {f : Fl} (h : RightF f) : ∀ b ∈ f.bd, OkI b.lo ∧ OkI b.st ∧ ∀ x ∈ b.co, OkI x.1 ∧ OkI x.2 := by
  intro b hb
  obtain ⟨⟨h1, h2⟩, ⟨h3, h4⟩, _, h5⟩ := right_bd h b hb
  refine ⟨⟨by omega, by omega⟩, ⟨by omega, by omega⟩, fun x hx => ?_⟩
  obtain ⟨g1, g2, g3⟩ := h5 x hx
  refine ⟨⟨by omega, by omega⟩, ?_⟩
  split at g3
  · exact ⟨by omega, by omega⟩
  · exact ⟨by omega, by omega⟩
theorem sB_le60 {s : ByteArray} (h : s.size ≤ 120) : (sB s).length ≤ 129 := by
  have := Pk.enc_len9 (bl s).length (by rw [bl_len]; omega)
  simp only [sB, Pk.textB, List.length_append]
  rw [bl_len] at *
  omega
theorem tyB_le60 {t : Ty} (h : t.n.size ≤ 120) : (tyB t).length ≤ 130 := by
  have := sB_le60 h
  simp only [tyB, List.length_append, List.length_singleton]
  omega
theorem small_le {f : Fc} (h : Small f) : (fcB f).length ≤ 900000 := by
  have h1 := sB_le60 (s := f.name) (by have := h.name; omega); have h2 := sB_le60 (s := f.sup) (by have := h.sup; omega); have h3 := h.fs; have h4 := h.ms
  have e1 := Pk.enc_len9 f.fs.length (by omega)
  have e2 := Pk.enc_len9 f.ms.length (by omega)
  have g1 := flat_le vrB 300 f.fs (fun x hx => by
    obtain ⟨a, b⟩ := h.f1 x hx
    have a1 := sB_le60 (s := x.name) (by omega)
    have a2 := tyB_le60 (t := x.ty) (by show x.tn.size ≤ 120; omega)
    simp only [vrB, List.length_append]
    omega)
  have g2 := flat_le sgB 2000 f.ms (fun m hm => by
    obtain ⟨a, b, c, d⟩ := h.m1 m hm
    have a1 := sB_le60 (s := m.name) (by omega)
    have a2 := tyB_le60 (t := m.ret) (by show m.rn.size ≤ 120; omega)
    have a3 := flat_le tyB 130 m.ps (fun t ht => tyB_le60 (by have := d t ht; omega))
    have a4 := Pk.enc_len9 m.ps.length (by omega)
    have a5 : m.ps.length * 130 ≤ 10 * 130 := Nat.mul_le_mul_right _ c
    simp only [sgB, tysB, manyB, List.length_append, List.length_singleton]
    omega)
  have m1 : f.fs.length * 300 ≤ 12 * 300 := Nat.mul_le_mul_right _ h3
  have m2 : f.ms.length * 2000 ≤ 12 * 2000 := Nat.mul_le_mul_right _ h4
  simp only [fcB, manyB, List.length_append]
  omega
/-- what an argument is: its numbers are those of 64 bits, its names no longer than a machine's -/
def FlW (f : Fl) : Prop := (∀ z ∈ f.nu, OkI z) ∧ (∀ b ∈ f.bd, OkI b.lo ∧ OkI b.st ∧ ∀ x ∈ b.co, OkI x.1 ∧ OkI x.2) ∧ ∀ x ∈ f.fd, x.1.name.size ≤ 140737488355328 ∧ x.2.size ≤ 140737488355328 ∧ x.1.tn.size ≤ 140737488355328
theorem few_len {f : Fl} (h : FewF f) (hfd : ∀ y ∈ f.fd, y.1.name.size + y.2.size + y.1.tn.size ≤ 120) (hw : FlW f) : (flB f).length ≤ 100000000 := by
  obtain ⟨hn, hb, _⟩ := hw
  have a0 := small_le h.fc
  have a1 := flat_le Pk.intB 18 f.nu (fun x hx => Pk.intB_len x (hn x hx).1 (hn x hx).2)
  have a2 := flat_le sB 129 f.cl (fun x hx => sB_le60 (by have := h.c1 x hx; omega))
  have a3 := flat_le tyB 130 f.ty (fun x hx => tyB_le60 (by have := h.t1 x hx; omega))
  have a4 := flat_le fdB 400 f.fd (fun x hx => by
    have := hfd x hx
    have b1 := sB_le60 (s := x.2) (by omega)
    have b2 := sB_le60 (s := x.1.name) (by omega)
    have b3 := tyB_le60 (t := x.1.ty) (by show x.1.tn.size ≤ 120; omega)
    simp only [fdB, vrB, List.length_append]
    omega)
  have a5 := flat_le mtB 900000 f.mt (fun x hx => by
    obtain ⟨b1, b2⟩ := h.m1 x hx
    exact small_le (f := mtF x) ⟨b1, b2.sup, b2.fs, b2.ms, b2.f1, b2.m1⟩)
  have a6 := flat_le bdB 2000 f.bd (fun b hb' => by
    obtain ⟨c1, c2, c3⟩ := hb b hb'
    have d1 := Pk.encI_len b.lo c1.2
    have d2 := Pk.encI_len b.st c2.2
    have d3 := flat_le inB 18 b.co (fun x hx => by
      have e1 := Pk.encI_len x.1 (c3 x hx).1.2
      have e2 := Pk.encI_len x.2 (c3 x hx).2.2
      unfold inB
      rw [List.length_append]
      split
      · simp; omega
      · omega)
    have d4 := h.b1 b hb'
    have d5 := Pk.enc_len9 b.co.length (by omega)
    have d6 : b.co.length * 18 ≤ 60 * 18 := Nat.mul_le_mul_right _ d4
    simp only [bdB, manyB, List.length_append]
    omega)
  have m1 : f.nu.length * 18 ≤ 20 * 18 := Nat.mul_le_mul_right _ h.nu
  have m2 : f.cl.length * 129 ≤ 20 * 129 := Nat.mul_le_mul_right _ h.cl
  have m3 : f.ty.length * 130 ≤ 20 * 130 := Nat.mul_le_mul_right _ h.ty
  have m4 : f.fd.length * 400 ≤ 20 * 400 := Nat.mul_le_mul_right _ h.fd
  have m5 : f.mt.length * 900000 ≤ 20 * 900000 := Nat.mul_le_mul_right _ h.mt
  have m6 : f.bd.length * 2000 ≤ 12 * 2000 := Nat.mul_le_mul_right _ h.bd
  have n1 := Pk.enc_len9 f.nu.length (by have := h.nu; omega)
  have n2 := Pk.enc_len9 f.cl.length (by have := h.cl; omega)
  have n3 := Pk.enc_len9 f.ty.length (by have := h.ty; omega)
  have n4 := Pk.enc_len9 f.fd.length (by have := h.fd; omega)
  have n5 := Pk.enc_len9 f.mt.length (by have := h.mt; omega)
  unfold flB poB manyB
  simp only [List.length_append]
  omega
theorem un_cut {xs : List Fl} (hr : ∀ f ∈ xs, RightF f ∧ ∀ z ∈ f.nu, OkI z) (hl : xs.length ≤ 200) {m : Nat} (hm : m < (arcB xs).length) : ¬ UnOk ((arcB xs).take m) := by
  intro h
  obtain ⟨s1, s2⟩ := un_sound h
  have hys := decs_right h
  generalize hY : (unT ((arcB xs).take m)).1.map decF = ys at *
  have hok : ∀ f ∈ ys, RightF f ∧ ∀ z ∈ f.nu, OkI z := fun f hf => ⟨hys f hf, by rw [← hY] at hf; exact decs_ok _ f hf⟩
  have hyl : ys.length ≤ 200 := by rw [← hY, List.length_map]; exact s2
  have e1 := un_read hr hl (arcB xs).length (Nat.le_refl _) []
  have e2 := un_read hok hyl (arcB xs).length (by rw [s1, List.length_take]; omega) ((arcB xs).drop m)
  rw [s1, List.take_append_drop] at e2
  rw [List.append_nil, e2] at e1
  have h3 := congrArg (fun z : List (List UInt8) × Pk.St => z.2.s.length) e1
  simp only [List.length_drop, List.length_nil] at h3
  omega
theorem arcB_pos (xs : List Fl) : 0 < (arcB xs).length := by
  have := Pk.enc_pos (xs.length : Int).toNat
  unfold arcB Pk.encI
  rw [List.length_append]
  omega
theorem unpack17s (s : ByteArray) (w : World) (hs : s.size ≤ 140737488355328) (hT : TabR w) : Calls Tryd.prog 17 #[.string s] w (UnV (bl s) w) := by
  have h := unpack17 (bl s) w (by rw [bl_len]; exact hs) hT
  have e : (⟨(bl s).toArray⟩ : ByteArray) = s := by cases s; simp [bl]
  rwa [e] at h
end Go.Proofs.YtomlbfkkhhhfkaaDoor.Fc
namespace Go.Proofs.YtomlbfkkhhhfkaaDoor.Fc
open Go.ChangeShapes Go.WideShapes Go.ChangeAt Go.RowKit
open Go.ChangeMaps (open_string shut_string)
set_option linter.unusedVariables false

variable {H : Type} {enc : TypeId × Value → H} {w : World} {held : Bool}

/-- no text, and no row, is longer than a machine's memory -/
def Wt (t : TypeId) (d : DataW H) : Prop := ∀ k ∈ DataW.weights Tryd.prog t d, k ≤ reachBytes
theorem wt_str {t : TypeId} {s : ByteArray} (h : Wt (H := H) t (.lit (.string s.data.toList))) : s.size ≤ 140737488355328 := by
  have h1 := h s.data.toList.length (by rw [DataW.weights]; simp)
  unfold reachBytes at h1
  have h2 : s.data.toList.length = s.size := by rw [Array.length_toList]; rfl
  omega
theorem wt_each : ∀ (ts : List TypeId) (ds : List (DataW H)), (∀ k ∈ DataW.weightsEach Tryd.prog ts ds, k ≤ reachBytes) → ∀ (i : Nat) (t : TypeId) (d : DataW H), ts[i]? = some t → ds[i]? = some d → Wt t d := by
  intro ts
  induction ts with
  | nil => intro ds _ i t d h; simp at h
  | cons t0 ts ih =>
    intro ds h i t d ht hd
    match ds, i, ht, hd with
    | d0 :: ds, 0, ht, hd =>
      simp at ht hd
      subst ht hd
      exact fun k hk => h k (by rw [DataW.weightsEach]; exact List.mem_append_left _ hk)
    | d0 :: ds, i + 1, ht, hd =>
      exact ih ds (fun k hk => h k (by rw [DataW.weightsEach]; exact List.mem_append_right _ hk)) i t d (by simpa using ht) (by simpa using hd)
theorem wt_struct {t : TypeId} {fs : Array Field} {parts : List (DataW H)} {i : Nat} {f : Field} {d : DataW H} (ht : Tryd.prog.underlying t = some (.struct fs)) (h : Wt t (.agg parts)) (hi : fs[i]? = some f) (hd : parts[i]? = some d) : Wt f.type d := by
  unfold Wt at h
  rw [DataW.weights, ht] at h
  exact wt_each _ _ h i f.type d (by rw [List.getElem?_map, Array.getElem?_toList, hi]; rfl) hd
theorem wt_all {e : TypeId} : ∀ (ds : List (DataW H)), (∀ k ∈ DataW.weightsAll Tryd.prog e ds, k ≤ reachBytes) → ∀ d ∈ ds, Wt e d := by
  intro ds
  induction ds with
  | nil => intro _ d hd; cases hd
  | cons d0 ds ih =>
    intro h d hd
    rcases List.mem_cons.1 hd with rfl | hd
    · exact fun k hk => h k (by rw [DataW.weightsAll]; exact List.mem_append_left _ hk)
    · exact ih (fun k hk => h k (by rw [DataW.weightsAll]; exact List.mem_append_right _ hk)) d hd
theorem wt_slice {t e : TypeId} {elems spare : List (DataW H)} (ht : Tryd.prog.underlying t = some (.slice e)) (h : Wt t (.slice elems spare)) : ∀ d ∈ elems, Wt e d := by
  unfold Wt at h
  rw [DataW.weights, ht] at h
  exact wt_all elems (fun k hk => h k (List.mem_cons_of_mem _ (List.mem_append_left _ hk)))
theorem okI_of {n : Int} (wf : (Lit.int .i64 n).wf = true) : OkI n := by
  simp only [Lit.wf, Bool.and_eq_true, decide_eq_true_eq] at wf
  rw [show IntKind.i64.min = -9223372036854775808 by decide, show IntKind.i64.max = 9223372036854775807 by decide] at wf
  exact wf
theorem trod_slW {α : Type} [Inhabited α] {t e : TypeId} {n : Nat} {R : α → List Value → Prop} (ht : Tryd.prog.underlying t = some (.slice e)) (hc : Tryd.prog.cellsOf e = n) (hn : 0 < n) {fuel : Nat} {v : Value} {x : DataW H × List MemPlace}
    (ih : ∀ m, m < fuel → ∀ {cs : List Value} {x : DataW H × List MemPlace}, DataW.trod enc Tryd.prog w 0 (fun _ => true) held m e cs = some x → Wt e x.1 → ∃ y, R y cs ∧ cs.length = n)
    (h : DataW.trod enc Tryd.prog w 0 (fun _ => true) held fuel t [v] = some x) (hw : Wt t x.1) : ∃ xs, Sl w n R xs v := by
  rcases DataW.trod_slice ht h with ⟨hcs, _⟩ | ⟨a, len, cap, elems, rest, m, rfl, hcs, hxe, _, hl, hm, hlen, hel, _, _⟩
  · simp at hcs
    subst hcs
    exact ⟨[], Sl.nil _ _ _⟩
  · simp at hcs
    subst hcs
    rw [hc] at hel
    have each : ∀ i, i < len → ∃ p : α × List Value, (∀ j v, p.2[j]? = some v → w.cell? ((a.add (i * n)).add j) = some v) ∧ R p.1 p.2 ∧ p.2.length = n := by
      intro i hi
      have h1 := hel i hi
      rw [List.getElem?_eq_getElem (by omega)] at h1
      obtain ⟨cs', hcs', hd⟩ := Option.bind_eq_some_iff.1 h1
      obtain ⟨y, hy, hl⟩ := ih m (by omega) hd (wt_slice ht (by rw [hxe] at hw; exact hw) _ (List.mem_map_of_mem (List.getElem_mem _)))
      exact ⟨(y, cs'), (cells_at hcs').2, hy, hl⟩
    obtain ⟨f, hf⟩ := Deep.choose_lt each
    refine ⟨(List.range len).map (fun i => (f i).1), some a, cap, by simp, by simpa using hl, hm, fun i t hi => ?_⟩
    have hi' : i < len := by simpa using (List.getElem?_eq_some_iff.1 hi).1
    obtain ⟨hc', hr, hl'⟩ := hf i hi'
    obtain rfl : (f i).1 = t := by simpa [hi'] using hi
    obtain ⟨u, hu⟩ : ∃ u, (f 0).2[0]? = some u := ⟨(f 0).2[0]'(by have := (hf 0 (by omega)).2.2; omega), List.getElem?_eq_getElem _⟩
    have h0 := (hf 0 (by omega)).1 0 u hu
    obtain ⟨b, o, spot⟩ := a
    have hspot : spot = none := by simpa [Addr.add] using World.cell?_spot h0
    subst hspot
    exact ⟨b, o, (f i).2, rfl, fun j v hv => by have := hc' j v hv; rwa [add_plain, add_plain] at this, hr⟩
theorem trod_typeW {fuel : Nat} {cs : List Value} {x : DataW H × List MemPlace} (h : DataW.trod enc Tryd.prog w 0 (fun _ => true) held fuel 60 cs = some x) (hw : Wt 60 x.1) : ∃ y, (TyR y cs ∧ y.n.size ≤ 140737488355328) ∧ cs.length = 2 := by
  obtain ⟨xs, n', _, hxe, hl, hxl, hf⟩ := DataW.trod_struct Tryd.underlying60 h
  rw [c60] at hl
  obtain ⟨v0, v1, rfl⟩ := list2 hl
  have hx : xs.length = 2 := hxl
  obtain ⟨x0, e0⟩ := some_at hx (show 0 < 2 by omega)
  have t0 : DataW.trod enc Tryd.prog w 0 (fun _ => true) held n' 9 (([v0, v1].drop 0).take (Tryd.prog.cellsOf 9)) = xs[0]? := hf 0 _ rfl
  rw [c9, e0] at t0
  obtain ⟨x1, e1⟩ := some_at hx (show 1 < 2 by omega)
  have t1 : DataW.trod enc Tryd.prog w 0 (fun _ => true) held n' 4 (([v0, v1].drop 1).take (Tryd.prog.cellsOf 4)) = xs[1]? := hf 1 _ rfl
  rw [c4, e1] at t1
  have w0 : Wt 9 x0.1 := wt_struct (i := 0) Tryd.underlying60 (by rw [hxe] at hw; exact hw) rfl (by rw [List.getElem?_map, e0]; rfl)
  obtain ⟨s, e2, ex, hs⟩ := DataW.trod_string Tryd.underlying9 t0
  obtain ⟨b, e3, _⟩ := DataW.trod_bool Tryd.underlying4 t1
  simp at e2 e3
  subst e2 e3
  exact ⟨⟨s, b⟩, ⟨rfl, wt_str (by rw [ex] at w0; exact w0)⟩, rfl⟩
theorem trod_varW {fuel : Nat} {cs : List Value} {x : DataW H × List MemPlace} (h : DataW.trod enc Tryd.prog w 0 (fun _ => true) held fuel 75 cs = some x) (hw : Wt 75 x.1) : ∃ y, (VrR y cs ∧ y.name.size ≤ 140737488355328 ∧ y.tn.size ≤ 140737488355328) ∧ cs.length = 3 := by
  obtain ⟨xs, n', _, hxe, hl, hxl, hf⟩ := DataW.trod_struct Tryd.underlying75 h
  rw [c75] at hl
  obtain ⟨v0, v1, v2, rfl⟩ := list3 hl
  have hx : xs.length = 2 := hxl
  obtain ⟨x0, e0⟩ := some_at hx (show 0 < 2 by omega)
  have t0 : DataW.trod enc Tryd.prog w 0 (fun _ => true) held n' 9 (([v0, v1, v2].drop 0).take (Tryd.prog.cellsOf 9)) = xs[0]? := hf 0 _ rfl
  rw [c9, e0] at t0
  obtain ⟨x1, e1⟩ := some_at hx (show 1 < 2 by omega)
  have t1 : DataW.trod enc Tryd.prog w 0 (fun _ => true) held n' 60 (([v0, v1, v2].drop 1).take (Tryd.prog.cellsOf 60)) = xs[1]? := hf 1 _ rfl
  rw [c60, e1] at t1
  have w0 : Wt 9 x0.1 := wt_struct (i := 0) Tryd.underlying75 (by rw [hxe] at hw; exact hw) rfl (by rw [List.getElem?_map, e0]; rfl)
  have w1 : Wt 60 x1.1 := wt_struct (i := 1) Tryd.underlying75 (by rw [hxe] at hw; exact hw) rfl (by rw [List.getElem?_map, e1]; rfl)
  obtain ⟨s, q0, ex, _⟩ := DataW.trod_string Tryd.underlying9 t0
  obtain ⟨⟨a, b⟩, ⟨q1, z1⟩, _⟩ := trod_typeW t1 w1
  simp [TyR] at q0 q1
  obtain ⟨rfl, rfl⟩ := q1
  subst q0
  exact ⟨⟨s, a, b⟩, ⟨rfl, wt_str (by rw [ex] at w0; exact w0), z1⟩, rfl⟩
theorem trod_fdW {fuel : Nat} {cs : List Value} {x : DataW H × List MemPlace} (h : DataW.trod enc Tryd.prog w 0 (fun _ => true) held fuel 77 cs = some x) (hw : Wt 77 x.1) : ∃ y, (FdR y cs ∧ y.1.name.size ≤ 140737488355328 ∧ y.2.size ≤ 140737488355328 ∧ y.1.tn.size ≤ 140737488355328) ∧ cs.length = 4 := by
  obtain ⟨xs, n', _, hxe, hl, hxl, hf⟩ := DataW.trod_struct Tryd.underlying77 h
  rw [c77] at hl
  obtain ⟨v0, v1, v2, v3, rfl⟩ := list4 hl
  have hx : xs.length = 2 := hxl
  obtain ⟨x0, e0⟩ := some_at hx (show 0 < 2 by omega)
  have t0 : DataW.trod enc Tryd.prog w 0 (fun _ => true) held n' 75 (([v0, v1, v2, v3].drop 0).take (Tryd.prog.cellsOf 75)) = xs[0]? := hf 0 _ rfl
  rw [c75, e0] at t0
  obtain ⟨x1, e1⟩ := some_at hx (show 1 < 2 by omega)
  have t1 : DataW.trod enc Tryd.prog w 0 (fun _ => true) held n' 9 (([v0, v1, v2, v3].drop 3).take (Tryd.prog.cellsOf 9)) = xs[1]? := hf 1 _ rfl
  rw [c9, e1] at t1
  have w0 : Wt 75 x0.1 := wt_struct (i := 0) Tryd.underlying77 (by rw [hxe] at hw; exact hw) rfl (by rw [List.getElem?_map, e0]; rfl)
  have w1 : Wt 9 x1.1 := wt_struct (i := 1) Tryd.underlying77 (by rw [hxe] at hw; exact hw) rfl (by rw [List.getElem?_map, e1]; rfl)
  obtain ⟨⟨a, b, c⟩, ⟨q0, z1, z2⟩, _⟩ := trod_varW t0 w0
  obtain ⟨s, q1, ex, _⟩ := DataW.trod_string Tryd.underlying9 t1
  simp [VrR] at q0 q1
  obtain ⟨rfl, rfl, rfl⟩ := q0
  subst q1
  exact ⟨(⟨a, b, c⟩, s), ⟨rfl, z1, wt_str (by rw [ex] at w1; exact w1), z2⟩, rfl⟩
theorem trod_insI {fuel : Nat} {cs : List Value} {x : DataW H × List MemPlace} (h : DataW.trod enc Tryd.prog w 0 (fun _ => true) held fuel 66 cs = some x) : ∃ y, (InR y cs ∧ OkI y.1 ∧ OkI y.2) ∧ cs.length = 2 := by
  obtain ⟨xs, n', _, _, hl, hxl, hf⟩ := DataW.trod_struct Tryd.underlying66 h
  rw [c66] at hl
  obtain ⟨v0, v1, rfl⟩ := list2 hl
  have hx : xs.length = 2 := hxl
  obtain ⟨x0, e0⟩ := some_at hx (show 0 < 2 by omega)
  have t0 : DataW.trod enc Tryd.prog w 0 (fun _ => true) held n' 64 (([v0, v1].drop 0).take (Tryd.prog.cellsOf 64)) = xs[0]? := hf 0 _ rfl
  rw [c64, e0] at t0
  obtain ⟨x1, e1⟩ := some_at hx (show 1 < 2 by omega)
  have t1 : DataW.trod enc Tryd.prog w 0 (fun _ => true) held n' 3 (([v0, v1].drop 1).take (Tryd.prog.cellsOf 3)) = xs[1]? := hf 1 _ rfl
  rw [c3, e1] at t1
  obtain ⟨a, q0, _, wa⟩ := DataW.trod_int Tryd.underlying64 t0
  obtain ⟨b, q1, _, wb⟩ := DataW.trod_int Tryd.underlying3 t1
  simp at q0 q1
  subst q0 q1
  exact ⟨(a, b), ⟨rfl, okI_of wa, okI_of wb⟩, rfl⟩
theorem trod_bdI {fuel : Nat} {cs : List Value} {x : DataW H × List MemPlace} (h : DataW.trod enc Tryd.prog w 0 (fun _ => true) held fuel 69 cs = some x) : ∃ y, (BdR w y cs ∧ OkI y.lo ∧ OkI y.st ∧ ∀ x ∈ y.co, OkI x.1 ∧ OkI x.2) ∧ cs.length = 3 := by
  obtain ⟨xs, n', _, _, hl, hxl, hf⟩ := DataW.trod_struct Tryd.underlying69 h
  rw [c69] at hl
  obtain ⟨v0, v1, v2, rfl⟩ := list3 hl
  have hx : xs.length = 3 := hxl
  obtain ⟨x0, e0⟩ := some_at hx (show 0 < 3 by omega)
  have t0 : DataW.trod enc Tryd.prog w 0 (fun _ => true) held n' 3 (([v0, v1, v2].drop 0).take (Tryd.prog.cellsOf 3)) = xs[0]? := hf 0 _ rfl
  rw [c3, e0] at t0
  obtain ⟨x1, e1⟩ := some_at hx (show 1 < 3 by omega)
  have t1 : DataW.trod enc Tryd.prog w 0 (fun _ => true) held n' 3 (([v0, v1, v2].drop 1).take (Tryd.prog.cellsOf 3)) = xs[1]? := hf 1 _ rfl
  rw [c3, e1] at t1
  obtain ⟨x2, e2⟩ := some_at hx (show 2 < 3 by omega)
  have t2 : DataW.trod enc Tryd.prog w 0 (fun _ => true) held n' 67 (([v0, v1, v2].drop 2).take (Tryd.prog.cellsOf 67)) = xs[2]? := hf 2 _ rfl
  rw [c67, e2] at t2
  obtain ⟨a, q0, _, wa⟩ := DataW.trod_int Tryd.underlying3 t0
  obtain ⟨b, q1, _, wb⟩ := DataW.trod_int Tryd.underlying3 t1
  simp at q0 q1
  subst q0 q1
  obtain ⟨co, hco0⟩ := trod_sl (R := fun y cs => InR y cs ∧ (OkI y.1 ∧ OkI y.2)) Tryd.underlying67 c66 (by decide) (fun m _ _ _ h => trod_insI h) t2
  obtain ⟨hco, hok⟩ := sl_both hco0
  obtain ⟨ca, cc, rfl⟩ := hco.form
  exact ⟨⟨a, b, co⟩, ⟨⟨ca, _, cc, rfl, hco⟩, okI_of wa, okI_of wb, hok⟩, rfl⟩
theorem trod_poolW {fuel : Nat} {cs : List Value} {x : DataW H × List MemPlace} (h : DataW.trod enc Tryd.prog w 0 (fun _ => true) held fuel 32 cs = some x) (hw : Wt 32 x.1) : ∃ y, (PlR w y cs ∧ ∀ x ∈ y.2.2.2.1, x.1.name.size ≤ 140737488355328 ∧ x.2.size ≤ 140737488355328 ∧ x.1.tn.size ≤ 140737488355328) ∧ cs.length = 5 := by
  obtain ⟨xs, n', _, hxe, hl, hxl, hf⟩ := DataW.trod_struct Tryd.underlying32 h
  rw [c32] at hl
  obtain ⟨v0, v1, v2, v3, v4, rfl⟩ := list5 hl
  have hx : xs.length = 5 := hxl
  obtain ⟨x0, e0⟩ := some_at hx (show 0 < 5 by omega)
  have t0 : DataW.trod enc Tryd.prog w 0 (fun _ => true) held n' 26 (([v0, v1, v2, v3, v4].drop 0).take (Tryd.prog.cellsOf 26)) = xs[0]? := hf 0 _ rfl
  rw [c26, e0] at t0
  obtain ⟨x1, e1⟩ := some_at hx (show 1 < 5 by omega)
  have t1 : DataW.trod enc Tryd.prog w 0 (fun _ => true) held n' 27 (([v0, v1, v2, v3, v4].drop 1).take (Tryd.prog.cellsOf 27)) = xs[1]? := hf 1 _ rfl
  rw [c27, e1] at t1
  obtain ⟨x2, e2⟩ := some_at hx (show 2 < 5 by omega)
  have t2 : DataW.trod enc Tryd.prog w 0 (fun _ => true) held n' 28 (([v0, v1, v2, v3, v4].drop 2).take (Tryd.prog.cellsOf 28)) = xs[2]? := hf 2 _ rfl
  rw [c28, e2] at t2
  obtain ⟨x3, e3⟩ := some_at hx (show 3 < 5 by omega)
  have t3 : DataW.trod enc Tryd.prog w 0 (fun _ => true) held n' 29 (([v0, v1, v2, v3, v4].drop 3).take (Tryd.prog.cellsOf 29)) = xs[3]? := hf 3 _ rfl
  rw [c29, e3] at t3
  obtain ⟨x4, e4⟩ := some_at hx (show 4 < 5 by omega)
  have t4 : DataW.trod enc Tryd.prog w 0 (fun _ => true) held n' 30 (([v0, v1, v2, v3, v4].drop 4).take (Tryd.prog.cellsOf 30)) = xs[4]? := hf 4 _ rfl
  rw [c30, e4] at t4
  have w3 : Wt 29 x3.1 := wt_struct (i := 3) Tryd.underlying32 (by rw [hxe] at hw; exact hw) rfl (by rw [List.getElem?_map, e3]; rfl)
  obtain ⟨nu, hnu⟩ := trod_sl (R := fun y cs => NmR y cs ∧ OkI y) Tryd.underlying26 c2 (by decide) (fun m _ _ _ h => trod_num h) t0
  obtain ⟨cl, hcl⟩ := trod_sl Tryd.underlying27 c9 (by decide) (fun m _ _ _ h => trod_str h) t1
  obtain ⟨ty, hty⟩ := trod_sl Tryd.underlying28 c60 (by decide) (fun m _ _ _ h => trod_type h) t2
  obtain ⟨fd, hfd0⟩ := trod_slW (R := fun y cs => FdR y cs ∧ (y.1.name.size ≤ 140737488355328 ∧ y.2.size ≤ 140737488355328 ∧ y.1.tn.size ≤ 140737488355328)) Tryd.underlying29 c77 (by decide) (fun m _ _ _ h hw => trod_fdW h hw) t3 w3
  obtain ⟨hfd, hsz⟩ := sl_both hfd0
  obtain ⟨mt, hmt⟩ := trod_sl Tryd.underlying30 c79 (by decide) (fun m _ _ _ h => trod_mt h) t4
  exact ⟨(nu, cl, ty, fd, mt), ⟨⟨v0, v1, v2, v3, v4, rfl, hnu, hcl, hty, hfd, hmt⟩, hsz⟩, rfl⟩
theorem trod_fileW {fuel : Nat} {cs : List Value} {x : DataW H × List MemPlace} (h : DataW.trod enc Tryd.prog w 0 (fun _ => true) held fuel 35 cs = some x) (hw : Wt 35 x.1) : ∃ y, (FlR w y cs ∧ FlW y) ∧ cs.length = 10 := by
  obtain ⟨xs, n', _, hxe, hl, hxl, hf⟩ := DataW.trod_struct Tryd.underlying35 h
  rw [c35] at hl
  obtain ⟨v0, v1, v2, v3, v4, v5, v6, v7, v8, v9, rfl⟩ := list10 hl
  have hx : xs.length = 3 := hxl
  obtain ⟨x0, e0⟩ := some_at hx (show 0 < 3 by omega)
  have t0 : DataW.trod enc Tryd.prog w 0 (fun _ => true) held n' 25 (([v0, v1, v2, v3, v4, v5, v6, v7, v8, v9].drop 0).take (Tryd.prog.cellsOf 25)) = xs[0]? := hf 0 _ rfl
  rw [c25, e0] at t0
  obtain ⟨x1, e1⟩ := some_at hx (show 1 < 3 by omega)
  have t1 : DataW.trod enc Tryd.prog w 0 (fun _ => true) held n' 32 (([v0, v1, v2, v3, v4, v5, v6, v7, v8, v9].drop 4).take (Tryd.prog.cellsOf 32)) = xs[1]? := hf 1 _ rfl
  rw [c32, e1] at t1
  obtain ⟨x2, e2⟩ := some_at hx (show 2 < 3 by omega)
  have t2 : DataW.trod enc Tryd.prog w 0 (fun _ => true) held n' 33 (([v0, v1, v2, v3, v4, v5, v6, v7, v8, v9].drop 9).take (Tryd.prog.cellsOf 33)) = xs[2]? := hf 2 _ rfl
  rw [c33, e2] at t2
  have w1 : Wt 32 x1.1 := wt_struct (i := 1) Tryd.underlying35 (by rw [hxe] at hw; exact hw) rfl (by rw [List.getElem?_map, e1]; rfl)
  obtain ⟨fc, ⟨a8, n8, c8, a9, n9, c9', q0, hf8, hf9⟩, _⟩ := trod_face t0
  obtain ⟨⟨nu, cl, ty, fd, mt⟩, ⟨⟨u0, u1, u2, u3, u4, q1, hnu, hcl, hty, hfd, hmt⟩, hsz⟩, _⟩ := trod_poolW t1 w1
  obtain ⟨bd, hbd0⟩ := trod_sl (R := fun y cs => BdR w y cs ∧ (OkI y.lo ∧ OkI y.st ∧ ∀ x ∈ y.co, OkI x.1 ∧ OkI x.2)) Tryd.underlying33 c69 (by decide) (fun m _ _ _ h => trod_bdI h) t2
  obtain ⟨hbd, hbi⟩ := sl_both hbd0
  obtain ⟨hn1, hn2⟩ := sl_both hnu
  obtain ⟨a1, k1, rfl⟩ := hn1.form
  obtain ⟨a2, k2, rfl⟩ := hcl.form
  obtain ⟨a3, k3, rfl⟩ := hty.form
  obtain ⟨a4, k4, rfl⟩ := hfd.form
  obtain ⟨a5, k5, rfl⟩ := hmt.form
  obtain ⟨a0, k0, rfl⟩ := hbd.form
  simp at q0 q1
  obtain ⟨rfl, rfl, rfl, rfl⟩ := q0
  obtain ⟨rfl, rfl, rfl, rfl, rfl⟩ := q1
  exact ⟨⟨fc, nu, cl, ty, fd, mt, bd⟩, ⟨⟨a8, n8, c8, a9, n9, c9', a1, _, k1, a2, _, k2, a3, _, k3, a4, _, k4, a5, _, k5, a0, _, k0, rfl, ⟨a8, n8, c8, a9, n9, c9', rfl, hf8, hf9⟩, ⟨hn1, hcl, hty, hfd, hmt⟩, hbd⟩, hn2, hbi, hsz⟩, rfl⟩
theorem c35' : Tryd.prog.cellsOf 35 = 10 := by kernel_rfl
instance : Inhabited Fl := ⟨⟨default, [], [], [], [], [], []⟩⟩
set_option maxRecDepth 100000 in
/-- files as an argument -/
theorem open_files {r : Reach} {b0 : Nat} {v : Value} {d : DataW H} {p : List MemPlace} (hv : Value.okWide Tryd.prog w r b0 46 v) (h : DataW.Trod enc Tryd.prog w 0 (fun _ => true) held 46 v d p) (hw : Wt 46 d) : ∃ fs a n c, v = .slice a n c ∧ Sl w 10 (FlR w) fs (.slice a n c) ∧ ∀ f ∈ fs, FlW f := by
  obtain ⟨fuel, hf⟩ := h
  obtain ⟨a0, n0, c0, rfl⟩ := okWide_slice Tryd.underlying46 hv
  have hf' : DataW.trod enc Tryd.prog w 0 (fun _ => true) held fuel 46 [.slice a0 n0 c0] = some (d, p) := by simpa [Value.cells] using hf
  obtain ⟨fs, hs⟩ := trod_slW (R := fun y cs => FlR w y cs ∧ FlW y) Tryd.underlying46 c35' (by decide) (fun m _ _ _ h hw => trod_fileW h hw) hf' hw
  obtain ⟨h1, h2⟩ := sl_both hs
  exact ⟨fs, a0, n0, c0, rfl, h1, h2⟩
end Go.Proofs.YtomlbfkkhhhfkaaDoor.Fc
