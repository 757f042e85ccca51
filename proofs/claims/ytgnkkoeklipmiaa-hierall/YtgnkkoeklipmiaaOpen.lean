/-
  Faces as they are read.
-/
import Derived.Test.YtgnkkoeklipmiaaRows
import Derived.Test.YtgnkkoeklipmiaaTab
import Derived.WalkKit
import Derived.ProofKit
import Derived.OpenShut
import Derived.ShutString
import Derived.ChangeOld
import Derived.Below
import Derived.SizedLaws
import Derived.Lib.LaidTab
import Derived.Deep.Slices
namespace Go.Proofs.Ytgnkkoeklipmiaa
open Go.ChangeShapes Go.WideShapes Go.ChangeAt Go.RowKit
open Go.ChangeMaps (open_string shut_string)
set_option linter.unusedVariables false

theorem own : ownKnob Try.prog.godebug = none := by kernel_rfl
theorem laidOut : laidOutB Try.prog = true := by kernel_rfl

theorem cells_at {w : World} {base : Nat} {a : Addr} {n : Nat} {cs : List Value} (h : w.cells? base a n = some cs) : cs.length = n ∧ ∀ j v, cs[j]? = some v → w.cell? (a.add j) = some v := by
  unfold World.cells? at h
  split at h
  · have hl : cs.length = n := by simpa using Lib.mapM_length h
    refine ⟨hl, fun j v hv => ?_⟩
    have hj : j < n := by rw [← hl]; exact (List.getElem?_eq_some_iff.1 hv).1
    obtain ⟨b, hb, hf⟩ := Lib.mapM_at h j j (by simp [hj])
    rw [hb] at hv
    cases hv
    exact hf
  · cases h
theorem some_at {α : Type} {xs : List α} {i n : Nat} (h : xs.length = n) (hi : i < n) : ∃ x, xs[i]? = some x := ⟨xs[i], List.getElem?_eq_getElem (by omega)⟩
instance : Inhabited Ty := ⟨⟨⟨#[]⟩, false⟩⟩
instance : Inhabited Vr := ⟨⟨⟨#[]⟩, ⟨#[]⟩, false⟩⟩
instance : Inhabited Sg := ⟨⟨⟨#[]⟩, false, [], ⟨#[]⟩, false⟩⟩
instance : Inhabited Fc := ⟨⟨⟨#[]⟩, ⟨#[]⟩, [], []⟩⟩

theorem list2 {cs : List Value} (h : cs.length = 2) : ∃ v0 v1, cs = [v0, v1] := by
  match cs, h with
  | [v0, v1], _ => exact ⟨v0, v1, rfl⟩
theorem list3 {cs : List Value} (h : cs.length = 3) : ∃ v0 v1 v2, cs = [v0, v1, v2] := by
  match cs, h with
  | [v0, v1, v2], _ => exact ⟨v0, v1, v2, rfl⟩
theorem list4 {cs : List Value} (h : cs.length = 4) : ∃ v0 v1 v2 v3, cs = [v0, v1, v2, v3] := by
  match cs, h with
  | [v0, v1, v2, v3], _ => exact ⟨v0, v1, v2, v3, rfl⟩
theorem list5 {cs : List Value} (h : cs.length = 5) : ∃ v0 v1 v2 v3 v4, cs = [v0, v1, v2, v3, v4] := by
  match cs, h with
  | [v0, v1, v2, v3, v4], _ => exact ⟨v0, v1, v2, v3, v4, rfl⟩
theorem c4 : Try.prog.cellsOf 4 = 1 := by kernel_rfl
theorem c9 : Try.prog.cellsOf 9 = 1 := by kernel_rfl
theorem c22 : Try.prog.cellsOf 22 = 1 := by kernel_rfl
theorem c32 : Try.prog.cellsOf 32 = 1 := by kernel_rfl
theorem c33 : Try.prog.cellsOf 33 = 1 := by kernel_rfl
theorem c35 : Try.prog.cellsOf 35 = 4 := by kernel_rfl
theorem c44 : Try.prog.cellsOf 44 = 2 := by kernel_rfl
theorem c48 : Try.prog.cellsOf 48 = 1 := by kernel_rfl
theorem c50 : Try.prog.cellsOf 50 = 5 := by kernel_rfl
theorem c69 : Try.prog.cellsOf 69 = 3 := by kernel_rfl

variable {H : Type} {enc : TypeId × Value → H} {w : World} {held : Bool}

/-- A slice of structs of n cells, each of which is read as a datum. -/
theorem trod_sl {α : Type} [Inhabited α] {t e : TypeId} {n : Nat} {R : α → List Value → Prop} (ht : Try.prog.underlying t = some (.slice e)) (hc : Try.prog.cellsOf e = n) (hn : 0 < n) {fuel : Nat} {v : Value} {x : DataW H × List MemPlace}
    (ih : ∀ m, m < fuel → ∀ {cs : List Value} {x : DataW H × List MemPlace}, DataW.trod enc Try.prog w 0 (fun _ => true) held m e cs = some x → ∃ y, R y cs ∧ cs.length = n)
    (h : DataW.trod enc Try.prog w 0 (fun _ => true) held fuel t [v] = some x) : ∃ xs, Sl w n R xs v := by
  rcases DataW.trod_slice ht h with ⟨hcs, _⟩ | ⟨a, len, cap, elems, rest, m, rfl, hcs, _, _, hl, hm, hlen, hel, _, _⟩
  · simp at hcs
    subst hcs
    exact ⟨[], Sl.nil _ _ _⟩
  · simp at hcs
    subst hcs
    rw [hc] at hel
    have each : ∀ i, i < len → ∃ p : α × List Value, (∀ j v, p.2[j]? = some v → w.cell? ((a.add (i * n)).add j) = some v) ∧ R p.1 p.2 ∧ p.2.length = n := by
      intro i hi
      have h1 := hel i hi
      rw [List.getElem?_eq_getElem (by omega)] at h1
      obtain ⟨cs', hcs', hd⟩ := Option.bind_eq_some_iff.1 h1
      obtain ⟨y, hy, hl⟩ := ih m (by omega) hd
      exact ⟨(y, cs'), (cells_at hcs').2, hy, hl⟩
    obtain ⟨f, hf⟩ := Deep.choose_lt each
    refine ⟨(List.range len).map (fun i => (f i).1), some a, cap, by simp, by simpa using hl, hm, fun i t hi => ?_⟩
    have hi' : i < len := by simpa using (List.getElem?_eq_some_iff.1 hi).1
    obtain ⟨hc', hr, hl'⟩ := hf i hi'
    obtain rfl : (f i).1 = t := by simpa [hi'] using hi
    obtain ⟨u, hu⟩ : ∃ u, (f 0).2[0]? = some u := ⟨(f 0).2[0]'(by have := (hf 0 (by omega)).2.2; omega), List.getElem?_eq_getElem _⟩
    have h0 := (hf 0 (by omega)).1 0 u hu
    obtain ⟨b, o, spot⟩ := a
    have hspot : spot = none := by simpa [Addr.add] using World.cell?_spot h0
    subst hspot
    exact ⟨b, o, (f i).2, rfl, fun j v hv => by have := hc' j v hv; rwa [add_plain, add_plain] at this, hr⟩

theorem trod_type {fuel : Nat} {cs : List Value} {x : DataW H × List MemPlace} (h : DataW.trod enc Try.prog w 0 (fun _ => true) held fuel 44 cs = some x) : ∃ y, TyR y cs ∧ cs.length = 2 := by
  obtain ⟨xs, n', _, _, hl, hxl, hf⟩ := DataW.trod_struct Try.underlying44 h
  rw [c44] at hl
  obtain ⟨v0, v1, rfl⟩ := list2 hl
  have hx : xs.length = 2 := hxl
  obtain ⟨x0, e0⟩ := some_at hx (show 0 < 2 by omega)
  have t0 : DataW.trod enc Try.prog w 0 (fun _ => true) held n' 9 (([v0, v1].drop 0).take (Try.prog.cellsOf 9)) = xs[0]? := hf 0 _ rfl
  rw [c9, e0] at t0
  obtain ⟨x1, e1⟩ := some_at hx (show 1 < 2 by omega)
  have t1 : DataW.trod enc Try.prog w 0 (fun _ => true) held n' 4 (([v0, v1].drop 1).take (Try.prog.cellsOf 4)) = xs[1]? := hf 1 _ rfl
  rw [c4, e1] at t1
  obtain ⟨s, e2, _, hs⟩ := DataW.trod_string Try.underlying9 t0
  obtain ⟨b, e3, _⟩ := DataW.trod_bool Try.underlying4 t1
  simp at e2 e3
  subst e2 e3
  exact ⟨⟨s, b⟩, rfl, rfl⟩

theorem trod_var {fuel : Nat} {cs : List Value} {x : DataW H × List MemPlace} (h : DataW.trod enc Try.prog w 0 (fun _ => true) held fuel 69 cs = some x) : ∃ y, VrR y cs ∧ cs.length = 3 := by
  obtain ⟨xs, n', _, _, hl, hxl, hf⟩ := DataW.trod_struct Try.underlying69 h
  rw [c69] at hl
  obtain ⟨v0, v1, v2, rfl⟩ := list3 hl
  have hx : xs.length = 2 := hxl
  obtain ⟨x0, e0⟩ := some_at hx (show 0 < 2 by omega)
  have t0 : DataW.trod enc Try.prog w 0 (fun _ => true) held n' 9 (([v0, v1, v2].drop 0).take (Try.prog.cellsOf 9)) = xs[0]? := hf 0 _ rfl
  rw [c9, e0] at t0
  obtain ⟨x1, e1⟩ := some_at hx (show 1 < 2 by omega)
  have t1 : DataW.trod enc Try.prog w 0 (fun _ => true) held n' 44 (([v0, v1, v2].drop 1).take (Try.prog.cellsOf 44)) = xs[1]? := hf 1 _ rfl
  rw [c44, e1] at t1
  obtain ⟨s, q0, _, _⟩ := DataW.trod_string Try.underlying9 t0
  obtain ⟨⟨a, b⟩, q1, _⟩ := trod_type t1
  simp [TyR] at q0 q1
  obtain ⟨rfl, rfl⟩ := q1
  subst q0
  exact ⟨⟨s, a, b⟩, rfl, rfl⟩

theorem trod_sig {fuel : Nat} {cs : List Value} {x : DataW H × List MemPlace} (h : DataW.trod enc Try.prog w 0 (fun _ => true) held fuel 50 cs = some x) : ∃ y, SgR w y cs ∧ cs.length = 5 := by
  obtain ⟨xs, n', _, _, hl, hxl, hf⟩ := DataW.trod_struct Try.underlying50 h
  rw [c50] at hl
  obtain ⟨v0, v1, v2, v3, v4, rfl⟩ := list5 hl
  have hx : xs.length = 4 := hxl
  obtain ⟨x0, e0⟩ := some_at hx (show 0 < 4 by omega)
  have t0 : DataW.trod enc Try.prog w 0 (fun _ => true) held n' 9 (([v0, v1, v2, v3, v4].drop 0).take (Try.prog.cellsOf 9)) = xs[0]? := hf 0 _ rfl
  rw [c9, e0] at t0
  obtain ⟨x1, e1⟩ := some_at hx (show 1 < 4 by omega)
  have t1 : DataW.trod enc Try.prog w 0 (fun _ => true) held n' 4 (([v0, v1, v2, v3, v4].drop 1).take (Try.prog.cellsOf 4)) = xs[1]? := hf 1 _ rfl
  rw [c4, e1] at t1
  obtain ⟨x2, e2⟩ := some_at hx (show 2 < 4 by omega)
  have t2 : DataW.trod enc Try.prog w 0 (fun _ => true) held n' 48 (([v0, v1, v2, v3, v4].drop 2).take (Try.prog.cellsOf 48)) = xs[2]? := hf 2 _ rfl
  rw [c48, e2] at t2
  obtain ⟨x3, e3⟩ := some_at hx (show 3 < 4 by omega)
  have t3 : DataW.trod enc Try.prog w 0 (fun _ => true) held n' 44 (([v0, v1, v2, v3, v4].drop 3).take (Try.prog.cellsOf 44)) = xs[3]? := hf 3 _ rfl
  rw [c44, e3] at t3
  obtain ⟨s, q0, _, _⟩ := DataW.trod_string Try.underlying9 t0
  obtain ⟨st, q1, _⟩ := DataW.trod_bool Try.underlying4 t1
  obtain ⟨ps, hps⟩ := trod_sl Try.underlying48 c44 (by decide) (fun m _ _ _ h => trod_type h) t2
  obtain ⟨⟨a, b⟩, q3, _⟩ := trod_type t3
  obtain ⟨pa, pc, rfl⟩ := hps.form
  simp [TyR] at q0 q1 q3
  obtain ⟨rfl, rfl⟩ := q3
  subst q0 q1
  exact ⟨⟨s, st, ps, a, b⟩, ⟨pa, _, pc, rfl, hps⟩, rfl⟩

theorem trod_face {fuel : Nat} {cs : List Value} {x : DataW H × List MemPlace} (h : DataW.trod enc Try.prog w 0 (fun _ => true) held fuel 35 cs = some x) : ∃ y, FcR w y cs ∧ cs.length = 4 := by
  obtain ⟨xs, n', _, _, hl, hxl, hf⟩ := DataW.trod_struct Try.underlying35 h
  rw [c35] at hl
  obtain ⟨v0, v1, v2, v3, rfl⟩ := list4 hl
  have hx : xs.length = 4 := hxl
  obtain ⟨x0, e0⟩ := some_at hx (show 0 < 4 by omega)
  have t0 : DataW.trod enc Try.prog w 0 (fun _ => true) held n' 9 (([v0, v1, v2, v3].drop 0).take (Try.prog.cellsOf 9)) = xs[0]? := hf 0 _ rfl
  rw [c9, e0] at t0
  obtain ⟨x1, e1⟩ := some_at hx (show 1 < 4 by omega)
  have t1 : DataW.trod enc Try.prog w 0 (fun _ => true) held n' 9 (([v0, v1, v2, v3].drop 1).take (Try.prog.cellsOf 9)) = xs[1]? := hf 1 _ rfl
  rw [c9, e1] at t1
  obtain ⟨x2, e2⟩ := some_at hx (show 2 < 4 by omega)
  have t2 : DataW.trod enc Try.prog w 0 (fun _ => true) held n' 32 (([v0, v1, v2, v3].drop 2).take (Try.prog.cellsOf 32)) = xs[2]? := hf 2 _ rfl
  rw [c32, e2] at t2
  obtain ⟨x3, e3⟩ := some_at hx (show 3 < 4 by omega)
  have t3 : DataW.trod enc Try.prog w 0 (fun _ => true) held n' 33 (([v0, v1, v2, v3].drop 3).take (Try.prog.cellsOf 33)) = xs[3]? := hf 3 _ rfl
  rw [c33, e3] at t3
  obtain ⟨s, q0, _, _⟩ := DataW.trod_string Try.underlying9 t0
  obtain ⟨u, q1, _, _⟩ := DataW.trod_string Try.underlying9 t1
  obtain ⟨fs, hfs⟩ := trod_sl Try.underlying32 c69 (by decide) (fun m _ _ _ h => trod_var h) t2
  obtain ⟨ms, hms⟩ := trod_sl Try.underlying33 c50 (by decide) (fun m _ _ _ h => trod_sig h) t3
  obtain ⟨fa, fc, rfl⟩ := hfs.form
  obtain ⟨ma, mc, rfl⟩ := hms.form
  simp at q0 q1
  subst q0 q1
  exact ⟨⟨s, u, fs, ms⟩, ⟨fa, _, fc, ma, _, mc, rfl, hfs, hms⟩, rfl⟩

theorem arg_faces {fuel : Nat} {v : Value} {x : DataW H × List MemPlace} (h : DataW.trod enc Try.prog w 0 (fun _ => true) held fuel 22 [v] = some x) : ∃ L, Sl w 4 (FcR w) L v :=
  trod_sl Try.underlying22 c35 (by decide) (fun m _ _ _ h => trod_face h) h

end Go.Proofs.Ytgnkkoeklipmiaa
