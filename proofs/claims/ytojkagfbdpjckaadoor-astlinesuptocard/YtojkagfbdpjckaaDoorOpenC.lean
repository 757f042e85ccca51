/-
  Classes as they are read.
-/
import Derived.Test.YtojkagfbdpjckaaDoorOpen
import Derived.Test.YtojkagfbdpjckaaDoorStm
namespace Go.Proofs.YtojkagfbdpjckaaDoor
open Go.ChangeShapes Go.WideShapes Go.ChangeAt Go.RowKit
open Go.ChangeMaps (open_string shut_string)

theorem list3 {cs : List Value} (h : cs.length = 3) : ∃ a b c, cs = [a, b, c] := by
  match cs, h with
  | [a, b, c], _ => exact ⟨a, b, c, rfl⟩
theorem list6 {cs : List Value} (h : cs.length = 6) : ∃ v0 v1 v2 v3 v4 v5, cs = [v0, v1, v2, v3, v4, v5] := by
  match cs, h with
  | [v0, v1, v2, v3, v4, v5], _ => exact ⟨v0, v1, v2, v3, v4, v5, rfl⟩
theorem list8 {cs : List Value} (h : cs.length = 8) : ∃ v0 v1 v2 v3 v4 v5 v6 v7, cs = [v0, v1, v2, v3, v4, v5, v6, v7] := by
  match cs, h with
  | [v0, v1, v2, v3, v4, v5, v6, v7], _ => exact ⟨v0, v1, v2, v3, v4, v5, v6, v7, rfl⟩
theorem list9 {cs : List Value} (h : cs.length = 9) : ∃ v0 v1 v2 v3 v4 v5 v6 v7 v8, cs = [v0, v1, v2, v3, v4, v5, v6, v7, v8] := by
  match cs, h with
  | [v0, v1, v2, v3, v4, v5, v6, v7, v8], _ => exact ⟨v0, v1, v2, v3, v4, v5, v6, v7, v8, rfl⟩
theorem c35 : Tryd.prog.cellsOf 35 = 1 := by kernel_rfl
theorem c36 : Tryd.prog.cellsOf 36 = 1 := by kernel_rfl
theorem c38 : Tryd.prog.cellsOf 38 = 6 := by kernel_rfl
theorem c41 : Tryd.prog.cellsOf 41 = 1 := by kernel_rfl
theorem c43 : Tryd.prog.cellsOf 43 = 8 := by kernel_rfl
theorem c45 : Tryd.prog.cellsOf 45 = 3 := by kernel_rfl
theorem c46 : Tryd.prog.cellsOf 46 = 1 := by kernel_rfl
theorem c48 : Tryd.prog.cellsOf 48 = 9 := by kernel_rfl

variable {H : Type} {enc : TypeId × Value → H} {w : World} {held : Bool}

/-- A slice of structs of n cells, each of which is read as a datum. -/
theorem trod_sl {α : Type} [Inhabited α] {t e : TypeId} {n : Nat} {R : α → List Value → Prop} (ht : Tryd.prog.underlying t = some (.slice e)) (hc : Tryd.prog.cellsOf e = n) (hn : 0 < n) {fuel : Nat} {v : Value} {x : DataW H × List MemPlace}
    (ih : ∀ m, m < fuel → ∀ {cs : List Value} {x : DataW H × List MemPlace}, DataW.trod enc Tryd.prog w 0 (fun _ => true) held m e cs = some x → ∃ y, R y cs ∧ cs.length = n)
    (h : DataW.trod enc Tryd.prog w 0 (fun _ => true) held fuel t [v] = some x) : ∃ xs, Sl w n R xs v := by
  rcases DataW.trod_slice ht h with ⟨hcs, _⟩ | ⟨a, len, cap, elems, rest, m, rfl, hcs, _, _, hl, hm, hlen, hel, _, _⟩
  · simp at hcs
    subst hcs
    exact ⟨[], Sl.nil _ _ _⟩
  · simp at hcs
    subst hcs
    rw [hc] at hel
    have each : ∀ i, i < len → ∃ p : α × List Value, (∀ j v, p.2[j]? = some v → w.cell? ((a.add (i * n)).add j) = some v) ∧ R p.1 p.2 ∧ p.2.length = n := by
      intro i hi
      have h1 := hel i hi
      rw [List.getElem?_eq_getElem (by omega)] at h1
      obtain ⟨cs', hcs', hd⟩ := Option.bind_eq_some_iff.1 h1
      obtain ⟨y, hy, hl⟩ := ih m (by omega) hd
      exact ⟨(y, cs'), (cells_at hcs').2, hy, hl⟩
    obtain ⟨f, hf⟩ := Deep.choose_lt each
    refine ⟨(List.range len).map (fun i => (f i).1), some a, cap, by simp, by simpa using hl, hm, fun i t hi => ?_⟩
    have hi' : i < len := by simpa using (List.getElem?_eq_some_iff.1 hi).1
    obtain ⟨hc', hr, hl'⟩ := hf i hi'
    obtain rfl : (f i).1 = t := by simpa [hi'] using hi
    obtain ⟨u, hu⟩ : ∃ u, (f 0).2[0]? = some u := ⟨(f 0).2[0]'(by have := (hf 0 (by omega)).2.2; omega), List.getElem?_eq_getElem _⟩
    have h0 := (hf 0 (by omega)).1 0 u hu
    obtain ⟨b, o, spot⟩ := a
    have hspot : spot = none := by simpa [Addr.add] using World.cell?_spot h0
    subst hspot
    exact ⟨b, o, (f i).2, rfl, fun j v hv => by have := hc' j v hv; rwa [add_plain, add_plain] at this, hr⟩

theorem trod_var {fuel : Nat} {cs : List Value} {x : DataW H × List MemPlace} (h : DataW.trod enc Tryd.prog w 0 (fun _ => true) held fuel 45 cs = some x) : ∃ y, VrR y cs ∧ cs.length = 3 := by
  obtain ⟨xs, n', _, _, hl, hxl, hf⟩ := DataW.trod_struct Tryd.underlying45 h
  rw [c45] at hl
  obtain ⟨u, v, z, rfl⟩ := list3 hl
  have hx : xs.length = 2 := hxl
  obtain ⟨x0, e0⟩ := some_at hx (show 0 < 2 by omega)
  obtain ⟨x1, e1⟩ := some_at hx (show 1 < 2 by omega)
  have t0 : DataW.trod enc Tryd.prog w 0 (fun _ => true) held n' 9 (([u, v, z].drop 0).take (Tryd.prog.cellsOf 9)) = xs[0]? := hf 0 _ rfl
  have t1 : DataW.trod enc Tryd.prog w 0 (fun _ => true) held n' 26 (([u, v, z].drop 1).take (Tryd.prog.cellsOf 26)) = xs[1]? := hf 1 _ rfl
  rw [c9, e0] at t0
  rw [c26, e1] at t1
  obtain ⟨s, q0, _, _⟩ := DataW.trod_string Tryd.underlying9 t0
  obtain ⟨a, b, q1, _⟩ := trod_type t1
  simp at q0 q1
  obtain ⟨rfl, rfl⟩ := q1
  subst q0
  exact ⟨⟨s, a, b⟩, rfl, rfl⟩

instance : Inhabited Vr := ⟨⟨⟨#[]⟩, ⟨#[]⟩, false⟩⟩
instance : Inhabited St := ⟨.mk 0 0 0 ⟨#[]⟩ ⟨#[]⟩ false [] [] []⟩
instance : Inhabited Mt := ⟨⟨0, 0, ⟨#[]⟩, false, [], ⟨#[]⟩, false, []⟩⟩
instance : Inhabited Tree := ⟨Tree.zero⟩

theorem StR.succ {W : World} : ∀ {d : Nat} {s : St} {cs : List Value}, StR W d s cs → StR W (d + 1) s cs
  | 0, _, _, h => h.elim
  | d + 1, .mk _ _ _ _ _ _ _ _ _, _, h => by
    obtain ⟨ev, tv, lv, e, h1, h2, h3⟩ := h
    exact ⟨ev, tv, lv, e, h1, h2.mono (Below.refl _ _) (fun _ _ h => StR.succ (d := d) h), h3.mono (Below.refl _ _) (fun _ _ h => StR.succ (d := d) h)⟩
theorem StR.le {W : World} {s : St} {cs : List Value} {d e : Nat} (h : StR W d s cs) (hd : d ≤ e) : StR W e s cs := by
  induction hd with
  | refl => exact h
  | step _ ih => exact ih.succ
theorem trod_exprs {fuel : Nat} {v : Value} {x : DataW H × List MemPlace} (h : DataW.trod enc Tryd.prog w 0 (fun _ => true) held fuel 27 [v] = some x) : ∃ es, Sl w 11 (ExR w) es v :=
  trod_sl Tryd.underlying27 c29 (by decide) (fun m _ _ _ h => by
    obtain ⟨t, kk, rfl, hok, hk⟩ := trod_expr m h
    exact ⟨t, ⟨kk, rfl, hok, m, hk⟩, by cases t; rfl⟩) h

theorem trod_stmt : ∀ (fuel : Nat) {cs : List Value} {x : DataW H × List MemPlace}, DataW.trod enc Tryd.prog w 0 (fun _ => true) held fuel 48 cs = some x → ∃ s, StR w fuel s cs ∧ cs.length = 9 := by
  intro fuel
  induction fuel using Nat.strongRecOn with
  | _ fuel ih =>
  intro cs x h
  obtain ⟨xs, n', rfl, _, hl, hxl, hf⟩ := DataW.trod_struct Tryd.underlying48 h
  rw [c48] at hl
  obtain ⟨v0, v1, v2, v3, v4, v5, v6, v7, v8, rfl⟩ := list9 hl
  have hx : xs.length = 7 := hxl
  obtain ⟨x0, e0⟩ := some_at hx (show 0 < 7 by omega)
  obtain ⟨x1, e1⟩ := some_at hx (show 1 < 7 by omega)
  obtain ⟨x2, e2⟩ := some_at hx (show 2 < 7 by omega)
  obtain ⟨x3, e3⟩ := some_at hx (show 3 < 7 by omega)
  obtain ⟨x4, e4⟩ := some_at hx (show 4 < 7 by omega)
  obtain ⟨x5, e5⟩ := some_at hx (show 5 < 7 by omega)
  obtain ⟨x6, e6⟩ := some_at hx (show 6 < 7 by omega)
  have t0 : DataW.trod enc Tryd.prog w 0 (fun _ => true) held n' 46 (([v0, v1, v2, v3, v4, v5, v6, v7, v8].drop 0).take (Tryd.prog.cellsOf 46)) = xs[0]? := hf 0 _ rfl
  have t1 : DataW.trod enc Tryd.prog w 0 (fun _ => true) held n' 24 (([v0, v1, v2, v3, v4, v5, v6, v7, v8].drop 1).take (Tryd.prog.cellsOf 24)) = xs[1]? := hf 1 _ rfl
  have t2 : DataW.trod enc Tryd.prog w 0 (fun _ => true) held n' 9 (([v0, v1, v2, v3, v4, v5, v6, v7, v8].drop 3).take (Tryd.prog.cellsOf 9)) = xs[2]? := hf 2 _ rfl
  have t3 : DataW.trod enc Tryd.prog w 0 (fun _ => true) held n' 26 (([v0, v1, v2, v3, v4, v5, v6, v7, v8].drop 4).take (Tryd.prog.cellsOf 26)) = xs[3]? := hf 3 _ rfl
  have t4 : DataW.trod enc Tryd.prog w 0 (fun _ => true) held n' 27 (([v0, v1, v2, v3, v4, v5, v6, v7, v8].drop 6).take (Tryd.prog.cellsOf 27)) = xs[4]? := hf 4 _ rfl
  have t5 : DataW.trod enc Tryd.prog w 0 (fun _ => true) held n' 41 (([v0, v1, v2, v3, v4, v5, v6, v7, v8].drop 7).take (Tryd.prog.cellsOf 41)) = xs[5]? := hf 5 _ rfl
  have t6 : DataW.trod enc Tryd.prog w 0 (fun _ => true) held n' 41 (([v0, v1, v2, v3, v4, v5, v6, v7, v8].drop 8).take (Tryd.prog.cellsOf 41)) = xs[6]? := hf 6 _ rfl
  rw [c46, e0] at t0
  rw [c24, e1] at t1
  rw [c9, e2] at t2
  rw [c26, e3] at t3
  rw [c27, e4] at t4
  rw [c41, e5] at t5
  rw [c41, e6] at t6
  obtain ⟨a0, q0, _⟩ := DataW.trod_int Tryd.underlying46 t0
  obtain ⟨a1, a2, q1⟩ := trod_pos t1
  obtain ⟨a3, q3, _, _⟩ := DataW.trod_string Tryd.underlying9 t2
  obtain ⟨a4, a5, q4, _⟩ := trod_type t3
  obtain ⟨es, hes⟩ := trod_exprs t4
  have ihh : ∀ m, m < n' → ∀ {cs : List Value} {x : DataW H × List MemPlace}, DataW.trod enc Tryd.prog w 0 (fun _ => true) held m 48 cs = some x → ∃ s, StR w n' s cs ∧ cs.length = 9 := fun m hm _ _ h => by
    obtain ⟨s, hs, hl⟩ := ih m (by omega) h
    exact ⟨s, hs.le (by omega), hl⟩
  obtain ⟨th, hth⟩ := trod_sl Tryd.underlying41 c48 (by decide) ihh t5
  obtain ⟨el, hel⟩ := trod_sl Tryd.underlying41 c48 (by decide) ihh t6
  simp at q0 q1 q3 q4
  obtain ⟨rfl, rfl⟩ := q1
  obtain ⟨rfl, rfl⟩ := q4
  subst q0 q3
  exact ⟨.mk a0 a1 a2 a3 a4 a5 es th el, ⟨v6, v7, v8, rfl, hes, hth, hel⟩, rfl⟩

theorem trod_method {fuel : Nat} {cs : List Value} {x : DataW H × List MemPlace} (h : DataW.trod enc Tryd.prog w 0 (fun _ => true) held fuel 43 cs = some x) : ∃ m, MtR w m cs ∧ cs.length = 8 := by
  obtain ⟨xs, n', _, _, hl, hxl, hf⟩ := DataW.trod_struct Tryd.underlying43 h
  rw [c43] at hl
  obtain ⟨v0, v1, v2, v3, v4, v5, v6, v7, rfl⟩ := list8 hl
  have hx : xs.length = 6 := hxl
  obtain ⟨x0, e0⟩ := some_at hx (show 0 < 6 by omega)
  obtain ⟨x1, e1⟩ := some_at hx (show 1 < 6 by omega)
  obtain ⟨x2, e2⟩ := some_at hx (show 2 < 6 by omega)
  obtain ⟨x3, e3⟩ := some_at hx (show 3 < 6 by omega)
  obtain ⟨x4, e4⟩ := some_at hx (show 4 < 6 by omega)
  obtain ⟨x5, e5⟩ := some_at hx (show 5 < 6 by omega)
  have t0 : DataW.trod enc Tryd.prog w 0 (fun _ => true) held n' 24 (([v0, v1, v2, v3, v4, v5, v6, v7].drop 0).take (Tryd.prog.cellsOf 24)) = xs[0]? := hf 0 _ rfl
  have t1 : DataW.trod enc Tryd.prog w 0 (fun _ => true) held n' 9 (([v0, v1, v2, v3, v4, v5, v6, v7].drop 2).take (Tryd.prog.cellsOf 9)) = xs[1]? := hf 1 _ rfl
  have t2 : DataW.trod enc Tryd.prog w 0 (fun _ => true) held n' 4 (([v0, v1, v2, v3, v4, v5, v6, v7].drop 3).take (Tryd.prog.cellsOf 4)) = xs[2]? := hf 2 _ rfl
  have t3 : DataW.trod enc Tryd.prog w 0 (fun _ => true) held n' 35 (([v0, v1, v2, v3, v4, v5, v6, v7].drop 4).take (Tryd.prog.cellsOf 35)) = xs[3]? := hf 3 _ rfl
  have t4 : DataW.trod enc Tryd.prog w 0 (fun _ => true) held n' 26 (([v0, v1, v2, v3, v4, v5, v6, v7].drop 5).take (Tryd.prog.cellsOf 26)) = xs[4]? := hf 4 _ rfl
  have t5 : DataW.trod enc Tryd.prog w 0 (fun _ => true) held n' 41 (([v0, v1, v2, v3, v4, v5, v6, v7].drop 7).take (Tryd.prog.cellsOf 41)) = xs[5]? := hf 5 _ rfl
  rw [c24, e0] at t0
  rw [c9, e1] at t1
  rw [c4, e2] at t2
  rw [c35, e3] at t3
  rw [c26, e4] at t4
  rw [c41, e5] at t5
  obtain ⟨a0, a1, q0⟩ := trod_pos t0
  obtain ⟨a2, q2, _, _⟩ := DataW.trod_string Tryd.underlying9 t1
  obtain ⟨a3, q3, _⟩ := DataW.trod_bool Tryd.underlying4 t2
  obtain ⟨ps, hps⟩ := trod_sl Tryd.underlying35 c45 (by decide) (fun m _ _ _ h => trod_var h) t3
  obtain ⟨a5, a6, q5, _⟩ := trod_type t4
  obtain ⟨body, hbody⟩ := trod_sl (R := StR w n') Tryd.underlying41 c48 (by decide) (fun m hm _ _ h => by
    obtain ⟨s, hs, hl⟩ := trod_stmt m h
    exact ⟨s, hs.le (by omega), hl⟩) t5
  simp at q0 q2 q3 q5
  obtain ⟨rfl, rfl⟩ := q0
  obtain ⟨rfl, rfl⟩ := q5
  subst q2 q3
  exact ⟨⟨a0, a1, a2, a3, ps, a5, a6, body⟩, ⟨v4, v7, rfl, hps, n', hbody⟩, rfl⟩

set_option maxRecDepth 100000 in
theorem open_class {r : Reach} {b0 : Nat} {v : Value} {d : DataW H} {p : List MemPlace} (hv : Value.okWide Tryd.prog w r b0 38 v) (h : DataW.Trod enc Tryd.prog w 0 (fun _ => true) held 38 v d p) :
    ∃ ln co name sup fs ms a1 n1 c1 a2 n2 c2, v = .agg #[.int .i64 ln, .int .i64 co, .string name, .string sup, .slice a1 n1 c1, .slice a2 n2 c2] ∧ Sl w 3 VrR fs (.slice a1 n1 c1) ∧ Sl w 8 (MtR w) ms (.slice a2 n2 c2) ∧ ∃ d0 d3 d4, d = .agg [d0, .lit (.string name.data.toList), .lit (.string sup.data.toList), d3, d4] := by
  obtain ⟨cs, rfl, hsz⟩ := okWide_struct Tryd.underlying38 hv
  obtain ⟨fuel, hfu⟩ := h
  obtain ⟨xs, n', _, hd, hl, hxl, hf⟩ := DataW.trod_struct Tryd.underlying38 hfu
  rw [c38] at hl
  obtain ⟨v0, v1, v2, v3, v4, v5, ecs⟩ := list6 hl
  rw [ecs] at hf
  have hx : xs.length = 5 := hxl
  obtain ⟨x0, e0⟩ := some_at hx (show 0 < 5 by omega)
  obtain ⟨x1, e1⟩ := some_at hx (show 1 < 5 by omega)
  obtain ⟨x2, e2⟩ := some_at hx (show 2 < 5 by omega)
  obtain ⟨x3, e3⟩ := some_at hx (show 3 < 5 by omega)
  obtain ⟨x4, e4⟩ := some_at hx (show 4 < 5 by omega)
  have t0 : DataW.trod enc Tryd.prog w 0 (fun _ => true) held n' 24 (([v0, v1, v2, v3, v4, v5].drop 0).take (Tryd.prog.cellsOf 24)) = xs[0]? := hf 0 _ rfl
  have t1 : DataW.trod enc Tryd.prog w 0 (fun _ => true) held n' 9 (([v0, v1, v2, v3, v4, v5].drop 2).take (Tryd.prog.cellsOf 9)) = xs[1]? := hf 1 _ rfl
  have t2 : DataW.trod enc Tryd.prog w 0 (fun _ => true) held n' 9 (([v0, v1, v2, v3, v4, v5].drop 3).take (Tryd.prog.cellsOf 9)) = xs[2]? := hf 2 _ rfl
  have t3 : DataW.trod enc Tryd.prog w 0 (fun _ => true) held n' 35 (([v0, v1, v2, v3, v4, v5].drop 4).take (Tryd.prog.cellsOf 35)) = xs[3]? := hf 3 _ rfl
  have t4 : DataW.trod enc Tryd.prog w 0 (fun _ => true) held n' 36 (([v0, v1, v2, v3, v4, v5].drop 5).take (Tryd.prog.cellsOf 36)) = xs[4]? := hf 4 _ rfl
  rw [c24, e0] at t0
  rw [c9, e1] at t1
  rw [c9, e2] at t2
  rw [c35, e3] at t3
  rw [c36, e4] at t4
  obtain ⟨a0, a1, q0⟩ := trod_pos t0
  obtain ⟨a2, q2, y1, _⟩ := DataW.trod_string Tryd.underlying9 t1
  obtain ⟨a3, q3, y2, _⟩ := DataW.trod_string Tryd.underlying9 t2
  obtain ⟨fs, hfs⟩ := trod_sl Tryd.underlying35 c45 (by decide) (fun m _ _ _ h => trod_var h) t3
  obtain ⟨ms, hms⟩ := trod_sl Tryd.underlying36 c43 (by decide) (fun m _ _ _ h => trod_method h) t4
  obtain ⟨f1, f2, rfl⟩ := hfs.form
  obtain ⟨g1, g2, rfl⟩ := hms.form
  simp at q0 q2 q3
  obtain ⟨rfl, rfl⟩ := q0
  subst q2 q3
  refine ⟨a0, a1, a2, a3, fs, ms, f1, _, f2, g1, _, g2, ?_, hfs, hms, x0.1, x3.1, x4.1, ?_⟩
  · have : cs = #[.int .i64 a0, .int .i64 a1, .string a2, .string a3, .slice f1 fs.length f2, .slice g1 ms.length g2] := by
      cases cs
      simpa [Value.cells] using ecs
    rw [this]
  · have hxs : xs = [x0, x1, x2, x3, x4] := by
      match xs, hx with
      | [b0, b1, b2, b3, b4], _ =>
        simp at e0 e1 e2 e3 e4
        rw [e0, e1, e2, e3, e4]
    have h2 := congrArg Prod.fst hd
    rw [hxs] at h2
    simp only [List.map_cons, List.map_nil] at h2
    rw [h2, y1, y2]
end Go.Proofs.YtojkagfbdpjckaaDoor
