/-
  Classes as they are read, and how much is in them: no more than the bulk of what is read.
-/
import Derived.Test.YtojkagfbdpjckaaDoorOpenC
import Derived.Test.YtojkagfbdpjckaaDoorLnL
namespace Go.Proofs.YtojkagfbdpjckaaDoor
open Go.ChangeShapes Go.WideShapes Go.ChangeAt Go.RowKit
open Go.ChangeMaps (open_string shut_string)
set_option linter.unusedVariables false

theorem parts2 {α : Type} {cs : List α} (h : cs.length = 2) : ∃ x0 x1, cs = [x0, x1] := by
  match cs, h with
  | [x0, x1], _ => exact ⟨x0, x1, rfl⟩
theorem parts5 {α : Type} {cs : List α} (h : cs.length = 5) : ∃ x0 x1 x2 x3 x4, cs = [x0, x1, x2, x3, x4] := by
  match cs, h with
  | [x0, x1, x2, x3, x4], _ => exact ⟨x0, x1, x2, x3, x4, rfl⟩
theorem parts6 {α : Type} {cs : List α} (h : cs.length = 6) : ∃ x0 x1 x2 x3 x4 x5, cs = [x0, x1, x2, x3, x4, x5] := by
  match cs, h with
  | [x0, x1, x2, x3, x4, x5], _ => exact ⟨x0, x1, x2, x3, x4, x5, rfl⟩
theorem parts7 {α : Type} {cs : List α} (h : cs.length = 7) : ∃ x0 x1 x2 x3 x4 x5 x6, cs = [x0, x1, x2, x3, x4, x5, x6] := by
  match cs, h with
  | [x0, x1, x2, x3, x4, x5, x6], _ => exact ⟨x0, x1, x2, x3, x4, x5, x6, rfl⟩
theorem parts8 {α : Type} {cs : List α} (h : cs.length = 8) : ∃ x0 x1 x2 x3 x4 x5 x6 x7, cs = [x0, x1, x2, x3, x4, x5, x6, x7] := by
  match cs, h with
  | [x0, x1, x2, x3, x4, x5, x6, x7], _ => exact ⟨x0, x1, x2, x3, x4, x5, x6, x7, rfl⟩
/-- The sum over a list. -/
def sB {α : Type} (B : α → Nat) : List α → Nat
  | [] => 0
  | x :: r => B x + sB B r
theorem trBs_eq : ∀ ts : List Tree, trBs ts = sB trB ts
  | [] => by rw [trBs, sB]
  | t :: r => by rw [trBs, sB, trBs_eq r]
theorem stBs_eq : ∀ ts : List St, stBs ts = sB stB ts
  | [] => by rw [stBs, sB]
  | t :: r => by rw [stBs, sB, stBs_eq r]
def vrB (v : Vr) : Nat := 1 + v.name.size + v.tn.size
theorem vsB_eq : ∀ ts : List Vr, vsB ts = sB vrB ts
  | [] => by rw [vsB, sB]
  | t :: r => by rw [vsB, sB, vsB_eq r, vrB]
theorem msB_eq : ∀ ts : List Mt, msB ts = sB mtB ts
  | [] => by rw [msB, sB]
  | t :: r => by rw [msB, sB, msB_eq r]
theorem sum_range {H α : Type} (B : α → Nat) : ∀ (es : List (DataW H × List MemPlace)) (g : Nat → α), (∀ i e, es[i]? = some e → B (g i) ≤ Rows.uptoBulk e.1) → sB B ((List.range es.length).map g) ≤ Rows.uptoBulkAll (es.map (·.1))
  | [], _, _ => by simp [sB]
  | e :: r, g, h => by
    rw [List.length_cons, List.range_succ_eq_map, List.map_cons, List.map_map, sB, List.map_cons, Rows.uptoBulkAll]
    have h1 := h 0 e rfl
    have h2 := sum_range B r (g ∘ Nat.succ) (fun i e he => h (i + 1) e (by simpa using he))
    omega
theorem lit_len (s : ByteArray) : s.data.toList.length = s.size := rfl

variable {H : Type} {enc : TypeId × Value → H} {w : World} {held : Bool}
theorem trod_type_b {fuel : Nat} {cs : List Value} {x : DataW H × List MemPlace} (h : DataW.trod enc Tryd.prog w 0 (fun _ => true) held fuel 26 cs = some x) : ∃ n a, cs = [.string n, .bool a] ∧ n.size ≤ Rows.uptoBulk x.1 := by
  obtain ⟨xs, n', _, hd, hl, hxl, hf⟩ := DataW.trod_struct Tryd.underlying26 h
  rw [c26] at hl
  obtain ⟨u, v, rfl⟩ := list2 hl
  obtain ⟨x0, x1, rfl⟩ := parts2 hxl
  have t0 : DataW.trod enc Tryd.prog w 0 (fun _ => true) held n' 9 (([u, v].drop 0).take (Tryd.prog.cellsOf 9)) = some x0 := hf 0 _ rfl
  have t1 : DataW.trod enc Tryd.prog w 0 (fun _ => true) held n' 4 (([u, v].drop 1).take (Tryd.prog.cellsOf 4)) = some x1 := hf 1 _ rfl
  rw [c9] at t0
  rw [c4] at t1
  obtain ⟨s, e2, y0, hs⟩ := DataW.trod_string Tryd.underlying9 t0
  obtain ⟨b, e3, _⟩ := DataW.trod_bool Tryd.underlying4 t1
  simp at e2 e3
  subst e2 e3
  have hb := congrArg (fun y => Rows.uptoBulk y.1) hd
  simp only [List.map_cons, List.map_nil, Rows.uptoBulk, Rows.uptoBulkAll] at hb
  rw [y0] at hb
  simp only [Rows.uptoBulk, lit_len] at hb
  exact ⟨s, b, rfl, by omega⟩

/-- A slice of which each element is an expression. -/
theorem trod_kids_b {fuel : Nat} {v : Value} {x : DataW H × List MemPlace} (ih : ∀ m, m < fuel → ∀ {cs : List Value} {x : DataW H × List MemPlace}, DataW.trod enc Tryd.prog w 0 (fun _ => true) held m 29 cs = some x → ∃ t kk, cs = exprC t kk ∧ t.ok ∧ Kin w m t.kids kk ∧ trB t ≤ Rows.uptoBulk x.1)
    (h : DataW.trod enc Tryd.prog w 0 (fun _ => true) held fuel 27 [v] = some x) : ∃ ks, Kin w fuel ks v ∧ trBs ks ≤ Rows.uptoBulk x.1 := by
  rcases DataW.trod_slice Tryd.underlying27 h with ⟨hcs, hx⟩ | ⟨a, len, cap, elems, rest, n, rfl, hcs, hx, _, hl, hm, hlen, hel, _, _⟩
  · simp at hcs
    subst hcs
    exact ⟨[], by cases fuel <;> exact kids_nil _ _, by simp [trBs]⟩
  · simp at hcs
    subst hcs
    rw [c29] at hel
    have each : ∀ i, i < len → ∃ p : Tree × Value, (∀ j v, (exprC p.1 p.2)[j]? = some v → w.cell? ((a.add (i * 11)).add j) = some v) ∧ p.1.ok ∧ Kin w n p.1.kids p.2 ∧ ∀ e, elems[i]? = some e → trB p.1 ≤ Rows.uptoBulk e.1 := by
      intro i hi
      have h1 := hel i hi
      rw [List.getElem?_eq_getElem (by omega)] at h1
      obtain ⟨cs', hcs', hd⟩ := Option.bind_eq_some_iff.1 h1
      obtain ⟨t, kk, rfl, hok, hkin, hle⟩ := ih n (by omega) hd
      exact ⟨(t, kk), (cells_at hcs').2, hok, hkin, fun e he => by rw [List.getElem?_eq_getElem (by omega)] at he; cases he; exact hle⟩
    have : Inhabited (Tree × Value) := ⟨(Tree.zero, undef)⟩
    obtain ⟨f, hf⟩ := Deep.choose_lt each
    refine ⟨(List.range len).map (fun i => (f i).1), ?_, ?_⟩
    rotate_left
    · have hs := sum_range trB elems (fun i => (f i).1) (fun i e he => (hf i (by have := (List.getElem?_eq_some_iff.1 he).1; omega)).2.2.2 e he)
      rw [hx, trBs_eq, ← hlen]
      show _ ≤ Rows.uptoBulk (.slice _ _)
      rw [Rows.uptoBulk]
      omega
    refine ⟨some a, cap, by simp, by simpa using hl, hm, fun i t hi => ?_⟩
    have hi' : i < len := by simpa using (List.getElem?_eq_some_iff.1 hi).1
    obtain ⟨hc, hok, hk, _⟩ := hf i hi'
    obtain rfl : (f i).1 = t := by simpa [hi'] using hi
    obtain ⟨u, hu⟩ : ∃ u, (exprC (f 0).1 (f 0).2)[0]? = some u := by cases (f 0).1; exact ⟨_, rfl⟩
    have h0 := (hf 0 (by omega)).1 0 u hu
    obtain ⟨b, o, spot⟩ := a
    have hspot : spot = none := by simpa [Addr.add] using World.cell?_spot h0
    subst hspot
    refine ⟨b, o, (f i).2, rfl, fun j v hv => by have := hc j v hv; rwa [add_plain, add_plain] at this, ?_, hok, hk⟩
    cases n with
    | zero => obtain ⟨a, cap, e, _⟩ := hk; exact ⟨a, _, cap, e⟩
    | succ d => obtain ⟨a, cap, e, _⟩ := hk; exact ⟨a, _, cap, e⟩

theorem trod_expr_b : ∀ (fuel : Nat) {cs : List Value} {x : DataW H × List MemPlace}, DataW.trod enc Tryd.prog w 0 (fun _ => true) held fuel 29 cs = some x → ∃ t kk, cs = exprC t kk ∧ t.ok ∧ Kin w fuel t.kids kk ∧ trB t ≤ Rows.uptoBulk x.1 := by
  intro fuel
  induction fuel using Nat.strongRecOn with
  | _ fuel ih =>
  intro cs x h
  obtain ⟨xs, n', rfl, hd, hl, hxl, hf⟩ := DataW.trod_struct Tryd.underlying29 h
  rw [c29] at hl
  obtain ⟨v0, v1, v2, v3, v4, v5, v6, v7, v8, v9, v10, rfl⟩ := list11 hl
  obtain ⟨x0, x1, x2, x3, x4, x5, x6, x7, rfl⟩ := parts8 hxl
  have t0 : DataW.trod enc Tryd.prog w 0 (fun _ => true) held n' 22 (([v0, v1, v2, v3, v4, v5, v6, v7, v8, v9, v10].drop 0).take (Tryd.prog.cellsOf 22)) = some x0 := hf 0 _ rfl
  rw [c22] at t0
  have t1 : DataW.trod enc Tryd.prog w 0 (fun _ => true) held n' 24 (([v0, v1, v2, v3, v4, v5, v6, v7, v8, v9, v10].drop 1).take (Tryd.prog.cellsOf 24)) = some x1 := hf 1 _ rfl
  rw [c24] at t1
  have t2 : DataW.trod enc Tryd.prog w 0 (fun _ => true) held n' 2 (([v0, v1, v2, v3, v4, v5, v6, v7, v8, v9, v10].drop 3).take (Tryd.prog.cellsOf 2)) = some x2 := hf 2 _ rfl
  rw [c2] at t2
  have t3 : DataW.trod enc Tryd.prog w 0 (fun _ => true) held n' 9 (([v0, v1, v2, v3, v4, v5, v6, v7, v8, v9, v10].drop 4).take (Tryd.prog.cellsOf 9)) = some x3 := hf 3 _ rfl
  rw [c9] at t3
  have t4 : DataW.trod enc Tryd.prog w 0 (fun _ => true) held n' 26 (([v0, v1, v2, v3, v4, v5, v6, v7, v8, v9, v10].drop 5).take (Tryd.prog.cellsOf 26)) = some x4 := hf 4 _ rfl
  rw [c26] at t4
  have t5 : DataW.trod enc Tryd.prog w 0 (fun _ => true) held n' 27 (([v0, v1, v2, v3, v4, v5, v6, v7, v8, v9, v10].drop 7).take (Tryd.prog.cellsOf 27)) = some x5 := hf 5 _ rfl
  rw [c27] at t5
  have t6 : DataW.trod enc Tryd.prog w 0 (fun _ => true) held n' 26 (([v0, v1, v2, v3, v4, v5, v6, v7, v8, v9, v10].drop 8).take (Tryd.prog.cellsOf 26)) = some x6 := hf 6 _ rfl
  rw [c26] at t6
  have t7 : DataW.trod enc Tryd.prog w 0 (fun _ => true) held n' 9 (([v0, v1, v2, v3, v4, v5, v6, v7, v8, v9, v10].drop 10).take (Tryd.prog.cellsOf 9)) = some x7 := hf 7 _ rfl
  rw [c9] at t7
  obtain ⟨a0, q0, _⟩ := DataW.trod_int Tryd.underlying22 t0
  obtain ⟨a1, a2, q1⟩ := trod_pos t1
  obtain ⟨a3, q3, _, wn⟩ := DataW.trod_int Tryd.underlying2 t2
  obtain ⟨a4, q4, y4, _⟩ := DataW.trod_string Tryd.underlying9 t3
  obtain ⟨a5, a6, q5, z5⟩ := trod_type_b t4
  obtain ⟨ks, hks, zk⟩ := trod_kids_b (fun m hm => ih m (by omega)) t5
  obtain ⟨a8, a9, q8, _⟩ := trod_type_b t6
  obtain ⟨a10, q10, _, _⟩ := DataW.trod_string Tryd.underlying9 t7
  simp at q0 q1 q3 q4 q5 q8 q10
  obtain ⟨rfl, rfl⟩ := q1
  obtain ⟨rfl, rfl⟩ := q5
  obtain ⟨rfl, rfl⟩ := q8
  subst q0 q3 q4 q10
  have hb := congrArg (fun y => Rows.uptoBulk y.1) hd
  simp only [List.map_cons, List.map_nil, Rows.uptoBulk, Rows.uptoBulkAll] at hb
  rw [y4] at hb
  simp only [Rows.uptoBulk, lit_len] at hb
  exact ⟨.mk a0 a1 a2 a3 a4 a5 a6 ks a8 a9 a10, v7, rfl, bounds_i64 wn, hks.le (by omega), by rw [trB]; omega⟩

/-- A slice of structs of n cells, each of which is read as a datum. -/
theorem trod_sl_b {α : Type} [Inhabited α] (B : α → Nat) {t e : TypeId} {n : Nat} {R : α → List Value → Prop} (ht : Tryd.prog.underlying t = some (.slice e)) (hc : Tryd.prog.cellsOf e = n) (hn : 0 < n) {fuel : Nat} {v : Value} {x : DataW H × List MemPlace}
    (ih : ∀ m, m < fuel → ∀ {cs : List Value} {x : DataW H × List MemPlace}, DataW.trod enc Tryd.prog w 0 (fun _ => true) held m e cs = some x → ∃ y, R y cs ∧ cs.length = n ∧ B y ≤ Rows.uptoBulk x.1)
    (h : DataW.trod enc Tryd.prog w 0 (fun _ => true) held fuel t [v] = some x) : ∃ xs, Sl w n R xs v ∧ sB B xs ≤ Rows.uptoBulk x.1 := by
  rcases DataW.trod_slice ht h with ⟨hcs, hx⟩ | ⟨a, len, cap, elems, rest, m, rfl, hcs, hx, _, hl, hm, hlen, hel, _, _⟩
  · simp at hcs
    subst hcs
    exact ⟨[], Sl.nil _ _ _, by simp [sB]⟩
  · simp at hcs
    subst hcs
    rw [hc] at hel
    have each : ∀ i, i < len → ∃ p : α × List Value, (∀ j v, p.2[j]? = some v → w.cell? ((a.add (i * n)).add j) = some v) ∧ R p.1 p.2 ∧ p.2.length = n ∧ ∀ e, elems[i]? = some e → B p.1 ≤ Rows.uptoBulk e.1 := by
      intro i hi
      have h1 := hel i hi
      rw [List.getElem?_eq_getElem (by omega)] at h1
      obtain ⟨cs', hcs', hd⟩ := Option.bind_eq_some_iff.1 h1
      obtain ⟨y, hy, hl, hle⟩ := ih m (by omega) hd
      exact ⟨(y, cs'), (cells_at hcs').2, hy, hl, fun e he => by rw [List.getElem?_eq_getElem (by omega)] at he; cases he; exact hle⟩
    obtain ⟨f, hf⟩ := Deep.choose_lt each
    refine ⟨(List.range len).map (fun i => (f i).1), ⟨some a, cap, by simp, by simpa using hl, hm, fun i t hi => ?_⟩, ?_⟩
    rotate_left
    · have hs := sum_range B elems (fun i => (f i).1) (fun i e he => (hf i (by have := (List.getElem?_eq_some_iff.1 he).1; omega)).2.2.2 e he)
      rw [hx, ← hlen]
      show _ ≤ Rows.uptoBulk (.slice _ _)
      rw [Rows.uptoBulk]
      omega
    have hi' : i < len := by simpa using (List.getElem?_eq_some_iff.1 hi).1
    obtain ⟨hc', hr, hl', _⟩ := hf i hi'
    obtain rfl : (f i).1 = t := by simpa [hi'] using hi
    obtain ⟨u, hu⟩ : ∃ u, (f 0).2[0]? = some u := ⟨(f 0).2[0]'(by have := (hf 0 (by omega)).2.2.1; omega), List.getElem?_eq_getElem _⟩
    have h0 := (hf 0 (by omega)).1 0 u hu
    obtain ⟨b, o, spot⟩ := a
    have hspot : spot = none := by simpa [Addr.add] using World.cell?_spot h0
    subst hspot
    exact ⟨b, o, (f i).2, rfl, fun j v hv => by have := hc' j v hv; rwa [add_plain, add_plain] at this, hr⟩

theorem trod_var_b {fuel : Nat} {cs : List Value} {x : DataW H × List MemPlace} (h : DataW.trod enc Tryd.prog w 0 (fun _ => true) held fuel 45 cs = some x) : ∃ y, VrR y cs ∧ cs.length = 3 ∧ vrB y ≤ Rows.uptoBulk x.1 := by
  obtain ⟨xs, n', _, hd, hl, hxl, hf⟩ := DataW.trod_struct Tryd.underlying45 h
  rw [c45] at hl
  obtain ⟨u, v, z, rfl⟩ := list3 hl
  obtain ⟨x0, x1, rfl⟩ := parts2 hxl
  have t0 : DataW.trod enc Tryd.prog w 0 (fun _ => true) held n' 9 (([u, v, z].drop 0).take (Tryd.prog.cellsOf 9)) = some x0 := hf 0 _ rfl
  have t1 : DataW.trod enc Tryd.prog w 0 (fun _ => true) held n' 26 (([u, v, z].drop 1).take (Tryd.prog.cellsOf 26)) = some x1 := hf 1 _ rfl
  rw [c9] at t0
  rw [c26] at t1
  obtain ⟨s, q0, y0, _⟩ := DataW.trod_string Tryd.underlying9 t0
  obtain ⟨a, b, q1, z1⟩ := trod_type_b t1
  simp at q0 q1
  obtain ⟨rfl, rfl⟩ := q1
  subst q0
  have hb := congrArg (fun y => Rows.uptoBulk y.1) hd
  simp only [List.map_cons, List.map_nil, Rows.uptoBulk, Rows.uptoBulkAll] at hb
  rw [y0] at hb
  simp only [Rows.uptoBulk, lit_len] at hb
  exact ⟨⟨s, a, b⟩, rfl, rfl, by show 1 + s.size + a.size ≤ _; omega⟩

theorem trod_exprs_b {fuel : Nat} {v : Value} {x : DataW H × List MemPlace} (h : DataW.trod enc Tryd.prog w 0 (fun _ => true) held fuel 27 [v] = some x) : ∃ es, Sl w 11 (ExR w) es v ∧ sB trB es ≤ Rows.uptoBulk x.1 :=
  trod_sl_b trB Tryd.underlying27 c29 (by decide) (fun m _ _ _ h => by
    obtain ⟨t, kk, rfl, hok, hk, hle⟩ := trod_expr_b m h
    exact ⟨t, ⟨kk, rfl, hok, m, hk⟩, by cases t; rfl, hle⟩) h

theorem trod_stmt_b : ∀ (fuel : Nat) {cs : List Value} {x : DataW H × List MemPlace}, DataW.trod enc Tryd.prog w 0 (fun _ => true) held fuel 48 cs = some x → ∃ s, StR w fuel s cs ∧ cs.length = 9 ∧ stB s ≤ Rows.uptoBulk x.1 := by
  intro fuel
  induction fuel using Nat.strongRecOn with
  | _ fuel ih =>
  intro cs x h
  obtain ⟨xs, n', rfl, hd, hl, hxl, hf⟩ := DataW.trod_struct Tryd.underlying48 h
  rw [c48] at hl
  obtain ⟨v0, v1, v2, v3, v4, v5, v6, v7, v8, rfl⟩ := list9 hl
  obtain ⟨x0, x1, x2, x3, x4, x5, x6, rfl⟩ := parts7 hxl
  have t0 : DataW.trod enc Tryd.prog w 0 (fun _ => true) held n' 46 (([v0, v1, v2, v3, v4, v5, v6, v7, v8].drop 0).take (Tryd.prog.cellsOf 46)) = some x0 := hf 0 _ rfl
  have t1 : DataW.trod enc Tryd.prog w 0 (fun _ => true) held n' 24 (([v0, v1, v2, v3, v4, v5, v6, v7, v8].drop 1).take (Tryd.prog.cellsOf 24)) = some x1 := hf 1 _ rfl
  have t2 : DataW.trod enc Tryd.prog w 0 (fun _ => true) held n' 9 (([v0, v1, v2, v3, v4, v5, v6, v7, v8].drop 3).take (Tryd.prog.cellsOf 9)) = some x2 := hf 2 _ rfl
  have t3 : DataW.trod enc Tryd.prog w 0 (fun _ => true) held n' 26 (([v0, v1, v2, v3, v4, v5, v6, v7, v8].drop 4).take (Tryd.prog.cellsOf 26)) = some x3 := hf 3 _ rfl
  have t4 : DataW.trod enc Tryd.prog w 0 (fun _ => true) held n' 27 (([v0, v1, v2, v3, v4, v5, v6, v7, v8].drop 6).take (Tryd.prog.cellsOf 27)) = some x4 := hf 4 _ rfl
  have t5 : DataW.trod enc Tryd.prog w 0 (fun _ => true) held n' 41 (([v0, v1, v2, v3, v4, v5, v6, v7, v8].drop 7).take (Tryd.prog.cellsOf 41)) = some x5 := hf 5 _ rfl
  have t6 : DataW.trod enc Tryd.prog w 0 (fun _ => true) held n' 41 (([v0, v1, v2, v3, v4, v5, v6, v7, v8].drop 8).take (Tryd.prog.cellsOf 41)) = some x6 := hf 6 _ rfl
  rw [c46] at t0
  rw [c24] at t1
  rw [c9] at t2
  rw [c26] at t3
  rw [c27] at t4
  rw [c41] at t5
  rw [c41] at t6
  obtain ⟨a0, q0, _⟩ := DataW.trod_int Tryd.underlying46 t0
  obtain ⟨a1, a2, q1⟩ := trod_pos t1
  obtain ⟨a3, q3, y3, _⟩ := DataW.trod_string Tryd.underlying9 t2
  obtain ⟨a4, a5, q4, z4⟩ := trod_type_b t3
  obtain ⟨es, hes, ze⟩ := trod_exprs_b t4
  have ihh : ∀ m, m < n' → ∀ {cs : List Value} {x : DataW H × List MemPlace}, DataW.trod enc Tryd.prog w 0 (fun _ => true) held m 48 cs = some x → ∃ s, StR w n' s cs ∧ cs.length = 9 ∧ stB s ≤ Rows.uptoBulk x.1 := fun m hm _ _ h => by
    obtain ⟨s, hs, hl⟩ := ih m (by omega) h
    exact ⟨s, hs.le (by omega), hl⟩
  obtain ⟨th, hth, zt⟩ := trod_sl_b stB Tryd.underlying41 c48 (by decide) ihh t5
  obtain ⟨el, hel, zl⟩ := trod_sl_b stB Tryd.underlying41 c48 (by decide) ihh t6
  simp at q0 q1 q3 q4
  obtain ⟨rfl, rfl⟩ := q1
  obtain ⟨rfl, rfl⟩ := q4
  subst q0 q3
  have hb := congrArg (fun y => Rows.uptoBulk y.1) hd
  simp only [List.map_cons, List.map_nil, Rows.uptoBulk, Rows.uptoBulkAll] at hb
  rw [y3] at hb
  simp only [Rows.uptoBulk, lit_len] at hb
  exact ⟨.mk a0 a1 a2 a3 a4 a5 es th el, ⟨v6, v7, v8, rfl, hes, hth, hel⟩, rfl, by rw [stB, trBs_eq, stBs_eq, stBs_eq]; omega⟩

theorem trod_method_b {fuel : Nat} {cs : List Value} {x : DataW H × List MemPlace} (h : DataW.trod enc Tryd.prog w 0 (fun _ => true) held fuel 43 cs = some x) : ∃ m, MtR w m cs ∧ cs.length = 8 ∧ mtB m ≤ Rows.uptoBulk x.1 := by
  obtain ⟨xs, n', _, hd, hl, hxl, hf⟩ := DataW.trod_struct Tryd.underlying43 h
  rw [c43] at hl
  obtain ⟨v0, v1, v2, v3, v4, v5, v6, v7, rfl⟩ := list8 hl
  obtain ⟨x0, x1, x2, x3, x4, x5, rfl⟩ := parts6 hxl
  have t0 : DataW.trod enc Tryd.prog w 0 (fun _ => true) held n' 24 (([v0, v1, v2, v3, v4, v5, v6, v7].drop 0).take (Tryd.prog.cellsOf 24)) = some x0 := hf 0 _ rfl
  have t1 : DataW.trod enc Tryd.prog w 0 (fun _ => true) held n' 9 (([v0, v1, v2, v3, v4, v5, v6, v7].drop 2).take (Tryd.prog.cellsOf 9)) = some x1 := hf 1 _ rfl
  have t2 : DataW.trod enc Tryd.prog w 0 (fun _ => true) held n' 4 (([v0, v1, v2, v3, v4, v5, v6, v7].drop 3).take (Tryd.prog.cellsOf 4)) = some x2 := hf 2 _ rfl
  have t3 : DataW.trod enc Tryd.prog w 0 (fun _ => true) held n' 35 (([v0, v1, v2, v3, v4, v5, v6, v7].drop 4).take (Tryd.prog.cellsOf 35)) = some x3 := hf 3 _ rfl
  have t4 : DataW.trod enc Tryd.prog w 0 (fun _ => true) held n' 26 (([v0, v1, v2, v3, v4, v5, v6, v7].drop 5).take (Tryd.prog.cellsOf 26)) = some x4 := hf 4 _ rfl
  have t5 : DataW.trod enc Tryd.prog w 0 (fun _ => true) held n' 41 (([v0, v1, v2, v3, v4, v5, v6, v7].drop 7).take (Tryd.prog.cellsOf 41)) = some x5 := hf 5 _ rfl
  rw [c24] at t0
  rw [c9] at t1
  rw [c4] at t2
  rw [c35] at t3
  rw [c26] at t4
  rw [c41] at t5
  obtain ⟨a0, a1, q0⟩ := trod_pos t0
  obtain ⟨a2, q2, y2, _⟩ := DataW.trod_string Tryd.underlying9 t1
  obtain ⟨a3, q3, _⟩ := DataW.trod_bool Tryd.underlying4 t2
  obtain ⟨ps, hps, zp⟩ := trod_sl_b vrB Tryd.underlying35 c45 (by decide) (fun m _ _ _ h => trod_var_b h) t3
  obtain ⟨a5, a6, q5, z5⟩ := trod_type_b t4
  obtain ⟨body, hbody, zb⟩ := trod_sl_b stB (R := StR w n') Tryd.underlying41 c48 (by decide) (fun m hm _ _ h => by
    obtain ⟨s, hs, hl⟩ := trod_stmt_b m h
    exact ⟨s, hs.le (by omega), hl⟩) t5
  simp at q0 q2 q3 q5
  obtain ⟨rfl, rfl⟩ := q0
  obtain ⟨rfl, rfl⟩ := q5
  subst q2 q3
  have hb := congrArg (fun y => Rows.uptoBulk y.1) hd
  simp only [List.map_cons, List.map_nil, Rows.uptoBulk, Rows.uptoBulkAll] at hb
  rw [y2] at hb
  simp only [Rows.uptoBulk, lit_len] at hb
  exact ⟨⟨a0, a1, a2, a3, ps, a5, a6, body⟩, ⟨v4, v7, rfl, hps, n', hbody⟩, rfl, by show 1 + a2.size + a5.size + vsB ps + stBs body ≤ _; rw [vsB_eq, stBs_eq]; omega⟩

set_option maxRecDepth 100000 in
theorem open_class_b {r : Reach} {b0 : Nat} {v : Value} {d : DataW H} {p : List MemPlace} (hv : Value.okWide Tryd.prog w r b0 38 v) (h : DataW.Trod enc Tryd.prog w 0 (fun _ => true) held 38 v d p) :
    ∃ ln co name sup fs ms a1 n1 c1 a2 n2 c2, v = .agg #[.int .i64 ln, .int .i64 co, .string name, .string sup, .slice a1 n1 c1, .slice a2 n2 c2] ∧ Sl w 3 VrR fs (.slice a1 n1 c1) ∧ Sl w 8 (MtR w) ms (.slice a2 n2 c2) ∧ clB name sup fs ms ≤ Rows.uptoBulk d := by
  obtain ⟨cs, rfl, hsz⟩ := okWide_struct Tryd.underlying38 hv
  obtain ⟨fuel, hfu⟩ := h
  obtain ⟨xs, n', _, hd, hl, hxl, hf⟩ := DataW.trod_struct Tryd.underlying38 hfu
  rw [c38] at hl
  obtain ⟨v0, v1, v2, v3, v4, v5, ecs⟩ := list6 hl
  rw [ecs] at hf
  obtain ⟨x0, x1, x2, x3, x4, rfl⟩ := parts5 hxl
  have t0 : DataW.trod enc Tryd.prog w 0 (fun _ => true) held n' 24 (([v0, v1, v2, v3, v4, v5].drop 0).take (Tryd.prog.cellsOf 24)) = some x0 := hf 0 _ rfl
  have t1 : DataW.trod enc Tryd.prog w 0 (fun _ => true) held n' 9 (([v0, v1, v2, v3, v4, v5].drop 2).take (Tryd.prog.cellsOf 9)) = some x1 := hf 1 _ rfl
  have t2 : DataW.trod enc Tryd.prog w 0 (fun _ => true) held n' 9 (([v0, v1, v2, v3, v4, v5].drop 3).take (Tryd.prog.cellsOf 9)) = some x2 := hf 2 _ rfl
  have t3 : DataW.trod enc Tryd.prog w 0 (fun _ => true) held n' 35 (([v0, v1, v2, v3, v4, v5].drop 4).take (Tryd.prog.cellsOf 35)) = some x3 := hf 3 _ rfl
  have t4 : DataW.trod enc Tryd.prog w 0 (fun _ => true) held n' 36 (([v0, v1, v2, v3, v4, v5].drop 5).take (Tryd.prog.cellsOf 36)) = some x4 := hf 4 _ rfl
  rw [c24] at t0
  rw [c9] at t1
  rw [c9] at t2
  rw [c35] at t3
  rw [c36] at t4
  obtain ⟨a0, a1, q0⟩ := trod_pos t0
  obtain ⟨a2, q2, y1, _⟩ := DataW.trod_string Tryd.underlying9 t1
  obtain ⟨a3, q3, y2, _⟩ := DataW.trod_string Tryd.underlying9 t2
  obtain ⟨fs, hfs, zf⟩ := trod_sl_b vrB Tryd.underlying35 c45 (by decide) (fun m _ _ _ h => trod_var_b h) t3
  obtain ⟨ms, hms, zm⟩ := trod_sl_b mtB Tryd.underlying36 c43 (by decide) (fun m _ _ _ h => trod_method_b h) t4
  obtain ⟨f1, f2, rfl⟩ := hfs.form
  obtain ⟨g1, g2, rfl⟩ := hms.form
  simp at q0 q2 q3
  obtain ⟨rfl, rfl⟩ := q0
  subst q2 q3
  refine ⟨a0, a1, a2, a3, fs, ms, f1, _, f2, g1, _, g2, ?_, hfs, hms, ?_⟩
  · have : cs = #[.int .i64 a0, .int .i64 a1, .string a2, .string a3, .slice f1 fs.length f2, .slice g1 ms.length g2] := by
      cases cs
      simpa [Value.cells] using ecs
    rw [this]
  · have hb := congrArg (fun y => Rows.uptoBulk y.1) hd
    simp only [List.map_cons, List.map_nil, Rows.uptoBulk, Rows.uptoBulkAll, y1, y2, lit_len] at hb
    rw [clB, vsB_eq, msB_eq]
    omega
end Go.Proofs.YtojkagfbdpjckaaDoor
