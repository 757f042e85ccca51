/-
  Copies of slices.
-/
import Derived.Test.YthimpjfmelmhpaaDoorFcMem
import Derived.Shelf.SlicesE.Clone
namespace Go.Proofs
open Go.Shelf
def Tryd.cloneV_ren : Go.Shelf.Ren := ⟨fun | 41 => 78 | n => n, fun | 22 => 32 | 23 => 68 | 4 => 4 | n => n, fun | n => n⟩
theorem Tryd.cloneV : Go.Proofs.SlLaysE0.n41 Tryd.prog Tryd.cloneV_ren := {
  mixed := by kernel_rfl
  f41 := ⟨Tryd.f78.name, by decide, Tryd.func78.trans (congrArg some (by kernel_rfl))⟩
  t4 := Tryd.underlying4
  a4 := Tryd.isAgg4
  z4 := Tryd.sizeOf4
  v4 := Tryd.zeroValue4
  t22 := Tryd.underlying32
  a22 := Tryd.isAgg32
  z22 := Tryd.sizeOf32
  v22 := Tryd.zeroValue32 }
def Tryd.cloneS_ren : Go.Shelf.Ren := ⟨fun | 41 => 79 | n => n, fun | 22 => 33 | 23 => 51 | 4 => 4 | n => n, fun | n => n⟩
theorem Tryd.cloneS : Go.Proofs.SlLaysE0.n41 Tryd.prog Tryd.cloneS_ren := {
  mixed := by kernel_rfl
  f41 := ⟨Tryd.f79.name, by decide, Tryd.func79.trans (congrArg some (by kernel_rfl))⟩
  t4 := Tryd.underlying4
  a4 := Tryd.isAgg4
  z4 := Tryd.sizeOf4
  v4 := Tryd.zeroValue4
  t22 := Tryd.underlying33
  a22 := Tryd.isAgg33
  z22 := Tryd.sizeOf33
  v22 := Tryd.zeroValue33 }
def Tryd.cloneT_ren : Go.Shelf.Ren := ⟨fun | 41 => 55 | n => n, fun | 22 => 37 | 23 => 49 | 4 => 4 | n => n, fun | n => n⟩
theorem Tryd.cloneT : Go.Proofs.SlLaysE0.n41 Tryd.prog Tryd.cloneT_ren := {
  mixed := by kernel_rfl
  f41 := ⟨Tryd.f55.name, by decide, Tryd.func55.trans (congrArg some (by kernel_rfl))⟩
  t4 := Tryd.underlying4
  a4 := Tryd.isAgg4
  z4 := Tryd.sizeOf4
  v4 := Tryd.zeroValue4
  t22 := Tryd.underlying37
  a22 := Tryd.isAgg37
  z22 := Tryd.sizeOf37
  v22 := Tryd.zeroValue37 }
namespace YthimpjfmelmhpaaDoor.Fc
open Go.RowKit
set_option linter.unusedVariables false

/-- Rows of cells, one behind the other. -/
def flat (C : Nat → List Value) (m : Nat) : List Value := (List.range m).flatMap C
theorem flat_length {C : Nat → List Value} {n : Nat} : ∀ (m : Nat), (∀ i, i < m → (C i).length = n) → (flat C m).length = m * n
  | 0, _ => by simp [flat]
  | m + 1, h => by
    have h1 := flat_length m (fun i hi => h i (by omega))
    unfold flat at h1 ⊢
    rw [List.range_succ, List.flatMap_append, List.length_append, h1]
    simp [h m (by omega), Nat.succ_mul]
theorem flat_at {C : Nat → List Value} {n : Nat} : ∀ (m : Nat), (∀ i, i < m → (C i).length = n) → ∀ i j, i < m → j < n → (flat C m)[i * n + j]? = (C i)[j]?
  | 0, _, i, j, hi, _ => by omega
  | m + 1, h, i, j, hi, hj => by
    have hl := flat_length m (fun i hi => h i (by omega))
    have e : flat C (m + 1) = flat C m ++ C m := by unfold flat; rw [List.range_succ, List.flatMap_append]; simp
    rw [e]
    by_cases him : i < m
    · have hlt : i * n + j < (flat C m).length := by
        rw [hl]
        have := Nat.mul_le_mul_right n (show i + 1 ≤ m by omega)
        rw [Nat.succ_mul] at this
        omega
      rw [List.getElem?_append_left hlt]
      exact flat_at m (fun i hi => h i (by omega)) i j him hj
    · obtain rfl : i = m := by omega
      rw [List.getElem?_append_right (by omega), hl, Nat.add_sub_cancel_left]
theorem flat_mem {C : Nat → List Value} {m : Nat} {v : Value} (h : v ∈ flat C m) : ∃ i, i < m ∧ v ∈ C i := by
  obtain ⟨i, hi, hv⟩ := List.mem_flatMap.1 h
  exact ⟨i, List.mem_range.1 hi, hv⟩
theorem flat_cells {C : Nat → List Value} {n m : Nat} {w : World} {b o : Nat} (hn : 0 < n) (hl : ∀ i, i < m → (C i).length = n) (hc : ∀ i, i < m → ∀ j v, (C i)[j]? = some v → w.cell? ⟨b, o + i * n + j, none⟩ = some v) : ∀ k v, (flat C m)[k]? = some v → w.cell? ⟨b, o + k, none⟩ = some v := by
  intro k v hv
  have hk : k < m * n := by rw [← flat_length m hl]; exact (List.getElem?_eq_some_iff.1 hv).1
  have hi : k / n < m := Nat.div_lt_of_lt_mul (by rw [Nat.mul_comm]; exact hk)
  have e : k / n * n + k % n = k := by rw [Nat.mul_comm]; exact Nat.div_add_mod k n
  rw [← e, flat_at m hl _ _ hi (Nat.mod_lt _ hn)] at hv
  have h2 := hc _ hi _ _ hv
  rw [show o + k = o + k / n * n + k % n by omega]
  exact h2
theorem Sl.rows {α : Type} {W : World} {n : Nat} {R : α → List Value → Prop} {xs : List α} {a : Option Addr} {m c : Nat} (h : Sl W n R xs (.slice a m c)) : ∃ C : Nat → List Value, ∀ i, i < m → (∃ x, xs[i]? = some x ∧ R x (C i)) ∧ ∃ b o, a = some ⟨b, o, none⟩ ∧ ∀ j v, (C i)[j]? = some v → W.cell? ⟨b, o + i * n + j, none⟩ = some v := by
  obtain ⟨hm, _, _, hk⟩ := h.at
  have each : ∀ i, i < m → ∃ cs : List Value, (∃ x, xs[i]? = some x ∧ R x cs) ∧ ∃ b o, a = some ⟨b, o, none⟩ ∧ ∀ j v, cs[j]? = some v → W.cell? ⟨b, o + i * n + j, none⟩ = some v := by
    intro i hi
    have hx : xs[i]? = some xs[i] := List.getElem?_eq_getElem (by omega)
    obtain ⟨b, o, cs, ea, hc, hr⟩ := hk i _ hx
    exact ⟨cs, ⟨_, hx, hr⟩, b, o, ea, hc⟩
  obtain ⟨f, hf⟩ := Deep.choose_lt each
  exact ⟨f, hf⟩
theorem info44 : ∃ i, Tryd.prog.info? 49 = some i ∧ (i.size, i.bytes, i.zero.map (fun z => z.cells.size)) = (2, 24, some 2) := Option.map_eq_some_iff.1 (show (Tryd.prog.info? 49).map (fun i => (i.size, i.bytes, i.zero.map (fun z => z.cells.size))) = some (2, 24, some 2) by kernel_rfl)
theorem info69 : ∃ i, Tryd.prog.info? 68 = some i ∧ (i.size, i.bytes, i.zero.map (fun z => z.cells.size)) = (3, 40, some 3) := Option.map_eq_some_iff.1 (show (Tryd.prog.info? 68).map (fun i => (i.size, i.bytes, i.zero.map (fun z => z.cells.size))) = some (3, 40, some 3) by kernel_rfl)
theorem info50 : ∃ i, Tryd.prog.info? 51 = some i ∧ (i.size, i.bytes, i.zero.map (fun z => z.cells.size)) = (5, 72, some 5) := Option.map_eq_some_iff.1 (show (Tryd.prog.info? 51).map (fun i => (i.size, i.bytes, i.zero.map (fun z => z.cells.size))) = some (5, 72, some 5) by kernel_rfl)

/-- append by a run equation -/
theorem wp_append_run {o : Oper} {a : Act} {w : World} {K : Act → World → Prop} {Q : Exit → Act → World → Prop} (s x : Operand) (t : TypeId) (ho : o.op = .call { callee := .builtin .append, args := #[s, x], argTypes := #[t, t] }) (hty : o.type = t)
    {v u v' : Value} {w' : World} (hs : a.eval s = v) (hx : a.eval x = u) (hr : (Builtin.append_ #[t, t] t #[v, u]).run Tryd.prog w = .ok v' w') (h : K (a.put o.dst v') w') : o.wp Tryd.prog a w K Q := by
  unfold Oper.wp execOp
  simp only [ho, resolve, invoke, builtin, Sem.run_bind, Sem.run_pure, Result.andThen_ok, List.map_toArray, List.map_cons, List.map_nil, hs, hx, hty, hr]
  exact h
theorem wpList_append_run {ops : Array Oper} {rest : List Oper} {o : Oper} {a : Act} {w : World} {Q : Exit → Act → World → Prop} (hgd : o.guard = none) (s x : Operand) (t : TypeId) (ho : o.op = .call { callee := .builtin .append, args := #[s, x], argTypes := #[t, t] }) (hty : o.type = t)
    {v u v' : Value} {w' : World} (hs : a.eval s = v) (hx : a.eval x = u) (hr : (Builtin.append_ #[t, t] t #[v, u]).run Tryd.prog w = .ok v' w') (h : wpList Tryd.prog ops Q rest (a.put o.dst v') w') : wpList Tryd.prog ops Q (o :: rest) a w :=
  wpList_plain hgd fun _ hK => wp_append_run s x t ho hty hs hx hr (hK _ _ h)
theorem app_none {t e : TypeId} {i : TypeInfo} (ht : Tryd.prog.underlying t = some (.slice e)) (hi : Tryd.prog.info? e = some i) (g c : Nat) (ad : Addr) (w : World) :
    (Builtin.append_ #[t, t] t #[.slice (some ⟨g, 0, none⟩) 0 0, .slice (some ad) 0 c]).run Tryd.prog w = .ok (.slice (some ⟨g, 0, none⟩) 0 0) w := by
  have hr := run_append_room_src (P := Tryd.prog) w t t t e i ht hi g 0 0 0 (.slice (some ad) 0 c) 0 [] (Src.ofSlice w ht ad 0 c [] (by simp) (by simp) (by simp)) (by omega) (by simp) (by simp)
  simpa [World.setCells] using hr
set_option maxHeartbeats 400000 in
theorem clone0_49 (ad : Addr) (c : Nat) (w : World) : Calls Tryd.prog 78 #[.slice (some ad) 0 c] w fun e w' => e = .returned (.slice (some ⟨w.heap.size, 0, none⟩) 0 0) ∧ w' = w.alloc (.cells #[] 68) := by
  obtain ⟨i, hi, _⟩ := info69
  have q : ∀ (w : World) (a : Option Addr) (n c n' c' : Nat), (binOp .eql 32 (.slice a n c) (.slice none n' c')).run Tryd.prog w = .ok (.bool a.isNone) w := fun w a n c n' c' => Lib.run_eql_slice_nil w _ _ a n c n' c' Tryd.underlying32
  have hr := app_none Tryd.underlying32 hi w.heap.size c ad (w.alloc (.cells #[] 68))
  go_enter Tryd.func78, Tryd.ntmps78
  go_wp2_with (at_builtin; refine wpList_append_run rfl _ _ 32 rfl rfl rfl rfl hr ?_)
  go_wp2
  go_ret
  exact ⟨rfl, rfl⟩
set_option maxHeartbeats 400000 in
theorem clone0_50 (ad : Addr) (c : Nat) (w : World) : Calls Tryd.prog 79 #[.slice (some ad) 0 c] w fun e w' => e = .returned (.slice (some ⟨w.heap.size, 0, none⟩) 0 0) ∧ w' = w.alloc (.cells #[] 51) := by
  obtain ⟨i, hi, _⟩ := info50
  have q : ∀ (w : World) (a : Option Addr) (n c n' c' : Nat), (binOp .eql 33 (.slice a n c) (.slice none n' c')).run Tryd.prog w = .ok (.bool a.isNone) w := fun w a n c n' c' => Lib.run_eql_slice_nil w _ _ a n c n' c' Tryd.underlying33
  have hr := app_none Tryd.underlying33 hi w.heap.size c ad (w.alloc (.cells #[] 51))
  go_enter Tryd.func79, Tryd.ntmps79
  go_wp2_with (at_builtin; refine wpList_append_run rfl _ _ 33 rfl rfl rfl rfl hr ?_)
  go_wp2
  go_ret
  exact ⟨rfl, rfl⟩
set_option maxHeartbeats 400000 in
theorem clone0_51 (ad : Addr) (c : Nat) (w : World) : Calls Tryd.prog 55 #[.slice (some ad) 0 c] w fun e w' => e = .returned (.slice (some ⟨w.heap.size, 0, none⟩) 0 0) ∧ w' = w.alloc (.cells #[] 49) := by
  obtain ⟨i, hi, _⟩ := info44
  have q : ∀ (w : World) (a : Option Addr) (n c n' c' : Nat), (binOp .eql 37 (.slice a n c) (.slice none n' c')).run Tryd.prog w = .ok (.bool a.isNone) w := fun w a n c n' c' => Lib.run_eql_slice_nil w _ _ a n c n' c' Tryd.underlying37
  have hr := app_none Tryd.underlying37 hi w.heap.size c ad (w.alloc (.cells #[] 49))
  go_enter Tryd.func55, Tryd.ntmps55
  go_wp2_with (at_builtin; refine wpList_append_run rfl _ _ 37 rfl rfl rfl rfl hr ?_)
  go_wp2
  go_ret
  exact ⟨rfl, rfl⟩
/-- A slice of memory of its own. -/
def Own (B : Nat) (w' : World) (e : TypeId) (a : Option Addr) : Prop := ∀ ad, a = some ad → ∃ b, ad = ⟨b, 0, none⟩ ∧ B ≤ b ∧ ∃ cur, w'.heap[b]? = some (.cells cur e (0, 0))

set_option maxHeartbeats 1000000 in
theorem clone_gen {ρ : Go.Shelf.Ren} (L : SlLaysE0.n41 Tryd.prog ρ) {i0 : TypeInfo} {size bytes : Nat} (hi : Tryd.prog.info? (ρ.t 23) = some i0) (hii : (i0.size, i0.bytes, i0.zero.map (fun z => z.cells.size)) = (size, bytes, some size)) (hsz : 0 < size) (hby : bytes ≤ 1000) (z23 : ∀ w, (Go.sizeOf (ρ.t 23)).run Tryd.prog w = .ok size w)
    {α : Type} (R : α → List Value → Prop) (hR : ∀ x cs, R x cs → cs.length = size ∧ ∀ v ∈ cs, v.oneCell' = true) (xs : List α) (w : World) (a : Option Addr) (n c : Nat) (h : Sl w size R xs (.slice a n c)) (hn : n ≤ 1000)
    (h00 : ∀ (ad : Addr) (c : Nat) (w : World), Calls Tryd.prog (ρ.f 41) #[.slice (some ad) 0 c] w fun e w' => e = .returned (.slice (some ⟨w.heap.size, 0, none⟩) 0 0) ∧ w' = w.alloc (.cells #[] (ρ.t 23))) :
    Calls Tryd.prog (ρ.f 41) #[.slice a n c] w fun e w' => ∃ a' c', e = .returned (.slice a' n c') ∧ Sl w' size R xs (.slice a' n c') ∧ Own w.heap.size w' (ρ.t 23) a' ∧ Below w.heap.size w w' := by
  simp only [Prod.mk.injEq, Option.map_eq_some_iff] at hii
  obtain ⟨e1, e2, z, ez, e3⟩ := hii
  obtain ⟨C, hC⟩ := h.rows
  obtain ⟨hm, hl, hc, _⟩ := h.at
  have hlen : ∀ i, i < n → (C i).length = size := fun i hi => by
    obtain ⟨⟨x, _, hx⟩, _⟩ := hC i hi
    exact (hR x _ hx).1
  cases a with
  | none =>
    have h0 : n = 0 := by
      rcases Nat.eq_zero_or_pos n with h | h
      · exact h
      · obtain ⟨_, b, o, e, _⟩ := hC 0 h
        cases e
    subst h0
    have hx : xs = [] := List.eq_nil_of_length_eq_zero hm.symm
    subst hx
    refine (AnyE.slices_Clone_nil L 0 c w).mono ?_
    rintro e w' ⟨rfl, rfl⟩
    exact ⟨none, 0, rfl, Sl.nil _ _ _, (fun _ e => by cases e), Below.refl _ _⟩
  | some ad =>
    have hb : n * bytes ≤ 140737488355328 := Nat.le_trans (Nat.mul_le_mul hn hby) (by decide)
    have hcells : ∃ b o, (n = 0 ∨ ad = ⟨b, o, none⟩) := by
      rcases Nat.eq_zero_or_pos n with h | h
      · exact ⟨0, 0, .inl h⟩
      · obtain ⟨_, b, o, e, _⟩ := hC 0 h
        cases e
        exact ⟨b, o, .inr rfl⟩
    obtain ⟨b, o, spot⟩ := ad
    have hspot : spot = none ∨ n = 0 := by
      obtain ⟨b', o', h | h⟩ := hcells
      · exact .inr h
      · cases h; exact .inl rfl
    have hadd : ∀ j u, (flat C n)[j]? = some u → w.cell? ⟨b, o + j, none⟩ = some u := by
      rcases hspot with rfl | rfl
      · exact flat_cells hsz hlen (fun i hi j v hv => by
          obtain ⟨_, b', o', ea', h'⟩ := hC i hi
          cases ea'
          exact h' j v hv)
      · intro j u hu; simp [flat] at hu
    have hone : ∀ u ∈ flat C n, u.oneCell' = true := fun u hu => by
      obtain ⟨i, hi, hu'⟩ := flat_mem hu
      obtain ⟨⟨x, _, hx⟩, _⟩ := hC i hi
      exact (hR x _ hx).2 u hu'
    have key : ∀ v' w', w'.ownsRow w.heap.size (ρ.t 23) size v' n (flat C n) → ∃ a' c', v' = .slice a' n c' ∧ Sl w' size R xs (.slice a' n c') ∧ Own w.heap.size w' (ρ.t 23) a' := by
      intro v' w' hown
      rcases hown.2 with ⟨hnil, h0⟩ | ⟨g, cap, cur, rfl, hb, hg, hn', hcm, hcs, htk⟩
      · subst h0
        have hx : xs = [] := List.eq_nil_of_length_eq_zero hm.symm
        rw [hx]
        exact ⟨none, 0, hnil, Sl.nil _ _ _, fun _ e => by cases e⟩
      · refine ⟨_, _, rfl, ⟨some ⟨g, 0, none⟩, cap, by rw [hm], by omega, hcm, fun i x hi => ?_⟩, fun ad e => by cases e; exact ⟨g, rfl, hb, cur, hg⟩⟩
        have hin : i < n := by rw [hm]; exact (List.getElem?_eq_some_iff.1 hi).1
        obtain ⟨⟨y, hy, hRy⟩, _⟩ := hC i hin
        obtain rfl : x = y := Option.some.inj (hi.symm.trans hy)
        refine ⟨g, 0, C i, rfl, fun j v hv => ?_, hRy⟩
        have hj : j < size := by rw [← hlen i hin]; exact (List.getElem?_eq_some_iff.1 hv).1
        have h1 : (flat C n)[i * size + j]? = some v := by rw [flat_at n hlen i j hin hj]; exact hv
        rw [← htk, List.getElem?_take] at h1
        split at h1
        · simp only [World.cell?, hg, Nat.zero_add]
          simpa using h1
        · cases h1
    rcases hspot with rfl | rfl
    · refine (AnyE.slices_Clone L i0 z size bytes hi ez e1 e2 e3 hsz z23 b o n c (flat C n) w (flat_length n hlen) (by unfold maxLen; omega) hb hadd hone).mono ?_
      rintro e w' ⟨v', rfl, hown, _, hb'⟩
      obtain ⟨a', c', rfl, h1, h2⟩ := key v' w' hown
      exact ⟨a', c', rfl, h1, h2, hb'⟩
    · have hx : xs = [] := List.eq_nil_of_length_eq_zero hm.symm
      refine (h00 _ c w).mono ?_
      rintro e w' ⟨rfl, rfl⟩
      refine ⟨_, 0, rfl, ?_, fun ad e => by cases e; exact ⟨_, rfl, Nat.le_refl _, #[], (MapKept.heap_alloc w _).1⟩, below1 w _⟩
      rw [hx]
      exact ⟨_, 0, rfl, Nat.le_refl _, Nat.zero_le _, fun i t h => by simp at h⟩
theorem cloneV_any (xs : List Vr) (w : World) (a : Option Addr) (n c : Nat) (h : Sl w 3 VrR xs (.slice a n c)) (hn : n ≤ 1000) :
    Calls Tryd.prog 78 #[.slice a n c] w fun e w' => ∃ a' c', e = .returned (.slice a' n c') ∧ Sl w' 3 VrR xs (.slice a' n c') ∧ Own w.heap.size w' 68 a' ∧ Below w.heap.size w w' := by
  obtain ⟨i, hi, hii⟩ := info69
  exact clone_gen Tryd.cloneV hi hii (by decide) (by decide) Tryd.sizeOf68 VrR (fun x cs h => by rw [h]; exact ⟨rfl, by simp [Value.oneCell']⟩) xs w a n c h hn clone0_49
theorem cloneT_any (xs : List Ty) (w : World) (a : Option Addr) (n c : Nat) (h : Sl w 2 TyR xs (.slice a n c)) (hn : n ≤ 1000) :
    Calls Tryd.prog 55 #[.slice a n c] w fun e w' => ∃ a' c', e = .returned (.slice a' n c') ∧ Sl w' 2 TyR xs (.slice a' n c') ∧ Own w.heap.size w' 49 a' ∧ Below w.heap.size w w' := by
  obtain ⟨i, hi, hii⟩ := info44
  exact clone_gen Tryd.cloneT hi hii (by decide) (by decide) Tryd.sizeOf49 TyR (fun x cs h => by rw [h]; exact ⟨rfl, by simp [Value.oneCell']⟩) xs w a n c h hn clone0_51
/-- A method whose parameters lie in blocks of this kind. -/
def SgA (q : Nat → Prop) (W : World) (m : Sg) (cs : List Value) : Prop := ∃ a n c, cs = [.string m.name, .bool m.st, .slice a n c, .string m.rn, .bool m.ra] ∧ Sl W 2 TyR m.ps (.slice a n c) ∧ ∀ ad, a = some ad → n ≠ 0 → q ad.block
theorem SgA.sg {q : Nat → Prop} {W : World} {m : Sg} {cs : List Value} (h : SgA q W m cs) : SgR W m cs := let ⟨a, n, c, e, h, _⟩ := h; ⟨a, n, c, e, h⟩
theorem SgA.keep {q : Nat → Prop} {W w : World} {m : Sg} {cs : List Value} (hw : Keeps W w) (h : SgA q W m cs) : SgA q w m cs := by
  obtain ⟨a, n, c, e, h, h'⟩ := h
  exact ⟨a, n, c, e, tys_keep hw h, h'⟩
theorem sgsA_keep {q : Nat → Prop} {W w : World} {xs : List Sg} {v : Value} (hw : Keeps W w) (h : Sl W 5 (SgA q W) xs v) : Sl w 5 (SgA q w) xs v := h.mono hw (fun _ _ h => ⟨h.keep hw, h.sg.pl⟩)
/-- A slice that holds something lies in what there is. -/
theorem Sl.lt {α : Type} {W : World} {m : Nat} {R : α → List Value → Prop} {xs : List α} {a : Option Addr} {n c : Nat} (h : Sl W m R xs (.slice a n c)) (hR : ∀ x cs, R x cs → ∃ v, cs[0]? = some v) (ad : Addr) (ha : a = some ad) (hn : n ≠ 0) : ad.block < W.heap.size := by
  obtain ⟨e, _, _, hk⟩ := h.at
  obtain ⟨x, hx⟩ : ∃ x, xs[0]? = some x := ⟨_, List.getElem?_eq_getElem (by omega)⟩
  obtain ⟨b, o, cs, ea, hc, hr⟩ := hk 0 x hx
  obtain ⟨v, hv⟩ := hR x cs hr
  rw [ha] at ea
  cases ea
  exact World.block_lt_of_cell? W ⟨b, o + 0 * m + 0, none⟩ (hc 0 v hv)
theorem sgsA_of {q : Nat → Prop} {W : World} {xs : List Sg} {v : Value} (hq : ∀ b, b < W.heap.size → q b) (h : Sl W 5 (SgR W) xs v) : Sl W 5 (SgA q W) xs v :=
  h.mono (Keeps.refl _) (fun _ _ h => ⟨by
    obtain ⟨a, n, c, e, h'⟩ := h
    exact ⟨a, n, c, e, h', fun ad ha hn => hq _ (h'.lt (fun x cs h => ⟨.string x.n, by rw [h]; rfl⟩) ad ha hn)⟩, h.pl⟩)
theorem cloneS_any (q : Nat → Prop) (xs : List Sg) (w : World) (a : Option Addr) (n c : Nat) (h : Sl w 5 (SgA q w) xs (.slice a n c)) (hn : n ≤ 1000) :
    Calls Tryd.prog 79 #[.slice a n c] w fun e w' => ∃ a' c', e = .returned (.slice a' n c') ∧ Sl w' 5 (SgA q w') xs (.slice a' n c') ∧ Own w.heap.size w' 51 a' ∧ Below w.heap.size w w' := by
  obtain ⟨i, hi, hii⟩ := info50
  refine (clone_gen Tryd.cloneS hi hii (by decide) (by decide) Tryd.sizeOf51 (SgA q w) (fun x cs h => by obtain ⟨a, n, c, rfl, _⟩ := h; exact ⟨rfl, by simp [Value.oneCell']⟩) xs w a n c h hn clone0_50).mono ?_
  rintro e w' ⟨a', c', rfl, h1, h2, h3⟩
  exact ⟨a', c', rfl, h1.mono (Keeps.refl _) (fun _ _ h => ⟨h.keep (Keeps.of_below h3), h.sg.pl⟩), h2, h3⟩
end YthimpjfmelmhpaaDoor.Fc
end Go.Proofs
