/-
  Bytes that are appended one by one to a slice of the call's own, that may have been made of a text: its row's mark lies behind its cells.
-/
import Derived.Test.YtbpdeehpeflbeaaDoorRot
import Derived.Test.YtbpdeehpeflbeaaDoorPartsWalk
import Derived.Lib.ConvBytes
namespace Go.Proofs.YtbpdeehpeflbeaaDoor
open Go.RowKit

/-- a slice of bytes that owns its row; what is frozen of the row lies behind its cells -/
def OwnT (w : World) (base : Nat) (v : Value) (n : Nat) (xs : List Nat) : Prop :=
  xs.length = n ∧ ∃ g cap cur fz, v = .slice (some ⟨g, 0, none⟩) n cap ∧ base ≤ g ∧ w.heap[g]? = some (.cells cur 5 fz) ∧ (cur.size ≤ fz.1 ∨ fz.2 = 0) ∧ n ≤ cap ∧ cap ≤ maxLen ∧ cur.size = cap ∧ cur.toList.take n = xs.map U8

theorem info5 : ∃ i z, Tryd.prog.info? 5 = some i ∧ i.zero = some z ∧ i.size = 1 ∧ i.bytes = 1 ∧ z.cells.size = 1 := by
  have h : (Tryd.prog.info? 5).map (fun i => (i.size, i.bytes, i.zero.map (fun z => z.cells.size))) = some (1, 1, some 1) := by kernel_rfl
  cases hi : Tryd.prog.info? 5 with
  | none => simp [hi] at h
  | some i =>
    simp [hi] at h
    obtain ⟨h1, h2, z, h3, h4⟩ := h
    exact ⟨i, z, rfl, h3, h1, h2, h4⟩

theorem OwnT.kept {w w' : World} {base n : Nat} {v : Value} {xs : List Nat} {row : Option Nat} (h : OwnT w base v n xs) (hg : w.grownBy w' row) (hne : v.ownBlock ≠ row) : OwnT w' base v n xs := by
  obtain ⟨hl, g, cap, cur, fz, rfl, hb, hc, rest⟩ := h
  refine ⟨hl, g, cap, cur, fz, rfl, hb, ?_, rest⟩
  rw [hg.block g (lt_of_block hc) (by simpa [Value.ownBlock] using hne)]
  exact hc
theorem OwnT.alloc {w : World} {base n : Nat} {v : Value} {xs : List Nat} (h : OwnT w base v n xs) (o : Obj) : OwnT (w.alloc o) base v n xs := by
  obtain ⟨hl, g, cap, cur, fz, rfl, hb, hc, rest⟩ := h
  exact ⟨hl, g, cap, cur, fz, rfl, hb, (Below.heap_alloc _ _ _ (lt_of_block hc)).trans hc, rest⟩
theorem OwnT.lt {w : World} {base n : Nat} {v : Value} {xs : List Nat} (h : OwnT w base v n xs) : ∀ k, v.ownBlock = some k → base ≤ k ∧ k < w.heap.size := by
  intro k hk
  obtain ⟨hl, g, cap, cur, fz, rfl, hb, hc, rest⟩ := h
  simp [Value.ownBlock] at hk
  subst hk
  exact ⟨hb, lt_of_block hc⟩

theorem app1 {w : World} {base n : Nat} {v : Value} {xs : List Nat} (h : OwnT w base v n xs) (a : Addr) (c : Nat) (u : Nat) (hu : w.cell? (a.add 0) = some (U8 u)) (hn : n + 1 ≤ 1000000) (hbase : base ≤ w.heap.size) :
    ∃ v' w', (Builtin.append_ #[35, 35] 35 #[v, .slice (some a) 1 c]).run Tryd.prog w = .ok v' w' ∧ OwnT w' base v' (n + 1) (xs ++ [u]) ∧ w.grownBy w' v.ownBlock := by
  obtain ⟨i, z, hi, hz, hsize, hby, hzs⟩ := info5
  obtain ⟨hl, g, cap, cur, fz, rfl, hb, hc, hfz, hnc, hcm, hcs, ht⟩ := h
  have ha1 : (U8 u).oneCell' = true := rfl
  have hnews : ∀ j x, [U8 u][j]? = some x → w.cell? (a.add j) = some x := by
    intro j x hx
    match j, hx with
    | 0, hx => simp at hx; subst hx; exact hu
  by_cases hroom : n + 1 ≤ cap
  · have hlt : n < cur.size := by omega
    have hcell : w.cell? ⟨g, n, none⟩ = some cur[n] := by simp [World.cell?, hc, hlt]
    have hfro : w.frozen? ⟨g, n, none⟩ = false := by
      obtain ⟨f1, f2⟩ := fz
      simp [World.frozen?, hc]
      simp at hfz
      omega
    have hst : (store ⟨g, n, none⟩ (U8 u)).run Tryd.prog w = .ok () (w.setCell ⟨g, n, none⟩ (U8 u)) := by
      rw [run_store Tryd.prog w _ _ _ ha1, hcell]
      simp [hfro]
    have hf := run_firstCells_some (P := Tryd.prog) w i.size 1 a 1 c [U8 u] (by simp [hsize]) hnews
    refine ⟨.slice (some ⟨g, 0, none⟩) (n + 1) cap, w.setCell ⟨g, n, none⟩ (U8 u), ?_, ⟨by simp [hl], g, cap, cur.setIfInBounds n (U8 u), fz, rfl, hb, ?_, ?_, hroom, hcm, by simpa using hcs, ?_⟩, ⟨rfl, rfl, rfl, by simp [World.setCell], fun k _ hk => Below.heap_setCell _ _ _ _ (by simpa [Value.ownBlock] using hk)⟩⟩
    · have hadd : (⟨g, n, none⟩ : Addr).add 0 = ⟨g, n, none⟩ := by simp [Addr.add]
      rw [hsize] at hf
      have hst2 : (storeCells ⟨g, n, none⟩ [U8 u]).run Tryd.prog w = .ok () (w.setCell ⟨g, n, none⟩ (U8 u)) := by
        simp only [storeCells, Sem.run_bind, hadd, hst, Result.andThen_ok]
        rfl
      simp [Builtin.append_, run_underlying Tryd.underlying35, sizeOf, typeInfo, hi, Builtin.lenOf, hroom, hf, Addr.add_lit, hsize, hst2]
    · rw [setCell_eq_setRow w g n cur 5 fz _ hc]
      exact setRow_heap w g cur _ 5 fz hc
    · simpa using hfz
    · rw [Array.toList_setIfInBounds, List.map_append, ← ht, List.take_succ_eq_append_getElem (by simpa using hlt), List.take_set_of_le (Nat.le_refl n)]
      simp
  · have holds : ∀ j x, (xs.map U8)[j]? = some x → w.cell? ((⟨g, 0, none⟩ : Addr).add j) = some x := by
      intro j x hx
      have hadd : (⟨g, 0, none⟩ : Addr).add j = ⟨g, j, none⟩ := by unfold Addr.add; split <;> simp_all
      rw [hadd, cell_of_row w g j cur 5 fz hc]
      rw [← ht, List.getElem?_take] at hx
      split at hx
      · simpa using hx
      · cases hx
    have hr := run_append_grow (P := Tryd.prog) w 35 35 5 i z Tryd.underlying35 hi hz ⟨g, 0, none⟩ n cap (xs.map U8) (by simp [hl, hsize]) holds a 1 c [U8 u] (by simp [hsize]) hnews (by omega) (by omega) (growslice_fits (by omega) (by rw [hby]; omega))
    have hge := grownCap_ge w (n + 1) cap 5
    refine ⟨_, _, hr, ⟨by simp [hl], w.heap.size, _, _, (0, 0), rfl, hbase, heap_alloc_new w.drew _, .inr rfl, hge, grownCap_le_maxLen w (n + 1) cap 5 (by unfold maxLen; omega), ?_, ?_⟩, ⟨rfl, rfl, rfl, by simp, fun k hk _ => Below.heap_alloc w.drew _ _ hk⟩⟩
    · simp only [Array.size_append, List.size_toArray, size_zeroCells, hzs, List.length_map, hl, List.length_cons, List.length_nil]
      omega
    · simp only [Array.toList_append, List.append_assoc]
      rw [← List.append_assoc, List.map_append]
      exact List.take_left' (by simp [hl])

theorem wp_append_run {o : Oper} {a : Act} {w : World} {K : Act → World → Prop} {Q : Exit → Act → World → Prop} (s x : Operand) (t : TypeId) (ho : o.op = .call { callee := .builtin .append, args := #[s, x], argTypes := #[t, t] }) (hty : o.type = t)
    {v u v' : Value} {w' : World} (hs : a.eval s = v) (hx : a.eval x = u) (hr : (Builtin.append_ #[t, t] t #[v, u]).run Tryd.prog w = .ok v' w') (h : K (a.put o.dst v') w') : o.wp Tryd.prog a w K Q := by
  unfold Oper.wp execOp
  simp only [ho, resolve, invoke, builtin, Sem.run_bind, Sem.run_pure, Result.andThen_ok, List.map_toArray, List.map_cons, List.map_nil, hs, hx, hty, hr]
  exact h
theorem wpList_append1 {ops : Array Oper} {rest : List Oper} {o : Oper} {a : Act} {w : World} {Q : Exit → Act → World → Prop} (hgd : o.guard = none) (s x : Operand) (ho : o.op = .call { callee := .builtin .append, args := #[s, x], argTypes := #[35, 35] }) (hty : o.type = 35)
    {base n : Nat} {v : Value} {xs : List Nat} (hs : a.eval s = v) (hown : OwnT w base v n xs) {ad : Addr} {c u : Nat} (hx : a.eval x = .slice (some ad) 1 c) (hu : w.cell? (ad.add 0) = some (U8 u)) (hn : n + 1 ≤ 1000000) (hbase : base ≤ w.heap.size)
    (h : ∀ v' w', OwnT w' base v' (n + 1) (xs ++ [u]) → w.grownBy w' v.ownBlock → wpList Tryd.prog ops Q rest (a.put o.dst v') w') : wpList Tryd.prog ops Q (o :: rest) a w := by
  obtain ⟨v', w', hr, h1, h2⟩ := app1 hown ad c u hu hn hbase
  exact wpList_plain hgd fun _ hK => wp_append_run s x 35 ho hty hs hx hr (hK _ _ (h v' w' h1 h2))

/-- a text's bytes as a new slice -/
theorem OwnT.of_bytes (w : World) (S : ByteArray) (h : S.size ≤ 1000000) : OwnT (Lib.bytesWorld w 5 S) w.heap.size (.slice (some ⟨w.heap.size, 0, none⟩) S.size (grownCap w S.size 0 5)) S.size (bsOf S) := by
  have hge := grownCap_ge w S.size 0 5
  refine ⟨bsOf_length S, w.heap.size, _, _, _, rfl, Nat.le_refl _, Lib.bytesWorld_at_new w 5 S, .inl (Nat.le_refl _), hge, grownCap_le_maxLen w _ _ _ (by unfold maxLen; omega), ?_, ?_⟩
  · simp [Lib.bytesCells]
    have : S.data.size = S.size := rfl
    omega
  · simp only [Lib.bytesCells, Array.toList_append]
    rw [List.take_left' (by simp)]
    unfold bsOf
    simp [U8, Array.toList_map]
end Go.Proofs.YtbpdeehpeflbeaaDoor
