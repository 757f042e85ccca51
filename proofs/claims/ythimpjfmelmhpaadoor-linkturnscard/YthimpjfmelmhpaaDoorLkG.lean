/-
  Files gathered by their names: the state between two of them.
-/
import Derived.Test.YthimpjfmelmhpaaDoorLkT
namespace Go.Proofs.YthimpjfmelmhpaaDoor.Fc
open Go.RowKit
set_option linter.unusedVariables false
set_option linter.unusedSimpArgs false

theorem info35 : ∃ i, Tryd.prog.info? 35 = some i ∧ (i.size, i.bytes, i.zero.map (fun z => z.cells.size)) = (4, 80, some 4) := Option.map_eq_some_iff.1 (show (Tryd.prog.info? 35).map (fun i => (i.size, i.bytes, i.zero.map (fun z => z.cells.size))) = some (4, 80, some 4) by kernel_rfl)
/-- one face behind a row of faces -/
theorem app_fc {w : World} {B : Nat} {v : Value} {n : Nat} {xs cs : List Value} (hl : cs.length = 4) (h1 : ∀ u ∈ cs, u.oneCell' = true) (ho : w.ownsRow B 35 4 v n xs) (hn : n ≤ 1000) (hB : B ≤ w.heap.size) :
    ∃ v' w', (Builtin.append_ #[80, 80] 80 #[v, .slice (some ⟨w.heap.size, 0, none⟩) 1 1]).run Tryd.prog (w.alloc (.cells cs.toArray 35)) = .ok v' w' ∧ w'.ownsRow B 35 4 v' (n + 1) (xs ++ cs) ∧ Mods (fun k => B ≤ k ∧ ∃ cur, (w.alloc (.cells cs.toArray 35)).heap[k]? = some (.cells cur 35 (0, 0))) (w.alloc (.cells cs.toArray 35)) w' := by
  obtain ⟨i, hi, hii⟩ := info35
  simp only [Prod.mk.injEq, Option.map_eq_some_iff] at hii
  obtain ⟨e1, e2, z, ez, e3⟩ := hii
  have ho2 : (w.alloc (.cells cs.toArray 35)).ownsRow B 35 4 v n xs := row_keep (fp := fun _ => False) ho (Mods.of_below (below1 w _)) (fun _ _ _ h => h)
  obtain ⟨v', w', hr, h2, h3, h4⟩ := run_append_own (P := Tryd.prog) (w.alloc (.cells cs.toArray 35)) B 80 80 35 i z 4 80 Tryd.underlying80 hi ez e1 e2 e3 (by decide) v n xs ho2 ⟨w.heap.size, 0, none⟩ 1 1 cs hl (fun j u hu => by
      have hb := (Blk.new w cs 35).cell j
      rw [Go.WideShapes.add_plain, Nat.zero_add]
      rw [hu] at hb
      exact hb) h1 (by unfold maxLen; omega) (by omega) (by simp; omega)
  exact ⟨v', w', hr, h2, grown_mods h3 ho2⟩
/-- a row is a slice of its data -/
theorem row_sl {α : Type} {R : α → List Value → Prop} {xs : List α} {w' : World} {B : Nat} {e : TypeId} {size n : Nat} {v : Value} {C : Nat → List Value} (hown : w'.ownsRow B e size v n (flat C n)) (hm : n = xs.length) (hC : ∀ i, i < n → (∃ x, xs[i]? = some x ∧ R x (C i)) ∧ (C i).length = size) : Sl w' size R xs v := by
  have hlen : ∀ i, i < n → (C i).length = size := fun i hi => (hC i hi).2
  rcases hown.2 with ⟨hnil, h0⟩ | ⟨g, cap, cur, rfl, hb, hg, hn', hcm, hcs, htk⟩
  · subst h0
    have hx : xs = [] := List.eq_nil_of_length_eq_zero hm.symm
    rw [hx, hnil]
    exact Sl.nil _ _ _
  · refine ⟨some ⟨g, 0, none⟩, cap, by rw [hm], by omega, hcm, fun i x hi => ?_⟩
    have hin : i < n := by rw [hm]; exact (List.getElem?_eq_some_iff.1 hi).1
    obtain ⟨⟨y, hy, hRy⟩, _⟩ := hC i hin
    obtain rfl : x = y := Option.some.inj (hi.symm.trans hy)
    refine ⟨g, 0, C i, rfl, fun j v hv => ?_, hRy⟩
    have hj : j < size := by rw [← hlen i hin]; exact (List.getElem?_eq_some_iff.1 hv).1
    have h1 : (flat C n)[i * size + j]? = some v := by rw [flat_at n hlen i j hin hj]; exact hv
    rw [← htk, List.getElem?_take] at h1
    split at h1
    · simp only [World.cell?, hg, Nat.zero_add]
      simpa using h1
    · cases h1
theorem flat_next (C : Nat → List Value) (k : Nat) : flat C (k + 1) = flat C k ++ C k := by
  unfold flat
  rw [List.range_succ, List.flatMap_append]
  simp
theorem plc_mem : ∀ (l : List Fl) (s : ByteArray), (plc l s).isSome = decide (s ∈ l.map (fun f => f.fc.name))
  | [], s => by simp [plc]
  | f :: r, s => by
    rw [plc]
    by_cases e : f.fc.name = s
    · rw [if_pos e]; simp [e]
    · rw [if_neg e, Option.isSome_map, plc_mem r s]
      have : s ≠ f.fc.name := fun h => e h.symm
      simp [this]
theorem TabR.bel {w w' : World} (h : TabR w) (hb : Below w.heap.size w w') : TabR w' := fun j v hv => (hb.cell (World.block_lt_of_cell? _ _ (h j v hv))).trans (h j v hv)
/-- Files gathered, under way: kr faces in a row, km places told. -/
structure GS (w1 : World) (fa : Option Addr) (fcp : Nat) (fs : List Fl) (C : Nat → List Value) (km kr : Nat) (v : Value) (wr : World) : Prop where
  map : ∃ g, MAt wr w1.heap.size km g ∧ ∀ s, g s = (plc (fs.take km) s).map (fun j : Nat => Value.int .i64 (j : Int))
  blk : Blk wr (w1.heap.size + 1) [.pointer none, .slice fa fs.length fcp, .map (some w1.heap.size)] 65
  row : wr.ownsRow (w1.heap.size + 2) 35 4 v kr (flat C kr)
  bel : Below w1.heap.size w1 wr
  lt : w1.heap.size + 2 ≤ wr.heap.size
section
variable {w1 : World} {fa : Option Addr} {fcp : Nat} {fs : List Fl} {C : Nat → List Value} {km kr : Nat} {v : Value} {wr w' : World}
theorem GS.below (h : GS w1 fa fcp fs C km kr v wr) (hb : Below wr.heap.size wr w') : GS w1 fa fcp fs C km kr v w' := by
  obtain ⟨g, hg, hg2⟩ := h.map
  exact ⟨⟨g, hg.keep (fp := fun _ => False) (Mods.of_below hb) id, hg2⟩, h.blk.below hb, row_keep (fp := fun _ => False) h.row (Mods.of_below hb) (fun _ _ _ h => h), h.bel.trans (hb.mono h.bel.size), Nat.le_trans h.lt hb.size⟩
theorem GS.look (h : GS w1 fa fcp fs C km kr v wr) {s : ByteArray} (hs : s.size ≤ maxLen) :
    (Instr.lookup 63 (.map (some w1.heap.size)) (.string s) true).run Tryd.prog wr = .ok (.tuple #[((plc (fs.take km) s).map (fun j : Nat => Value.int .i64 (j : Int))).getD (.int .i64 0), .bool (plc (fs.take km) s).isSome]) wr := by
  obtain ⟨g, hg, hg2⟩ := h.map
  have := hg.look Tryd.underlying63 (zero3 wr) hs
  rw [hg2 s] at this
  simpa using this
theorem GS.store {x : Fl} (h : GS w1 fa fcp fs C km kr v wr) (hx : fs[km]? = some x) (hs : x.fc.name.size ≤ maxLen) (hk : km ≤ 1000) (hno : plc (fs.take km) x.fc.name = none) :
    ∃ w', (Instr.mapUpdate 63 (.map (some w1.heap.size)) (.string x.fc.name) (.int .i64 (km : Int))).run Tryd.prog wr = .ok () w' ∧ GS w1 fa fcp fs C (km + 1) kr v w' ∧ Mods (· = w1.heap.size) wr w' ∧ Keeps wr w' := by
  obtain ⟨g, hg, hg2⟩ := h.map
  obtain ⟨w', hrun, h3, hm⟩ := hg.store Tryd.underlying63 (by unfold maxLen; omega) hs (.int .i64 (km : Int))
  have hke := keeps_map hg hm
  refine ⟨w', hrun, ⟨⟨_, h3, fun s => ?_⟩, h.blk.keep hm (by omega), row_keep h.row hm (fun g hg1 _ e => by omega), h.bel.trans (hm.below (fun k e => by omega) h.bel.size), Nat.le_trans h.lt hm.size⟩, hm, hke⟩
  have hkl : km < fs.length := (List.getElem?_eq_some_iff.1 hx).1
  rw [List.take_succ_eq_append_getElem hkl, plc_snoc]
  obtain rfl : fs[km] = x := (List.getElem?_eq_some_iff.1 hx).2
  unfold upd
  by_cases e : s = fs[km].fc.name
  · subst e
    rw [if_pos rfl, hno]
    simp [List.length_take, Nat.min_eq_left (Nat.le_of_lt hkl)]
  · rw [if_neg e, hg2 s]
    cases hp : plc (fs.take km) s with
    | some j => rfl
    | none =>
      have e' : ¬ fs[km].fc.name = s := fun h => e h.symm
      simp [e']
theorem GS.app (h : GS w1 fa fcp fs C km kr v wr) (hl : (C kr).length = 4) (h1 : ∀ u ∈ C kr, u.oneCell' = true) (hk : kr ≤ 1000) :
    ∃ v' w', (Builtin.append_ #[80, 80] 80 #[v, .slice (some ⟨wr.heap.size, 0, none⟩) 1 1]).run Tryd.prog (wr.alloc (.cells (C kr).toArray 35)) = .ok v' w' ∧ GS w1 fa fcp fs C km (kr + 1) v' w' := by
  have h2 := h.below (below1 wr (.cells (C kr).toArray 35))
  obtain ⟨v', w', hr, ho, hm⟩ := app_fc hl h1 h.row hk h.lt
  obtain ⟨g, hg, hg2⟩ := h2.map
  have hB : Below (w1.heap.size + 2) (wr.alloc (.cells (C kr).toArray 35)) w' := hm.below (fun k e => e.1) h2.lt
  refine ⟨v', w', hr, ⟨⟨g, hg.keep hm (fun e => by omega), hg2⟩, h2.blk.keep hm (fun e => by omega), ?_, h2.bel.trans (hB.mono (by omega)), Nat.le_trans h2.lt hm.size⟩⟩
  rw [flat_next]
  exact ho
end
/-! ### the image's first cell is written -/
/-- neither a map nor a pointer -/
def Pn (v : Value) : Prop := (∀ q, v ≠ .map q) ∧ ∀ q, v ≠ .pointer q
def KeepsN (w w' : World) : Prop := ∀ p v, w.cell? p = some v → Pn v → w'.cell? p = some v
theorem Sl.monoN {α : Type} {W w : World} {n : Nat} {R R' : α → List Value → Prop} {xs : List α} {v : Value} (h : Sl W n R xs v) (hw : KeepsN W w) (hR : ∀ x cs, R x cs → R' x cs ∧ ∀ v ∈ cs, Pn v) : Sl w n R' xs v := by
  obtain ⟨a, cap, e, hl, hc, hk⟩ := h
  refine ⟨a, cap, e, hl, hc, fun i t hi => ?_⟩
  obtain ⟨b, o, cs, ea, hcell, hq⟩ := hk i t hi
  exact ⟨b, o, cs, ea, fun j v hv => hw _ _ (hcell j v hv) ((hR _ _ hq).2 v (List.mem_of_getElem? hv)), (hR _ _ hq).1⟩
theorem pn_str (s : ByteArray) : Pn (.string s) := ⟨fun _ h => (by cases h), fun _ h => (by cases h)⟩
theorem pn_bool (s : Bool) : Pn (.bool s) := ⟨fun _ h => (by cases h), fun _ h => (by cases h)⟩
theorem pn_slice (a : Option Addr) (n c : Nat) : Pn (.slice a n c) := ⟨fun _ h => (by cases h), fun _ h => (by cases h)⟩
theorem TyR.pn {s : Ty} {cs : List Value} (h : TyR s cs) : ∀ v ∈ cs, Pn v := by
  rw [h]; intro v hv; simp at hv; rcases hv with rfl | rfl; exact pn_str _; exact pn_bool _
theorem VrR.pn {s : Vr} {cs : List Value} (h : VrR s cs) : ∀ v ∈ cs, Pn v := by
  rw [h]; intro v hv; simp at hv; rcases hv with rfl | rfl | rfl; exact pn_str _; exact pn_str _; exact pn_bool _
theorem SgR.pn {W : World} {s : Sg} {cs : List Value} (h : SgR W s cs) : ∀ v ∈ cs, Pn v := by
  obtain ⟨a, n, c, rfl, _⟩ := h
  intro v hv; simp at hv; rcases hv with rfl | rfl | rfl | rfl | rfl; exact pn_str _; exact pn_bool _; exact pn_slice _ _ _; exact pn_str _; exact pn_bool _
theorem SgR.keepN {W w : World} {m : Sg} {cs : List Value} (hw : KeepsN W w) (h : SgR W m cs) : SgR w m cs := by
  obtain ⟨a, n, c, e, h⟩ := h
  exact ⟨a, n, c, e, h.monoN hw (fun _ _ h => ⟨h, h.pn⟩)⟩
theorem FcR.keepN {W w : World} {m : Fc} {cs : List Value} (hw : KeepsN W w) (h : FcR W m cs) : FcR w m cs := by
  obtain ⟨a, n, c, a', n', c', e, h1, h2⟩ := h
  exact ⟨a, n, c, a', n', c', e, h1.monoN hw (fun _ _ h => ⟨h, h.pn⟩), h2.monoN hw (fun _ _ h => ⟨h.keepN hw, h.pn⟩)⟩
theorem keepsN_set {w : World} {p : Addr} {q : Option Addr} (h : w.cell? p = some (.pointer q)) (u : Value) : KeepsN w (w.setCell p u) := fun p' v hv hp => by
  have hne : p ≠ p' := fun e => by
    subst e
    rw [h] at hv
    cases hv
    exact hp.2 _ rfl
  rw [World.cell?_setCell_other _ _ _ _ hne]
  exact hv
theorem Tb.setIm {B : Nat} {w : World} {tb fm : Nat} {sv : Value} {c : Nat} {L : List Fc} {im : Nat} {q : Option Addr} (h : Tb B w tb fm sv c L) (hi : im < B) (hc : w.cell? ⟨im, 0, none⟩ = some (.pointer q)) (u : Value) : Tb B (w.setCell ⟨im, 0, none⟩ u) tb fm sv c L := by
  have hm : Mods (· = im) w (w.setCell ⟨im, 0, none⟩ u) := (Mods.refl (· = im) w).setCell (p := ⟨im, 0, none⟩) (.inl rfl) u
  have hk := keepsN_set hc u
  refine ⟨h.blk.keep hm (fun e => by have := h.lo; omega), ?_, ?_, h.lo, h.los, h.sm⟩
  · obtain ⟨g, h1, h2⟩ := h.faces
    refine ⟨g, h1.keep hm (fun e => ?_), fun s => ?_⟩
    · subst e
      exact h1.no_cell hc
    · have h3 := h2 s
      cases hf : fnd L s with
      | none => rw [hf] at h3; exact h3
      | some x =>
        rw [hf] at h3
        obtain ⟨cs, e, hF⟩ := h3
        exact ⟨cs, e, hF.keepN hk⟩
  · rcases h.seen with e | ⟨sm, S, e, h1, h2⟩
    · exact .inl e
    · exact .inr ⟨sm, S, e, h1.keep hm (fun e' => by have := h.los sm e; omega), h2⟩
end Go.Proofs.YthimpjfmelmhpaaDoor.Fc
