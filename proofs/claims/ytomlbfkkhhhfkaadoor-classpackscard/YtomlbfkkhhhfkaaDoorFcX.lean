/-
  Rows, what is one's own, what is read: small facts.
-/
import Derived.Test.YtomlbfkkhhhfkaaDoorFcLay2
import Derived.Deep.Cut
import Derived.Deep.CutRange
namespace Go.Proofs.YtomlbfkkhhhfkaaDoor.Fc
open Go.RowKit Go.Maps
set_option linter.unusedVariables false

def flat (C : Nat → List Value) (m : Nat) : List Value := (List.range m).flatMap C
theorem flat_length {C : Nat → List Value} {n : Nat} : ∀ (m : Nat), (∀ i, i < m → (C i).length = n) → (flat C m).length = m * n
  | 0, _ => by simp [flat]
  | m + 1, h => by
    have h1 := flat_length m (fun i hi => h i (by omega))
    unfold flat at h1 ⊢
    rw [List.range_succ, List.flatMap_append, List.length_append, h1]
    simp [h m (by omega), Nat.succ_mul]
theorem flat_at {C : Nat → List Value} {n : Nat} : ∀ (m : Nat), (∀ i, i < m → (C i).length = n) → ∀ i j, i < m → j < n → (flat C m)[i * n + j]? = (C i)[j]?
  | 0, _, i, j, hi, _ => by omega
  | m + 1, h, i, j, hi, hj => by
    have hl := flat_length m (fun i hi => h i (by omega))
    have e : flat C (m + 1) = flat C m ++ C m := by unfold flat; rw [List.range_succ, List.flatMap_append]; simp
    rw [e]
    by_cases him : i < m
    · have hlt : i * n + j < (flat C m).length := by
        rw [hl]
        have := Nat.mul_le_mul_right n (show i + 1 ≤ m by omega)
        rw [Nat.succ_mul] at this
        omega
      rw [List.getElem?_append_left hlt]
      exact flat_at m (fun i hi => h i (by omega)) i j him hj
    · obtain rfl : i = m := by omega
      rw [List.getElem?_append_right (by omega), hl, Nat.add_sub_cancel_left]
theorem flat_mem {C : Nat → List Value} {m : Nat} {v : Value} (h : v ∈ flat C m) : ∃ i, i < m ∧ v ∈ C i := by
  obtain ⟨i, hi, hv⟩ := List.mem_flatMap.1 h
  exact ⟨i, List.mem_range.1 hi, hv⟩
theorem flat_cells {C : Nat → List Value} {n m : Nat} {w : World} {b o : Nat} (hn : 0 < n) (hl : ∀ i, i < m → (C i).length = n) (hc : ∀ i, i < m → ∀ j v, (C i)[j]? = some v → w.cell? ⟨b, o + i * n + j, none⟩ = some v) : ∀ k v, (flat C m)[k]? = some v → w.cell? ⟨b, o + k, none⟩ = some v := by
  intro k v hv
  have hk : k < m * n := by rw [← flat_length m hl]; exact (List.getElem?_eq_some_iff.1 hv).1
  have hi : k / n < m := Nat.div_lt_of_lt_mul (by rw [Nat.mul_comm]; exact hk)
  have e : k / n * n + k % n = k := by rw [Nat.mul_comm]; exact Nat.div_add_mod k n
  rw [← e, flat_at m hl _ _ hi (Nat.mod_lt _ hn)] at hv
  have h2 := hc _ hi _ _ hv
  rw [show o + k = o + k / n * n + k % n by omega]
  exact h2
theorem Sl.rows {α : Type} {W : World} {n : Nat} {R : α → List Value → Prop} {xs : List α} {a : Option Addr} {m c : Nat} (h : Sl W n R xs (.slice a m c)) : ∃ C : Nat → List Value, ∀ i, i < m → (∃ x, xs[i]? = some x ∧ R x (C i)) ∧ ∃ b o, a = some ⟨b, o, none⟩ ∧ ∀ j v, (C i)[j]? = some v → W.cell? ⟨b, o + i * n + j, none⟩ = some v := by
  obtain ⟨hm, _, _, hk⟩ := h.at
  have each : ∀ i, i < m → ∃ cs : List Value, (∃ x, xs[i]? = some x ∧ R x cs) ∧ ∃ b o, a = some ⟨b, o, none⟩ ∧ ∀ j v, cs[j]? = some v → W.cell? ⟨b, o + i * n + j, none⟩ = some v := by
    intro i hi
    have hx : xs[i]? = some xs[i] := List.getElem?_eq_getElem (by omega)
    obtain ⟨b, o, cs, ea, hc, hr⟩ := hk i _ hx
    exact ⟨cs, ⟨_, hx, hr⟩, b, o, ea, hc⟩
  obtain ⟨f, hf⟩ := Deep.choose_lt each
  exact ⟨f, hf⟩
theorem info45 : ∃ i, Tryd.prog.info? 60 = some i ∧ (i.size, i.bytes, i.zero.map (fun z => z.cells.size)) = (2, 24, some 2) := Option.map_eq_some_iff.1 (show (Tryd.prog.info? 60).map (fun i => (i.size, i.bytes, i.zero.map (fun z => z.cells.size))) = some (2, 24, some 2) by kernel_rfl)
theorem info58 : ∃ i, Tryd.prog.info? 75 = some i ∧ (i.size, i.bytes, i.zero.map (fun z => z.cells.size)) = (3, 40, some 3) := Option.map_eq_some_iff.1 (show (Tryd.prog.info? 75).map (fun i => (i.size, i.bytes, i.zero.map (fun z => z.cells.size))) = some (3, 40, some 3) by kernel_rfl)

/-- append by a run equation -/
theorem wp_append_run {o : Oper} {a : Act} {w : World} {K : Act → World → Prop} {Q : Exit → Act → World → Prop} (s x : Operand) (t : TypeId) (ho : o.op = .call { callee := .builtin .append, args := #[s, x], argTypes := #[t, t] }) (hty : o.type = t)
    {v u v' : Value} {w' : World} (hs : a.eval s = v) (hx : a.eval x = u) (hr : (Builtin.append_ #[t, t] t #[v, u]).run Tryd.prog w = .ok v' w') (h : K (a.put o.dst v') w') : o.wp Tryd.prog a w K Q := by
  unfold Oper.wp execOp
  simp only [ho, resolve, invoke, builtin, Sem.run_bind, Sem.run_pure, Result.andThen_ok, List.map_toArray, List.map_cons, List.map_nil, hs, hx, hty, hr]
  exact h
theorem wpList_append_run {ops : Array Oper} {rest : List Oper} {o : Oper} {a : Act} {w : World} {Q : Exit → Act → World → Prop} (hgd : o.guard = none) (s x : Operand) (t : TypeId) (ho : o.op = .call { callee := .builtin .append, args := #[s, x], argTypes := #[t, t] }) (hty : o.type = t)
    {v u v' : Value} {w' : World} (hs : a.eval s = v) (hx : a.eval x = u) (hr : (Builtin.append_ #[t, t] t #[v, u]).run Tryd.prog w = .ok v' w') (h : wpList Tryd.prog ops Q rest (a.put o.dst v') w') : wpList Tryd.prog ops Q (o :: rest) a w :=
  wpList_plain hgd fun _ hK => wp_append_run s x t ho hty hs hx hr (hK _ _ h)
/-- A slice of memory of its own. -/
def Own (B : Nat) (w' : World) (e : TypeId) (a : Option Addr) : Prop := ∀ ad, a = some ad → ∃ b, ad = ⟨b, 0, none⟩ ∧ B ≤ b ∧ ∃ cur, w'.heap[b]? = some (.cells cur e (0, 0))

set_option maxHeartbeats 1000000 in
/-- A method whose parameters lie in blocks of this kind. -/
def SgA (q : Nat → Prop) (W : World) (m : Sg) (cs : List Value) : Prop := ∃ a n c, cs = [.string m.name, .bool m.st, .slice a n c, .string m.rn, .bool m.ra] ∧ Sl W 2 TyR m.ps (.slice a n c) ∧ ∀ ad, a = some ad → n ≠ 0 → q ad.block
theorem SgA.sg {q : Nat → Prop} {W : World} {m : Sg} {cs : List Value} (h : SgA q W m cs) : SgR W m cs := let ⟨a, n, c, e, h, _⟩ := h; ⟨a, n, c, e, h⟩
theorem SgA.keep {q : Nat → Prop} {W w : World} {m : Sg} {cs : List Value} (hw : Keeps W w) (h : SgA q W m cs) : SgA q w m cs := by
  obtain ⟨a, n, c, e, h, h'⟩ := h
  exact ⟨a, n, c, e, tys_keep hw h, h'⟩
theorem sgsA_keep {q : Nat → Prop} {W w : World} {xs : List Sg} {v : Value} (hw : Keeps W w) (h : Sl W 5 (SgA q W) xs v) : Sl w 5 (SgA q w) xs v := h.mono hw (fun _ _ h => ⟨h.keep hw, h.sg.pl⟩)
/-- A slice that holds something lies in what there is. -/
theorem Sl.lt {α : Type} {W : World} {m : Nat} {R : α → List Value → Prop} {xs : List α} {a : Option Addr} {n c : Nat} (h : Sl W m R xs (.slice a n c)) (hR : ∀ x cs, R x cs → ∃ v, cs[0]? = some v) (ad : Addr) (ha : a = some ad) (hn : n ≠ 0) : ad.block < W.heap.size := by
  obtain ⟨e, _, _, hk⟩ := h.at
  obtain ⟨x, hx⟩ : ∃ x, xs[0]? = some x := ⟨_, List.getElem?_eq_getElem (by omega)⟩
  obtain ⟨b, o, cs, ea, hc, hr⟩ := hk 0 x hx
  obtain ⟨v, hv⟩ := hR x cs hr
  rw [ha] at ea
  cases ea
  exact World.block_lt_of_cell? W ⟨b, o + 0 * m + 0, none⟩ (hc 0 v hv)
theorem sgsA_of {q : Nat → Prop} {W : World} {xs : List Sg} {v : Value} (hq : ∀ b, b < W.heap.size → q b) (h : Sl W 5 (SgR W) xs v) : Sl W 5 (SgA q W) xs v :=
  h.mono (Keeps.refl _) (fun _ _ h => ⟨by
    obtain ⟨a, n, c, e, h'⟩ := h
    exact ⟨a, n, c, e, h', fun ad ha hn => hq _ (h'.lt (fun x cs h => ⟨.string x.n, by rw [h]; rfl⟩) ad ha hn)⟩, h.pl⟩)

theorem Sl.off {α : Type} {W w : World} {q m : Nat} {R R' : α → List Value → Prop} {xs : List α} {a : Option Addr} {n c : Nat} (h : Sl W m R xs (.slice a n c)) (hM : Mods (· = q) W w) (hq : ∀ ad, a = some ad → n ≠ 0 → ad.block ≠ q) (hR : ∀ x cs, R x cs → R' x cs) : Sl w m R' xs (.slice a n c) := by
  obtain ⟨hn, hl, hc, hk⟩ := h.at
  refine ⟨a, c, by rw [hn], by omega, hc, fun i x hi => ?_⟩
  obtain ⟨b, o, cs, ea, hcell, hr⟩ := hk i x hi
  have hlen : i < xs.length := (List.getElem?_eq_some_iff.1 hi).1
  refine ⟨b, o, cs, ea, fun j v hv => ?_, hR _ _ hr⟩
  have h1 := hcell j v hv
  have hlt : b < W.heap.size := World.block_lt_of_cell? _ _ h1
  have h2 := hM.block b hlt (hq _ ea (by omega))
  simp only [World.cell?, h2]
  exact h1
def zT : Ty := ⟨⟨#[]⟩, false⟩
def zS : Sg := ⟨⟨#[]⟩, false, [], ⟨#[]⟩, false⟩
def fldF (fs : List Vr) (s : ByteArray) : Option Ty := (fs.find? (fun v => decide (v.name = s))).map (fun v => ⟨v.tn, v.ta⟩)
def mthF (ms : List Sg) (s : ByteArray) : Option Sg := ms.find? (fun m => decide (m.name = s))
abbrev tyV (t : Ty) : Value := .agg #[.string t.n, .bool t.a]
theorem find_at {α : Type} {l : List α} {p : α → Bool} {k : Nat} {x : α} (hx : l[k]? = some x) (hn : ∀ y ∈ l.take k, p y = false) (hp : p x = true) : l.find? p = some x := by
  have hk : k < l.length := (List.getElem?_eq_some_iff.1 hx).1
  rw [List.find?_eq_some_iff_append]
  refine ⟨hp, l.take k, l.drop (k + 1), ?_, fun u hu => by simp [hn u hu]⟩
  have := List.drop_eq_getElem_cons hk
  rw [(List.getElem?_eq_some_iff.1 hx).2] at this
  rw [← this, List.take_append_drop]
theorem find_no {α : Type} {l : List α} {p : α → Bool} {k : Nat} (hk : l.length ≤ k) (hn : ∀ y ∈ l.take k, p y = false) : l.find? p = none := by
  rw [List.take_of_length_le hk] at hn
  rw [List.find?_eq_none]
  intro x hx
  simp [hn x hx]

/-- an answer's own two cells are written -/
theorem out2 {w wr : World} {q : Nat} {u0 u1 : Value} (v0 v1 : Value) (hq : w.heap.size ≤ q) (hb : Below w.heap.size w wr) (hB : Blk wr q [u0, u1] 60) :
    Blk ((wr.setCell ⟨q, 0, none⟩ v0).setCell ⟨q, 1, none⟩ v1) q [v0, v1] 60 ∧ Below w.heap.size w ((wr.setCell ⟨q, 0, none⟩ v0).setCell ⟨q, 1, none⟩ v1) ∧ Mods (· = q) wr ((wr.setCell ⟨q, 0, none⟩ v0).setCell ⟨q, 1, none⟩ v1) := by
  have M : Mods (· = q) wr ((wr.setCell ⟨q, 0, none⟩ v0).setCell ⟨q, 1, none⟩ v1) := ((Mods.refl (· = q) wr).setCell (p := ⟨q, 0, none⟩) (.inl rfl) _).setCell (p := ⟨q, 1, none⟩) (.inl rfl) _
  exact ⟨(hB.set 0 v0).set 1 v1, hb.trans (M.below (fun k e => by omega) hb.size), M⟩
/-- an answer's own five cells are written -/
theorem out5 {wr : World} {q : Nat} {u0 u1 u2 u3 u4 : Value} (v0 v1 v2 v3 v4 : Value) (hB : Blk wr q [u0, u1, u2, u3, u4] 63) :
    Blk (((((wr.setCell ⟨q, 0, none⟩ v0).setCell ⟨q, 1, none⟩ v1).setCell ⟨q, 2, none⟩ v2).setCell ⟨q, 3, none⟩ v3).setCell ⟨q, 4, none⟩ v4) q [v0, v1, v2, v3, v4] 63 ∧ Mods (· = q) wr (((((wr.setCell ⟨q, 0, none⟩ v0).setCell ⟨q, 1, none⟩ v1).setCell ⟨q, 2, none⟩ v2).setCell ⟨q, 3, none⟩ v3).setCell ⟨q, 4, none⟩ v4) :=
  ⟨((((hB.set 0 v0).set 1 v1).set 2 v2).set 3 v3).set 4 v4, (((((Mods.refl (· = q) wr).setCell (p := ⟨q, 0, none⟩) (.inl rfl) _).setCell (p := ⟨q, 1, none⟩) (.inl rfl) _).setCell (p := ⟨q, 2, none⟩) (.inl rfl) _).setCell (p := ⟨q, 3, none⟩) (.inl rfl) _).setCell (p := ⟨q, 4, none⟩) (.inl rfl) _⟩

set_option maxHeartbeats 2000000 in
set_option maxRecDepth 100000 in

theorem bl_al {w0 w : World} {o : Obj} (h : Below w0.heap.size w0 w) : Below w0.heap.size w0 (w.alloc o) := h.alloc h.size _
theorem bl_dr {w0 w : World} (h : Below w0.heap.size w0 w) : Below w0.heap.size w0 w.drew := ⟨h.os, h.tape, h.output, h.size, h.block⟩
theorem Blk.st {w : World} {b : Nat} {cs : List Value} {t : TypeId} (h : Blk w b cs t) {p : Addr} (hne : b ≠ p.block) {v : Value} : Blk (w.setCell p v) b cs t := (Below.heap_setCell w p v b hne).trans h
theorem blk_mid {X w2 : World} {zs : List Value} {t : TypeId} {q : Nat} (hq : X.heap.size = q) (hb : Below (X.alloc (.cells zs.toArray t)).drew.heap.size (X.alloc (.cells zs.toArray t)).drew w2) : Blk w2 q zs t := Blk.below (Blk.dr (Blk.newAt hq zs t)) hb
theorem own_al {B : Nat} {w : World} {e : TypeId} {a : Option Addr} (h : Own B w e a) (o : Obj) : Own B (w.alloc o) e a := fun ad ha => by
  obtain ⟨b, e1, h1, cur, h2⟩ := h ad ha
  exact ⟨b, e1, h1, cur, (Below.heap_alloc _ _ _ (lt_of_block h2)).trans h2⟩
theorem own_mono {B B' : Nat} {w : World} {e : TypeId} {a : Option Addr} (h : Own B w e a) (hb : B' ≤ B) : Own B' w e a := fun ad ha => by
  obtain ⟨b, e1, h1, h2⟩ := h ad ha
  exact ⟨b, e1, Nat.le_trans hb h1, h2⟩
theorem own_st {B : Nat} {w : World} {e : TypeId} {a : Option Addr} (h : Own B w e a) {p : Addr} (hp : p.block < B) (v : Value) : Own B (w.setCell p v) e a := fun ad ha => by
  obtain ⟨b, e1, h1, cur, h2⟩ := h ad ha
  exact ⟨b, e1, h1, cur, (Below.heap_setCell w p v b (by omega)).trans h2⟩
theorem own_apart {B fb : Nat} {w : World} {e : TypeId} {a : Option Addr} (h : Own B w e a) (hb : fb < B) : ∀ ad, a = some ad → ad.block ≠ fb := fun ad ha => by
  obtain ⟨b, e1, h1, h2⟩ := h ad ha
  rw [e1]
  show b ≠ fb
  omega
theorem own_lt {B : Nat} {w : World} {e : TypeId} {a : Option Addr} (h : Own B w e a) : ∀ ad, a = some ad → ad.block < w.heap.size := fun ad ha => by
  obtain ⟨b, e1, h1, cur, h2⟩ := h ad ha
  rw [e1]
  exact lt_of_block h2
theorem st4_mods {w : World} {fb : Nat} (v0 v1 v2 v3 : Value) : Mods (· = fb) w ((((w.setCell ⟨fb, 0, none⟩ v0).setCell ⟨fb, 1, none⟩ v1).setCell ⟨fb, 2, none⟩ v2).setCell ⟨fb, 3, none⟩ v3) :=
  ((((Mods.refl (· = fb) w).setCell (p := ⟨fb, 0, none⟩) (.inl rfl) _).setCell (p := ⟨fb, 1, none⟩) (.inl rfl) _).setCell (p := ⟨fb, 2, none⟩) (.inl rfl) _).setCell (p := ⟨fb, 3, none⟩) (.inl rfl) _
theorem own_mods {B fb : Nat} {w w' : World} {e : TypeId} {a : Option Addr} (h : Own B w e a) (hm : Mods (· = fb) w w') (ha : ∀ ad, a = some ad → ad.block ≠ fb) : Own B w' e a := fun ad hd => by
  obtain ⟨b, e1, h1, cur, h2⟩ := h ad hd
  have h3 := ha ad hd
  rw [e1] at h3
  exact ⟨b, e1, h1, cur, (hm.block b (lt_of_block h2) h3).trans h2⟩
/-- a slice, where nothing but another block has turned -/
theorem Sl.mods {α : Type} {W w : World} {q m : Nat} {R : α → List Value → Prop} {xs : List α} {a : Option Addr} {n c : Nat} (h : Sl W m R xs (.slice a n c)) (hM : Mods (· = q) W w) (hq : ∀ ad, a = some ad → ad.block ≠ q) : Sl w m R xs (.slice a n c) := by
  obtain ⟨hn, hl, hc, hk⟩ := h.at
  refine ⟨a, c, by rw [hn], by omega, hc, fun i x hi => ?_⟩
  obtain ⟨b, o, cs, ea, hcell, hr⟩ := hk i x hi
  refine ⟨b, o, cs, ea, fun j v hv => ?_, hr⟩
  have h1 := hcell j v hv
  have hlt : b < W.heap.size := World.block_lt_of_cell? _ _ h1
  have h2 := hM.block b hlt (hq _ ea)
  simp only [World.cell?, h2]
  exact h1
abbrev zFc : List Value := [.string ⟨#[]⟩, .string ⟨#[]⟩, .slice none 0 0, .slice none 0 0]

def encV (x : Vr) : List Value := [.string x.name, .string x.tn, .bool x.ta]
/-- a method, and where its parameters lie -/
abbrev SgP := Sg × Option Addr × Nat × Nat
def encG (x : SgP) : List Value := [.string x.1.name, .bool x.1.st, .slice x.2.1 x.2.2.1 x.2.2.2, .string x.1.rn, .bool x.1.ra]
instance : Inhabited Ty := ⟨⟨⟨#[]⟩, false⟩⟩
instance : Inhabited Vr := ⟨⟨⟨#[]⟩, ⟨#[]⟩, false⟩⟩
instance : Inhabited Sg := ⟨⟨⟨#[]⟩, false, [], ⟨#[]⟩, false⟩⟩
/-- of what was there nothing has turned but a slice's own block -/
def ModsOf (a : Option Addr) (w w' : World) : Prop := Mods (fun k => ∃ ad, a = some ad ∧ ad.block = k) w w'
theorem own_blk {B : Nat} {w : World} {e : TypeId} {b : Nat} (h : Own B w e (some ⟨b, 0, none⟩)) : ∀ i, w.frozen? ⟨b, i, none⟩ = false := fun i => by
  obtain ⟨b', e1, _, cur, h2⟩ := h _ rfl
  cases e1
  simp [World.frozen?, h2]
def GpR (x : SgP) (cs : List Value) : Prop := cs = encG x
end Go.Proofs.YtomlbfkkhhhfkaaDoor.Fc
