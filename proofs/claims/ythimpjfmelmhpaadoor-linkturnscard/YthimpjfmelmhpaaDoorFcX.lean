/-
  Rows, what is one's own, what is read: small facts.
-/
import Derived.Test.YthimpjfmelmhpaaDoorFcCheck
import Derived.Deep.Cut
import Derived.Deep.CutRange
namespace Go.Proofs.YthimpjfmelmhpaaDoor.Fc
open Go.RowKit Go.Maps
set_option linter.unusedVariables false
theorem Blk.al {w : World} {b : Nat} {cs : List Value} {t : TypeId} (h : Blk w b cs t) (o : Obj) : Blk (w.alloc o) b cs t := h.below (below1 w o)
theorem Blk.dr {w : World} {b : Nat} {cs : List Value} {t : TypeId} (h : Blk w b cs t) : Blk w.drew b cs t := h
theorem Blk.newAt {w : World} {q : Nat} (h : w.heap.size = q) (cs : List Value) (t : TypeId) : Blk (w.alloc (.cells cs.toArray t)) q cs t := h ▸ Blk.new w cs t
theorem Blk.new1 (w : World) (o : Obj) (cs : List Value) (t : TypeId) : Blk ((w.alloc o).alloc (.cells cs.toArray t)) (w.heap.size + 1) cs t := by
  have := Blk.new (w.alloc o) cs t
  simpa using this
theorem Blk.new2 (w : World) (o o' : Obj) (cs : List Value) (t : TypeId) : Blk (((w.alloc o).alloc o').alloc (.cells cs.toArray t)) (w.heap.size + 1 + 1) cs t := by
  have := Blk.new1 (w.alloc o) o' cs t
  simpa using this


theorem info45 : ∃ i, Tryd.prog.info? 49 = some i ∧ (i.size, i.bytes, i.zero.map (fun z => z.cells.size)) = (2, 24, some 2) := Option.map_eq_some_iff.1 (show (Tryd.prog.info? 49).map (fun i => (i.size, i.bytes, i.zero.map (fun z => z.cells.size))) = some (2, 24, some 2) by kernel_rfl)
theorem info58 : ∃ i, Tryd.prog.info? 68 = some i ∧ (i.size, i.bytes, i.zero.map (fun z => z.cells.size)) = (3, 40, some 3) := Option.map_eq_some_iff.1 (show (Tryd.prog.info? 68).map (fun i => (i.size, i.bytes, i.zero.map (fun z => z.cells.size))) = some (3, 40, some 3) by kernel_rfl)

set_option maxHeartbeats 2000000 in
set_option maxRecDepth 100000 in

theorem bl_al {w0 w : World} {o : Obj} (h : Below w0.heap.size w0 w) : Below w0.heap.size w0 (w.alloc o) := h.alloc h.size _
theorem bl_dr {w0 w : World} (h : Below w0.heap.size w0 w) : Below w0.heap.size w0 w.drew := ⟨h.os, h.tape, h.output, h.size, h.block⟩
theorem Blk.st {w : World} {b : Nat} {cs : List Value} {t : TypeId} (h : Blk w b cs t) {p : Addr} (hne : b ≠ p.block) {v : Value} : Blk (w.setCell p v) b cs t := (Below.heap_setCell w p v b hne).trans h
theorem blk_mid {X w2 : World} {zs : List Value} {t : TypeId} {q : Nat} (hq : X.heap.size = q) (hb : Below (X.alloc (.cells zs.toArray t)).drew.heap.size (X.alloc (.cells zs.toArray t)).drew w2) : Blk w2 q zs t := Blk.below (Blk.dr (Blk.newAt hq zs t)) hb
theorem own_al {B : Nat} {w : World} {e : TypeId} {a : Option Addr} (h : Own B w e a) (o : Obj) : Own B (w.alloc o) e a := fun ad ha => by
  obtain ⟨b, e1, h1, cur, h2⟩ := h ad ha
  exact ⟨b, e1, h1, cur, (Below.heap_alloc _ _ _ (lt_of_block h2)).trans h2⟩
theorem own_mono {B B' : Nat} {w : World} {e : TypeId} {a : Option Addr} (h : Own B w e a) (hb : B' ≤ B) : Own B' w e a := fun ad ha => by
  obtain ⟨b, e1, h1, h2⟩ := h ad ha
  exact ⟨b, e1, Nat.le_trans hb h1, h2⟩
theorem own_st {B : Nat} {w : World} {e : TypeId} {a : Option Addr} (h : Own B w e a) {p : Addr} (hp : p.block < B) (v : Value) : Own B (w.setCell p v) e a := fun ad ha => by
  obtain ⟨b, e1, h1, cur, h2⟩ := h ad ha
  exact ⟨b, e1, h1, cur, (Below.heap_setCell w p v b (by omega)).trans h2⟩
theorem own_apart {B fb : Nat} {w : World} {e : TypeId} {a : Option Addr} (h : Own B w e a) (hb : fb < B) : ∀ ad, a = some ad → ad.block ≠ fb := fun ad ha => by
  obtain ⟨b, e1, h1, h2⟩ := h ad ha
  rw [e1]
  show b ≠ fb
  omega
theorem own_lt {B : Nat} {w : World} {e : TypeId} {a : Option Addr} (h : Own B w e a) : ∀ ad, a = some ad → ad.block < w.heap.size := fun ad ha => by
  obtain ⟨b, e1, h1, cur, h2⟩ := h ad ha
  rw [e1]
  exact lt_of_block h2
theorem st4_mods {w : World} {fb : Nat} (v0 v1 v2 v3 : Value) : Mods (· = fb) w ((((w.setCell ⟨fb, 0, none⟩ v0).setCell ⟨fb, 1, none⟩ v1).setCell ⟨fb, 2, none⟩ v2).setCell ⟨fb, 3, none⟩ v3) :=
  ((((Mods.refl (· = fb) w).setCell (p := ⟨fb, 0, none⟩) (.inl rfl) _).setCell (p := ⟨fb, 1, none⟩) (.inl rfl) _).setCell (p := ⟨fb, 2, none⟩) (.inl rfl) _).setCell (p := ⟨fb, 3, none⟩) (.inl rfl) _
theorem own_mods {B fb : Nat} {w w' : World} {e : TypeId} {a : Option Addr} (h : Own B w e a) (hm : Mods (· = fb) w w') (ha : ∀ ad, a = some ad → ad.block ≠ fb) : Own B w' e a := fun ad hd => by
  obtain ⟨b, e1, h1, cur, h2⟩ := h ad hd
  have h3 := ha ad hd
  rw [e1] at h3
  exact ⟨b, e1, h1, cur, (hm.block b (lt_of_block h2) h3).trans h2⟩
/-- a slice, where nothing but another block has turned -/
theorem Sl.mods {α : Type} {W w : World} {q m : Nat} {R : α → List Value → Prop} {xs : List α} {a : Option Addr} {n c : Nat} (h : Sl W m R xs (.slice a n c)) (hM : Mods (· = q) W w) (hq : ∀ ad, a = some ad → ad.block ≠ q) : Sl w m R xs (.slice a n c) := by
  obtain ⟨hn, hl, hc, hk⟩ := h.at
  refine ⟨a, c, by rw [hn], by omega, hc, fun i x hi => ?_⟩
  obtain ⟨b, o, cs, ea, hcell, hr⟩ := hk i x hi
  refine ⟨b, o, cs, ea, fun j v hv => ?_, hr⟩
  have h1 := hcell j v hv
  have hlt : b < W.heap.size := World.block_lt_of_cell? _ _ h1
  have h2 := hM.block b hlt (hq _ ea)
  simp only [World.cell?, h2]
  exact h1
abbrev zFc : List Value := [.string ⟨#[]⟩, .string ⟨#[]⟩, .slice none 0 0, .slice none 0 0]

def encV (x : Vr) : List Value := [.string x.name, .string x.tn, .bool x.ta]
/-- a method, and where its parameters lie -/
abbrev SgP := Sg × Option Addr × Nat × Nat
def encG (x : SgP) : List Value := [.string x.1.name, .bool x.1.st, .slice x.2.1 x.2.2.1 x.2.2.2, .string x.1.rn, .bool x.1.ra]
instance : Inhabited Ty := ⟨⟨⟨#[]⟩, false⟩⟩
instance : Inhabited Vr := ⟨⟨⟨#[]⟩, ⟨#[]⟩, false⟩⟩
instance : Inhabited Sg := ⟨⟨⟨#[]⟩, false, [], ⟨#[]⟩, false⟩⟩
/-- of what was there nothing has turned but a slice's own block -/
def ModsOf (a : Option Addr) (w w' : World) : Prop := Mods (fun k => ∃ ad, a = some ad ∧ ad.block = k) w w'
theorem own_blk {B : Nat} {w : World} {e : TypeId} {b : Nat} (h : Own B w e (some ⟨b, 0, none⟩)) : ∀ i, w.frozen? ⟨b, i, none⟩ = false := fun i => by
  obtain ⟨b', e1, _, cur, h2⟩ := h _ rfl
  cases e1
  simp [World.frozen?, h2]
def GpR (x : SgP) (cs : List Value) : Prop := cs = encG x
end Go.Proofs.YthimpjfmelmhpaaDoor.Fc
