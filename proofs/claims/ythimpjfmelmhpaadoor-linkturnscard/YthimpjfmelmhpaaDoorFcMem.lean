/-
  Faces in memory, maps by texts, and what a call leaves alone.
-/
import Derived.Test.YthimpjfmelmhpaaDoorProg
import Derived.WalkKit
import Derived.Lib.Hide
import Derived.Maps.OwnSet
import Derived.Maps.StringElems
import Derived.Outline
import Derived.StringKeys
import Derived.Deep.AppendSrc
import Derived.Deep.Slices
import Derived.OwnWalk
namespace Go.Proofs.YthimpjfmelmhpaaDoor.Fc
open Go.RowKit Go.Maps
set_option linter.unusedVariables false

/-! ### frames -/

/-- of what was there nothing has turned but blocks of fp; new ones may be there -/
structure Mods (fp : Nat → Prop) (w w' : World) : Prop where
  os : w'.os = w.os
  tape : w'.tape = w.tape
  output : w'.output = w.output
  size : w.heap.size ≤ w'.heap.size
  block : ∀ k, k < w.heap.size → ¬ fp k → w'.heap[k]? = w.heap[k]?

theorem Mods.refl (fp : Nat → Prop) (w : World) : Mods fp w w := ⟨rfl, rfl, rfl, Nat.le_refl _, fun _ _ _ => rfl⟩
theorem Mods.trans {fp fq fr : Nat → Prop} {x y z : World} (h : Mods fp x y) (k : Mods fq y z) (h1 : ∀ i, i < x.heap.size → fp i → fr i) (h2 : ∀ i, i < x.heap.size → fq i → fr i) : Mods fr x z :=
  ⟨k.os.trans h.os, k.tape.trans h.tape, k.output.trans h.output, Nat.le_trans h.size k.size, fun i hi hn => (k.block i (Nat.lt_of_lt_of_le hi h.size) (fun e => hn (h2 i hi e))).trans (h.block i hi (fun e => hn (h1 i hi e)))⟩
theorem Mods.weak {fp fq : Nat → Prop} {x y : World} (h : Mods fp x y) (h1 : ∀ i, i < x.heap.size → fp i → fq i) : Mods fq x y := ⟨h.os, h.tape, h.output, h.size, fun i hi hn => h.block i hi (fun e => hn (h1 i hi e))⟩
theorem Mods.of_below {fp : Nat → Prop} {x y : World} (h : Below x.heap.size x y) : Mods fp x y := ⟨h.os, h.tape, h.output, h.size, fun k hk _ => h.block k hk⟩
theorem Mods.below {fp : Nat → Prop} {B : Nat} {x y : World} (h : Mods fp x y) (h1 : ∀ k, fp k → B ≤ k) (h2 : B ≤ x.heap.size) : Below B x y :=
  ⟨h.os, h.tape, h.output, h.size, fun k hk => h.block k (by omega) (fun e => by have := h1 k e; omega)⟩
theorem Mods.drew {fp : Nat → Prop} {x y : World} (h : Mods fp x y) : Mods fp x y.drew := ⟨h.os, h.tape, h.output, h.size, h.block⟩
theorem Mods.setCell {fp : Nat → Prop} {x y : World} (h : Mods fp x y) {p : Addr} (hp : fp p.block ∨ x.heap.size ≤ p.block) (u : Value) : Mods fp x (y.setCell p u) :=
  ⟨h.os, h.tape, h.output, by simpa [World.setCell] using h.size, fun k h1 h2 => (Below.heap_setCell _ _ _ _ (fun e => by subst e; rcases hp with hp | hp; exact h2 hp; omega)).trans (h.block k h1 h2)⟩
theorem Mods.alloc {fp : Nat → Prop} {x y : World} (h : Mods fp x y) (o : Obj) : Mods fp x (y.alloc o) :=
  ⟨h.os, h.tape, h.output, Nat.le_trans h.size (by simp), fun k h1 h2 => (Below.heap_alloc _ _ _ (Nat.lt_of_lt_of_le h1 h.size)).trans (h.block k h1 h2)⟩
theorem Mods.of_turned {x y : World} {b : Nat} (h : x.mapTurned y b) : Mods (· = b) x y :=
  let g := h.grown
  ⟨g.os, g.tape, g.output, g.size, fun k hk hn => g.block k hk (by simpa using hn)⟩

theorem below1 (w : World) (o : Obj) : Below w.heap.size w (w.alloc o) := (Below.refl _ _).alloc (Nat.le_refl _) _
theorem below2 (w : World) (o o' : Obj) : Below w.heap.size w ((w.alloc o).alloc o') := (below1 w o).alloc (by simp) _

/-- a value that is no map -/
def Pl (v : Value) : Prop := ∀ q, v ≠ .map q
/-- cells that hold no map are as they were -/
def Keeps (w w' : World) : Prop := ∀ p v, w.cell? p = some v → Pl v → w'.cell? p = some v
theorem Keeps.refl (w : World) : Keeps w w := fun _ _ h _ => h
theorem Keeps.trans {x y z : World} (h : Keeps x y) (k : Keeps y z) : Keeps x z := fun p v hv hp => k p v (h p v hv hp) hp
theorem Keeps.of_below {w w' : World} (h : Below w.heap.size w w') : Keeps w w' := fun p v hv _ => (h.cell (World.block_lt_of_cell? _ _ hv)).trans hv
theorem Keeps.drew {w w' : World} (h : Keeps w w') : Keeps w w'.drew := h

/-- a block of cells, whole -/
def Blk (w : World) (b : Nat) (cs : List Value) (t : TypeId) : Prop := w.heap[b]? = some (.cells cs.toArray t (0, 0))
section
variable {w : World} {b : Nat} {cs : List Value} {t : TypeId}
theorem Blk.lt (h : Blk w b cs t) : b < w.heap.size := lt_of_block h
theorem Blk.cell (h : Blk w b cs t) (i : Nat) : w.cell? ⟨b, i, none⟩ = cs[i]? := by simp [World.cell?, show w.heap[b]? = _ from h]
theorem Blk.frozen (h : Blk w b cs t) (i : Nat) : w.frozen? ⟨b, i, none⟩ = false := by simp [World.frozen?, show w.heap[b]? = _ from h]
theorem Blk.set (h : Blk w b cs t) (i : Nat) (v : Value) : Blk (w.setCell ⟨b, i, none⟩ v) b (cs.set i v) t := by
  show (w.setCell ⟨b, i, none⟩ v).heap[b]? = _
  simp [World.setCell, Array.getElem?_modify, show w.heap[b]? = _ from h]
theorem Blk.keep {w' : World} {fp : Nat → Prop} (h : Blk w b cs t) (hm : Mods fp w w') (hn : ¬ fp b) : Blk w' b cs t := (hm.block b h.lt hn).trans h
theorem Blk.below {w' : World} (h : Blk w b cs t) (hm : Below w.heap.size w w') : Blk w' b cs t := (hm.block b h.lt).trans h
theorem Blk.new (w : World) (cs : List Value) (t : TypeId) : Blk (w.alloc (.cells cs.toArray t)) w.heap.size cs t := (MapKept.heap_alloc w _).1
end

/-! ### maps by texts -/
abbrev Dv := DataW Value
def heldE (v : Value) : Option (Dv × List MemPlace) := some (.held v, [])
def ky (s : ByteArray) : Lit := .string s.data.toList
theorem ky_key (s : ByteArray) : WideAt.IsKeyLit (ky s) := by simp [ky, WideAt.IsKeyLit]
theorem ky_inj {a b : ByteArray} (h : ky a = ky b) : a = b := by
  unfold ky at h
  injection h with h
  cases a; cases b
  simp at h
  rw [h]
theorem law : Keyed Tryd.prog 9 := string_keyed Tryd.underlying9
theorem key9 {s : ByteArray} (h : s.size ≤ maxLen) : keyOf Tryd.prog 9 (.string s) = some (ky s) := Go.WideMaps.keyOf_string_mk Tryd.underlying9 h
def unH : Dv → Value
  | .held v => v
  | _ => .bool false
/-- what a map has at a text -/
def gt (D : Dv) (s : ByteArray) : Option Value := if Maps.has D (ky s) then some (unH (D.atKey (ky s) (.held (.bool false)))) else none
theorem at_indep {D : Dv} {k : Lit} (h : Maps.has D k = true) (z z' : Dv) : D.atKey k z = D.atKey k z' := by
  cases D with
  | map es =>
    rw [Maps.has_eq, List.any_eq_true] at h
    obtain ⟨p, hp, hk⟩ := h
    simp only [DataW.atKey]
    cases hf : es.find? (fun p => p.1.sameKey k) with
    | none => exact absurd hk (List.find?_eq_none.1 hf p hp)
    | some q => rfl
  | _ => cases h
theorem at_none {D : Dv} {k : Lit} (h : Maps.has D k = false) (z : Dv) : D.atKey k z = z := by
  cases D with
  | map es =>
    simp only [DataW.atKey]
    cases hf : es.find? (fun p => p.1.sameKey k) with
    | none => rfl
    | some q =>
      rw [Maps.has_eq] at h
      have := List.any_eq_false.1 h q (List.mem_of_find?_eq_some hf)
      exact absurd (List.find?_some hf) this
  | _ => rfl
/-- block b is a map of at most n entries; f says what is there -/
def MAt (w : World) (b n : Nat) (f : ByteArray → Option Value) : Prop := ∃ D, w.ownsMap Tryd.prog 9 heldE b n D ∧ ∀ s, f s = gt D s
def upd (f : ByteArray → Option Value) (s : ByteArray) (v : Value) : ByteArray → Option Value := fun t => if t = s then some v else f t
section
variable {w : World} {b n : Nat} {f : ByteArray → Option Value}
theorem MAt.lt (h : MAt w b n f) : b < w.heap.size := by obtain ⟨D, h, _⟩ := h; exact h.lt
theorem MAt.made (w : World) : MAt (w.alloc (.map #[] 0)) w.heap.size 0 (fun _ => none) := ⟨_, World.ownsMap_made w Tryd.prog 9 heldE, fun s => rfl⟩
theorem MAt.look (h : MAt w b n f) {t e : TypeId} (ht : Tryd.prog.underlying t = some (.map 9 e)) {z : Value} (hz : (zeroValue e).run Tryd.prog w = .ok z w) {s : ByteArray} (hs : s.size ≤ maxLen) :
    (Instr.lookup t (.map (some b)) (.string s) true).run Tryd.prog w = .ok (.tuple #[(f s).getD z, .bool (f s).isSome]) w := by
  obtain ⟨D, h, hf⟩ := h
  obtain ⟨v, ps, hrun, hv⟩ := h.look_ok law ht hz (show heldE z = some (.held z, []) from rfl) (key9 hs)
  rw [hrun, hf s]
  unfold gt
  cases hh : Maps.has D (ky s) with
  | true =>
    rw [at_indep hh _ (.held (.bool false))] at hv
    cases hd : D.atKey (ky s) (.held (.bool false)) with
    | held u => rw [hd] at hv; simp [heldE] at hv; simp [unH, hv.1]
    | _ => rw [hd] at hv; simp [heldE] at hv
  | false =>
    rw [at_none hh] at hv
    simp [heldE] at hv
    simp [hv]
theorem MAt.store (h : MAt w b n f) {t e : TypeId} (ht : Tryd.prog.underlying t = some (.map 9 e)) (hn : n < maxLen) {s : ByteArray} (hs : s.size ≤ maxLen) (v : Value) :
    ∃ w', (Instr.mapUpdate t (.map (some b)) (.string s) v).run Tryd.prog w = .ok () w' ∧ MAt w' b (n + 1) (upd f s v) ∧ Mods (· = b) w w' := by
  obtain ⟨D, h, hf⟩ := h
  obtain ⟨w', hrun, hown, ht⟩ := h.store law ht hn (key9 hs) (show heldE v = some (.held v, []) from rfl)
  refine ⟨w', hrun, ⟨_, hown, fun u => ?_⟩, Mods.of_turned ht⟩
  unfold upd gt
  by_cases e : u = s
  · subst e
    rw [if_pos rfl, Maps.has_put_same h.isMap (ky_key u), Maps.atKey_put_same h.isMap (ky_key u)]
    rfl
  · have hne : ky u ≠ ky s := fun h => e (ky_inj h)
    rw [if_neg e, Maps.has_put_other hne, Maps.atKey_put_other hne, hf u]
    rfl
theorem MAt.keep {w' : World} {fp : Nat → Prop} (h : MAt w b n f) (hm : Mods fp w w') (hn : ¬ fp b) : MAt w' b n f := by
  obtain ⟨D, h, hf⟩ := h
  have hlt := h.lt
  obtain ⟨es, clock, hb, r⟩ := h
  exact ⟨D, ⟨es, clock, (hm.block b hlt hn).trans hb, r⟩, hf⟩
theorem MAt.no_cell (h : MAt w b n f) {o : Nat} {sp : Option Nat} {v : Value} : w.cell? ⟨b, o, sp⟩ ≠ some v := by
  obtain ⟨D, ⟨es, clock, hb, r⟩, hf⟩ := h
  intro e
  have := World.cell?_spot e
  simp at this
  subst this
  simp [World.cell?, hb] at e
end

/-! ### faces -/
structure Ty where
  n : ByteArray
  a : Bool
  deriving DecidableEq
structure Vr where
  name : ByteArray
  tn : ByteArray
  ta : Bool
  deriving DecidableEq
structure Sg where
  name : ByteArray
  st : Bool
  ps : List Ty
  rn : ByteArray
  ra : Bool
  deriving DecidableEq
structure Fc where
  name : ByteArray
  sup : ByteArray
  fs : List Vr
  ms : List Sg
  deriving DecidableEq

/-- A slice's value is that of these data, each in n cells. -/
def Sl {α : Type} (W : World) (n : Nat) (R : α → List Value → Prop) (xs : List α) (v : Value) : Prop :=
  ∃ a cap, v = .slice a xs.length cap ∧ xs.length ≤ cap ∧ cap ≤ maxLen ∧ ∀ i x, xs[i]? = some x → ∃ b o cs, a = some ⟨b, o, none⟩ ∧ (∀ j v, cs[j]? = some v → W.cell? ⟨b, o + i * n + j, none⟩ = some v) ∧ R x cs
def StrR (s : ByteArray) (cs : List Value) : Prop := cs = [.string s]
def TyR (t : Ty) (cs : List Value) : Prop := cs = [.string t.n, .bool t.a]
def VrR (v : Vr) (cs : List Value) : Prop := cs = [.string v.name, .string v.tn, .bool v.ta]
def SgR (W : World) (m : Sg) (cs : List Value) : Prop := ∃ a n c, cs = [.string m.name, .bool m.st, .slice a n c, .string m.rn, .bool m.ra] ∧ Sl W 2 TyR m.ps (.slice a n c)
def FcR (W : World) (f : Fc) (cs : List Value) : Prop := ∃ a n c a' n' c', cs = [.string f.name, .string f.sup, .slice a n c, .slice a' n' c'] ∧ Sl W 3 VrR f.fs (.slice a n c) ∧ Sl W 5 (SgR W) f.ms (.slice a' n' c')

theorem Sl.mono {α : Type} {W w : World} {n : Nat} {R R' : α → List Value → Prop} {xs : List α} {v : Value} (h : Sl W n R xs v) (hw : Keeps W w) (hR : ∀ x cs, R x cs → R' x cs ∧ ∀ v ∈ cs, Pl v) : Sl w n R' xs v := by
  obtain ⟨a, cap, e, hl, hc, hk⟩ := h
  refine ⟨a, cap, e, hl, hc, fun i t hi => ?_⟩
  obtain ⟨b, o, cs, ea, hcell, hq⟩ := hk i t hi
  exact ⟨b, o, cs, ea, fun j v hv => hw _ _ (hcell j v hv) ((hR _ _ hq).2 v (List.mem_of_getElem? hv)), (hR _ _ hq).1⟩
theorem pl_str (s : ByteArray) : Pl (.string s) := fun _ h => by cases h
theorem pl_bool (s : Bool) : Pl (.bool s) := fun _ h => by cases h
theorem pl_slice (a : Option Addr) (n c : Nat) : Pl (.slice a n c) := fun _ h => by cases h
theorem StrR.pl {s : ByteArray} {cs : List Value} (h : StrR s cs) : ∀ v ∈ cs, Pl v := by
  rw [h]; intro v hv; simp at hv; subst hv; exact pl_str _
theorem TyR.pl {s : Ty} {cs : List Value} (h : TyR s cs) : ∀ v ∈ cs, Pl v := by
  rw [h]; intro v hv; simp at hv; rcases hv with rfl | rfl; exact pl_str _; exact pl_bool _
theorem VrR.pl {s : Vr} {cs : List Value} (h : VrR s cs) : ∀ v ∈ cs, Pl v := by
  rw [h]; intro v hv; simp at hv; rcases hv with rfl | rfl | rfl; exact pl_str _; exact pl_str _; exact pl_bool _
theorem SgR.pl {W : World} {s : Sg} {cs : List Value} (h : SgR W s cs) : ∀ v ∈ cs, Pl v := by
  obtain ⟨a, n, c, rfl, _⟩ := h
  intro v hv; simp at hv; rcases hv with rfl | rfl | rfl | rfl | rfl; exact pl_str _; exact pl_bool _; exact pl_slice _ _ _; exact pl_str _; exact pl_bool _
theorem FcR.pl {W : World} {s : Fc} {cs : List Value} (h : FcR W s cs) : ∀ v ∈ cs, Pl v := by
  obtain ⟨a, n, c, a', n', c', rfl, _⟩ := h
  intro v hv; simp at hv; rcases hv with rfl | rfl | rfl | rfl; exact pl_str _; exact pl_str _; exact pl_slice _ _ _; exact pl_slice _ _ _
theorem strs_keep {W w : World} {xs : List ByteArray} {v : Value} (hw : Keeps W w) (h : Sl W 1 StrR xs v) : Sl w 1 StrR xs v := h.mono hw (fun _ _ h => ⟨h, h.pl⟩)
theorem tys_keep {W w : World} {xs : List Ty} {v : Value} (hw : Keeps W w) (h : Sl W 2 TyR xs v) : Sl w 2 TyR xs v := h.mono hw (fun _ _ h => ⟨h, h.pl⟩)
theorem vrs_keep {W w : World} {xs : List Vr} {v : Value} (hw : Keeps W w) (h : Sl W 3 VrR xs v) : Sl w 3 VrR xs v := h.mono hw (fun _ _ h => ⟨h, h.pl⟩)
theorem SgR.keep {W w : World} {m : Sg} {cs : List Value} (hw : Keeps W w) (h : SgR W m cs) : SgR w m cs := by
  obtain ⟨a, n, c, e, h⟩ := h
  exact ⟨a, n, c, e, tys_keep hw h⟩
theorem sgs_keep {W w : World} {xs : List Sg} {v : Value} (hw : Keeps W w) (h : Sl W 5 (SgR W) xs v) : Sl w 5 (SgR w) xs v := h.mono hw (fun _ _ h => ⟨h.keep hw, h.pl⟩)
theorem FcR.keep {W w : World} {m : Fc} {cs : List Value} (hw : Keeps W w) (h : FcR W m cs) : FcR w m cs := by
  obtain ⟨a, n, c, a', n', c', e, h1, h2⟩ := h
  exact ⟨a, n, c, a', n', c', e, vrs_keep hw h1, sgs_keep hw h2⟩
theorem fcs_keep {W w : World} {xs : List Fc} {v : Value} (hw : Keeps W w) (h : Sl W 4 (FcR W) xs v) : Sl w 4 (FcR w) xs v := h.mono hw (fun _ _ h => ⟨h.keep hw, h.pl⟩)
theorem Sl.nil {α : Type} (W : World) (n : Nat) (R : α → List Value → Prop) : Sl W n R [] (.slice none 0 0) := ⟨none, 0, rfl, Nat.le_refl _, Nat.zero_le _, fun i t h => by simp at h⟩
theorem Sl.form {α : Type} {W : World} {n : Nat} {R : α → List Value → Prop} {xs : List α} {v : Value} (h : Sl W n R xs v) : ∃ a cap, v = .slice a xs.length cap := h.elim fun a h => h.elim fun cap h => ⟨a, cap, h.1⟩
theorem Sl.at {α : Type} {W : World} {n : Nat} {R : α → List Value → Prop} {xs : List α} {a : Option Addr} {m cap : Nat} (h : Sl W n R xs (.slice a m cap)) : m = xs.length ∧ m ≤ cap ∧ cap ≤ maxLen ∧ ∀ i x, xs[i]? = some x → ∃ b o cs, a = some ⟨b, o, none⟩ ∧ (∀ j v, cs[j]? = some v → W.cell? ⟨b, o + i * n + j, none⟩ = some v) ∧ R x cs := by
  obtain ⟨a', cap', e, hl, hc, hk⟩ := h
  cases e
  exact ⟨rfl, hl, hc, hk⟩
/-- two texts, as the walk asks -/
theorem teq {a b : ByteArray} (h : a = b) : (a.toList == b.toList) = true := by rw [h]; simp
theorem tne {a b : ByteArray} (h : a ≠ b) : (a.toList == b.toList) = false := by
  have : a.toList ≠ b.toList := fun e => h (by
    rw [ByteArray.toList_eq, ByteArray.toList_eq] at e
    cases a; cases b
    simp at e
    rw [e])
  simpa using this
end Go.Proofs.YthimpjfmelmhpaaDoor.Fc
