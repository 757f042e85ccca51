/-
  Files in memory, and what a call that works on them leaves alone.
-/
import Derived.Test.YtecegjdnodcamaaProg
import Derived.Test.YtecegjdnodcamaaView
import Derived.WalkKit
import Derived.Lib.Hide
import Derived.Maps.RangeWalk
import Derived.Maps.StringElems
import Derived.Deep.QuietTactic
import Derived.BigQuiet
import Derived.RegionTactic
import Derived.ChangeAlike
import Derived.BigRegion
import Derived.Outline
import Derived.StringKeys
namespace Go.Proofs.Ytecegjdnodcamaa
open Go.RowKit Go.Maps

/-- of what was there nothing has turned but blocks of fp; new ones may be there -/
structure Mods (fp : Nat → Prop) (w w' : World) : Prop where
  os : w'.os = w.os
  tape : w'.tape = w.tape
  output : w'.output = w.output
  size : w.heap.size ≤ w'.heap.size
  block : ∀ k, k < w.heap.size → ¬ fp k → w'.heap[k]? = w.heap[k]?

theorem Mods.refl (fp : Nat → Prop) (w : World) : Mods fp w w := ⟨rfl, rfl, rfl, Nat.le_refl _, fun _ _ _ => rfl⟩
theorem Mods.trans {fp fq fr : Nat → Prop} {x y z : World} (h : Mods fp x y) (k : Mods fq y z) (h1 : ∀ i, i < x.heap.size → fp i → fr i) (h2 : ∀ i, i < x.heap.size → fq i → fr i) : Mods fr x z :=
  ⟨k.os.trans h.os, k.tape.trans h.tape, k.output.trans h.output, Nat.le_trans h.size k.size, fun i hi hn => (k.block i (Nat.lt_of_lt_of_le hi h.size) (fun e => hn (h2 i hi e))).trans (h.block i hi (fun e => hn (h1 i hi e)))⟩
theorem Mods.weak {fp fq : Nat → Prop} {x y : World} (h : Mods fp x y) (h1 : ∀ i, i < x.heap.size → fp i → fq i) : Mods fq x y := ⟨h.os, h.tape, h.output, h.size, fun i hi hn => h.block i hi (fun e => hn (h1 i hi e))⟩
theorem Mods.of_below {fp : Nat → Prop} {x y : World} (h : Below x.heap.size x y) : Mods fp x y := ⟨h.os, h.tape, h.output, h.size, fun k hk _ => h.block k hk⟩
theorem Mods.below {fp : Nat → Prop} {B : Nat} {x y : World} (h : Mods fp x y) (h1 : ∀ k, fp k → B ≤ k) (h2 : B ≤ x.heap.size) : Below B x y :=
  ⟨h.os, h.tape, h.output, h.size, fun k hk => h.block k (by omega) (fun e => by have := h1 k e; omega)⟩
theorem Mods.drew {fp : Nat → Prop} {x y : World} (h : Mods fp x y) : Mods fp x y.drew := ⟨h.os, h.tape, h.output, h.size, h.block⟩
theorem Mods.drewN {fp : Nat → Prop} {x y : World} (h : Mods fp x y) (n : Nat) : Mods fp x (y.drewN n) := ⟨h.os, h.tape, h.output, h.size, h.block⟩
theorem Mods.setCell {fp : Nat → Prop} {x y : World} (h : Mods fp x y) {p : Addr} (hp : fp p.block ∨ x.heap.size ≤ p.block) (u : Value) : Mods fp x (y.setCell p u) :=
  ⟨h.os, h.tape, h.output, by simpa [World.setCell] using h.size, fun k h1 h2 => (Below.heap_setCell _ _ _ _ (fun e => by subst e; rcases hp with hp | hp; exact h2 hp; omega)).trans (h.block k h1 h2)⟩
theorem Mods.alloc {fp : Nat → Prop} {x y : World} (h : Mods fp x y) (o : Obj) : Mods fp x (y.alloc o) :=
  ⟨h.os, h.tape, h.output, Nat.le_trans h.size (by simp), fun k h1 h2 => (Below.heap_alloc _ _ _ (Nat.lt_of_lt_of_le h1 h.size)).trans (h.block k h1 h2)⟩
theorem Mods.of_turned {x y : World} {b : Nat} (h : x.mapTurned y b) : Mods (· = b) x y :=
  let g := h.grown
  ⟨g.os, g.tape, g.output, g.size, fun k hk hn => g.block k hk (by simpa using hn)⟩

theorem law : Keyed Try.prog 9 := string_keyed Try.underlying9
theorem zero74 (w : World) : (zeroValue 74).run Try.prog w = .ok (.agg #[.string ByteArray.empty]) w := by kernel_rfl

theorem field74 (s : ByteArray) (w : World) : (Instr.field 74 (.agg #[.string s]) 0).run Try.prog w = .ok (.string s) w := by kernel_rfl

/-- a file's text in a map -/
def fileElem (v : Value) : Option (Dt × List MemPlace) :=
  match v with
  | .agg cs => match cs.toList with
    | [.string s] => if s.size ≤ maxLen then some (tx s, []) else none
    | _ => none
  | _ => none
theorem fileElem_mk {s : ByteArray} (h : s.size ≤ maxLen) : fileElem (.agg #[.string s]) = some (tx s, []) := by simp [fileElem, h]
theorem fileElem_inv {v : Value} {z : Dt × List MemPlace} (h : fileElem v = some z) : ∃ s : ByteArray, v = .agg #[.string s] ∧ z = (tx s, []) ∧ s.size ≤ maxLen := by
  unfold fileElem at h
  split at h
  · rename_i cs
    split at h
    · rename_i s hs
      split at h
      · rename_i hl
        cases h
        refine ⟨s, ?_, rfl, hl⟩
        congr
        cases cs
        simp_all
      · cases h
    · cases h
  · cases h

/-- the files that a map's value holds -/
def FAt (w : World) (v : Value) (D : Dt) : Prop := (v = .map none ∧ D = .map []) ∨ ∃ b, v = .map (some b) ∧ w.ownsMap Try.prog 9 fileElem b (Maps.size D) D

theorem own_exact {P : Program} {k : TypeId} {R : Value → Option (Dt × List MemPlace)} {w : World} {b n : Nat} {D : Dt} (h : w.ownsMap P k R b n D) : w.ownsMap P k R b (Maps.size D) D := by
  obtain ⟨es, clock, hb, F, hs, rfl⟩ := h
  exact ⟨es, clock, hb, F, by simp [Maps.size, length_sorted], rfl⟩

section
variable {w : World} {v : Value} {D : Dt}

theorem FAt.keep {w' : World} {fp : Nat → Prop} (h : FAt w v D) (hm : Mods fp w w') (hn : ∀ k, v = .map (some k) → ¬ fp k) : FAt w' v D := by
  rcases h with h | ⟨b, rfl, hown⟩
  · exact .inl h
  · have hlt := hown.lt
    obtain ⟨es, clock, hb, r⟩ := hown
    exact .inr ⟨b, rfl, es, clock, (hm.block b hlt (hn b rfl)).trans hb, r⟩
theorem FAt.lt (h : FAt w v D) : ∀ k, v = .map (some k) → k < w.heap.size := by
  intro k hk
  rcases h with ⟨rfl, _⟩ | ⟨b, rfl, hown⟩
  · cases hk
  · cases hk; exact hown.lt
/-- its block holds no cells -/
theorem FAt.no_cells (h : FAt w v D) : ∀ k, v = .map (some k) → ∀ cs t f, w.heap[k]? ≠ some (.cells cs t f) := by
  intro k hk cs t f e
  rcases h with ⟨rfl, _⟩ | ⟨b, rfl, hown⟩
  · cases hk
  · cases hk
    obtain ⟨es, clock, hb, r⟩ := hown
    rw [hb] at e
    cases e

theorem key9 {s : ByteArray} (h : s.size ≤ maxLen) : keyOf Try.prog 9 (.string s) = some (ky s) := Go.WideMaps.keyOf_string_mk Try.underlying9 h

theorem FAt.look (h : FAt w v D) (hG : Good D) (name : ByteArray) (hn : name.size ≤ maxLen) : (Instr.lookup 66 v (.string name) false).run Try.prog w = .ok (.agg #[.string (get D name)]) w := by
  rcases h with ⟨rfl, rfl⟩ | ⟨b, rfl, hown⟩
  · exact Maps.look_nil false law Try.underlying66 (zero74 w) (key9 hn)
  · obtain ⟨v, ps, hrun, hv⟩ := hown.lookup law Try.underlying66 (zero74 w) (fileElem_mk (by simp)) (key9 hn)
    rw [hrun]
    obtain ⟨s, rfl, hz, _⟩ := fileElem_inv hv
    have := atKey_get hG name
    rw [(Prod.mk.inj hz).1] at this
    have e : s = get D name := by have := congrArg unT this; rwa [unT_tx, unT_tx] at this
    rw [e]
theorem FAt.look_ok (h : FAt w v D) (hG : Good D) (name : ByteArray) (hn : name.size ≤ maxLen) : (Instr.lookup 66 v (.string name) true).run Try.prog w = .ok (.tuple #[.agg #[.string (get D name)], .bool (hasF D name)]) w := by
  rcases h with ⟨rfl, rfl⟩ | ⟨b, rfl, hown⟩
  · exact Maps.look_nil true law Try.underlying66 (zero74 w) (key9 hn)
  · obtain ⟨v, ps, hrun, hv⟩ := hown.look_ok law Try.underlying66 (zero74 w) (fileElem_mk (by simp)) (key9 hn)
    rw [hrun]
    obtain ⟨s, rfl, hz, _⟩ := fileElem_inv hv
    have := atKey_get hG name
    rw [(Prod.mk.inj hz).1] at this
    have e : s = get D name := by have := congrArg unT this; rwa [unT_tx, unT_tx] at this
    rw [e]
    rfl
theorem FAt.get_le (h : FAt w v D) (hG : Good D) (name : ByteArray) (hn : name.size ≤ maxLen) : (get D name).size ≤ maxLen := by
  rcases h with ⟨rfl, rfl⟩ | ⟨b, rfl, hown⟩
  · rw [get_of_not rfl]; simp
  · obtain ⟨v, ps, hrun, hv⟩ := hown.lookup law Try.underlying66 (zero74 w) (fileElem_mk (by simp)) (key9 hn)
    obtain ⟨s, rfl, hz, hl⟩ := fileElem_inv hv
    have := atKey_get hG name
    rw [(Prod.mk.inj hz).1] at this
    have e : s = get D name := by have := congrArg unT this; rwa [unT_tx, unT_tx] at this
    rw [← e]
    exact hl
theorem FAt.drop (h : FAt w v D) (name : ByteArray) (hn : name.size ≤ maxLen) (ty : TypeId) :
    ∃ w', (Builtin.delete_ #[66, 9] ty #[v, .string name]).run Try.prog w = .ok (.tuple #[]) w' ∧ FAt w' v (delF D name) ∧ Mods (fun k => v = .map (some k)) w w' := by
  rcases h with ⟨rfl, rfl⟩ | ⟨b, rfl, hown⟩
  · exact ⟨w, Maps.drop_nil law Try.underlying66 (key9 hn) ty, .inl ⟨rfl, rfl⟩, Mods.refl _ _⟩
  · obtain ⟨w', hrun, hown', ht⟩ := hown.drop law Try.underlying66 (key9 hn) ty
    exact ⟨w', hrun, .inr ⟨b, rfl, own_exact hown'⟩, (Mods.of_turned ht).weak (fun i _ e => by rw [e])⟩
theorem FAt.store {b : Nat} (h : FAt w (.map (some b)) D) (hs : Maps.size D < maxLen) (name s : ByteArray) (hn : name.size ≤ maxLen) (hl : s.size ≤ maxLen) :
    ∃ w', (Instr.mapUpdate 66 (.map (some b)) (.string name) (.agg #[.string s])).run Try.prog w = .ok () w' ∧ FAt w' (.map (some b)) (putF D name s) ∧ Mods (· = b) w w' := by
  rcases h with ⟨h, _⟩ | ⟨b', e, hown⟩
  · cases h
  · cases e
    obtain ⟨w', hrun, hown', ht⟩ := hown.store law Try.underlying66 hs (key9 hn) (fileElem_mk hl)
    exact ⟨w', hrun, .inr ⟨b, rfl, own_exact hown'⟩, Mods.of_turned ht⟩
end

/-- 'delete(m, k)' -/
theorem wpList_delete_F {w : World} {ops : Array Oper} {rest : List Oper} {o : Oper} {a : Act} {Q : Exit → Act → World → Prop} (hg : o.guard = none) (m x : Operand) (hop : o.op = Op.call { callee := Callee.builtin Builtin.delete, args := #[m, x], argTypes := #[66, 9] })
    (v : Value) (D : Dt) (hm : a.eval m = v) (hF : FAt w v D) (name : ByteArray) (hx : a.eval x = .string name) (hn : name.size ≤ maxLen)
    (hK : ∀ w', FAt w' v (delF D name) → Mods (fun k => v = .map (some k)) w w' → wpList Try.prog ops Q rest (a.put o.dst (.tuple #[])) w') :
    wpList Try.prog ops Q (o :: rest) a w := by
  refine wpList_plain hg fun K' hK' => ?_
  obtain ⟨w', hrun, r1, r2⟩ := hF.drop name hn o.type
  unfold Oper.wp
  simp [execOp, hop, resolve, invoke, builtin, hm, hx, hrun, Result.andThen]
  exact hK' _ _ (hK w' r1 r2)

/-- a block of cells, whole -/
def Blk (w : World) (b : Nat) (cs : List Value) (t : TypeId) : Prop := w.heap[b]? = some (.cells cs.toArray t (0, 0))
section
variable {w : World} {b : Nat} {cs : List Value} {t : TypeId}
theorem Blk.lt (h : Blk w b cs t) : b < w.heap.size := lt_of_block h
theorem Blk.cell (h : Blk w b cs t) (i : Nat) : w.cell? ⟨b, i, none⟩ = cs[i]? := by simp [World.cell?, show w.heap[b]? = _ from h]
theorem Blk.frozen (h : Blk w b cs t) (i : Nat) : w.frozen? ⟨b, i, none⟩ = false := by simp [World.frozen?, show w.heap[b]? = _ from h]
theorem Blk.set (h : Blk w b cs t) (i : Nat) (v : Value) : Blk (w.setCell ⟨b, i, none⟩ v) b (cs.set i v) t := by
  show (w.setCell ⟨b, i, none⟩ v).heap[b]? = _
  simp [World.setCell, Array.getElem?_modify, show w.heap[b]? = _ from h]
theorem Blk.keep {w' : World} {fp : Nat → Prop} (h : Blk w b cs t) (hm : Mods fp w w') (hn : ¬ fp b) : Blk w' b cs t := (hm.block b h.lt hn).trans h
theorem Blk.drew (h : Blk w b cs t) : Blk w.drew b cs t := h
theorem Blk.drewN (h : Blk w b cs t) (n : Nat) : Blk (w.drewN n) b cs t := h
theorem Blk.ne {v : Value} {D : Dt} (h : Blk w b cs t) (hF : FAt w v D) : v ≠ .map (some b) := fun e => hF.no_cells b e _ _ _ h
end

end Go.Proofs.Ytecegjdnodcamaa
