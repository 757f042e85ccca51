/-
  What is known of a Writer in memory, and what a call that writes to it leaves alone.
-/
import Derived.Test.YtomlbfkkhhhfkaaDoorProg
import Derived.Test.YtomlbfkkhhhfkaaDoorPkEnc
import Derived.WalkKit
import Derived.Maps.AppendAt
namespace Go.Proofs.YtomlbfkkhhhfkaaDoor.Pk
open Go.RowKit

/-- a byte as a value -/
def B8 (c : UInt8) : Value := .int .u8 (c.toNat : Int)

/-- a slice of bytes of the call's own that holds just these bytes -/
def Row (base : Nat) (w : World) (v : Value) (bs : List UInt8) : Prop := w.ownsRow base 5 1 v bs.length (bs.map B8)

/-- the Writer in block bw has laid just these bytes; its row lies from base on -/
def WAt (base bw : Nat) (w : World) (bs : List UInt8) : Prop :=
  ∃ v, w.heap[bw]? = some (.cells #[v] 54 (0, 0)) ∧ Row base w v bs

/-- block k is no row of bytes -/
def NB (w : World) (k : Nat) : Prop := ∀ cs f, w.heap[k]? ≠ some (.cells cs 5 f)
theorem NB.of {w w' : World} {k : Nat} (h : NB w k) (e : w'.heap[k]? = w.heap[k]?) : NB w' k := fun cs f => by rw [e]; exact h cs f
theorem Row.nb {base : Nat} {w : World} {v : Value} {bs : List UInt8} (h : Row base w v bs) : ∀ k, v.ownBlock = some k → ¬ NB w k := by
  intro k hk hn
  rcases h.2 with ⟨rfl, _⟩ | ⟨g, cap, cur, rfl, _, hh, _⟩
  · simp [Value.ownBlock] at hk
  · simp [Value.ownBlock] at hk
    subst hk
    exact hn cur (0, 0) hh

/-- below base nothing but block bw has turned, and from base on no block that is no row of bytes -/
structure Kp (base bw : Nat) (w w' : World) : Prop where
  os : w'.os = w.os
  tape : w'.tape = w.tape
  output : w'.output = w.output
  size : w.heap.size ≤ w'.heap.size
  block : ∀ k, k < base → k ≠ bw → w'.heap[k]? = w.heap[k]?
  other : ∀ k, k < w.heap.size → k ≠ bw → NB w k → w'.heap[k]? = w.heap[k]?

theorem Kp.refl (base bw : Nat) (w : World) : Kp base bw w w := ⟨rfl, rfl, rfl, Nat.le_refl _, fun _ _ _ => rfl, fun _ _ _ _ => rfl⟩
theorem Kp.trans {base bw : Nat} {a b c : World} (h : Kp base bw a b) (k : Kp base bw b c) : Kp base bw a c :=
  ⟨k.os.trans h.os, k.tape.trans h.tape, k.output.trans h.output, Nat.le_trans h.size k.size, fun i h1 h2 => (k.block i h1 h2).trans (h.block i h1 h2),
    fun i h1 h2 h3 => (k.other i (Nat.lt_of_lt_of_le h1 h.size) h2 (h3.of (h.other i h1 h2 h3))).trans (h.other i h1 h2 h3)⟩
theorem Kp.of_below {base bw : Nat} {a b : World} (h : Below a.heap.size a b) (hb : base ≤ a.heap.size) : Kp base bw a b := ⟨h.os, h.tape, h.output, h.size, fun k hk _ => h.block k (by omega), fun k hk _ _ => h.block k hk⟩
theorem Kp.of_grown {base bw : Nat} {a b : World} {row : Option Nat} (hg : a.grownBy b row) (hb : base ≤ a.heap.size) (h1 : ∀ k, row = some k → base ≤ k) (h2 : ∀ k, row = some k → ¬ NB a k) : Kp base bw a b :=
  ⟨hg.os, hg.tape, hg.output, hg.size, fun k hk _ => hg.block k (by omega) (fun e => by have := h1 k e.symm; omega), fun k hk _ hn => hg.block k hk (fun e => h2 k e.symm hn)⟩
theorem Kp.setCell {base bw : Nat} {a w : World} (h : Kp base bw a w) (i : Nat) (u : Value) : Kp base bw a (w.setCell ⟨bw, i, none⟩ u) :=
  h.trans ⟨rfl, rfl, rfl, by simp [World.setCell], fun k _ hk => Below.heap_setCell _ _ _ _ hk, fun k _ hk _ => Below.heap_setCell _ _ _ _ hk⟩

end Go.Proofs.YtomlbfkkhhhfkaaDoor.Pk
