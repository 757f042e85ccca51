/-
  What is known of a Writer in memory, and what a call that writes to it leaves alone.
-/
import Derived.Test.YtbpdeehpeflbeaaProg
import Derived.Test.YtbpdeehpeflbeaaEnc
import Derived.WalkKit
import Derived.Maps.AppendAt
namespace Go.Proofs.Ytbpdeehpeflbeaa
open Go.RowKit

/-- a byte as a value -/
def B8 (c : UInt8) : Value := .int .u8 (c.toNat : Int)

/-- a slice of bytes of the call's own that holds just these bytes -/
def Row (base : Nat) (w : World) (v : Value) (bs : List UInt8) : Prop := w.ownsRow base 5 1 v bs.length (bs.map B8)

/-- the Writer in block bw has laid just these bytes; its row lies from base on -/
def WAt (base bw : Nat) (w : World) (bs : List UInt8) : Prop :=
  ∃ v, w.heap[bw]? = some (.cells #[v] 28 (0, 0)) ∧ Row base w v bs

/-- below base nothing but block bw has turned -/
structure Kp (base bw : Nat) (w w' : World) : Prop where
  os : w'.os = w.os
  tape : w'.tape = w.tape
  output : w'.output = w.output
  size : w.heap.size ≤ w'.heap.size
  block : ∀ k, k < base → k ≠ bw → w'.heap[k]? = w.heap[k]?

theorem Kp.refl (base bw : Nat) (w : World) : Kp base bw w w := ⟨rfl, rfl, rfl, Nat.le_refl _, fun _ _ _ => rfl⟩
theorem Kp.trans {base bw : Nat} {a b c : World} (h : Kp base bw a b) (k : Kp base bw b c) : Kp base bw a c :=
  ⟨k.os.trans h.os, k.tape.trans h.tape, k.output.trans h.output, Nat.le_trans h.size k.size, fun i h1 h2 => (k.block i h1 h2).trans (h.block i h1 h2)⟩
theorem Kp.of_below {base bw : Nat} {a b : World} (h : Below base a b) : Kp base bw a b := ⟨h.os, h.tape, h.output, h.size, fun k hk _ => h.block k hk⟩
theorem Kp.setCell {base bw : Nat} {a w : World} (h : Kp base bw a w) (i : Nat) (u : Value) : Kp base bw a (w.setCell ⟨bw, i, none⟩ u) :=
  h.trans ⟨rfl, rfl, rfl, by simp [World.setCell], fun k _ hk => Below.heap_setCell _ _ _ _ hk⟩

end Go.Proofs.Ytbpdeehpeflbeaa
