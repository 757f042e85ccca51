/-
  The statements' own lay: a file's bytes.
-/
import Derived.Test.YtomlbfkkhhhfkaaDoorCsArc
namespace Go.Proofs.YtomlbfkkhhhfkaaDoor.Fc
open Go.RowKit
set_option linter.unusedVariables false
set_option linter.unusedSimpArgs false

/-- a Writer that has laid Q, a file's block, the Writer's variable -/
structure LyS (BW F : Nat) (fs : List Value) (w : World) (Q : List UInt8) (z : World) : Prop where
  a : Pk.WAt (BW + 2) BW z Q
  f : Blk z F fs 35
  p : Blk z (BW + 1) [.pointer (some ⟨BW, 0, none⟩)] 51
  below : Below w.heap.size w z
  size : BW + 2 ≤ z.heap.size
  fb : F < BW
  wb : w.heap.size ≤ BW
section
variable {BW F : Nat} {fs : List Value} {w z z' : World} {Q Q' : List UInt8}
theorem LyS.al (h : LyS BW F fs w Q z) (o : Obj) : LyS BW F fs w Q (z.alloc o) :=
  ⟨wat_al h.a o, h.f.below (below1 z o), h.p.below (below1 z o), bl_al' h.below, by have := h.size; simp; omega, h.fb, h.wb⟩
theorem LyS.kp (h : LyS BW F fs w Q z) (ha : Pk.WAt (BW + 2) BW z' Q') (hk : Pk.Kp (BW + 2) BW z z') : LyS BW F fs w Q' z' :=
  ⟨ha, h.f.kp hk (by decide) (by have := h.fb; omega), h.p.kp hk (by decide) (by omega), h.below.trans (hk.below (by have := h.wb; omega) h.wb), Nat.le_trans h.size hk.size, h.fb, h.wb⟩
theorem LyS.below' (h : LyS BW F fs w Q z) (hb : Below z.heap.size z z') : LyS BW F fs w Q z' :=
  ⟨wat_below h.a hb, h.f.below hb, h.p.below hb, h.below.trans (hb.mono h.below.size), Nat.le_trans h.size hb.size, h.fb, h.wb⟩
theorem LyS.drw (h : LyS BW F fs w Q z) : LyS BW F fs w Q z.drew := ⟨h.a, h.f, h.p, h.below.drew, h.size, h.fb, h.wb⟩
theorem ly_num (n : Int) (h0 : OkI n) (sb c : Nat) (h : LyS BW F fs w Q z) (hB : Blk z sb [.int .i64 n] 3) (hne : sb ≠ BW) (hlen : Q.length + 9 ≤ 140737488355328) :
    Calls Tryd.prog 19 #[.pointer (some ⟨BW, 0, none⟩), .slice (some ⟨sb, 0, none⟩) 1 c] z fun e z' => e = .returned (.pointer (some ⟨BW, 0, none⟩)) ∧ LyS BW F fs w (Q ++ Pk.encI n) z' ∧ Pk.Kp (BW + 2) BW z z' :=
  (numI1 (BW + 2) BW n h0 sb c Q z h.a (by omega) h.size hB hne hlen).mono fun e z' ⟨p, q, r⟩ => ⟨p, h.kp q r, r⟩
theorem ly_text (s : ByteArray) (sb c : Nat) (h : LyS BW F fs w Q z) (hB : Blk z sb [.string s] 9) (hne : sb ≠ BW) (hlen : Q.length + (sB s).length + 9 ≤ 140737488355328) :
    Calls Tryd.prog 20 #[.pointer (some ⟨BW, 0, none⟩), .slice (some ⟨sb, 0, none⟩) 1 c] z fun e z' => e = .returned (.pointer (some ⟨BW, 0, none⟩)) ∧ LyS BW F fs w (Q ++ sB s) z' ∧ Pk.Kp (BW + 2) BW z z' := by
  have e : Pk.textAll [bl s] = sB s := by simp [Pk.textAll, sB]
  have hv : Pk.Vals (BW + 2) BW z (some ⟨sb, 0, none⟩) (Pk.strs [bl s]) := .inr ⟨_, rfl, .inr ⟨hB.lt, hB.nb (by decide)⟩, hne, fun i hi => by
    obtain rfl : i = 0 := by simp [Pk.strs] at hi; omega
    have := hB.cell 0
    simpa [Addr.add, Pk.strs, bl_mk] using this⟩
  have hh := Pk.text_any (BW + 2) BW [bl s] (some ⟨sb, 0, none⟩) c Q z h.a (by omega) h.size hv (by simp) (by rw [e]; exact hlen)
  rw [e] at hh
  exact hh.mono fun e z' ⟨p, q, r⟩ => ⟨p, h.kp q r, r⟩
theorem ly_flag (b : Bool) (sb c : Nat) (h : LyS BW F fs w Q z) (hB : Blk z sb [.bool b] 4) (hne : sb ≠ BW) (hlen : Q.length + 19 ≤ 140737488355328) :
    Calls Tryd.prog 40 #[.pointer (some ⟨BW, 0, none⟩), .slice (some ⟨sb, 0, none⟩) 1 c] z fun e z' => e = .returned (.pointer (some ⟨BW, 0, none⟩)) ∧ LyS BW F fs w (Q ++ [Pk.flagB b]) z' ∧ Pk.Kp (BW + 2) BW z z' := by
  have hv : Pk.Vals (BW + 2) BW z (some ⟨sb, 0, none⟩) (Pk.bools [b]) := .inr ⟨_, rfl, .inr ⟨hB.lt, hB.nb (by decide)⟩, hne, fun i hi => by
    obtain rfl : i = 0 := by simp [Pk.bools] at hi; omega
    have := hB.cell 0
    simpa [Addr.add, Pk.bools] using this⟩
  have hh := Pk.flag_any (BW + 2) BW [b] (some ⟨sb, 0, none⟩) c Q z h.a (by omega) h.size hv (by simp; omega)
  exact hh.mono fun e z' ⟨p, q, r⟩ => ⟨p, h.kp q r, r⟩
theorem ly_int (n : Int) (h0 : OkI n) (sb c : Nat) (h : LyS BW F fs w Q z) (hB : Blk z sb [.int .i64 n] 2) (hne : sb ≠ BW) (hlen : Q.length + 18 + 9 ≤ 140737488355328) :
    Calls Tryd.prog 38 #[.pointer (some ⟨BW, 0, none⟩), .slice (some ⟨sb, 0, none⟩) 1 c] z fun e z' => e = .returned (.pointer (some ⟨BW, 0, none⟩)) ∧ LyS BW F fs w (Q ++ Pk.intB n) z' ∧ Pk.Kp (BW + 2) BW z z' := by
  have e : Pk.intAll [n] = Pk.intB n := by simp [Pk.intAll]
  have hv : Pk.Vals (BW + 2) BW z (some ⟨sb, 0, none⟩) (Pk.ints [n]) := .inr ⟨_, rfl, .inr ⟨hB.lt, hB.nb (by decide)⟩, hne, fun i hi => by
    obtain rfl : i = 0 := by simp [Pk.ints] at hi; omega
    have := hB.cell 0
    simpa [Addr.add, Pk.ints] using this⟩
  have hh := Pk.wint_any (BW + 2) BW [n] (by intro v hv; simp at hv; subst hv; exact h0) (some ⟨sb, 0, none⟩) c Q z h.a (by omega) h.size hv (by simp; omega)
  rw [e] at hh
  exact hh.mono fun e z' ⟨p, q, r⟩ => ⟨p, h.kp q r, r⟩
end
end Go.Proofs.YtomlbfkkhhhfkaaDoor.Fc
