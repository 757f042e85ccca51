/-
  A type, a face as bytes: layType, Lay.
-/
import Derived.Test.YtomlbfkkhhhfkaaDoorFcRd
import Derived.Deep.RegionHeld3
namespace Go.Proofs.YtomlbfkkhhhfkaaDoor.Fc
open Go.RowKit
set_option linter.unusedVariables false

theorem wat_al {base bw : Nat} {w : World} {bs : List UInt8} (h : Pk.WAt base bw w bs) (o : Obj) : Pk.WAt base bw (w.alloc o) bs := by
  obtain ⟨v, hv, hrow⟩ := h
  exact ⟨v, (Below.heap_alloc _ _ _ (lt_of_block hv)).trans hv, World.ownsRow.alloc hrow o⟩
theorem kp_al {base bw : Nat} {a w : World} (h : Pk.Kp base bw a w) (hb : base ≤ a.heap.size) (o : Obj) : Pk.Kp base bw a (w.alloc o) :=
  h.trans (Pk.Kp.of_below (below1 w o) (Nat.le_trans hb h.size))
theorem Blk.al {w : World} {b : Nat} {cs : List Value} {t : TypeId} (h : Blk w b cs t) (o : Obj) : Blk (w.alloc o) b cs t := h.below (below1 w o)
theorem Blk.dr {w : World} {b : Nat} {cs : List Value} {t : TypeId} (h : Blk w b cs t) : Blk w.drew b cs t := h
theorem kp_dr {base bw : Nat} {a w : World} (h : Pk.Kp base bw a w) : Pk.Kp base bw a w.drew := ⟨h.os, h.tape, h.output, h.size, h.block, h.other⟩
theorem Blk.nb {w : World} {b : Nat} {cs : List Value} {t : TypeId} (h : Blk w b cs t) (ht : t ≠ 5) : Pk.NB w b := fun cs' f e => by
  rw [show w.heap[b]? = _ from h] at e
  cases e
  exact ht rfl
theorem Blk.kp {w w' : World} {b base bw : Nat} {cs : List Value} {t : TypeId} (h : Blk w b cs t) (hk : Pk.Kp base bw w w') (ht : t ≠ 5) (hb : b ≠ bw) : Blk w' b cs t := (hk.other b h.lt hb (h.nb ht)).trans h
theorem Blk.newAt {w : World} {q : Nat} (h : w.heap.size = q) (cs : List Value) (t : TypeId) : Blk (w.alloc (.cells cs.toArray t)) q cs t := h ▸ Blk.new w cs t
theorem Blk.new1 (w : World) (o : Obj) (cs : List Value) (t : TypeId) : Blk ((w.alloc o).alloc (.cells cs.toArray t)) (w.heap.size + 1) cs t := by
  have := Blk.new (w.alloc o) cs t
  simpa using this
theorem Blk.new2 (w : World) (o o' : Obj) (cs : List Value) (t : TypeId) : Blk (((w.alloc o).alloc o').alloc (.cells cs.toArray t)) (w.heap.size + 1 + 1) cs t := by
  have := Blk.new1 (w.alloc o) o' cs t
  simpa using this

theorem text1 (base bw : Nat) (S : ByteArray) (sb c : Nat) (bs : List UInt8) (w : World) (hw : Pk.WAt base bw w bs) (hlt : bw < base) (hb : base ≤ w.heap.size) (hB : Blk w sb [.string S] 9) (hne : sb ≠ bw) (hlen : bs.length + (sB S).length + 9 ≤ 140737488355328) :
    Calls Tryd.prog 20 #[.pointer (some ⟨bw, 0, none⟩), .slice (some ⟨sb, 0, none⟩) 1 c] w fun e w' => e = .returned (.pointer (some ⟨bw, 0, none⟩)) ∧ Pk.WAt base bw w' (bs ++ sB S) ∧ Pk.Kp base bw w w' := by
  have e : Pk.textAll [bl S] = sB S := by simp [Pk.textAll, sB]
  have h := Pk.text_any base bw [bl S] (some ⟨sb, 0, none⟩) c bs w hw hlt hb (.inr ⟨_, rfl, .inr ⟨hB.lt, hB.nb (by decide)⟩, hne, fun i hi => by
    obtain rfl : i = 0 := by simp [Pk.strs] at hi; omega
    simp only [Pk.strs, List.map_cons, List.getElem_cons_zero, bl_mk]
    have := hB.cell 0
    simpa [Addr.add] using this⟩) (by simp) (by rw [e]; exact hlen)
  rw [e] at h
  exact h
theorem num1 (base bw : Nat) (n : Nat) (sb c : Nat) (bs : List UInt8) (w : World) (hw : Pk.WAt base bw w bs) (hlt : bw < base) (hb : base ≤ w.heap.size) (hB : Blk w sb [.int .i64 n] 3) (hne : sb ≠ bw) (hn : n ≤ 9223372036854775807) (hlen : bs.length + 9 ≤ 140737488355328) :
    Calls Tryd.prog 19 #[.pointer (some ⟨bw, 0, none⟩), .slice (some ⟨sb, 0, none⟩) 1 c] w fun e w' => e = .returned (.pointer (some ⟨bw, 0, none⟩)) ∧ Pk.WAt base bw w' (bs ++ Pk.enc n) ∧ Pk.Kp base bw w w' := by
  have e : Pk.encAll [(n : Int)] = Pk.enc n := by simp [Pk.encAll, Pk.encI]
  have h := Pk.num_any base bw [(n : Int)] (by simp; omega) (some ⟨sb, 0, none⟩) c bs w hw hlt hb (.inr ⟨_, rfl, .inr ⟨hB.lt, hB.nb (by decide)⟩, hne, fun i hi => by
    obtain rfl : i = 0 := by simp [Pk.ints] at hi; omega
    have := hB.cell 0
    simpa [Addr.add, Pk.ints] using this⟩) (by simpa using hlen)
  rw [e] at h
  exact h
theorem flag1 (base bw : Nat) (f : Bool) (sb c : Nat) (bs : List UInt8) (w : World) (hw : Pk.WAt base bw w bs) (hlt : bw < base) (hb : base ≤ w.heap.size) (hB : Blk w sb [.bool f] 4) (hne : sb ≠ bw) (hlen : bs.length + 10 ≤ 140737488355328) :
    Calls Tryd.prog 40 #[.pointer (some ⟨bw, 0, none⟩), .slice (some ⟨sb, 0, none⟩) 1 c] w fun e w' => e = .returned (.pointer (some ⟨bw, 0, none⟩)) ∧ Pk.WAt base bw w' (bs ++ [Pk.flagB f]) ∧ Pk.Kp base bw w w' :=
  Pk.flag_any base bw [f] (some ⟨sb, 0, none⟩) c bs w hw hlt hb (.inr ⟨_, rfl, .inr ⟨hB.lt, hB.nb (by decide)⟩, hne, fun i hi => by
    obtain rfl : i = 0 := by simp [Pk.bools] at hi; omega
    have := hB.cell 0
    simpa [Addr.add, Pk.bools] using this⟩) (by simp only [List.length_singleton]; omega)
theorem ts_of {w : World} {q : Nat} {n : ByteArray} {a : Bool} (h : Blk w q [.string n, .bool a] 60) : w.cell? ⟨q, 0, none⟩ = some (.string n) ∧ w.cell? ⟨q, 1, none⟩ = some (.bool a) ∧ Blk w q [.string n, .bool a] 60 := ⟨h.cell 0, h.cell 1, h⟩

set_option maxHeartbeats 1000000 in
set_option maxRecDepth 100000 in
theorem lay36 (base bw : Nat) (n : ByteArray) (a : Bool) (bs : List UInt8) (w : World) (hw : Pk.WAt base bw w bs) (hlt : bw < base) (hb : base ≤ w.heap.size) (hlen : bs.length + (tyB ⟨n, a⟩).length + 10 ≤ 140737488355328) :
    Calls Tryd.prog 65 #[.pointer (some ⟨bw, 0, none⟩), .agg #[.string n, .bool a]] w fun e w' => e = .returned (.tuple #[]) ∧ Pk.WAt base bw w' (bs ++ tyB ⟨n, a⟩) ∧ Pk.Kp base bw w w' := by
  have B0 : Hid (Blk (w.alloc (.cells #[.string n, .bool a] 60)) w.heap.size [.string n, .bool a] 60) := Lib.hid (Blk.new w [.string n, .bool a] 60)
  have HL1 : Hid (bs.length + (sB n).length + 9 ≤ 140737488355328) := Lib.hid (by simp only [tyB, List.length_append, List.length_singleton] at hlen; omega)
  have HL2 : Hid ((bs ++ sB n).length + 10 ≤ 140737488355328) := Lib.hid (by simp only [tyB, List.length_append, List.length_singleton] at hlen ⊢; omega)
  have HWA : Hid (Pk.WAt base bw (w.alloc (.cells #[.string n, .bool a] 60)) bs) := Lib.hid (wat_al hw _)
  clear hw hlen
  go_enter Tryd.func65, Tryd.ntmps65
  go_wp2_with fail
  go_region_held3 (fun w' => w'.cell? ⟨w.heap.size, 0, none⟩ = some (.string n) ∧ w'.cell? ⟨w.heap.size, 1, none⟩ = some (.bool a) ∧ Blk w' w.heap.size [.string n, .bool a] 60)
    (first | exact ts_of B0.out | exact ts_of (Blk.al (by first | exact B0.out | exact B2 | assumption) _) | exact ts_of B3 | exact ts_of B2 | exact ts_of (Blk.al (Blk.al (by first | exact B0.out | exact B2) _) _))
    (first
      | (go_at_call 20; refine (text1 base bw n _ _ bs _ (by repeat (first | exact HWA.out | refine wat_al ?_ _)) hlt (by simp; omega) (by first | exact Blk.newAt (by simp) [.string n] 9 | exact (Blk.newAt (by simp) [.string n] 9).al _) (by omega) HL1.out).mono ?_; rintro e w2 ⟨rfl, hw2, hk2⟩; have hs2 := hk2.size; simp at hs2; have B2 : Blk w2 w.heap.size [.string n, .bool a] 60 := Blk.kp (by repeat (first | exact B0.out | refine Blk.al ?_ _)) hk2 (by decide) (by omega))
      | (go_at_call 40; refine (flag1 base bw a _ _ (bs ++ sB n) _ (by repeat (first | exact hw2 | refine wat_al ?_ _)) hlt (by first | omega | (simp; omega)) (by first | exact Blk.newAt (by first | rfl | simp) [.bool a] 4 | exact Blk.kp (Blk.dr (Blk.newAt (by first | rfl | simp) [.bool a] 4)) hk2 (by decide) (by omega) | exact Blk.kp (Blk.dr (Blk.al (Blk.newAt (by first | rfl | simp) [.bool a] 4) _)) hk2 (by decide) (by omega)) (by omega) HL2.out).mono ?_; rintro e w3 ⟨rfl, hw3, hk3⟩; have hs3 := hk3.size; have B3 : Blk w3 w.heap.size [.string n, .bool a] 60 := Blk.kp (by repeat (first | exact B2 | refine Blk.al ?_ _)) hk3 (by decide) (by omega)))
  all_goals go_end0
  all_goals refine ⟨rfl, ?_, ?_⟩
  all_goals first | (rw [tyB, ← List.append_assoc]; exact hw3) | skip
  all_goals refine Pk.Kp.trans ?_ hk3
  all_goals repeat (refine kp_al ?_ hb _)
  all_goals refine Pk.Kp.trans ?_ hk2
  all_goals refine kp_dr ?_
  all_goals repeat (refine kp_al ?_ hb _)
  all_goals exact Pk.Kp.refl _ _ _
end Go.Proofs.YtomlbfkkhhhfkaaDoor.Fc
