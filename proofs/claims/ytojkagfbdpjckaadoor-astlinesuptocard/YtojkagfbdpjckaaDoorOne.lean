/-
  Parts of an expression that are laid on a page: one kid, two, all of them.
-/
import Derived.Test.YtojkagfbdpjckaaDoorMem
import Derived.Test.YtojkagfbdpjckaaDoorPut
import Derived.Lib.LaidTab
import Derived.Lib.ItoaMem
namespace Go.Proofs.YtojkagfbdpjckaaDoor
open Go.RowKit

theorem Pg.below {B b : Nat} {bs : List Value} {w w' : World} (h : Pg B b bs w) (hb : Below w.heap.size w w') : Pg B b bs w' := by
  have key : ∀ p, Lib.BuilderAtF 64 5 B b p bs w → Lib.BuilderAtF 64 5 B b p bs w' := by
    intro p h
    have hlt := h.lt
    obtain ⟨hB, v, hbk, hown, hne⟩ := h
    exact ⟨hB, v, (hb.block b hlt).trans hbk, hown.kept (row := none) ⟨hb.os, hb.tape, hb.output, hb.size, fun k hk _ => hb.block k hk⟩ (by cases h : v.ownBlock <;> simp), hne⟩
  rcases h with h | h
  · exact .inl (key _ h)
  · exact .inr (key _ h)
theorem Pg.alloc {B b : Nat} {bs : List Value} {w : World} (h : Pg B b bs w) (o : Obj) : Pg B b bs (w.alloc o) := h.below ((Below.refl _ _).alloc (Nat.le_refl _) o)
theorem Pg.lt {B b : Nat} {bs : List Value} {w : World} (h : Pg B b bs w) : b < w.heap.size := by
  rcases h with h | h
  · exact h.lt
  · exact h.lt
theorem kept_below {b : Option Nat} {w w' : World} (hb : Below w.heap.size w w') : Lib.OthersKept 5 b w w' := fun k _ hk _ _ => (hb.block k (Array.getElem?_eq_some_iff.1 hk).1).trans hk
theorem Lays.new {B b : Nat} {l : Bs} {w w1 w2 : World} (hB : B ≤ w.heap.size) (hb : Below w.heap.size w w1) (h : Lays B b l w1 w2) : Lays B b l w w2 := ⟨h.1, (hb.mono hB).trans h.2.1, (kept_below hb).trans h.2.2⟩
theorem Lays.then {B b : Nat} {l : Bs} {w w1 w2 : World} (h : Lays B b l w w1) (hB : B ≤ w.heap.size) (hb : Below w1.heap.size w1 w2) : Lays B b l w w2 := ⟨h.1.below hb, h.2.1.trans (hb.mono (Nat.le_trans hB h.size)), h.2.2.trans (kept_below hb)⟩
theorem Lays.row {B b g : Nat} {l : Bs} {w w' : World} {cs : Array Value} {t : TypeId} {fz : Nat × Nat} (h : Lays B b l w w') (hg : w.heap[g]? = some (.cells cs t fz)) (hgb : g ≠ b) (ht : t ≠ 5) : w'.heap[g]? = some (.cells cs t fz) := kept_row h.2.2 hg hgb ht
theorem below1 (w : World) (o : Obj) : Below w.heap.size w (w.alloc o) := (Below.refl _ _).alloc (Nat.le_refl _) o
theorem below2 (w : World) (o p : Obj) : Below w.heap.size w ((w.alloc o).alloc p) := (below1 w o).alloc (by simp) p

theorem heap_al1 (w : World) (o : Obj) : (w.alloc o).heap[w.heap.size]? = some o := by
  show (w.heap.push o)[w.heap.size]? = some o
  simp
theorem heap_al2 (w : World) (o p : Obj) : ((w.alloc o).alloc p).heap[w.heap.size]? = some o := by
  show ((w.heap.push o).push p)[w.heap.size]? = some o
  simp [Array.getElem?_push]
theorem heap_al3 (w : World) (o p : Obj) : ((w.alloc o).alloc p).heap[w.heap.size + 1]? = some p := by
  have h : (w.heap.push o).size = w.heap.size + 1 := by simp
  show ((w.heap.push o).push p)[w.heap.size + 1]? = some p
  rw [← h, Array.getElem?_push_size]
theorem cell_row {w : World} {g : Nat} {cs : Array Value} {t : TypeId} {fz : Nat × Nat} (h : w.heap[g]? = some (.cells cs t fz)) (j : Nat) {v : Value} (hv : cs[j]? = some v) : w.cell? ⟨g, j, none⟩ = some v := by rw [Lib.cell_of_heap h]; exact hv

theorem put1 (B b g : Nat) (l : Bs) (x : ByteArray) (w : World) (h : Pg B b (Lib.byteCells l) w) (hg : w.heap[g]? = some (.cells #[.string x] 9 (0, 0))) (hgb : g ≠ b) (hlen : l.length + x.data.toList.length ≤ 140737488355328) (hBw : B ≤ w.heap.size) :
    Calls Tryd.prog 39 #[.pointer (some ⟨b, 0, none⟩), .slice (some ⟨g, 0, none⟩) 1 1] w fun e w' => e = .returned (.tuple #[]) ∧ Lays B b (l ++ x.data.toList) w w' := by
  have := put_any B b g 1 l [x] w h hg hgb (by simpa [cat] using hlen) (by simp [maxLen]) hBw
  simpa [cat] using this
theorem put3 (B b g : Nat) (l : Bs) (x y z : ByteArray) (w : World) (h : Pg B b (Lib.byteCells l) w) (hg : w.heap[g]? = some (.cells #[.string x, .string y, .string z] 9 (0, 0))) (hgb : g ≠ b) (hlen : l.length + (x.data.toList ++ y.data.toList ++ z.data.toList).length ≤ 140737488355328) (hBw : B ≤ w.heap.size) :
    Calls Tryd.prog 39 #[.pointer (some ⟨b, 0, none⟩), .slice (some ⟨g, 0, none⟩) 3 3] w fun e w' => e = .returned (.tuple #[]) ∧ Lays B b (l ++ (x.data.toList ++ y.data.toList ++ z.data.toList)) w w' := by
  have := put_any B b g 3 l [x, y, z] w h hg hgb (by simp [cat] at hlen ⊢; omega) (by simp [maxLen]) hBw
  simpa [cat] using this

abbrev Pow (w : World) : Prop := Lib.TabIs Tryd.prog w "internal/strconv.uint64pow10" .u64 Lib.pow10Tab
theorem gPow : Tryd.prog.globalNamed "internal/strconv.uint64pow10" = some 0 := by kernel_rfl
theorem Pow.pos {w : World} (h : Pow w) : 0 < w.heap.size := by
  unfold Pow Lib.TabIs World.var? at h
  rw [gPow] at h
  rcases Nat.eq_zero_or_pos w.heap.size with e | e
  · simp [Array.getElem?_eq_none (Nat.le_of_eq e)] at h
  · exact e
theorem Pow.keep {B : Nat} {w w' : World} (h : Pow w) (h0 : 0 < B) (hb : Below B w w') : Pow w' := by
  unfold Pow Lib.TabIs World.var? at *
  rw [gPow] at h ⊢
  have e := hb.block 0 h0
  simpa [e] using h

/-- An expression can be laid on the page b, in every world that is W but for what is new. -/
def LayOK (W : World) (b : Nat) (t : Tree) (kk : Value) : Prop :=
  ∀ (l : Bs) (w : World), Below W.heap.size W w → Pg W.heap.size b (Lib.byteCells l) w → l.length + (tx t).length ≤ 140737488355328 →
    Calls Tryd.prog 28 #[exprV t kk, .pointer (some ⟨b, 0, none⟩)] w fun e w' => e = .returned (.tuple #[]) ∧ Lays W.heap.size b (l ++ tx t) w w'

theorem nt_kid {W : World} {b : Nat} {Q : Tree → Value → Prop} {t : Tree} {kk : Value} (hQ : ∀ t kk, t.ok → Q t kk → LayOK W b t kk) (hz : LayOK W b Tree.zero (.slice none 0 0)) (h : t.ok ∧ Q t kk ∨ t = Tree.zero ∧ kk = .slice none 0 0) : LayOK W b t kk := by
  rcases h with ⟨h1, h2⟩ | ⟨rfl, rfl⟩
  · exact hQ _ _ h1 h2
  · exact hz

set_option maxHeartbeats 1000000 in
theorem one_any (W : World) (b : Nat) (Q : Tree → Value → Prop) (hQ : ∀ t kk, t.ok → Q t kk → LayOK W b t kk) (hz : LayOK W b Tree.zero (.slice none 0 0)) (kind ln co num : Int) (name tn : ByteArray) (ta : Bool) (kids : List Tree) (fn : ByteArray) (fa : Bool) (ow : ByteArray)
    (ka : Option Addr) (kn kc : Nat) (hk : Kids W Q kids (.slice ka kn kc)) (x y : ByteArray) (l : Bs) (w : World) (hw : Below W.heap.size W w) (hp : Pg W.heap.size b (Lib.byteCells l) w) (hlen : l.length + (one x.data.toList y.data.toList (kids.map tx)).length ≤ 140737488355328) :
    Calls Tryd.prog 42 #[exprV (.mk kind ln co num name tn ta kids fn fa ow) (.slice ka kn kc), .pointer (some ⟨b, 0, none⟩), .string x, .string y] w fun e w' => e = .returned (.tuple #[]) ∧ Lays W.heap.size b (l ++ one x.data.toList y.data.toList (kids.map tx)) w w' := by
  have hB := hw.size
  have hlt := hp.lt
  have hgb : w.heap.size ≠ b := by omega
  have hgb1 : w.heap.size + 1 ≠ b := by omega
  have hlen2 : l.length + (x.data.toList.length + (tx (kids.getD 0 Tree.zero)).length + y.data.toList.length) ≤ 140737488355328 := by
    have := hlen; simp only [one, List.length_append, nt_map] at this; omega
  have HL := Lib.hid hlen2
  clear hlen hlen2
  unfold exprV exprC
  go_enter Tryd.func42, Tryd.ntmps42
  go_wp2_with fail
  refine (put1 W.heap.size b (w.heap.size + 1) l x _ ((hp.alloc _).alloc _) (heap_al3 _ _ _) hgb1 (by have := HL.out; omega) (by simp; omega)).mono ?_
  rintro e w1 ⟨rfl, hL1⟩
  have hr1 := hL1.row (heap_al2 _ _ _) hgb (by decide)
  have c7 := cell_row hr1 7 rfl
  have hs1 : w.heap.size + 2 ≤ w1.heap.size := by have := hL1.size; simpa using this
  have hw1 : Below W.heap.size W w1 := (hw.trans ((below2 w _ _).mono hB)).trans hL1.2.1
  have HR1 := Lib.hid hr1
  have HL1 := Lib.hid hL1
  clear hr1 hL1
  go_wp2_with fail
  refine (nth_any W Q kids _ hk 0 w1 hw1).mono ?_
  rintro e w2 ⟨t, kk, rfl, ht, hcase, hb2⟩
  have hok := nt_kid hQ hz hcase
  have HT := Lib.hid ht
  clear ht hcase
  have HL2 := Lib.hid (HL1.out.then (by simp; omega) hb2)
  have hs2 := hb2.size
  have hw2 : Below W.heap.size W w2 := hw1.trans (hb2.mono (by omega))
  go_wp2_with fail
  refine (hok _ w2 hw2 HL2.out.1 (by have := HL.out; rw [HT.out, List.length_append]; omega)).mono ?_
  rintro e w3 ⟨rfl, hL3⟩
  have HL3 := Lib.hid (HL2.out.trans hL3)
  have hs3 := hL3.size
  clear hL3
  go_wp2_with fail
  refine (put1 W.heap.size b w3.heap.size _ y _ (HL3.out.1.alloc _) (heap_al1 _ _) (by have := HL3.out.1.lt; omega) (by have := HL.out; rw [HT.out]; simp only [List.length_append]; omega) (by simp; omega)).mono ?_
  rintro e w4 ⟨rfl, hL4⟩
  have hfin : Lays W.heap.size b (l ++ one x.data.toList y.data.toList (kids.map tx)) w w4 := by
    have h1 := Lays.new (by omega) (below1 w3 _) hL4
    have h2 := Lays.new hB (below2 w _ _) (HL3.out.trans h1)
    rw [HT.out] at h2
    simpa only [one, nt_map, List.append_assoc] using h2
  clear hL4
  go_wp2
  go_end0
  exact ⟨rfl, hfin⟩
end Go.Proofs.YtojkagfbdpjckaaDoor
