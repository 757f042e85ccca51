/-
  Statements that are laid on a page: those without blocks.
-/
import Derived.Test.YtojkagfbdpjckaaDoorLnC
import Derived.Test.YtojkagfbdpjckaaDoorLay
namespace Go.Proofs.YtojkagfbdpjckaaDoor
open Go.RowKit

/-- A statement can be laid on the page b, in every world that is W but for what is new. -/
def SLay (W : World) (b : Nat) (s : St) (cs : List Value) : Prop :=
  ∀ (deep : Nat) (l : Bs) (w : World), Below W.heap.size W w → Pg W.heap.size b (Lib.byteCells l) w → l.length + (sx deep s).length ≤ 140737488355328 →
    Calls Tryd.prog 38 #[.agg cs.toArray, .pointer (some ⟨b, 0, none⟩), .int .i64 deep] w fun e w' => e = .returned (.tuple #[]) ∧ Lays W.heap.size b (l ++ sx deep s) w w'
/-- So can statements, one behind the other. -/
def SsLay (W : World) (b : Nat) (ss : List St) (v : Value) : Prop :=
  ∀ (deep : Nat) (l : Bs) (w : World), deep ≤ 140737488355328 + 1 → Below W.heap.size W w → Pg W.heap.size b (Lib.byteCells l) w → l.length + (sxs deep ss).length ≤ 140737488355328 →
    Calls Tryd.prog 55 #[.pointer (some ⟨b, 0, none⟩), v, .int .i64 deep] w fun e w' => e = .returned (.tuple #[]) ∧ Lays W.heap.size b (l ++ sxs deep ss) w w'
theorem ex_lay (W : World) (hpow : Pow W) (b : Nat) : ∀ t kk, t.ok → Ex W t kk → LayOK W b t kk := fun t kk ht h => h.2.elim fun d hd => lay_any W hpow b d t kk ht hd

set_option maxHeartbeats 4000000 in
set_option maxRecDepth 100000 in
theorem st_ret (W : World) (hpow : Pow W) (b : Nat) (ln co : Int) (name tn : ByteArray) (ta : Bool) (e : List Tree) (th el : List St) (a1 : Option Addr) (n1 c1 : Nat) (a2 : Option Addr) (n2 c2 : Nat) (a3 : Option Addr) (n3 c3 : Nat) (h1 : Sl W 11 (ExR W) e (.slice a1 n1 c1)) :
    SLay W b (.mk 6 ln co name tn ta e th el) (stC 6 ln co name tn ta (.slice a1 n1 c1) (.slice a2 n2 c2) (.slice a3 n3 c3)) := by
  intro deep l w hw hp hlen
  have hz := lay_zero W b
  have hQ := ex_lay W hpow b
  have hk := h1.kids
  have hB := hw.size
  have hlt := hp.lt
  have hgb : w.heap.size ≠ b := by omega
  have htx : sx deep (.mk 6 ln co name tn ta e th el) = tabs deep ++ ([114, 101, 116, 117, 114, 110, 32] ++ (nt (e.map tx) 0 ++ [59, 10])) := by
    rw [sx]
    rfl
  rw [htx] at hlen ⊢
  simp only [nt_map] at hlen ⊢
  have hl2 : l.length + (deep + (7 + ((tx (e.getD 0 Tree.zero)).length + 2))) ≤ 140737488355328 := by
    have h := hlen
    simp only [List.length_append, List.length_cons, List.length_nil, tabs_len] at h
    omega
  have HL := Lib.hid hl2
  clear hlen htx hl2
  unfold stC
  go_enter Tryd.func38, Tryd.ntmps38
  go_wp2_with fail
  refine (tabs49 W.heap.size b l deep _ (hp.alloc _) (by have := HL.out; omega) (by simp; omega)).mono ?_
  rintro e w1 ⟨rfl, hL1⟩
  have hr1 := hL1.row (heap_al1 w _) hgb (by decide)
  have HL1 := Lib.hid (Lays.new hB (below1 w _) hL1)
  have hs1 : w.heap.size + 1 ≤ w1.heap.size := by have := hL1.size; simpa using this
  have hw1 : Below W.heap.size W w1 := hw.trans HL1.out.2.1
  clear hL1
  have d0 := cell_row hr1 0 rfl
  have d1 := cell_row hr1 1 rfl
  have d2 := cell_row hr1 2 rfl
  have d3 := cell_row hr1 3 rfl
  have d4 := cell_row hr1 4 rfl
  have d5 := cell_row hr1 5 rfl
  have d6 := cell_row hr1 6 rfl
  have d7 := cell_row hr1 7 rfl
  have d8 := cell_row hr1 8 rfl
  go_wp2_with fail
  refine (put1 W.heap.size b w1.heap.size _ ⟨#[114, 101, 116, 117, 114, 110, 32]⟩ _ (HL1.out.1.alloc _) (heap_al1 _ _) (by have := HL1.out.1.lt; omega) (by have h := HL.out; simp [tabs_len] at h ⊢; omega) (by simp; omega)).mono ?_
  rintro e w2 ⟨rfl, hL2⟩
  have hr1 := hL2.row ((below1 w1 _).block _ (by omega) |>.trans hr1) hgb (by decide)
  have HL2 := Lib.hid (HL1.out.trans (Lays.new (by omega) (below1 w1 _) hL2))
  have hs2 : w.heap.size + 1 ≤ w2.heap.size := by have := hL2.size; simp at this; omega
  have hw2 : Below W.heap.size W w2 := hw.trans HL2.out.2.1
  clear hL2
  clear d0 d1 d2 d3 d4 d5 d6 d7 d8
  have d0 := cell_row hr1 0 rfl
  have d1 := cell_row hr1 1 rfl
  have d2 := cell_row hr1 2 rfl
  have d3 := cell_row hr1 3 rfl
  have d4 := cell_row hr1 4 rfl
  have d5 := cell_row hr1 5 rfl
  have d6 := cell_row hr1 6 rfl
  have d7 := cell_row hr1 7 rfl
  have d8 := cell_row hr1 8 rfl
  go_wp2_with fail
  refine (nth_any W _ e _ hk 0 w2 hw2).mono ?_
  rintro ee w3 ⟨t0, kk, rfl, ht, hcase, hb⟩
  have hok := nt_kid hQ hz hcase
  have HT0 := Lib.hid ht
  clear ht hcase
  have hr1 := (hb.block _ (by omega)).trans hr1
  have HL3 := Lib.hid (HL2.out.then hB hb)
  have hs3 : w.heap.size + 1 ≤ w3.heap.size := by have := hb.size; omega
  have hw3 : Below W.heap.size W w3 := hw.trans HL3.out.2.1
  clear hb
  go_wp2_with fail
  refine (hok _ w3 hw3 HL3.out.1 (by have h := HL.out; rw [HT0.out]; simp [tabs_len] at h ⊢; omega)).mono ?_
  rintro ee w4 ⟨rfl, hL4⟩
  have hr1 := hL4.row hr1 hgb (by decide)
  have HL4 := Lib.hid (HL3.out.trans hL4)
  have hs4 : w.heap.size + 1 ≤ w4.heap.size := by have := hL4.size; omega
  have hw4 : Below W.heap.size W w4 := hw.trans HL4.out.2.1
  clear hL4 hok
  go_wp2_with fail
  refine (put1 W.heap.size b w4.heap.size _ ⟨#[59, 10]⟩ _ (HL4.out.1.alloc _) (heap_al1 _ _) (by have := HL4.out.1.lt; omega) (by have h := HL.out; rw [HT0.out]; simp [tabs_len] at h ⊢; omega) (by simp; omega)).mono ?_
  rintro e w5 ⟨rfl, hL5⟩
  have hr1 := hL5.row ((below1 w4 _).block _ (by omega) |>.trans hr1) hgb (by decide)
  have HL5 := Lib.hid (HL4.out.trans (Lays.new (by omega) (below1 w4 _) hL5))
  have hs5 : w.heap.size + 1 ≤ w5.heap.size := by have := hL5.size; simp at this; omega
  have hw5 : Below W.heap.size W w5 := hw.trans HL5.out.2.1
  clear hL5
  have hfin := HL5.out
  go_wp2
  go_end0
  refine ⟨rfl, ?_⟩
  rw [HT0.out] at hfin
  simpa only [List.append_assoc, List.cons_append, List.nil_append] using hfin
set_option maxHeartbeats 4000000 in
set_option maxRecDepth 100000 in
theorem st_print (W : World) (hpow : Pow W) (b : Nat) (ln co : Int) (name tn : ByteArray) (ta : Bool) (e : List Tree) (th el : List St) (a1 : Option Addr) (n1 c1 : Nat) (a2 : Option Addr) (n2 c2 : Nat) (a3 : Option Addr) (n3 c3 : Nat) (h1 : Sl W 11 (ExR W) e (.slice a1 n1 c1)) :
    SLay W b (.mk 7 ln co name tn ta e th el) (stC 7 ln co name tn ta (.slice a1 n1 c1) (.slice a2 n2 c2) (.slice a3 n3 c3)) := by
  intro deep l w hw hp hlen
  have hz := lay_zero W b
  have hQ := ex_lay W hpow b
  have hk := h1.kids
  have hB := hw.size
  have hlt := hp.lt
  have hgb : w.heap.size ≠ b := by omega
  have htx : sx deep (.mk 7 ln co name tn ta e th el) = tabs deep ++ ([112, 114, 105, 110, 116, 32] ++ (nt (e.map tx) 0 ++ [59, 10])) := by
    rw [sx]
    rfl
  rw [htx] at hlen ⊢
  simp only [nt_map] at hlen ⊢
  have hl2 : l.length + (deep + (6 + ((tx (e.getD 0 Tree.zero)).length + 2))) ≤ 140737488355328 := by
    have h := hlen
    simp only [List.length_append, List.length_cons, List.length_nil, tabs_len] at h
    omega
  have HL := Lib.hid hl2
  clear hlen htx hl2
  unfold stC
  go_enter Tryd.func38, Tryd.ntmps38
  go_wp2_with fail
  refine (tabs49 W.heap.size b l deep _ (hp.alloc _) (by have := HL.out; omega) (by simp; omega)).mono ?_
  rintro e w1 ⟨rfl, hL1⟩
  have hr1 := hL1.row (heap_al1 w _) hgb (by decide)
  have HL1 := Lib.hid (Lays.new hB (below1 w _) hL1)
  have hs1 : w.heap.size + 1 ≤ w1.heap.size := by have := hL1.size; simpa using this
  have hw1 : Below W.heap.size W w1 := hw.trans HL1.out.2.1
  clear hL1
  have d0 := cell_row hr1 0 rfl
  have d1 := cell_row hr1 1 rfl
  have d2 := cell_row hr1 2 rfl
  have d3 := cell_row hr1 3 rfl
  have d4 := cell_row hr1 4 rfl
  have d5 := cell_row hr1 5 rfl
  have d6 := cell_row hr1 6 rfl
  have d7 := cell_row hr1 7 rfl
  have d8 := cell_row hr1 8 rfl
  go_wp2_with fail
  refine (put1 W.heap.size b w1.heap.size _ ⟨#[112, 114, 105, 110, 116, 32]⟩ _ (HL1.out.1.alloc _) (heap_al1 _ _) (by have := HL1.out.1.lt; omega) (by have h := HL.out; simp [tabs_len] at h ⊢; omega) (by simp; omega)).mono ?_
  rintro e w2 ⟨rfl, hL2⟩
  have hr1 := hL2.row ((below1 w1 _).block _ (by omega) |>.trans hr1) hgb (by decide)
  have HL2 := Lib.hid (HL1.out.trans (Lays.new (by omega) (below1 w1 _) hL2))
  have hs2 : w.heap.size + 1 ≤ w2.heap.size := by have := hL2.size; simp at this; omega
  have hw2 : Below W.heap.size W w2 := hw.trans HL2.out.2.1
  clear hL2
  clear d0 d1 d2 d3 d4 d5 d6 d7 d8
  have d0 := cell_row hr1 0 rfl
  have d1 := cell_row hr1 1 rfl
  have d2 := cell_row hr1 2 rfl
  have d3 := cell_row hr1 3 rfl
  have d4 := cell_row hr1 4 rfl
  have d5 := cell_row hr1 5 rfl
  have d6 := cell_row hr1 6 rfl
  have d7 := cell_row hr1 7 rfl
  have d8 := cell_row hr1 8 rfl
  go_wp2_with fail
  refine (nth_any W _ e _ hk 0 w2 hw2).mono ?_
  rintro ee w3 ⟨t0, kk, rfl, ht, hcase, hb⟩
  have hok := nt_kid hQ hz hcase
  have HT0 := Lib.hid ht
  clear ht hcase
  have hr1 := (hb.block _ (by omega)).trans hr1
  have HL3 := Lib.hid (HL2.out.then hB hb)
  have hs3 : w.heap.size + 1 ≤ w3.heap.size := by have := hb.size; omega
  have hw3 : Below W.heap.size W w3 := hw.trans HL3.out.2.1
  clear hb
  go_wp2_with fail
  refine (hok _ w3 hw3 HL3.out.1 (by have h := HL.out; rw [HT0.out]; simp [tabs_len] at h ⊢; omega)).mono ?_
  rintro ee w4 ⟨rfl, hL4⟩
  have hr1 := hL4.row hr1 hgb (by decide)
  have HL4 := Lib.hid (HL3.out.trans hL4)
  have hs4 : w.heap.size + 1 ≤ w4.heap.size := by have := hL4.size; omega
  have hw4 : Below W.heap.size W w4 := hw.trans HL4.out.2.1
  clear hL4 hok
  go_wp2_with fail
  refine (put1 W.heap.size b w4.heap.size _ ⟨#[59, 10]⟩ _ (HL4.out.1.alloc _) (heap_al1 _ _) (by have := HL4.out.1.lt; omega) (by have h := HL.out; rw [HT0.out]; simp [tabs_len] at h ⊢; omega) (by simp; omega)).mono ?_
  rintro e w5 ⟨rfl, hL5⟩
  have hr1 := hL5.row ((below1 w4 _).block _ (by omega) |>.trans hr1) hgb (by decide)
  have HL5 := Lib.hid (HL4.out.trans (Lays.new (by omega) (below1 w4 _) hL5))
  have hs5 : w.heap.size + 1 ≤ w5.heap.size := by have := hL5.size; simp at this; omega
  have hw5 : Below W.heap.size W w5 := hw.trans HL5.out.2.1
  clear hL5
  have hfin := HL5.out
  go_wp2
  go_end0
  refine ⟨rfl, ?_⟩
  rw [HT0.out] at hfin
  simpa only [List.append_assoc, List.cons_append, List.nil_append] using hfin
set_option maxHeartbeats 4000000 in
set_option maxRecDepth 100000 in
theorem st_do (W : World) (hpow : Pow W) (b : Nat) (does : Int) (ln co : Int) (name tn : ByteArray) (ta : Bool) (e : List Tree) (th el : List St) (a1 : Option Addr) (n1 c1 : Nat) (a2 : Option Addr) (n2 c2 : Nat) (a3 : Option Addr) (n3 c3 : Nat) (h1 : Sl W 11 (ExR W) e (.slice a1 n1 c1)) (c1x : ¬ does = 1) (c2x : ¬ does = 2) (c4x : ¬ does = 4) (c5x : ¬ does = 5) (c6x : ¬ does = 6) (c7x : ¬ does = 7) :
    SLay W b (.mk does ln co name tn ta e th el) (stC does ln co name tn ta (.slice a1 n1 c1) (.slice a2 n2 c2) (.slice a3 n3 c3)) := by
  intro deep l w hw hp hlen
  have hz := lay_zero W b
  have hQ := ex_lay W hpow b
  have hk := h1.kids
  have hB := hw.size
  have hlt := hp.lt
  have hgb : w.heap.size ≠ b := by omega
  have htx : sx deep (.mk does ln co name tn ta e th el) = tabs deep ++ (nt (e.map tx) 0 ++ [59, 10]) := by
    rw [sx]
    unfold sxk; simp only [if_neg c1x, if_neg c2x, if_neg c4x, if_neg c5x, if_neg c6x, if_neg c7x]
  rw [htx] at hlen ⊢
  simp only [nt_map] at hlen ⊢
  have hl2 : l.length + (deep + ((tx (e.getD 0 Tree.zero)).length + 2)) ≤ 140737488355328 := by
    have h := hlen
    simp only [List.length_append, List.length_cons, List.length_nil, tabs_len] at h
    omega
  have HL := Lib.hid hl2
  clear hlen htx hl2
  unfold stC
  go_enter Tryd.func38, Tryd.ntmps38
  go_wp2_with fail
  refine (tabs49 W.heap.size b l deep _ (hp.alloc _) (by have := HL.out; omega) (by simp; omega)).mono ?_
  rintro e w1 ⟨rfl, hL1⟩
  have hr1 := hL1.row (heap_al1 w _) hgb (by decide)
  have HL1 := Lib.hid (Lays.new hB (below1 w _) hL1)
  have hs1 : w.heap.size + 1 ≤ w1.heap.size := by have := hL1.size; simpa using this
  have hw1 : Below W.heap.size W w1 := hw.trans HL1.out.2.1
  clear hL1
  have q1 : decide (does = 1) = false := decide_eq_false c1x
  have d0 := cell_row hr1 0 rfl
  have d1 := cell_row hr1 1 rfl
  have d2 := cell_row hr1 2 rfl
  have d3 := cell_row hr1 3 rfl
  have d4 := cell_row hr1 4 rfl
  have d5 := cell_row hr1 5 rfl
  have d6 := cell_row hr1 6 rfl
  have d7 := cell_row hr1 7 rfl
  have d8 := cell_row hr1 8 rfl
  go_wp2_with fail
  refine (nth_any W _ e _ hk 0 w1 hw1).mono ?_
  rintro ee w2 ⟨t0, kk, rfl, ht, hcase, hb⟩
  have hok := nt_kid hQ hz hcase
  have HT0 := Lib.hid ht
  clear ht hcase
  have hr1 := (hb.block _ (by omega)).trans hr1
  have HL2 := Lib.hid (HL1.out.then hB hb)
  have hs2 : w.heap.size + 1 ≤ w2.heap.size := by have := hb.size; omega
  have hw2 : Below W.heap.size W w2 := hw.trans HL2.out.2.1
  clear hb
  go_wp2_with fail
  refine (hok _ w2 hw2 HL2.out.1 (by have h := HL.out; rw [HT0.out]; simp [tabs_len] at h ⊢; omega)).mono ?_
  rintro ee w3 ⟨rfl, hL3⟩
  have hr1 := hL3.row hr1 hgb (by decide)
  have HL3 := Lib.hid (HL2.out.trans hL3)
  have hs3 : w.heap.size + 1 ≤ w3.heap.size := by have := hL3.size; omega
  have hw3 : Below W.heap.size W w3 := hw.trans HL3.out.2.1
  clear hL3 hok
  go_wp2_with fail
  refine (put1 W.heap.size b w3.heap.size _ ⟨#[59, 10]⟩ _ (HL3.out.1.alloc _) (heap_al1 _ _) (by have := HL3.out.1.lt; omega) (by have h := HL.out; rw [HT0.out]; simp [tabs_len] at h ⊢; omega) (by simp; omega)).mono ?_
  rintro e w4 ⟨rfl, hL4⟩
  have hr1 := hL4.row ((below1 w3 _).block _ (by omega) |>.trans hr1) hgb (by decide)
  have HL4 := Lib.hid (HL3.out.trans (Lays.new (by omega) (below1 w3 _) hL4))
  have hs4 : w.heap.size + 1 ≤ w4.heap.size := by have := hL4.size; simp at this; omega
  have hw4 : Below W.heap.size W w4 := hw.trans HL4.out.2.1
  clear hL4
  have hfin := HL4.out
  go_wp2
  go_end0
  refine ⟨rfl, ?_⟩
  rw [HT0.out] at hfin
  simpa only [List.append_assoc, List.cons_append, List.nil_append] using hfin
set_option maxHeartbeats 4000000 in
set_option maxRecDepth 100000 in
theorem st_put (W : World) (hpow : Pow W) (b : Nat) (ln co : Int) (name tn : ByteArray) (ta : Bool) (e : List Tree) (th el : List St) (a1 : Option Addr) (n1 c1 : Nat) (a2 : Option Addr) (n2 c2 : Nat) (a3 : Option Addr) (n3 c3 : Nat) (h1 : Sl W 11 (ExR W) e (.slice a1 n1 c1)) :
    SLay W b (.mk 2 ln co name tn ta e th el) (stC 2 ln co name tn ta (.slice a1 n1 c1) (.slice a2 n2 c2) (.slice a3 n3 c3)) := by
  intro deep l w hw hp hlen
  have hz := lay_zero W b
  have hQ := ex_lay W hpow b
  have hk := h1.kids
  have hB := hw.size
  have hlt := hp.lt
  have hgb : w.heap.size ≠ b := by omega
  have htx : sx deep (.mk 2 ln co name tn ta e th el) = tabs deep ++ (nt (e.map tx) 0 ++ ([32, 61, 32] ++ (nt (e.map tx) 1 ++ [59, 10]))) := by
    rw [sx]
    rfl
  rw [htx] at hlen ⊢
  simp only [nt_map] at hlen ⊢
  have hl2 : l.length + (deep + ((tx (e.getD 0 Tree.zero)).length + (3 + ((tx (e.getD 1 Tree.zero)).length + 2)))) ≤ 140737488355328 := by
    have h := hlen
    simp only [List.length_append, List.length_cons, List.length_nil, tabs_len] at h
    omega
  have HL := Lib.hid hl2
  clear hlen htx hl2
  unfold stC
  go_enter Tryd.func38, Tryd.ntmps38
  go_wp2_with fail
  refine (tabs49 W.heap.size b l deep _ (hp.alloc _) (by have := HL.out; omega) (by simp; omega)).mono ?_
  rintro e w1 ⟨rfl, hL1⟩
  have hr1 := hL1.row (heap_al1 w _) hgb (by decide)
  have HL1 := Lib.hid (Lays.new hB (below1 w _) hL1)
  have hs1 : w.heap.size + 1 ≤ w1.heap.size := by have := hL1.size; simpa using this
  have hw1 : Below W.heap.size W w1 := hw.trans HL1.out.2.1
  clear hL1
  have d0 := cell_row hr1 0 rfl
  have d1 := cell_row hr1 1 rfl
  have d2 := cell_row hr1 2 rfl
  have d3 := cell_row hr1 3 rfl
  have d4 := cell_row hr1 4 rfl
  have d5 := cell_row hr1 5 rfl
  have d6 := cell_row hr1 6 rfl
  have d7 := cell_row hr1 7 rfl
  have d8 := cell_row hr1 8 rfl
  go_wp2_with fail
  refine (nth_any W _ e _ hk 0 w1 hw1).mono ?_
  rintro ee w2 ⟨t0, kk, rfl, ht, hcase, hb⟩
  have hok := nt_kid hQ hz hcase
  have HT0 := Lib.hid ht
  clear ht hcase
  have hr1 := (hb.block _ (by omega)).trans hr1
  have HL2 := Lib.hid (HL1.out.then hB hb)
  have hs2 : w.heap.size + 1 ≤ w2.heap.size := by have := hb.size; omega
  have hw2 : Below W.heap.size W w2 := hw.trans HL2.out.2.1
  clear hb
  go_wp2_with fail
  refine (hok _ w2 hw2 HL2.out.1 (by have h := HL.out; rw [HT0.out]; simp [tabs_len] at h ⊢; omega)).mono ?_
  rintro ee w3 ⟨rfl, hL3⟩
  have hr1 := hL3.row hr1 hgb (by decide)
  have HL3 := Lib.hid (HL2.out.trans hL3)
  have hs3 : w.heap.size + 1 ≤ w3.heap.size := by have := hL3.size; omega
  have hw3 : Below W.heap.size W w3 := hw.trans HL3.out.2.1
  clear hL3 hok
  clear d0 d1 d2 d3 d4 d5 d6 d7 d8
  go_wp2_with fail
  refine (put1 W.heap.size b w3.heap.size _ ⟨#[32, 61, 32]⟩ _ (HL3.out.1.alloc _) (heap_al1 _ _) (by have := HL3.out.1.lt; omega) (by have h := HL.out; rw [HT0.out]; simp [tabs_len] at h ⊢; omega) (by simp; omega)).mono ?_
  rintro e w4 ⟨rfl, hL4⟩
  have hr1 := hL4.row ((below1 w3 _).block _ (by omega) |>.trans hr1) hgb (by decide)
  have HL4 := Lib.hid (HL3.out.trans (Lays.new (by omega) (below1 w3 _) hL4))
  have hs4 : w.heap.size + 1 ≤ w4.heap.size := by have := hL4.size; simp at this; omega
  have hw4 : Below W.heap.size W w4 := hw.trans HL4.out.2.1
  clear hL4
  have d0 := cell_row hr1 0 rfl
  have d1 := cell_row hr1 1 rfl
  have d2 := cell_row hr1 2 rfl
  have d3 := cell_row hr1 3 rfl
  have d4 := cell_row hr1 4 rfl
  have d5 := cell_row hr1 5 rfl
  have d6 := cell_row hr1 6 rfl
  have d7 := cell_row hr1 7 rfl
  have d8 := cell_row hr1 8 rfl
  go_wp2_with fail
  refine (nth_any W _ e _ hk 1 w4 hw4).mono ?_
  rintro ee w5 ⟨t1, kk, rfl, ht, hcase, hb⟩
  have hok := nt_kid hQ hz hcase
  have HT1 := Lib.hid ht
  clear ht hcase
  have hr1 := (hb.block _ (by omega)).trans hr1
  have HL5 := Lib.hid (HL4.out.then hB hb)
  have hs5 : w.heap.size + 1 ≤ w5.heap.size := by have := hb.size; omega
  have hw5 : Below W.heap.size W w5 := hw.trans HL5.out.2.1
  clear hb
  go_wp2_with fail
  refine (hok _ w5 hw5 HL5.out.1 (by have h := HL.out; rw [HT0.out]; rw [HT1.out]; simp [tabs_len] at h ⊢; omega)).mono ?_
  rintro ee w6 ⟨rfl, hL6⟩
  have hr1 := hL6.row hr1 hgb (by decide)
  have HL6 := Lib.hid (HL5.out.trans hL6)
  have hs6 : w.heap.size + 1 ≤ w6.heap.size := by have := hL6.size; omega
  have hw6 : Below W.heap.size W w6 := hw.trans HL6.out.2.1
  clear hL6 hok
  go_wp2_with fail
  refine (put1 W.heap.size b w6.heap.size _ ⟨#[59, 10]⟩ _ (HL6.out.1.alloc _) (heap_al1 _ _) (by have := HL6.out.1.lt; omega) (by have h := HL.out; rw [HT0.out, HT1.out]; simp [tabs_len] at h ⊢; omega) (by simp; omega)).mono ?_
  rintro e w7 ⟨rfl, hL7⟩
  have hr1 := hL7.row ((below1 w6 _).block _ (by omega) |>.trans hr1) hgb (by decide)
  have HL7 := Lib.hid (HL6.out.trans (Lays.new (by omega) (below1 w6 _) hL7))
  have hs7 : w.heap.size + 1 ≤ w7.heap.size := by have := hL7.size; simp at this; omega
  have hw7 : Below W.heap.size W w7 := hw.trans HL7.out.2.1
  clear hL7
  have hfin := HL7.out
  go_wp2
  refine bodyPost_ret (results_none rfl _ _ _) rfl ?_
  refine ⟨rfl, ?_⟩
  rw [HT0.out, HT1.out] at hfin
  simpa only [List.append_assoc, List.cons_append, List.nil_append] using hfin
end Go.Proofs.YtojkagfbdpjckaaDoor
