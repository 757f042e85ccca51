/-
  Statements that are laid on a page: blocks; any statement.
-/
import Derived.Test.YtojkagfbdpjckaaDoorLnE
namespace Go.Proofs.YtojkagfbdpjckaaDoor
open Go.RowKit
set_option linter.unusedSimpArgs false
set_option linter.unusedVariables false

set_option maxHeartbeats 4000000 in
set_option maxRecDepth 100000 in
theorem blk52n (W : World) (hpow : Pow W) (b : Nat) (does : Int) (ln co : Int) (name tn : ByteArray) (ta : Bool) (e : List Tree) (th el : List St) (a1 : Option Addr) (n1 c1 : Nat) (a2 : Option Addr) (n2 c2 : Nat) (a3 : Option Addr) (n3 c3 : Nat) (h1 : Sl W 11 (ExR W) e (.slice a1 n1 c1)) (h2 : SsLay W b th (.slice a2 n2 c2)) (h3 : SsLay W b el (.slice a3 n3 c3)) (hn3 : n3 = el.length) (hc3 : n3 ≤ maxLen) (h0 : n3 = 0) (word : ByteArray) (deep : Nat) (l : Bs) (w : World) (hw : Below W.heap.size W w) (hp : Pg W.heap.size b (Lib.byteCells l) w) (hd : deep ≤ 140737488355328) (hlen : l.length + (blk word.data.toList (e.map tx) deep el.length (sxs (deep + 1) th) (sxs (deep + 1) el)).length ≤ 140737488355328) :
    Calls Tryd.prog 52 #[.agg #[.int .i64 does, .int .i64 ln, .int .i64 co, .string name, .string tn, .bool ta, .slice a1 n1 c1, .slice a2 n2 c2, .slice a3 n3 c3], .pointer (some ⟨b, 0, none⟩), .string word, .int .i64 deep] w fun e' w' => e' = .returned (.tuple #[]) ∧ Lays W.heap.size b (l ++ blk word.data.toList (e.map tx) deep el.length (sxs (deep + 1) th) (sxs (deep + 1) el)) w w' := by
  have hz := lay_zero W b
  have hQ := ex_lay W hpow b
  have hk := h1.kids
  have hB := hw.size
  have hlt := hp.lt
  have hgb : w.heap.size ≠ b := by omega
  unfold maxLen at hc3
  have hH2 : ∀ (l : Bs) (w : World), Below W.heap.size W w → Pg W.heap.size b (Lib.byteCells l) w → l.length + (sxs (deep + 1) th).length ≤ 140737488355328 → Calls Tryd.prog 55 #[.pointer (some ⟨b, 0, none⟩), .slice a2 n2 c2, .int .i64 ((deep : Int) + 1)] w fun e w' => e = .returned (.tuple #[]) ∧ Lays W.heap.size b (l ++ sxs (deep + 1) th) w w' := fun l w q1 q2 q3 => h2 (deep + 1) l w (by omega) q1 q2 q3
  have hH3 : ∀ (l : Bs) (w : World), Below W.heap.size W w → Pg W.heap.size b (Lib.byteCells l) w → l.length + (sxs (deep + 1) el).length ≤ 140737488355328 → Calls Tryd.prog 55 #[.pointer (some ⟨b, 0, none⟩), .slice a3 n3 c3, .int .i64 ((deep : Int) + 1)] w fun e w' => e = .returned (.tuple #[]) ∧ Lays W.heap.size b (l ++ sxs (deep + 1) el) w w' := fun l w q1 q2 q3 => h3 (deep + 1) l w (by omega) q1 q2 q3
  have HTH := Lib.hid hH2
  have HEL := Lib.hid hH3
  clear hH2 hH3 h2 h3
  have htx : blk word.data.toList (e.map tx) deep el.length (sxs (deep + 1) th) (sxs (deep + 1) el) = word.data.toList ++ (tx (e.getD 0 Tree.zero) ++ ([32, 123, 10] ++ (sxs (deep + 1) th ++ ([] ++ (tabs deep ++ [125, 10]))))) := by
    unfold blk
    rw [nt_map, if_pos (by omega)]
  rw [htx] at hlen ⊢
  have hl2 : l.length + (word.data.toList.length + ((tx (e.getD 0 Tree.zero)).length + (3 + ((sxs (deep + 1) th).length + (deep + 2))))) ≤ 140737488355328 := by
    have h := hlen
    simp only [List.length_append, List.length_cons, List.length_nil, tabs_len] at h
    omega
  have HL := Lib.hid hl2
  clear hlen htx hl2 hn3
  go_enter Tryd.func52, Tryd.ntmps52
  go_wp2_with fail
  refine (put1 W.heap.size b (w.heap.size + 1) l word _ ((hp.alloc _).alloc _) (heap_al3 _ _ _) (by omega) (by have h := HL.out; omega) (by simp; omega)).mono ?_
  rintro ee w1 ⟨rfl, hL1⟩
  have hr1 := hL1.row (heap_al2 _ _ _) hgb (by decide)
  have HL1 := Lib.hid (Lays.new hB (below2 w _ _) hL1)
  have hs1 : w.heap.size + 1 ≤ w1.heap.size := by have := hL1.size; simp at this; omega
  have hw1 : Below W.heap.size W w1 := hw.trans HL1.out.2.1
  clear hL1
  have d0 := cell_row hr1 0 rfl
  have d1 := cell_row hr1 1 rfl
  have d2 := cell_row hr1 2 rfl
  have d3 := cell_row hr1 3 rfl
  have d4 := cell_row hr1 4 rfl
  have d5 := cell_row hr1 5 rfl
  have d6 := cell_row hr1 6 rfl
  have d7 := cell_row hr1 7 rfl
  have d8 := cell_row hr1 8 rfl
  go_wp2_with fail
  refine (nth_any W _ e _ hk 0 w1 hw1).mono ?_
  rintro ee w2 ⟨t0, kk, rfl, ht, hcase, hb⟩
  have hok := nt_kid hQ hz hcase
  have HT0 := Lib.hid ht
  clear ht hcase
  have hr1 := (hb.block _ (by omega)).trans hr1
  have HL2 := Lib.hid (HL1.out.then hB hb)
  have hs2 : w.heap.size + 1 ≤ w2.heap.size := by have := hb.size; omega
  have hw2 : Below W.heap.size W w2 := hw.trans HL2.out.2.1
  clear hb
  go_wp2_with fail
  refine (hok _ w2 hw2 HL2.out.1 (by have h := HL.out; rw [HT0.out]; simp only [List.length_append, List.length_cons, List.length_nil, tabs_len] at h ⊢; omega)).mono ?_
  rintro ee w3 ⟨rfl, hL3⟩
  have hr1 := hL3.row hr1 hgb (by decide)
  have HL3 := Lib.hid (HL2.out.trans hL3)
  have hs3 : w.heap.size + 1 ≤ w3.heap.size := by have := hL3.size; omega
  have hw3 : Below W.heap.size W w3 := hw.trans HL3.out.2.1
  clear hL3 hok
  clear d0 d1 d2 d3 d4 d5 d6 d7 d8
  go_wp2_with fail
  refine (put1 W.heap.size b w3.heap.size _ ⟨#[32, 123, 10]⟩ _ (HL3.out.1.alloc _) (heap_al1 _ _) (by have := HL3.out.1.lt; omega) (by have h := HL.out; rw [HT0.out]; simp only [List.length_append, List.length_cons, List.length_nil, tabs_len] at h ⊢; omega) (by simp; omega)).mono ?_
  rintro e w4 ⟨rfl, hL4⟩
  have hr1 := hL4.row ((below1 w3 _).block _ (by omega) |>.trans hr1) hgb (by decide)
  have HL4 := Lib.hid (HL3.out.trans (Lays.new (by omega) (below1 w3 _) hL4))
  have hs4 : w.heap.size + 1 ≤ w4.heap.size := by have := hL4.size; simp at this; omega
  have hw4 : Below W.heap.size W w4 := hw.trans HL4.out.2.1
  clear hL4
  have d0 := cell_row hr1 0 rfl
  have d1 := cell_row hr1 1 rfl
  have d2 := cell_row hr1 2 rfl
  have d3 := cell_row hr1 3 rfl
  have d4 := cell_row hr1 4 rfl
  have d5 := cell_row hr1 5 rfl
  have d6 := cell_row hr1 6 rfl
  have d7 := cell_row hr1 7 rfl
  have d8 := cell_row hr1 8 rfl
  go_wp2_with fail
  refine (HTH.out _ w4 hw4 HL4.out.1 (by have h := HL.out; rw [HT0.out]; simp only [List.length_append, List.length_cons, List.length_nil, tabs_len] at h ⊢; omega)).mono ?_
  rintro ee w5 ⟨rfl, hL5⟩
  have hr1 := hL5.row hr1 hgb (by decide)
  have HL5 := Lib.hid (HL4.out.trans hL5)
  have hs5 : w.heap.size + 1 ≤ w5.heap.size := by have := hL5.size; omega
  have hw5 : Below W.heap.size W w5 := hw.trans HL5.out.2.1
  clear hL5
  clear d0 d1 d2 d3 d4 d5 d6 d7 d8
  have d0 := cell_row hr1 0 rfl
  have d1 := cell_row hr1 1 rfl
  have d2 := cell_row hr1 2 rfl
  have d3 := cell_row hr1 3 rfl
  have d4 := cell_row hr1 4 rfl
  have d5 := cell_row hr1 5 rfl
  have d6 := cell_row hr1 6 rfl
  have d7 := cell_row hr1 7 rfl
  have d8 := cell_row hr1 8 rfl
  go_wp2_with fail
  refine (tabs49 W.heap.size b _ deep w5 HL5.out.1 (by have h := HL.out; rw [HT0.out]; simp only [List.length_append, List.length_cons, List.length_nil, tabs_len] at h ⊢; omega) (by omega)).mono ?_
  rintro ee w6 ⟨rfl, hL6⟩
  have hr1 := hL6.row hr1 hgb (by decide)
  have HL6 := Lib.hid (HL5.out.trans hL6)
  have hs6 : w.heap.size + 1 ≤ w6.heap.size := by have := hL6.size; omega
  have hw6 : Below W.heap.size W w6 := hw.trans HL6.out.2.1
  clear hL6
  go_wp2_with fail
  refine (put1 W.heap.size b w6.heap.size _ ⟨#[125, 10]⟩ _ (HL6.out.1.alloc _) (heap_al1 _ _) (by have := HL6.out.1.lt; omega) (by have h := HL.out; rw [HT0.out]; simp only [List.length_append, List.length_cons, List.length_nil, tabs_len] at h ⊢; omega) (by simp; omega)).mono ?_
  rintro e w7 ⟨rfl, hL7⟩
  have hr1 := hL7.row ((below1 w6 _).block _ (by omega) |>.trans hr1) hgb (by decide)
  have HL7 := Lib.hid (HL6.out.trans (Lays.new (by omega) (below1 w6 _) hL7))
  have hs7 : w.heap.size + 1 ≤ w7.heap.size := by have := hL7.size; simp at this; omega
  have hw7 : Below W.heap.size W w7 := hw.trans HL7.out.2.1
  clear hL7
  have hfin := HL7.out
  go_wp2
  go_end0
  refine ⟨rfl, ?_⟩
  rw [HT0.out] at hfin
  simpa only [List.append_assoc, List.cons_append, List.nil_append] using hfin
set_option maxHeartbeats 4000000 in
set_option maxRecDepth 100000 in
theorem blk52e (W : World) (hpow : Pow W) (b : Nat) (does : Int) (ln co : Int) (name tn : ByteArray) (ta : Bool) (e : List Tree) (th el : List St) (a1 : Option Addr) (n1 c1 : Nat) (a2 : Option Addr) (n2 c2 : Nat) (a3 : Option Addr) (n3 c3 : Nat) (h1 : Sl W 11 (ExR W) e (.slice a1 n1 c1)) (h2 : SsLay W b th (.slice a2 n2 c2)) (h3 : SsLay W b el (.slice a3 n3 c3)) (hn3 : n3 = el.length) (hc3 : n3 ≤ maxLen) (h0 : 0 < n3) (word : ByteArray) (deep : Nat) (l : Bs) (w : World) (hw : Below W.heap.size W w) (hp : Pg W.heap.size b (Lib.byteCells l) w) (hd : deep ≤ 140737488355328) (hlen : l.length + (blk word.data.toList (e.map tx) deep el.length (sxs (deep + 1) th) (sxs (deep + 1) el)).length ≤ 140737488355328) :
    Calls Tryd.prog 52 #[.agg #[.int .i64 does, .int .i64 ln, .int .i64 co, .string name, .string tn, .bool ta, .slice a1 n1 c1, .slice a2 n2 c2, .slice a3 n3 c3], .pointer (some ⟨b, 0, none⟩), .string word, .int .i64 deep] w fun e' w' => e' = .returned (.tuple #[]) ∧ Lays W.heap.size b (l ++ blk word.data.toList (e.map tx) deep el.length (sxs (deep + 1) th) (sxs (deep + 1) el)) w w' := by
  have hz := lay_zero W b
  have hQ := ex_lay W hpow b
  have hk := h1.kids
  have hB := hw.size
  have hlt := hp.lt
  have hgb : w.heap.size ≠ b := by omega
  unfold maxLen at hc3
  have hH2 : ∀ (l : Bs) (w : World), Below W.heap.size W w → Pg W.heap.size b (Lib.byteCells l) w → l.length + (sxs (deep + 1) th).length ≤ 140737488355328 → Calls Tryd.prog 55 #[.pointer (some ⟨b, 0, none⟩), .slice a2 n2 c2, .int .i64 ((deep : Int) + 1)] w fun e w' => e = .returned (.tuple #[]) ∧ Lays W.heap.size b (l ++ sxs (deep + 1) th) w w' := fun l w q1 q2 q3 => h2 (deep + 1) l w (by omega) q1 q2 q3
  have hH3 : ∀ (l : Bs) (w : World), Below W.heap.size W w → Pg W.heap.size b (Lib.byteCells l) w → l.length + (sxs (deep + 1) el).length ≤ 140737488355328 → Calls Tryd.prog 55 #[.pointer (some ⟨b, 0, none⟩), .slice a3 n3 c3, .int .i64 ((deep : Int) + 1)] w fun e w' => e = .returned (.tuple #[]) ∧ Lays W.heap.size b (l ++ sxs (deep + 1) el) w w' := fun l w q1 q2 q3 => h3 (deep + 1) l w (by omega) q1 q2 q3
  have HTH := Lib.hid hH2
  have HEL := Lib.hid hH3
  clear hH2 hH3 h2 h3
  have htx : blk word.data.toList (e.map tx) deep el.length (sxs (deep + 1) th) (sxs (deep + 1) el) = word.data.toList ++ (tx (e.getD 0 Tree.zero) ++ ([32, 123, 10] ++ (sxs (deep + 1) th ++ (tabs deep ++ ([125, 32, 101, 108, 115, 101, 32, 123, 10] ++ sxs (deep + 1) el) ++ (tabs deep ++ [125, 10]))))) := by
    unfold blk
    rw [nt_map, if_neg (by omega)]
  rw [htx] at hlen ⊢
  have hl2 : l.length + (word.data.toList.length + ((tx (e.getD 0 Tree.zero)).length + (3 + ((sxs (deep + 1) th).length + ((deep + (9 + (sxs (deep + 1) el).length)) + (deep + 2)))))) ≤ 140737488355328 := by
    have h := hlen
    simp only [List.length_append, List.length_cons, List.length_nil, tabs_len] at h
    omega
  have HL := Lib.hid hl2
  clear hlen htx hl2 hn3
  go_enter Tryd.func52, Tryd.ntmps52
  go_wp2_with fail
  refine (put1 W.heap.size b (w.heap.size + 1) l word _ ((hp.alloc _).alloc _) (heap_al3 _ _ _) (by omega) (by have h := HL.out; omega) (by simp; omega)).mono ?_
  rintro ee w1 ⟨rfl, hL1⟩
  have hr1 := hL1.row (heap_al2 _ _ _) hgb (by decide)
  have HL1 := Lib.hid (Lays.new hB (below2 w _ _) hL1)
  have hs1 : w.heap.size + 1 ≤ w1.heap.size := by have := hL1.size; simp at this; omega
  have hw1 : Below W.heap.size W w1 := hw.trans HL1.out.2.1
  clear hL1
  have d0 := cell_row hr1 0 rfl
  have d1 := cell_row hr1 1 rfl
  have d2 := cell_row hr1 2 rfl
  have d3 := cell_row hr1 3 rfl
  have d4 := cell_row hr1 4 rfl
  have d5 := cell_row hr1 5 rfl
  have d6 := cell_row hr1 6 rfl
  have d7 := cell_row hr1 7 rfl
  have d8 := cell_row hr1 8 rfl
  go_wp2_with fail
  refine (nth_any W _ e _ hk 0 w1 hw1).mono ?_
  rintro ee w2 ⟨t0, kk, rfl, ht, hcase, hb⟩
  have hok := nt_kid hQ hz hcase
  have HT0 := Lib.hid ht
  clear ht hcase
  have hr1 := (hb.block _ (by omega)).trans hr1
  have HL2 := Lib.hid (HL1.out.then hB hb)
  have hs2 : w.heap.size + 1 ≤ w2.heap.size := by have := hb.size; omega
  have hw2 : Below W.heap.size W w2 := hw.trans HL2.out.2.1
  clear hb
  go_wp2_with fail
  refine (hok _ w2 hw2 HL2.out.1 (by have h := HL.out; rw [HT0.out]; simp only [List.length_append, List.length_cons, List.length_nil, tabs_len] at h ⊢; omega)).mono ?_
  rintro ee w3 ⟨rfl, hL3⟩
  have hr1 := hL3.row hr1 hgb (by decide)
  have HL3 := Lib.hid (HL2.out.trans hL3)
  have hs3 : w.heap.size + 1 ≤ w3.heap.size := by have := hL3.size; omega
  have hw3 : Below W.heap.size W w3 := hw.trans HL3.out.2.1
  clear hL3 hok
  clear d0 d1 d2 d3 d4 d5 d6 d7 d8
  go_wp2_with fail
  refine (put1 W.heap.size b w3.heap.size _ ⟨#[32, 123, 10]⟩ _ (HL3.out.1.alloc _) (heap_al1 _ _) (by have := HL3.out.1.lt; omega) (by have h := HL.out; rw [HT0.out]; simp only [List.length_append, List.length_cons, List.length_nil, tabs_len] at h ⊢; omega) (by simp; omega)).mono ?_
  rintro e w4 ⟨rfl, hL4⟩
  have hr1 := hL4.row ((below1 w3 _).block _ (by omega) |>.trans hr1) hgb (by decide)
  have HL4 := Lib.hid (HL3.out.trans (Lays.new (by omega) (below1 w3 _) hL4))
  have hs4 : w.heap.size + 1 ≤ w4.heap.size := by have := hL4.size; simp at this; omega
  have hw4 : Below W.heap.size W w4 := hw.trans HL4.out.2.1
  clear hL4
  have d0 := cell_row hr1 0 rfl
  have d1 := cell_row hr1 1 rfl
  have d2 := cell_row hr1 2 rfl
  have d3 := cell_row hr1 3 rfl
  have d4 := cell_row hr1 4 rfl
  have d5 := cell_row hr1 5 rfl
  have d6 := cell_row hr1 6 rfl
  have d7 := cell_row hr1 7 rfl
  have d8 := cell_row hr1 8 rfl
  go_wp2_with fail
  refine (HTH.out _ w4 hw4 HL4.out.1 (by have h := HL.out; rw [HT0.out]; simp only [List.length_append, List.length_cons, List.length_nil, tabs_len] at h ⊢; omega)).mono ?_
  rintro ee w5 ⟨rfl, hL5⟩
  have hr1 := hL5.row hr1 hgb (by decide)
  have HL5 := Lib.hid (HL4.out.trans hL5)
  have hs5 : w.heap.size + 1 ≤ w5.heap.size := by have := hL5.size; omega
  have hw5 : Below W.heap.size W w5 := hw.trans HL5.out.2.1
  clear hL5
  clear d0 d1 d2 d3 d4 d5 d6 d7 d8
  have d0 := cell_row hr1 0 rfl
  have d1 := cell_row hr1 1 rfl
  have d2 := cell_row hr1 2 rfl
  have d3 := cell_row hr1 3 rfl
  have d4 := cell_row hr1 4 rfl
  have d5 := cell_row hr1 5 rfl
  have d6 := cell_row hr1 6 rfl
  have d7 := cell_row hr1 7 rfl
  have d8 := cell_row hr1 8 rfl
  go_wp2_with fail
  refine (tabs49 W.heap.size b _ deep w5 HL5.out.1 (by have h := HL.out; rw [HT0.out]; simp only [List.length_append, List.length_cons, List.length_nil, tabs_len] at h ⊢; omega) (by omega)).mono ?_
  rintro ee w6 ⟨rfl, hL6⟩
  have hr1 := hL6.row hr1 hgb (by decide)
  have HL6 := Lib.hid (HL5.out.trans hL6)
  have hs6 : w.heap.size + 1 ≤ w6.heap.size := by have := hL6.size; omega
  have hw6 : Below W.heap.size W w6 := hw.trans HL6.out.2.1
  clear hL6
  clear d0 d1 d2 d3 d4 d5 d6 d7 d8
  go_wp2_with fail
  refine (put1 W.heap.size b w6.heap.size _ ⟨#[125, 32, 101, 108, 115, 101, 32, 123, 10]⟩ _ (HL6.out.1.alloc _) (heap_al1 _ _) (by have := HL6.out.1.lt; omega) (by have h := HL.out; rw [HT0.out]; simp only [List.length_append, List.length_cons, List.length_nil, tabs_len] at h ⊢; omega) (by simp; omega)).mono ?_
  rintro e w7 ⟨rfl, hL7⟩
  have hr1 := hL7.row ((below1 w6 _).block _ (by omega) |>.trans hr1) hgb (by decide)
  have HL7 := Lib.hid (HL6.out.trans (Lays.new (by omega) (below1 w6 _) hL7))
  have hs7 : w.heap.size + 1 ≤ w7.heap.size := by have := hL7.size; simp at this; omega
  have hw7 : Below W.heap.size W w7 := hw.trans HL7.out.2.1
  clear hL7
  have d0 := cell_row hr1 0 rfl
  have d1 := cell_row hr1 1 rfl
  have d2 := cell_row hr1 2 rfl
  have d3 := cell_row hr1 3 rfl
  have d4 := cell_row hr1 4 rfl
  have d5 := cell_row hr1 5 rfl
  have d6 := cell_row hr1 6 rfl
  have d7 := cell_row hr1 7 rfl
  have d8 := cell_row hr1 8 rfl
  go_wp2_with fail
  refine (HEL.out _ w7 hw7 HL7.out.1 (by have h := HL.out; rw [HT0.out]; simp only [List.length_append, List.length_cons, List.length_nil, tabs_len] at h ⊢; omega)).mono ?_
  rintro ee w8 ⟨rfl, hL8⟩
  have hr1 := hL8.row hr1 hgb (by decide)
  have HL8 := Lib.hid (HL7.out.trans hL8)
  have hs8 : w.heap.size + 1 ≤ w8.heap.size := by have := hL8.size; omega
  have hw8 : Below W.heap.size W w8 := hw.trans HL8.out.2.1
  clear hL8
  clear d0 d1 d2 d3 d4 d5 d6 d7 d8
  go_wp2_with fail
  refine (tabs49 W.heap.size b _ deep w8 HL8.out.1 (by have h := HL.out; rw [HT0.out]; simp only [List.length_append, List.length_cons, List.length_nil, tabs_len] at h ⊢; omega) (by omega)).mono ?_
  rintro ee w9 ⟨rfl, hL9⟩
  have hr1 := hL9.row hr1 hgb (by decide)
  have HL9 := Lib.hid (HL8.out.trans hL9)
  have hs9 : w.heap.size + 1 ≤ w9.heap.size := by have := hL9.size; omega
  have hw9 : Below W.heap.size W w9 := hw.trans HL9.out.2.1
  clear hL9
  go_wp2_with fail
  refine (put1 W.heap.size b w9.heap.size _ ⟨#[125, 10]⟩ _ (HL9.out.1.alloc _) (heap_al1 _ _) (by have := HL9.out.1.lt; omega) (by have h := HL.out; rw [HT0.out]; simp only [List.length_append, List.length_cons, List.length_nil, tabs_len] at h ⊢; omega) (by simp; omega)).mono ?_
  rintro e w10 ⟨rfl, hL10⟩
  have hr1 := hL10.row ((below1 w9 _).block _ (by omega) |>.trans hr1) hgb (by decide)
  have HL10 := Lib.hid (HL9.out.trans (Lays.new (by omega) (below1 w9 _) hL10))
  have hs10 : w.heap.size + 1 ≤ w10.heap.size := by have := hL10.size; simp at this; omega
  have hw10 : Below W.heap.size W w10 := hw.trans HL10.out.2.1
  clear hL10
  have hfin := HL10.out
  go_wp2
  go_end0
  refine ⟨rfl, ?_⟩
  rw [HT0.out] at hfin
  simpa only [List.append_assoc, List.cons_append, List.nil_append] using hfin
theorem blk52 (W : World) (hpow : Pow W) (b : Nat) (does : Int) (ln co : Int) (name tn : ByteArray) (ta : Bool) (e : List Tree) (th el : List St) (a1 : Option Addr) (n1 c1 : Nat) (a2 : Option Addr) (n2 c2 : Nat) (a3 : Option Addr) (n3 c3 : Nat) (h1 : Sl W 11 (ExR W) e (.slice a1 n1 c1)) (h2 : SsLay W b th (.slice a2 n2 c2)) (h3 : SsLay W b el (.slice a3 n3 c3)) (hn3 : n3 = el.length) (hc3 : n3 ≤ maxLen) (word : ByteArray) (deep : Nat) (l : Bs) (w : World) (hw : Below W.heap.size W w) (hp : Pg W.heap.size b (Lib.byteCells l) w) (hd : deep ≤ 140737488355328) (hlen : l.length + (blk word.data.toList (e.map tx) deep el.length (sxs (deep + 1) th) (sxs (deep + 1) el)).length ≤ 140737488355328) :
    Calls Tryd.prog 52 #[.agg #[.int .i64 does, .int .i64 ln, .int .i64 co, .string name, .string tn, .bool ta, .slice a1 n1 c1, .slice a2 n2 c2, .slice a3 n3 c3], .pointer (some ⟨b, 0, none⟩), .string word, .int .i64 deep] w fun e' w' => e' = .returned (.tuple #[]) ∧ Lays W.heap.size b (l ++ blk word.data.toList (e.map tx) deep el.length (sxs (deep + 1) th) (sxs (deep + 1) el)) w w' := by
  rcases Nat.eq_zero_or_pos n3 with h0 | h0
  · exact blk52n W hpow b does ln co name tn ta e th el a1 n1 c1 a2 n2 c2 a3 n3 c3 h1 h2 h3 hn3 hc3 h0 word deep l w hw hp hd hlen
  · exact blk52e W hpow b does ln co name tn ta e th el a1 n1 c1 a2 n2 c2 a3 n3 c3 h1 h2 h3 hn3 hc3 h0 word deep l w hw hp hd hlen
set_option maxHeartbeats 4000000 in
set_option maxRecDepth 100000 in
theorem st_if (W : World) (hpow : Pow W) (b : Nat) (ln co : Int) (name tn : ByteArray) (ta : Bool) (e : List Tree) (th el : List St) (a1 : Option Addr) (n1 c1 : Nat) (a2 : Option Addr) (n2 c2 : Nat) (a3 : Option Addr) (n3 c3 : Nat) (h1 : Sl W 11 (ExR W) e (.slice a1 n1 c1)) (h2 : SsLay W b th (.slice a2 n2 c2)) (h3 : SsLay W b el (.slice a3 n3 c3)) (hn3 : n3 = el.length) (hc3 : n3 ≤ maxLen) :
    SLay W b (.mk 4 ln co name tn ta e th el) (stC 4 ln co name tn ta (.slice a1 n1 c1) (.slice a2 n2 c2) (.slice a3 n3 c3)) := by
  intro deep l w hw hp hlen
  have hB := hw.size
  have hlt := hp.lt
  have hgb : w.heap.size ≠ b := by omega
  have htx : sx deep (.mk 4 ln co name tn ta e th el) = tabs deep ++ (blk [105, 102, 32] (e.map tx) deep el.length (sxs (deep + 1) th) (sxs (deep + 1) el)) := by
    rw [sx]
    rfl
  rw [htx] at hlen ⊢
  have hl2 : l.length + (deep + ((blk [105, 102, 32] (e.map tx) deep el.length (sxs (deep + 1) th) (sxs (deep + 1) el)).length)) ≤ 140737488355328 := by
    have h := hlen
    simp only [List.length_append, tabs_len] at h
    omega
  have HL := Lib.hid hl2
  have HBK := Lib.hid (blk52 W hpow b 4 ln co name tn ta e th el a1 n1 c1 a2 n2 c2 a3 n3 c3 h1 h2 h3 hn3 hc3 ⟨#[105, 102, 32]⟩ deep)
  clear h1 h2 h3 hn3 hc3
  clear hlen htx hl2
  unfold stC
  go_enter Tryd.func38, Tryd.ntmps38
  go_wp2_with fail
  refine (tabs49 W.heap.size b l deep _ (hp.alloc _) (by have := HL.out; omega) (by simp; omega)).mono ?_
  rintro e w1 ⟨rfl, hL1⟩
  have hr1 := hL1.row (heap_al1 w _) hgb (by decide)
  have HL1 := Lib.hid (Lays.new hB (below1 w _) hL1)
  have hs1 : w.heap.size + 1 ≤ w1.heap.size := by have := hL1.size; simpa using this
  have hw1 : Below W.heap.size W w1 := hw.trans HL1.out.2.1
  clear hL1
  have d0 := cell_row hr1 0 rfl
  have d1 := cell_row hr1 1 rfl
  have d2 := cell_row hr1 2 rfl
  have d3 := cell_row hr1 3 rfl
  have d4 := cell_row hr1 4 rfl
  have d5 := cell_row hr1 5 rfl
  have d6 := cell_row hr1 6 rfl
  have d7 := cell_row hr1 7 rfl
  have d8 := cell_row hr1 8 rfl
  go_wp2_with fail
  refine (HBK.out _ w1 hw1 HL1.out.1 (by have := HL.out; omega) (by have h := HL.out; simp only [List.length_append, tabs_len]; omega)).mono ?_
  rintro ee w2 ⟨rfl, hL2⟩
  have hfin := HL1.out.trans hL2
  clear hL2
  go_wp2
  refine bodyPost_ret (results_none rfl _ _ _) rfl ?_
  refine ⟨rfl, ?_⟩
  rw [List.append_assoc] at hfin
  exact hfin
set_option maxHeartbeats 4000000 in
set_option maxRecDepth 100000 in
theorem st_while (W : World) (hpow : Pow W) (b : Nat) (ln co : Int) (name tn : ByteArray) (ta : Bool) (e : List Tree) (th el : List St) (a1 : Option Addr) (n1 c1 : Nat) (a2 : Option Addr) (n2 c2 : Nat) (a3 : Option Addr) (n3 c3 : Nat) (h1 : Sl W 11 (ExR W) e (.slice a1 n1 c1)) (h2 : SsLay W b th (.slice a2 n2 c2)) (h3 : SsLay W b el (.slice a3 n3 c3)) (hn3 : n3 = el.length) (hc3 : n3 ≤ maxLen) :
    SLay W b (.mk 5 ln co name tn ta e th el) (stC 5 ln co name tn ta (.slice a1 n1 c1) (.slice a2 n2 c2) (.slice a3 n3 c3)) := by
  intro deep l w hw hp hlen
  have hB := hw.size
  have hlt := hp.lt
  have hgb : w.heap.size ≠ b := by omega
  have htx : sx deep (.mk 5 ln co name tn ta e th el) = tabs deep ++ (blk [119, 104, 105, 108, 101, 32] (e.map tx) deep el.length (sxs (deep + 1) th) (sxs (deep + 1) el)) := by
    rw [sx]
    rfl
  rw [htx] at hlen ⊢
  have hl2 : l.length + (deep + ((blk [119, 104, 105, 108, 101, 32] (e.map tx) deep el.length (sxs (deep + 1) th) (sxs (deep + 1) el)).length)) ≤ 140737488355328 := by
    have h := hlen
    simp only [List.length_append, tabs_len] at h
    omega
  have HL := Lib.hid hl2
  have HBK := Lib.hid (blk52 W hpow b 5 ln co name tn ta e th el a1 n1 c1 a2 n2 c2 a3 n3 c3 h1 h2 h3 hn3 hc3 ⟨#[119, 104, 105, 108, 101, 32]⟩ deep)
  clear h1 h2 h3 hn3 hc3
  clear hlen htx hl2
  unfold stC
  go_enter Tryd.func38, Tryd.ntmps38
  go_wp2_with fail
  refine (tabs49 W.heap.size b l deep _ (hp.alloc _) (by have := HL.out; omega) (by simp; omega)).mono ?_
  rintro e w1 ⟨rfl, hL1⟩
  have hr1 := hL1.row (heap_al1 w _) hgb (by decide)
  have HL1 := Lib.hid (Lays.new hB (below1 w _) hL1)
  have hs1 : w.heap.size + 1 ≤ w1.heap.size := by have := hL1.size; simpa using this
  have hw1 : Below W.heap.size W w1 := hw.trans HL1.out.2.1
  clear hL1
  have d0 := cell_row hr1 0 rfl
  have d1 := cell_row hr1 1 rfl
  have d2 := cell_row hr1 2 rfl
  have d3 := cell_row hr1 3 rfl
  have d4 := cell_row hr1 4 rfl
  have d5 := cell_row hr1 5 rfl
  have d6 := cell_row hr1 6 rfl
  have d7 := cell_row hr1 7 rfl
  have d8 := cell_row hr1 8 rfl
  go_wp2_with fail
  refine (HBK.out _ w1 hw1 HL1.out.1 (by have := HL.out; omega) (by have h := HL.out; simp only [List.length_append, tabs_len]; omega)).mono ?_
  rintro ee w2 ⟨rfl, hL2⟩
  have hfin := HL1.out.trans hL2
  clear hL2
  go_wp2
  refine bodyPost_ret (results_none rfl _ _ _) rfl ?_
  refine ⟨rfl, ?_⟩
  rw [List.append_assoc] at hfin
  exact hfin
theorem st_shape {W : World} {d : Nat} {s : St} {cs : List Value} (h : StR W d s cs) : ∃ does ln co name tn ta a1 n1 c1 a2 n2 c2 a3 n3 c3, cs = stC does ln co name tn ta (.slice a1 n1 c1) (.slice a2 n2 c2) (.slice a3 n3 c3) := by
  obtain ⟨d', does, ln, co, name, tn, ta, e, th, el, a1, n1, c1, a2, n2, c2, a3, n3, c3, _, _, rfl, _⟩ := h.open
  exact ⟨does, ln, co, name, tn, ta, a1, n1, c1, a2, n2, c2, a3, n3, c3, rfl⟩
theorem st_any (W : World) (hpow : Pow W) (b : Nat) : ∀ (d : Nat) (s : St) (cs : List Value), StR W d s cs → SLay W b s cs
  | 0, _, _, h => h.elim
  | d + 1, s, cs, h => by
    obtain ⟨d', does, ln, co, name, tn, ta, e, th, el, a1, n1, c1, a2, n2, c2, a3, n3, c3, rfl, hd, rfl, s1, s2, s3⟩ := h.open
    cases hd
    have h2 := all55 W b (StR W d) (fun s cs h => ⟨st_any W hpow b d s cs h, st_shape h⟩) th _ s2
    have h3 := all55 W b (StR W d) (fun s cs h => ⟨st_any W hpow b d s cs h, st_shape h⟩) el _ s3
    have hn3 := s3.at.1
    have hc3 : n3 ≤ maxLen := Nat.le_trans s3.at.2.1 s3.at.2.2.1
    by_cases c1x : does = 1
    · subst c1x; exact st_let W hpow b ln co name tn ta e th el a1 n1 c1 a2 n2 c2 a3 n3 c3 s1
    by_cases c2x : does = 2
    · subst c2x; exact st_put W hpow b ln co name tn ta e th el a1 n1 c1 a2 n2 c2 a3 n3 c3 s1
    by_cases c4x : does = 4
    · subst c4x; exact st_if W hpow b ln co name tn ta e th el a1 n1 c1 a2 n2 c2 a3 n3 c3 s1 h2 h3 hn3 hc3
    by_cases c5x : does = 5
    · subst c5x; exact st_while W hpow b ln co name tn ta e th el a1 n1 c1 a2 n2 c2 a3 n3 c3 s1 h2 h3 hn3 hc3
    by_cases c6x : does = 6
    · subst c6x; exact st_ret W hpow b ln co name tn ta e th el a1 n1 c1 a2 n2 c2 a3 n3 c3 s1
    by_cases c7x : does = 7
    · subst c7x; exact st_print W hpow b ln co name tn ta e th el a1 n1 c1 a2 n2 c2 a3 n3 c3 s1
    exact st_do W hpow b does ln co name tn ta e th el a1 n1 c1 a2 n2 c2 a3 n3 c3 s1 c1x c2x c4x c5x c6x c7x
theorem sts_any (W : World) (hpow : Pow W) (b d : Nat) (ss : List St) (v : Value) (h : Sl W 9 (StR W d) ss v) : SsLay W b ss v :=
  all55 W b (StR W d) (fun s cs h => ⟨st_any W hpow b d s cs h, st_shape h⟩) ss v h
end Go.Proofs.YtojkagfbdpjckaaDoor
