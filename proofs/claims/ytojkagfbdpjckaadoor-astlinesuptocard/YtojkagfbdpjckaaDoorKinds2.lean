/-
  An expression that is laid on a page: numbers, calls, and all other kinds.
-/
import Derived.Test.YtojkagfbdpjckaaDoorKinds
namespace Go.Proofs.YtojkagfbdpjckaaDoor
open Go.RowKit Go.Lib Go.Sort

theorem grow_below {w w1 : World} (h : ∃ k os, w1 = grow (w.drewN k) os) : Below w.heap.size w w1 := by
  obtain ⟨k, os, rfl⟩ := h
  exact below_grow w os k

set_option maxHeartbeats 1000000 in
set_option maxRecDepth 100000 in
theorem lay_num (W : World) (hpow : Pow W) (b : Nat) (ln co num : Int) (hn0 : -9223372036854775808 ≤ num) (hn1 : num ≤ 9223372036854775807) (name tn : ByteArray) (ta : Bool) (kids : List Tree) (fn : ByteArray) (fa : Bool) (ow : ByteArray) (ka : Option Addr) (kn kc : Nat) :
    LayOK W b (.mk 1 ln co num name tn ta kids fn fa ow) (.slice ka kn kc) := by
  intro l w hw hp hlen
  have hB := hw.size
  have hlt := hp.lt
  have hpw : Pow w := Pow.keep hpow (Pow.pos hpow) hw
  have hpos := Pow.pos hpw
  rw [show tx (.mk 1 ln co num name tn ta kids fn fa ow) = Lib.itoa num from by rw [tx_mk]; rfl] at hlen ⊢
  have HLen := Lib.hid hlen
  clear hlen
  unfold exprV exprC
  go_enter Tryd.func28, Tryd.ntmps28
  go_wp2_with fail
  refine (Tryd.strconv_FormatInt_10 num hn0 hn1 _ (Pow.keep hpw hpos (below1 w _))).mono ?_
  rintro e w1 ⟨rfl, hg⟩
  have hb1 : Below w.heap.size w w1 := (below1 w _).trans ((grow_below hg).mono (by simp))
  have hs1 := hb1.size
  clear hg
  go_wp2_with fail
  refine (put1 W.heap.size b w1.heap.size l _ _ ((hp.below hb1).alloc _) (heap_al1 _ _) (by omega) (by exact HLen.out) (by simp; omega)).mono ?_
  rintro e w2 ⟨rfl, hL2⟩
  have hfin := Lays.new hB (hb1.trans ((below1 w1 _).mono hs1)) hL2
  clear hL2
  go_wp2
  go_end0
  exact ⟨rfl, hfin⟩

set_option maxHeartbeats 2000000 in
set_option maxRecDepth 100000 in
theorem lay_other (W : World) (b : Nat) (kind ln co num : Int) (name tn : ByteArray) (ta : Bool) (kids : List Tree) (fn : ByteArray) (fa : Bool) (ow : ByteArray) (ka : Option Addr) (kn kc : Nat)
    (h1 : (kind == 1) = false) (h2 : (kind == 2) = false) (h3 : (kind == 3) = false) (h5 : (kind == 5) = false) (h6 : (kind == 6) = false) (h7 : (kind == 7) = false) (h8 : (kind == 8) = false) (h9 : (kind == 9) = false) (h10 : (kind == 10) = false) (h11 : (kind == 11) = false) (h12 : (kind == 12) = false) (h13 : (kind == 13) = false) (h14 : (kind == 14) = false) (h15 : (kind == 15) = false) (h16 : (kind == 16) = false) (h17 : (kind == 17) = false) (h18 : (kind == 18) = false) (h19 : (kind == 19) = false) (h20 : (kind == 20) = false) :
    LayOK W b (.mk kind ln co num name tn ta kids fn fa ow) (.slice ka kn kc) := by
  intro l w hw hp hlen
  have hB := hw.size
  have hlt := hp.lt
  rw [show tx (.mk kind ln co num name tn ta kids fn fa ow) = nul from by rw [tx_mk, txk]; simp only [beq_eq_false_iff_ne, ne_eq] at *; simp only [*, if_false]] at hlen ⊢
  unfold nul at *
  unfold exprV exprC
  go_enter Tryd.func28, Tryd.ntmps28
  go_wp2_with fail
  refine (put1 W.heap.size b (w.heap.size + 1) l _ _ ((hp.alloc _).alloc _) (heap_al3 _ _ _) (by omega) (by simpa using hlen) (by simp; omega)).mono ?_
  rintro e w1 ⟨rfl, hL1⟩
  have hfin := Lays.new hB (below2 w _ _) hL1
  clear hL1
  go_wp2
  go_end0
  exact ⟨rfl, hfin⟩

set_option maxHeartbeats 1000000 in
set_option maxRecDepth 100000 in
theorem lay_static (W : World) (b : Nat) (Q : Tree → Value → Prop) (hQ : ∀ t kk, t.ok → Q t kk → LayOK W b t kk) (ln co num : Int) (name tn : ByteArray) (ta : Bool) (kids : List Tree) (fn : ByteArray) (fa : Bool) (ow : ByteArray) (ka : Option Addr) (kc : Nat) (hk : Kids W Q kids (.slice ka kids.length kc)) :
    LayOK W b (.mk 9 ln co num name tn ta kids fn fa ow) (.slice ka kids.length kc) := by
  intro l w hw hp hlen
  have hB := hw.size
  have hlt := hp.lt
  rw [show tx (.mk 9 ln co num name tn ta kids fn fa ow) = tn.data.toList ++ [46] ++ name.data.toList ++ lst (kids.map tx) from by rw [tx_mk]; rfl] at hlen ⊢
  have HLen := Lib.hid (show l.length + ((tn.data.toList ++ [46] ++ name.data.toList).length + (lst (kids.map tx)).length) ≤ 140737488355328 by have := hlen; simp at this ⊢; omega)
  clear hlen
  unfold exprV exprC
  go_enter Tryd.func28, Tryd.ntmps28
  go_wp2_with fail
  refine (put3 W.heap.size b (w.heap.size + 1) l _ _ _ _ ((hp.alloc _).alloc _) (heap_al3 _ _ _) (by omega) (by have := HLen.out; simp at this ⊢; omega) (by simp; omega)).mono ?_
  rintro e w1 ⟨rfl, hL1⟩
  have hr1 := hL1.row (heap_al2 _ _ _) (by omega) (by decide)
  have c7 := cell_row hr1 7 rfl
  have HL1 := Lib.hid (Lays.new hB (below2 w _ _) hL1)
  clear hr1 hL1
  have hw1 : Below W.heap.size W w1 := hw.trans HL1.out.2.1
  go_wp2_with fail
  refine (list_any W b Q hQ kids ka kc hk _ w1 hw1 HL1.out.1 (by have := HLen.out; simp at this ⊢; omega)).mono ?_
  rintro e w2 ⟨rfl, hL2⟩
  have hfin := HL1.out.trans hL2
  clear hL2
  go_wp2
  go_end0
  refine ⟨rfl, ?_⟩
  simpa only [List.append_assoc] using hfin
end Go.Proofs.YtojkagfbdpjckaaDoor
