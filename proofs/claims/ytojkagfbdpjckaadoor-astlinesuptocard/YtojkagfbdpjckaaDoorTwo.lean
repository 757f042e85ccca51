/-
  Two kids of an expression that are laid on a page.
-/
import Derived.Test.YtojkagfbdpjckaaDoorOne
namespace Go.Proofs.YtojkagfbdpjckaaDoor
open Go.RowKit

set_option maxHeartbeats 1000000 in
theorem two_any (W : World) (b : Nat) (Q : Tree → Value → Prop) (hQ : ∀ t kk, t.ok → Q t kk → LayOK W b t kk) (hz : LayOK W b Tree.zero (.slice none 0 0)) (kind ln co num : Int) (name tn : ByteArray) (ta : Bool) (kids : List Tree) (fn : ByteArray) (fa : Bool) (ow : ByteArray)
    (ka : Option Addr) (kn kc : Nat) (hk : Kids W Q kids (.slice ka kn kc)) (x y z : ByteArray) (l : Bs) (w : World) (hw : Below W.heap.size W w) (hp : Pg W.heap.size b (Lib.byteCells l) w) (hlen : l.length + (pair x.data.toList y.data.toList z.data.toList (kids.map tx)).length ≤ 140737488355328) :
    Calls Tryd.prog 44 #[exprV (.mk kind ln co num name tn ta kids fn fa ow) (.slice ka kn kc), .pointer (some ⟨b, 0, none⟩), .string x, .string y, .string z] w fun e w' => e = .returned (.tuple #[]) ∧ Lays W.heap.size b (l ++ pair x.data.toList y.data.toList z.data.toList (kids.map tx)) w w' := by
  have hB := hw.size
  have hlt := hp.lt
  have hgb : w.heap.size ≠ b := by omega
  have hgb1 : w.heap.size + 1 ≠ b := by omega
  have hlen2 : l.length + (x.data.toList.length + (tx (kids.getD 0 Tree.zero)).length + y.data.toList.length + (tx (kids.getD 1 Tree.zero)).length + z.data.toList.length) ≤ 140737488355328 := by
    have := hlen; simp only [pair, List.length_append, nt_map] at this; omega
  have HL := Lib.hid hlen2
  clear hlen hlen2
  unfold exprV exprC
  go_enter Tryd.func44, Tryd.ntmps44
  go_wp2_with fail
  refine (put1 W.heap.size b (w.heap.size + 1) l x _ ((hp.alloc _).alloc _) (heap_al3 _ _ _) hgb1 (by have := HL.out; omega) (by simp; omega)).mono ?_
  rintro e w1 ⟨rfl, hL1⟩
  have hr1 := hL1.row (heap_al2 _ _ _) hgb (by decide)
  have c7 := cell_row hr1 7 rfl
  have hs1 : w.heap.size + 2 ≤ w1.heap.size := by have := hL1.size; simpa using this
  have hw1 : Below W.heap.size W w1 := (hw.trans ((below2 w _ _).mono hB)).trans hL1.2.1
  have HR1 := Lib.hid hr1
  have HL1 := Lib.hid hL1
  clear hr1 hL1
  go_wp2_with fail
  refine (nth_any W Q kids _ hk 0 w1 hw1).mono ?_
  rintro e w2 ⟨t, kk, rfl, ht, hcase, hb2⟩
  have hok := nt_kid hQ hz hcase
  have HT := Lib.hid ht
  clear ht hcase
  have HL2 := Lib.hid (HL1.out.then (by simp; omega) hb2)
  have hs2 := hb2.size
  have hw2 : Below W.heap.size W w2 := hw1.trans (hb2.mono (by omega))
  go_wp2_with fail
  refine (hok _ w2 hw2 HL2.out.1 (by have := HL.out; rw [HT.out, List.length_append]; omega)).mono ?_
  rintro e w3 ⟨rfl, hL3⟩
  have HL3 := Lib.hid (HL2.out.trans hL3)
  have hs3 := hL3.size
  clear hL3
  go_wp2_with fail
  refine (put1 W.heap.size b w3.heap.size _ y _ (HL3.out.1.alloc _) (heap_al1 _ _) (by have := HL3.out.1.lt; omega) (by have := HL.out; rw [HT.out]; simp only [List.length_append]; omega) (by simp; omega)).mono ?_
  rintro e w4 ⟨rfl, hL4⟩
  have HL4 := Lib.hid (HL3.out.trans (Lays.new (by omega) (below1 w3 _) hL4))
  have hs4 : w3.heap.size + 1 ≤ w4.heap.size := by have := hL4.size; simpa using this
  have hr4 := HL4.out.row (heap_al2 _ _ _) hgb (by decide)
  have d7 := cell_row hr4 7 rfl
  have hw4 : Below W.heap.size W w4 := (hw.trans ((below2 w _ _).mono hB)).trans HL4.out.2.1
  clear hL4 hr4 c7
  go_wp2_with fail
  refine (nth_any W Q kids _ hk 1 w4 hw4).mono ?_
  rintro e w5 ⟨t', kk', rfl, ht', hcase', hb5⟩
  have hok' := nt_kid hQ hz hcase'
  have HT' := Lib.hid ht'
  clear ht' hcase'
  have HL5 := Lib.hid (HL4.out.then (by simp; omega) hb5)
  have hs5 := hb5.size
  have hw5 : Below W.heap.size W w5 := hw4.trans (hb5.mono (by omega))
  go_wp2_with fail
  refine (hok' _ w5 hw5 HL5.out.1 (by have := HL.out; rw [HT.out, HT'.out]; simp only [List.length_append]; omega)).mono ?_
  rintro e w6 ⟨rfl, hL6⟩
  have HL6 := Lib.hid (HL5.out.trans hL6)
  have hs6 := hL6.size
  clear hL6
  go_wp2_with fail
  refine (put1 W.heap.size b w6.heap.size _ z _ (HL6.out.1.alloc _) (heap_al1 _ _) (by have := HL6.out.1.lt; omega) (by have := HL.out; rw [HT.out, HT'.out]; simp only [List.length_append]; omega) (by simp; omega)).mono ?_
  rintro e w7 ⟨rfl, hL7⟩
  have hfin : Lays W.heap.size b (l ++ pair x.data.toList y.data.toList z.data.toList (kids.map tx)) w w7 := by
    have h1 := Lays.new (by omega) (below1 w6 _) hL7
    have h2 := Lays.new hB (below2 w _ _) (HL6.out.trans h1)
    rw [HT.out, HT'.out] at h2
    simpa only [pair, nt_map, List.append_assoc] using h2
  clear hL7
  go_wp2
  go_end0
  exact ⟨rfl, hfin⟩
end Go.Proofs.YtojkagfbdpjckaaDoor
