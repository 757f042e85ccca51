/-
  A list of expressions that is laid on a page.
-/
import Derived.Test.YtojkagfbdpjckaaDoorTwo
namespace Go.Proofs.YtojkagfbdpjckaaDoor
open Go.RowKit

set_option maxHeartbeats 1000000 in
theorem list_any (W : World) (b : Nat) (Q : Tree → Value → Prop) (hQ : ∀ t kk, t.ok → Q t kk → LayOK W b t kk) (kids : List Tree) (ka : Option Addr) (kc : Nat) (hk : Kids W Q kids (.slice ka kids.length kc)) (l : Bs) (w : World)
    (hw : Below W.heap.size W w) (hp : Pg W.heap.size b (Lib.byteCells l) w) (hlen : l.length + (lst (kids.map tx)).length ≤ 140737488355328) :
    Calls Tryd.prog 43 #[.pointer (some ⟨b, 0, none⟩), .slice ka kids.length kc, .func (.func 28) #[] #[]] w fun e w' => e = .returned (.tuple #[]) ∧ Lays W.heap.size b (l ++ lst (kids.map tx)) w w' := by
  obtain ⟨_, hl, hc, hkk⟩ := hk.at
  unfold maxLen at hc
  have hB := hw.size
  have hlt := hp.lt
  have hgb : w.heap.size ≠ b := by omega
  have hlen2 : l.length + ((cm (kids.map tx)).length + 2) ≤ 140737488355328 := by
    have := hlen; simp only [lst, List.length_append, List.length_cons, List.length_nil] at this; omega
  have HL := Lib.hid hlen2
  have HK := Lib.hid hkk
  clear hlen hlen2 hkk
  go_enter Tryd.func43, Tryd.ntmps43
  go_wp2_with fail
  refine (put1 W.heap.size b w.heap.size l _ _ (hp.alloc _) (heap_al1 _ _) hgb (by have := HL.out; simp; omega) (by simp; omega)).mono ?_
  rintro e w1 ⟨rfl, hL1⟩
  have hL1' : Lays W.heap.size b (l ++ [40] ++ cm ((kids.map tx).take 0)) w w1 := by
    have := Lays.new hB (below1 w _) hL1
    simpa [cm] using this
  have HL1 := Lib.hid hL1'
  clear hL1 hL1'
  go_wp2
  go_loopw [13] (fun i wr => ∃ k : Nat, k ≤ kids.length ∧ i = .int .i64 k ∧ Lays W.heap.size b (l ++ [40] ++ cm ((kids.map tx).take k)) w wr) (fun i _ => kids.length - (intOf i).toNat)
  case atStart => exact ⟨0, Nat.zero_le _, rfl, HL1.out⟩
  case round =>
    obtain ⟨k, hk1, rfl, hL⟩ := hrel
    have HLr := Lib.hid hL
    clear hL
    have hwr : Below W.heap.size W wr := hw.trans HLr.out.2.1
    have hsr := HLr.out.size
    have hbr := HLr.out.1.lt
    by_cases hlt2 : k < kids.length
    · obtain ⟨g, o, kk, rfl, hcell, ⟨ka2, kn2, kc2, rfl⟩, hok, hq⟩ := HK.out k kids[k] (List.getElem?_eq_getElem hlt2)
      have hlay := hQ _ _ hok hq
      have hc2 := hcell.below hwr
      have HC := Lib.hid (cm_snoc (kids.map tx) k (by simpa using hlt2))
      have hcl := cm_take_le (kids.map tx) (k + 1)
      have hcl2 : (cm ((kids.map tx).take (k + 1))).length = (cm ((kids.map tx).take k)).length + ((if k = 0 then [] else [44, 32] : Bs).length + (tx kids[k]).length) := by rw [HC.out]; simp
      have HC2 := Lib.hid hcl2
      clear hcl2 hcell
      have HCC : Hid (cm ((kids.map tx).take (k + 1)) = cm ((kids.map tx).take k) ++ ((if k = 0 then [] else [44, 32]) ++ tx kids[k])) := Lib.hid (by rw [HC.out]; simp)
      clear HC
      generalize kids[k] = t at *
      obtain ⟨kind, ln, co, num, name, tn, ta, kids', fn, fa, ow⟩ := t
      have c0 : wr.cell? ⟨g, o + k * 11, none⟩ = some (.int .i64 kind) := hc2 0 _ rfl
      have hb : g < wr.heap.size := World.block_lt_of_cell? _ _ c0
      have c1 := hc2 1 _ rfl
      have c2 := hc2 2 _ rfl
      have c3 := hc2 3 _ rfl
      have c4 := hc2 4 _ rfl
      have c5 := hc2 5 _ rfl
      have c6 := hc2 6 _ rfl
      have c7 := hc2 7 _ rfl
      have c8 := hc2 8 _ rfl
      have c9 := hc2 9 _ rfl
      have c10 := hc2 10 _ rfl
      clear hc2
      by_cases h0 : 0 < k
      · have hlen3 : ((if k = 0 then [] else [44, 32] : Bs)) = [44, 32] := if_neg (by omega)
        have H3 := Lib.hid hlen3
        clear hlen3
        go_wp2_with fail
        refine (put1 W.heap.size b (wr.heap.size + 1) _ _ _ ((HLr.out.1.alloc _).alloc _) (heap_al3 _ _ _) (by omega) (by have := HL.out; have h2 := HC2.out; rw [H3.out] at h2; simp at h2 ⊢; omega) (by simp; omega)).mono ?_
        rintro e w2 ⟨rfl, hL2⟩
        have hr2 := hL2.row (heap_al2 _ _ _) (by omega) (by decide)
        have d0 := cell_row hr2 0 rfl
        have d1 := cell_row hr2 1 rfl
        have d2 := cell_row hr2 2 rfl
        have d3 := cell_row hr2 3 rfl
        have d4 := cell_row hr2 4 rfl
        have d5 := cell_row hr2 5 rfl
        have d6 := cell_row hr2 6 rfl
        have d7 := cell_row hr2 7 rfl
        have d8 := cell_row hr2 8 rfl
        have d9 := cell_row hr2 9 rfl
        have d10 := cell_row hr2 10 rfl
        have HL2 := Lib.hid (HLr.out.trans (Lays.new (by omega) (below2 wr _ _) hL2))
        clear hr2 hL2
        have hw2 : Below W.heap.size W w2 := hw.trans HL2.out.2.1
        go_wp2_with fail
        refine (hlay _ w2 hw2 HL2.out.1 (by have := HL.out; have h2 := HC2.out; rw [H3.out] at h2; simp at h2 ⊢; omega)).mono ?_
        rintro e w3 ⟨rfl, hL3⟩
        have HL3 := Lib.hid (HL2.out.trans hL3)
        clear hL3
        go_wp2
        go_roundw
        case rel =>
          refine ⟨k + 1, by omega, by go_num, ?_⟩
          have := HL3.out
          rw [HCC.out, H3.out]
          simpa only [List.append_assoc] using this
        case measure => simp [intOf]; omega
      · have hlen3 : ((if k = 0 then [] else [44, 32] : Bs)) = [] := if_pos (by omega)
        have H3 := Lib.hid hlen3
        clear hlen3
        go_wp2_with fail
        refine (hlay _ _ (hwr.trans ((below1 wr _).mono (by omega))) (HLr.out.1.alloc _) (by have := HL.out; have h2 := HC2.out; rw [H3.out] at h2; simp at h2 ⊢; omega)).mono ?_
        rintro e w3 ⟨rfl, hL3⟩
        have HL3 := Lib.hid (HLr.out.trans (Lays.new (by omega) (below1 wr _) hL3))
        clear hL3
        go_wp2
        go_roundw
        case rel =>
          refine ⟨k + 1, by omega, by go_num, ?_⟩
          have := HL3.out
          rw [HCC.out, H3.out]
          simpa only [List.append_assoc, List.nil_append] using this
        case measure => simp [intOf]; omega
    · have HE : Hid ((kids.map tx).take k = kids.map tx) := Lib.hid (List.take_of_length_le (by simp; omega))
      go_wp2_with fail
      refine (put1 W.heap.size b wr.heap.size _ _ _ (HLr.out.1.alloc _) (heap_al1 _ _) (by omega) (by have := HL.out; have h2 := cm_take_le (kids.map tx) k; simp at h2 ⊢; omega) (by simp; omega)).mono ?_
      rintro e w2 ⟨rfl, hL2⟩
      have HL2 := Lib.hid (HLr.out.trans (Lays.new (by omega) (below1 wr _) hL2))
      clear hL2
      go_wp2
      go_end0
      refine ⟨rfl, ?_⟩
      have := HL2.out
      rw [HE.out] at this
      simpa only [lst, List.append_assoc] using this
end Go.Proofs.YtojkagfbdpjckaaDoor
