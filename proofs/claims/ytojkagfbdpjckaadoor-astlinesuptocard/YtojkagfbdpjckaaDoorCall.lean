/-
  An expression that is laid on a page: a call of a method.
-/
import Derived.Test.YtojkagfbdpjckaaDoorKinds2
namespace Go.Proofs.YtojkagfbdpjckaaDoor
open Go.RowKit Go.Lib Go.Sort

theorem Kids.rest {W : World} {Q : Tree → Value → Prop} {kids : List Tree} {ka : Option Addr} {kn kc : Nat} (h : Kids W Q kids (.slice ka kn kc)) : Kids W Q (kids.drop 1) (.slice (ka.map fun x => x.add ((min 1 (kn : Int)).toNat * 11)) (kn - (min 1 (kn : Int)).toNat) (kc - (min 1 (kn : Int)).toNat)) := by
  obtain ⟨rfl, hl, hc, hk⟩ := h.at
  refine ⟨_, _, by rw [List.length_drop, show (min 1 (kids.length : Int)).toNat = min 1 kids.length by omega, show kids.length - min 1 kids.length = kids.length - 1 by omega], by rw [List.length_drop]; omega, by omega, fun i t' hi => ?_⟩
  rw [List.getElem?_drop] at hi
  have hlt : 1 + i < kids.length := (List.getElem?_eq_some_iff.1 hi).1
  obtain ⟨b', o', kk, rfl, hcell, hka, hok, hq⟩ := hk (1 + i) t' hi
  refine ⟨b', o' + 11, kk, ?_, fun j v hv => ?_, hka, hok, hq⟩
  · rw [show min 1 kids.length * 11 = 11 by omega]; rfl
  · have := hcell j v hv
    rw [show o' + 11 + i * 11 + j = o' + (1 + i) * 11 + j by omega]
    exact this
theorem Kids.rest0 {W : World} {Q : Tree → Value → Prop} {kids : List Tree} {ka : Option Addr} {kn : Nat} (h : Kids W Q kids (.slice ka kn (min 1 (kn : Int)).toNat)) : Kids W Q (kids.drop 1) (.slice ka (kn - (min 1 (kn : Int)).toNat) 0) := by
  obtain ⟨rfl, hl, hc, hk⟩ := h.at
  have h1 : kids.length ≤ 1 := by omega
  have e : kids.drop 1 = [] := List.drop_of_length_le h1
  rw [e, show kids.length - (min 1 (kids.length : Int)).toNat = 0 by omega]
  exact ⟨_, _, rfl, Nat.le_refl _, Nat.zero_le _, fun i t h => by simp at h⟩
theorem list_at (W : World) (b : Nat) (Q : Tree → Value → Prop) (hQ : ∀ t kk, t.ok → Q t kk → LayOK W b t kk) (kids : List Tree) (ka : Option Addr) (kn kc : Nat) (hk : Kids W Q kids (.slice ka kn kc)) (l : Bs) (w : World)
    (hw : Below W.heap.size W w) (hp : Pg W.heap.size b (Lib.byteCells l) w) (hlen : l.length + (lst (kids.map tx)).length ≤ 140737488355328) :
    Calls Tryd.prog 43 #[.pointer (some ⟨b, 0, none⟩), .slice ka kn kc, .func (.func 28) #[] #[]] w fun e w' => e = .returned (.tuple #[]) ∧ Lays W.heap.size b (l ++ lst (kids.map tx)) w w' := by
  obtain ⟨rfl, _⟩ := hk.at
  exact list_any W b Q hQ kids ka kc hk l w hw hp hlen

set_option maxHeartbeats 1000000 in
set_option maxRecDepth 100000 in
theorem lay_call (W : World) (b : Nat) (Q : Tree → Value → Prop) (hQ : ∀ t kk, t.ok → Q t kk → LayOK W b t kk) (hz : LayOK W b Tree.zero (.slice none 0 0)) (ln co num : Int) (name tn : ByteArray) (ta : Bool) (kids : List Tree) (fn : ByteArray) (fa : Bool) (ow : ByteArray) (ka : Option Addr) (kn kc : Nat) (hk : Kids W Q kids (.slice ka kn kc)) :
    LayOK W b (.mk 8 ln co num name tn ta kids fn fa ow) (.slice ka kn kc) := by
  intro l w hw hp hlen
  have hB := hw.size
  have hlt := hp.lt
  rw [show tx (.mk 8 ln co num name tn ta kids fn fa ow) = one [] ([46] ++ name.data.toList) (kids.map tx) ++ lst ((kids.drop 1).map tx) from by rw [tx_mk, List.map_drop]; rfl] at hlen ⊢
  have hn : name.size ≤ 140737488355328 := by have := hlen; simp [Go.Proofs.YtojkagfbdpjckaaDoor.one] at this; omega
  have h1 : ¬ 9223372036854775807 < 1 + name.size := by omega
  have HX := Lib.hid (show (⟨#[46]⟩ ++ name : ByteArray).data.toList = [46] ++ name.data.toList by simp)
  have hlen1 : l.length + (one [] ([46] ++ name.data.toList) (kids.map tx)).length ≤ 140737488355328 := by have := hlen; simp only [List.length_append] at this ⊢; omega
  have HLen := Lib.hid (show l.length + ((one [] ([46] ++ name.data.toList) (kids.map tx)).length + (lst ((kids.drop 1).map tx)).length) ≤ 140737488355328 by have := hlen; simp only [List.length_append] at this ⊢; omega)
  clear hlen
  unfold exprV exprC
  go_enter Tryd.func28, Tryd.ntmps28
  go_wp2_with fail
  refine (one_any W b Q hQ hz 8 ln co num name tn ta kids fn fa ow ka kn kc hk _ _ l _ (hw.trans ((below1 w _).mono hB)) (hp.alloc _) (by rw [HX.out]; exact hlen1)).mono ?_
  rintro e w1 ⟨rfl, hL1⟩
  rw [HX.out] at hL1
  have hr1 := hL1.row (heap_al1 _ _) (by omega) (by decide)
  have c7 := cell_row hr1 7 rfl
  have HL1 := Lib.hid (Lays.new hB (below1 w _) hL1)
  clear hr1 hL1
  have hw1 : Below W.heap.size W w1 := hw.trans HL1.out.2.1
  have HLn := Lib.hid (show (l ++ one [] ([46] ++ name.data.toList) (kids.map tx)).length + (lst ((kids.drop 1).map tx)).length ≤ 140737488355328 by have := HLen.out; rw [List.length_append]; omega)
  go_wp2_with fail
  · have hk0 : Kids W Q kids (.slice ka kn (min 1 (kn : Int)).toNat) := by
      have e : kc = (min 1 (kn : Int)).toNat := by assumption
      rw [← e]; exact hk
    refine (list_at W b Q hQ (kids.drop 1) _ _ _ (Kids.rest0 hk0) _ w1 hw1 HL1.out.1 HLn.out).mono ?_
    rintro e w2 ⟨rfl, hL2⟩
    have hfin := HL1.out.trans hL2
    clear hL2
    go_wp2
    go_end0
    refine ⟨rfl, ?_⟩
    rw [List.append_assoc] at hfin
    exact hfin
  · refine (list_at W b Q hQ (kids.drop 1) _ _ _ hk.rest _ w1 hw1 HL1.out.1 HLn.out).mono ?_
    rintro e w2 ⟨rfl, hL2⟩
    have hfin := HL1.out.trans hL2
    clear hL2
    go_wp2
    go_end0
    refine ⟨rfl, ?_⟩
    rw [List.append_assoc] at hfin
    exact hfin
end Go.Proofs.YtojkagfbdpjckaaDoor
