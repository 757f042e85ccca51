/-
  An expression that is laid on a page, kind by kind.
-/
import Derived.Test.YtojkagfbdpjckaaDoorList
import Derived.Test.YtojkagfbdpjckaaDoorShelf
import Derived.Lib.AppendIntMem
namespace Go.Proofs.YtojkagfbdpjckaaDoor
open Go.RowKit Go.Lib Go.Sort

theorem below_grow (w : World) (os : Array Obj) (k : Nat) : Below w.heap.size w (grow (w.drewN k) os) := ⟨rfl, rfl, rfl, by simp [grow], fun j hj => by (show (w.heap ++ os)[j]? = _); rw [Array.getElem?_append_left hj]⟩

set_option maxHeartbeats 1000000 in
set_option maxRecDepth 100000 in
theorem lay_true (W : World) (b : Nat) (ln co num : Int) (name tn : ByteArray) (ta : Bool) (kids : List Tree) (fn : ByteArray) (fa : Bool) (ow : ByteArray) (ka : Option Addr) (kn kc : Nat) :
    LayOK W b (.mk 2 ln co num name tn ta kids fn fa ow) (.slice ka kn kc) := by
  intro l w hw hp hlen
  have hB := hw.size
  have hlt := hp.lt
  rw [show tx (.mk 2 ln co num name tn ta kids fn fa ow) = [116, 114, 117, 101] from by rw [tx_mk]; rfl] at hlen ⊢
  unfold exprV exprC
  go_enter Tryd.func28, Tryd.ntmps28
  go_wp2_with fail
  refine (put1 W.heap.size b (w.heap.size + 1) l _ _ ((hp.alloc _).alloc _) (heap_al3 _ _ _) (by omega) (by simpa using hlen) (by simp; omega)).mono ?_
  rintro e w1 ⟨rfl, hL1⟩
  have hfin := Lays.new hB (below2 w _ _) hL1
  clear hL1
  go_wp2
  go_end0
  exact ⟨rfl, hfin⟩
set_option maxHeartbeats 1000000 in
set_option maxRecDepth 100000 in
theorem lay_false (W : World) (b : Nat) (ln co num : Int) (name tn : ByteArray) (ta : Bool) (kids : List Tree) (fn : ByteArray) (fa : Bool) (ow : ByteArray) (ka : Option Addr) (kn kc : Nat) :
    LayOK W b (.mk 3 ln co num name tn ta kids fn fa ow) (.slice ka kn kc) := by
  intro l w hw hp hlen
  have hB := hw.size
  have hlt := hp.lt
  rw [show tx (.mk 3 ln co num name tn ta kids fn fa ow) = [102, 97, 108, 115, 101] from by rw [tx_mk]; rfl] at hlen ⊢
  unfold exprV exprC
  go_enter Tryd.func28, Tryd.ntmps28
  go_wp2_with fail
  refine (put1 W.heap.size b (w.heap.size + 1) l _ _ ((hp.alloc _).alloc _) (heap_al3 _ _ _) (by omega) (by simpa using hlen) (by simp; omega)).mono ?_
  rintro e w1 ⟨rfl, hL1⟩
  have hfin := Lays.new hB (below2 w _ _) hL1
  clear hL1
  go_wp2
  go_end0
  exact ⟨rfl, hfin⟩
set_option maxHeartbeats 1000000 in
set_option maxRecDepth 100000 in
theorem lay_this (W : World) (b : Nat) (ln co num : Int) (name tn : ByteArray) (ta : Bool) (kids : List Tree) (fn : ByteArray) (fa : Bool) (ow : ByteArray) (ka : Option Addr) (kn kc : Nat) :
    LayOK W b (.mk 5 ln co num name tn ta kids fn fa ow) (.slice ka kn kc) := by
  intro l w hw hp hlen
  have hB := hw.size
  have hlt := hp.lt
  rw [show tx (.mk 5 ln co num name tn ta kids fn fa ow) = [116, 104, 105, 115] from by rw [tx_mk]; rfl] at hlen ⊢
  unfold exprV exprC
  go_enter Tryd.func28, Tryd.ntmps28
  go_wp2_with fail
  refine (put1 W.heap.size b (w.heap.size + 1) l _ _ ((hp.alloc _).alloc _) (heap_al3 _ _ _) (by omega) (by simpa using hlen) (by simp; omega)).mono ?_
  rintro e w1 ⟨rfl, hL1⟩
  have hfin := Lays.new hB (below2 w _ _) hL1
  clear hL1
  go_wp2
  go_end0
  exact ⟨rfl, hfin⟩
set_option maxHeartbeats 1000000 in
set_option maxRecDepth 100000 in
theorem lay_null (W : World) (b : Nat) (ln co num : Int) (name tn : ByteArray) (ta : Bool) (kids : List Tree) (fn : ByteArray) (fa : Bool) (ow : ByteArray) (ka : Option Addr) (kn kc : Nat) :
    LayOK W b (.mk 4 ln co num name tn ta kids fn fa ow) (.slice ka kn kc) := by
  intro l w hw hp hlen
  have hB := hw.size
  have hlt := hp.lt
  rw [show tx (.mk 4 ln co num name tn ta kids fn fa ow) = [110, 117, 108, 108] from by rw [tx_mk]; rfl] at hlen ⊢
  unfold exprV exprC
  go_enter Tryd.func28, Tryd.ntmps28
  go_wp2_with fail
  refine (put1 W.heap.size b (w.heap.size + 1) l _ _ ((hp.alloc _).alloc _) (heap_al3 _ _ _) (by omega) (by simpa using hlen) (by simp; omega)).mono ?_
  rintro e w1 ⟨rfl, hL1⟩
  have hfin := Lays.new hB (below2 w _ _) hL1
  clear hL1
  go_wp2
  go_end0
  exact ⟨rfl, hfin⟩
set_option maxHeartbeats 1000000 in
set_option maxRecDepth 100000 in
theorem lay_local (W : World) (b : Nat) (ln co num : Int) (name tn : ByteArray) (ta : Bool) (kids : List Tree) (fn : ByteArray) (fa : Bool) (ow : ByteArray) (ka : Option Addr) (kn kc : Nat) :
    LayOK W b (.mk 6 ln co num name tn ta kids fn fa ow) (.slice ka kn kc) := by
  intro l w hw hp hlen
  have hB := hw.size
  have hlt := hp.lt
  rw [show tx (.mk 6 ln co num name tn ta kids fn fa ow) = name.data.toList from by rw [tx_mk]; rfl] at hlen ⊢
  unfold exprV exprC
  go_enter Tryd.func28, Tryd.ntmps28
  go_wp2_with fail
  refine (put1 W.heap.size b (w.heap.size + 1) l _ _ ((hp.alloc _).alloc _) (heap_al3 _ _ _) (by omega) hlen (by simp; omega)).mono ?_
  rintro e w1 ⟨rfl, hL1⟩
  have hfin := Lays.new hB (below2 w _ _) hL1
  clear hL1
  go_wp2
  go_end0
  exact ⟨rfl, hfin⟩
set_option maxHeartbeats 1000000 in
set_option maxRecDepth 100000 in
theorem lay_new (W : World) (b : Nat) (ln co num : Int) (name tn : ByteArray) (ta : Bool) (kids : List Tree) (fn : ByteArray) (fa : Bool) (ow : ByteArray) (ka : Option Addr) (kn kc : Nat) :
    LayOK W b (.mk 10 ln co num name tn ta kids fn fa ow) (.slice ka kn kc) := by
  intro l w hw hp hlen
  have hB := hw.size
  have hlt := hp.lt
  rw [show tx (.mk 10 ln co num name tn ta kids fn fa ow) = [40, 110, 101, 119, 32] ++ tn.data.toList ++ [41] from by rw [tx_mk]; rfl] at hlen ⊢
  unfold exprV exprC
  go_enter Tryd.func28, Tryd.ntmps28
  go_wp2_with fail
  refine (put3 W.heap.size b (w.heap.size + 1) l _ _ _ _ ((hp.alloc _).alloc _) (heap_al3 _ _ _) (by omega) hlen (by simp; omega)).mono ?_
  rintro e w1 ⟨rfl, hL1⟩
  have hfin := Lays.new hB (below2 w _ _) hL1
  clear hL1
  go_wp2
  go_end0
  exact ⟨rfl, hfin⟩
set_option maxHeartbeats 1000000 in
set_option maxRecDepth 100000 in
theorem lay_elem (W : World) (b : Nat) (Q : Tree → Value → Prop) (hQ : ∀ t kk, t.ok → Q t kk → LayOK W b t kk) (hz : LayOK W b Tree.zero (.slice none 0 0)) (ln co num : Int) (name tn : ByteArray) (ta : Bool) (kids : List Tree) (fn : ByteArray) (fa : Bool) (ow : ByteArray) (ka : Option Addr) (kn kc : Nat) (hk : Kids W Q kids (.slice ka kn kc)) :
    LayOK W b (.mk 12 ln co num name tn ta kids fn fa ow) (.slice ka kn kc) := by
  intro l w hw hp hlen
  have hB := hw.size
  have hlt := hp.lt
  rw [show tx (.mk 12 ln co num name tn ta kids fn fa ow) = pair [] [91] [93] (kids.map tx) from by rw [tx_mk]; rfl] at hlen ⊢
  unfold exprV exprC
  go_enter Tryd.func28, Tryd.ntmps28
  go_wp2_with fail
  refine (two_any W b Q hQ hz 12 ln co num name tn ta kids fn fa ow ka kn kc hk _ _ _ l _ (hw.trans ((below1 w _).mono hB)) (hp.alloc _) (by exact hlen)).mono ?_
  rintro e w1 ⟨rfl, hL1⟩
  have hfin := Lays.new hB (below1 w _) hL1
  clear hL1
  go_wp2
  go_end0
  exact ⟨rfl, hfin⟩
set_option maxHeartbeats 1000000 in
set_option maxRecDepth 100000 in
theorem lay_bin (W : World) (b : Nat) (Q : Tree → Value → Prop) (hQ : ∀ t kk, t.ok → Q t kk → LayOK W b t kk) (hz : LayOK W b Tree.zero (.slice none 0 0)) (ln co num : Int) (name tn : ByteArray) (ta : Bool) (kids : List Tree) (fn : ByteArray) (fa : Bool) (ow : ByteArray) (ka : Option Addr) (kn kc : Nat) (hk : Kids W Q kids (.slice ka kn kc)) :
    LayOK W b (.mk 16 ln co num name tn ta kids fn fa ow) (.slice ka kn kc) := by
  intro l w hw hp hlen
  have hB := hw.size
  have hlt := hp.lt
  rw [show tx (.mk 16 ln co num name tn ta kids fn fa ow) = pair [40] ([32] ++ name.data.toList ++ [32]) [41] (kids.map tx) from by rw [tx_mk]; rfl] at hlen ⊢
  unfold exprV exprC
  have hn : name.size ≤ 140737488355328 := by have := hlen; simp [pair] at this; omega
  have h1 : ¬ 9223372036854775807 < 1 + name.size := by omega
  have h2 : ¬ 9223372036854775807 < 1 + name.size + 1 := by omega
  have HX := Lib.hid (show (⟨#[32]⟩ ++ name ++ ⟨#[32]⟩ : ByteArray).data.toList = ([32] ++ name.data.toList ++ [32]) by simp)
  go_enter Tryd.func28, Tryd.ntmps28
  go_wp2_with fail
  refine (two_any W b Q hQ hz 16 ln co num name tn ta kids fn fa ow ka kn kc hk _ _ _ l _ (hw.trans ((below1 w _).mono hB)) (hp.alloc _) (by rw [HX.out]; exact hlen)).mono ?_
  rintro e w1 ⟨rfl, hL1⟩
  rw [HX.out] at hL1
  have hfin := Lays.new hB (below1 w _) hL1
  clear hL1
  go_wp2
  go_end0
  exact ⟨rfl, hfin⟩
set_option maxHeartbeats 1000000 in
set_option maxRecDepth 100000 in
theorem lay_and (W : World) (b : Nat) (Q : Tree → Value → Prop) (hQ : ∀ t kk, t.ok → Q t kk → LayOK W b t kk) (hz : LayOK W b Tree.zero (.slice none 0 0)) (ln co num : Int) (name tn : ByteArray) (ta : Bool) (kids : List Tree) (fn : ByteArray) (fa : Bool) (ow : ByteArray) (ka : Option Addr) (kn kc : Nat) (hk : Kids W Q kids (.slice ka kn kc)) :
    LayOK W b (.mk 17 ln co num name tn ta kids fn fa ow) (.slice ka kn kc) := by
  intro l w hw hp hlen
  have hB := hw.size
  have hlt := hp.lt
  rw [show tx (.mk 17 ln co num name tn ta kids fn fa ow) = pair [40] [32, 38, 38, 32] [41] (kids.map tx) from by rw [tx_mk]; rfl] at hlen ⊢
  unfold exprV exprC
  go_enter Tryd.func28, Tryd.ntmps28
  go_wp2_with fail
  refine (two_any W b Q hQ hz 17 ln co num name tn ta kids fn fa ow ka kn kc hk _ _ _ l _ (hw.trans ((below1 w _).mono hB)) (hp.alloc _) (by exact hlen)).mono ?_
  rintro e w1 ⟨rfl, hL1⟩
  have hfin := Lays.new hB (below1 w _) hL1
  clear hL1
  go_wp2
  go_end0
  exact ⟨rfl, hfin⟩
set_option maxHeartbeats 1000000 in
set_option maxRecDepth 100000 in
theorem lay_or (W : World) (b : Nat) (Q : Tree → Value → Prop) (hQ : ∀ t kk, t.ok → Q t kk → LayOK W b t kk) (hz : LayOK W b Tree.zero (.slice none 0 0)) (ln co num : Int) (name tn : ByteArray) (ta : Bool) (kids : List Tree) (fn : ByteArray) (fa : Bool) (ow : ByteArray) (ka : Option Addr) (kn kc : Nat) (hk : Kids W Q kids (.slice ka kn kc)) :
    LayOK W b (.mk 18 ln co num name tn ta kids fn fa ow) (.slice ka kn kc) := by
  intro l w hw hp hlen
  have hB := hw.size
  have hlt := hp.lt
  rw [show tx (.mk 18 ln co num name tn ta kids fn fa ow) = pair [40] [32, 124, 124, 32] [41] (kids.map tx) from by rw [tx_mk]; rfl] at hlen ⊢
  unfold exprV exprC
  go_enter Tryd.func28, Tryd.ntmps28
  go_wp2_with fail
  refine (two_any W b Q hQ hz 18 ln co num name tn ta kids fn fa ow ka kn kc hk _ _ _ l _ (hw.trans ((below1 w _).mono hB)) (hp.alloc _) (by exact hlen)).mono ?_
  rintro e w1 ⟨rfl, hL1⟩
  have hfin := Lays.new hB (below1 w _) hL1
  clear hL1
  go_wp2
  go_end0
  exact ⟨rfl, hfin⟩
set_option maxHeartbeats 1000000 in
set_option maxRecDepth 100000 in
theorem lay_get (W : World) (b : Nat) (Q : Tree → Value → Prop) (hQ : ∀ t kk, t.ok → Q t kk → LayOK W b t kk) (hz : LayOK W b Tree.zero (.slice none 0 0)) (ln co num : Int) (name tn : ByteArray) (ta : Bool) (kids : List Tree) (fn : ByteArray) (fa : Bool) (ow : ByteArray) (ka : Option Addr) (kn kc : Nat) (hk : Kids W Q kids (.slice ka kn kc)) :
    LayOK W b (.mk 7 ln co num name tn ta kids fn fa ow) (.slice ka kn kc) := by
  intro l w hw hp hlen
  have hB := hw.size
  have hlt := hp.lt
  rw [show tx (.mk 7 ln co num name tn ta kids fn fa ow) = one [] ([46] ++ name.data.toList) (kids.map tx) from by rw [tx_mk]; rfl] at hlen ⊢
  unfold exprV exprC
  have hn : name.size ≤ 140737488355328 := by have := hlen; simp [Go.Proofs.YtojkagfbdpjckaaDoor.one] at this; omega
  have h1 : ¬ 9223372036854775807 < 1 + name.size := by omega
  have HX := Lib.hid (show (⟨#[46]⟩ ++ name : ByteArray).data.toList = [46] ++ name.data.toList by simp)
  go_enter Tryd.func28, Tryd.ntmps28
  go_wp2_with fail
  refine (one_any W b Q hQ hz 7 ln co num name tn ta kids fn fa ow ka kn kc hk _ _ l _ (hw.trans ((below1 w _).mono hB)) (hp.alloc _) (by rw [HX.out]; exact hlen)).mono ?_
  rintro e w1 ⟨rfl, hL1⟩
  rw [HX.out] at hL1
  have hfin := Lays.new hB (below1 w _) hL1
  clear hL1
  go_wp2
  go_end0
  exact ⟨rfl, hfin⟩
set_option maxHeartbeats 1000000 in
set_option maxRecDepth 100000 in
theorem lay_array (W : World) (b : Nat) (Q : Tree → Value → Prop) (hQ : ∀ t kk, t.ok → Q t kk → LayOK W b t kk) (hz : LayOK W b Tree.zero (.slice none 0 0)) (ln co num : Int) (name tn : ByteArray) (ta : Bool) (kids : List Tree) (fn : ByteArray) (fa : Bool) (ow : ByteArray) (ka : Option Addr) (kn kc : Nat) (hk : Kids W Q kids (.slice ka kn kc)) :
    LayOK W b (.mk 11 ln co num name tn ta kids fn fa ow) (.slice ka kn kc) := by
  intro l w hw hp hlen
  have hB := hw.size
  have hlt := hp.lt
  rw [show tx (.mk 11 ln co num name tn ta kids fn fa ow) = one ([110, 101, 119, 32] ++ tn.data.toList ++ [91]) [93] (kids.map tx) from by rw [tx_mk]; rfl] at hlen ⊢
  unfold exprV exprC
  have hn : tn.size ≤ 140737488355328 := by have := hlen; simp [Go.Proofs.YtojkagfbdpjckaaDoor.one] at this; omega
  have h1 : ¬ 9223372036854775807 < 4 + tn.size := by omega
  have h2 : ¬ 9223372036854775807 < 4 + tn.size + 1 := by omega
  have HX := Lib.hid (show (⟨#[110, 101, 119, 32]⟩ ++ tn ++ ⟨#[91]⟩ : ByteArray).data.toList = [110, 101, 119, 32] ++ tn.data.toList ++ [91] by simp)
  go_enter Tryd.func28, Tryd.ntmps28
  go_wp2_with fail
  refine (one_any W b Q hQ hz 11 ln co num name tn ta kids fn fa ow ka kn kc hk _ _ l _ (hw.trans ((below1 w _).mono hB)) (hp.alloc _) (by rw [HX.out]; exact hlen)).mono ?_
  rintro e w1 ⟨rfl, hL1⟩
  rw [HX.out] at hL1
  have hfin := Lays.new hB (below1 w _) hL1
  clear hL1
  go_wp2
  go_end0
  exact ⟨rfl, hfin⟩
set_option maxHeartbeats 1000000 in
set_option maxRecDepth 100000 in
theorem lay_length (W : World) (b : Nat) (Q : Tree → Value → Prop) (hQ : ∀ t kk, t.ok → Q t kk → LayOK W b t kk) (hz : LayOK W b Tree.zero (.slice none 0 0)) (ln co num : Int) (name tn : ByteArray) (ta : Bool) (kids : List Tree) (fn : ByteArray) (fa : Bool) (ow : ByteArray) (ka : Option Addr) (kn kc : Nat) (hk : Kids W Q kids (.slice ka kn kc)) :
    LayOK W b (.mk 13 ln co num name tn ta kids fn fa ow) (.slice ka kn kc) := by
  intro l w hw hp hlen
  have hB := hw.size
  have hlt := hp.lt
  rw [show tx (.mk 13 ln co num name tn ta kids fn fa ow) = one [] [46, 108, 101, 110, 103, 116, 104] (kids.map tx) from by rw [tx_mk]; rfl] at hlen ⊢
  unfold exprV exprC
  go_enter Tryd.func28, Tryd.ntmps28
  go_wp2_with fail
  refine (one_any W b Q hQ hz 13 ln co num name tn ta kids fn fa ow ka kn kc hk _ _ l _ (hw.trans ((below1 w _).mono hB)) (hp.alloc _) (by exact hlen)).mono ?_
  rintro e w1 ⟨rfl, hL1⟩
  have hfin := Lays.new hB (below1 w _) hL1
  clear hL1
  go_wp2
  go_end0
  exact ⟨rfl, hfin⟩
set_option maxHeartbeats 1000000 in
set_option maxRecDepth 100000 in
theorem lay_neg (W : World) (b : Nat) (Q : Tree → Value → Prop) (hQ : ∀ t kk, t.ok → Q t kk → LayOK W b t kk) (hz : LayOK W b Tree.zero (.slice none 0 0)) (ln co num : Int) (name tn : ByteArray) (ta : Bool) (kids : List Tree) (fn : ByteArray) (fa : Bool) (ow : ByteArray) (ka : Option Addr) (kn kc : Nat) (hk : Kids W Q kids (.slice ka kn kc)) :
    LayOK W b (.mk 14 ln co num name tn ta kids fn fa ow) (.slice ka kn kc) := by
  intro l w hw hp hlen
  have hB := hw.size
  have hlt := hp.lt
  rw [show tx (.mk 14 ln co num name tn ta kids fn fa ow) = one [40, 45] [41] (kids.map tx) from by rw [tx_mk]; rfl] at hlen ⊢
  unfold exprV exprC
  go_enter Tryd.func28, Tryd.ntmps28
  go_wp2_with fail
  refine (one_any W b Q hQ hz 14 ln co num name tn ta kids fn fa ow ka kn kc hk _ _ l _ (hw.trans ((below1 w _).mono hB)) (hp.alloc _) (by exact hlen)).mono ?_
  rintro e w1 ⟨rfl, hL1⟩
  have hfin := Lays.new hB (below1 w _) hL1
  clear hL1
  go_wp2
  go_end0
  exact ⟨rfl, hfin⟩
set_option maxHeartbeats 1000000 in
set_option maxRecDepth 100000 in
theorem lay_not (W : World) (b : Nat) (Q : Tree → Value → Prop) (hQ : ∀ t kk, t.ok → Q t kk → LayOK W b t kk) (hz : LayOK W b Tree.zero (.slice none 0 0)) (ln co num : Int) (name tn : ByteArray) (ta : Bool) (kids : List Tree) (fn : ByteArray) (fa : Bool) (ow : ByteArray) (ka : Option Addr) (kn kc : Nat) (hk : Kids W Q kids (.slice ka kn kc)) :
    LayOK W b (.mk 15 ln co num name tn ta kids fn fa ow) (.slice ka kn kc) := by
  intro l w hw hp hlen
  have hB := hw.size
  have hlt := hp.lt
  rw [show tx (.mk 15 ln co num name tn ta kids fn fa ow) = one [40, 33] [41] (kids.map tx) from by rw [tx_mk]; rfl] at hlen ⊢
  unfold exprV exprC
  go_enter Tryd.func28, Tryd.ntmps28
  go_wp2_with fail
  refine (one_any W b Q hQ hz 15 ln co num name tn ta kids fn fa ow ka kn kc hk _ _ l _ (hw.trans ((below1 w _).mono hB)) (hp.alloc _) (by exact hlen)).mono ?_
  rintro e w1 ⟨rfl, hL1⟩
  have hfin := Lays.new hB (below1 w _) hL1
  clear hL1
  go_wp2
  go_end0
  exact ⟨rfl, hfin⟩
set_option maxHeartbeats 1000000 in
set_option maxRecDepth 100000 in
theorem lay_as (W : World) (b : Nat) (Q : Tree → Value → Prop) (hQ : ∀ t kk, t.ok → Q t kk → LayOK W b t kk) (hz : LayOK W b Tree.zero (.slice none 0 0)) (ln co num : Int) (name tn : ByteArray) (ta : Bool) (kids : List Tree) (fn : ByteArray) (fa : Bool) (ow : ByteArray) (ka : Option Addr) (kn kc : Nat) (hk : Kids W Q kids (.slice ka kn kc)) :
    LayOK W b (.mk 19 ln co num name tn ta kids fn fa ow) (.slice ka kn kc) := by
  intro l w hw hp hlen
  have hB := hw.size
  have hlt := hp.lt
  rw [show tx (.mk 19 ln co num name tn ta kids fn fa ow) = one [40] ([32, 97, 115, 32] ++ tn.data.toList ++ [41]) (kids.map tx) from by rw [tx_mk]; rfl] at hlen ⊢
  unfold exprV exprC
  have hn : tn.size ≤ 140737488355328 := by have := hlen; simp [Go.Proofs.YtojkagfbdpjckaaDoor.one] at this; omega
  have h1 : ¬ 9223372036854775807 < 4 + tn.size := by omega
  have h2 : ¬ 9223372036854775807 < 4 + tn.size + 1 := by omega
  have HX := Lib.hid (show (⟨#[32, 97, 115, 32]⟩ ++ tn ++ ⟨#[41]⟩ : ByteArray).data.toList = [32, 97, 115, 32] ++ tn.data.toList ++ [41] by simp)
  go_enter Tryd.func28, Tryd.ntmps28
  go_wp2_with fail
  refine (one_any W b Q hQ hz 19 ln co num name tn ta kids fn fa ow ka kn kc hk _ _ l _ (hw.trans ((below1 w _).mono hB)) (hp.alloc _) (by rw [HX.out]; exact hlen)).mono ?_
  rintro e w1 ⟨rfl, hL1⟩
  rw [HX.out] at hL1
  have hfin := Lays.new hB (below1 w _) hL1
  clear hL1
  go_wp2
  go_end0
  exact ⟨rfl, hfin⟩
set_option maxHeartbeats 1000000 in
set_option maxRecDepth 100000 in
theorem lay_is (W : World) (b : Nat) (Q : Tree → Value → Prop) (hQ : ∀ t kk, t.ok → Q t kk → LayOK W b t kk) (hz : LayOK W b Tree.zero (.slice none 0 0)) (ln co num : Int) (name tn : ByteArray) (ta : Bool) (kids : List Tree) (fn : ByteArray) (fa : Bool) (ow : ByteArray) (ka : Option Addr) (kn kc : Nat) (hk : Kids W Q kids (.slice ka kn kc)) :
    LayOK W b (.mk 20 ln co num name tn ta kids fn fa ow) (.slice ka kn kc) := by
  intro l w hw hp hlen
  have hB := hw.size
  have hlt := hp.lt
  rw [show tx (.mk 20 ln co num name tn ta kids fn fa ow) = one [40] ([32, 105, 115, 32] ++ tn.data.toList ++ [41]) (kids.map tx) from by rw [tx_mk]; rfl] at hlen ⊢
  unfold exprV exprC
  have hn : tn.size ≤ 140737488355328 := by have := hlen; simp [Go.Proofs.YtojkagfbdpjckaaDoor.one] at this; omega
  have h1 : ¬ 9223372036854775807 < 4 + tn.size := by omega
  have h2 : ¬ 9223372036854775807 < 4 + tn.size + 1 := by omega
  have HX := Lib.hid (show (⟨#[32, 105, 115, 32]⟩ ++ tn ++ ⟨#[41]⟩ : ByteArray).data.toList = [32, 105, 115, 32] ++ tn.data.toList ++ [41] by simp)
  go_enter Tryd.func28, Tryd.ntmps28
  go_wp2_with fail
  refine (one_any W b Q hQ hz 20 ln co num name tn ta kids fn fa ow ka kn kc hk _ _ l _ (hw.trans ((below1 w _).mono hB)) (hp.alloc _) (by rw [HX.out]; exact hlen)).mono ?_
  rintro e w1 ⟨rfl, hL1⟩
  rw [HX.out] at hL1
  have hfin := Lays.new hB (below1 w _) hL1
  clear hL1
  go_wp2
  go_end0
  exact ⟨rfl, hfin⟩
end Go.Proofs.YtojkagfbdpjckaaDoor
