/-
  The statement's own text of an expression: plain kinds.
-/
import Derived.Test.YtojkagfbdpjckaaDoorClos
import Derived.Deep.RegionHeld3
namespace Go.Proofs.YtojkagfbdpjckaaDoor
open Go.RowKit

set_option maxHeartbeats 2000000 in
set_option maxRecDepth 100000 in
theorem text_k2 (W : World) (ln co num : Int) (name tn : ByteArray) (ta : Bool) (kids : List Tree) (fn : ByteArray) (fa : Bool) (ow : ByteArray) (ka : Option Addr) (kn kc : Nat) : TextOK W (.mk 2 ln co num name tn ta kids fn fa ow) (.slice ka kn kc) := by
  intro u _ _
  rw [show (⟨(tx (.mk 2 ln co num name tn ta kids fn fa ow)).toArray⟩ : ByteArray) = ⟨#[116, 114, 117, 101]⟩ from by rw [tx_mk]; rfl]
  unfold exprV exprC
  go_enter Tryd.func11, Tryd.ntmps11
  go_wp2
  go_ret
  exact ⟨rfl, below2 u _ _⟩
set_option maxHeartbeats 2000000 in
set_option maxRecDepth 100000 in
theorem text_k3 (W : World) (ln co num : Int) (name tn : ByteArray) (ta : Bool) (kids : List Tree) (fn : ByteArray) (fa : Bool) (ow : ByteArray) (ka : Option Addr) (kn kc : Nat) : TextOK W (.mk 3 ln co num name tn ta kids fn fa ow) (.slice ka kn kc) := by
  intro u _ _
  rw [show (⟨(tx (.mk 3 ln co num name tn ta kids fn fa ow)).toArray⟩ : ByteArray) = ⟨#[102, 97, 108, 115, 101]⟩ from by rw [tx_mk]; rfl]
  unfold exprV exprC
  go_enter Tryd.func11, Tryd.ntmps11
  go_wp2
  go_ret
  exact ⟨rfl, below2 u _ _⟩
set_option maxHeartbeats 2000000 in
set_option maxRecDepth 100000 in
theorem text_k5 (W : World) (ln co num : Int) (name tn : ByteArray) (ta : Bool) (kids : List Tree) (fn : ByteArray) (fa : Bool) (ow : ByteArray) (ka : Option Addr) (kn kc : Nat) : TextOK W (.mk 5 ln co num name tn ta kids fn fa ow) (.slice ka kn kc) := by
  intro u _ _
  rw [show (⟨(tx (.mk 5 ln co num name tn ta kids fn fa ow)).toArray⟩ : ByteArray) = ⟨#[116, 104, 105, 115]⟩ from by rw [tx_mk]; rfl]
  unfold exprV exprC
  go_enter Tryd.func11, Tryd.ntmps11
  go_wp2
  go_ret
  exact ⟨rfl, below2 u _ _⟩
set_option maxHeartbeats 2000000 in
set_option maxRecDepth 100000 in
theorem text_k6 (W : World) (ln co num : Int) (name tn : ByteArray) (ta : Bool) (kids : List Tree) (fn : ByteArray) (fa : Bool) (ow : ByteArray) (ka : Option Addr) (kn kc : Nat) : TextOK W (.mk 6 ln co num name tn ta kids fn fa ow) (.slice ka kn kc) := by
  intro u _ _
  rw [show (⟨(tx (.mk 6 ln co num name tn ta kids fn fa ow)).toArray⟩ : ByteArray) = name from by rw [tx_mk]; rfl]
  unfold exprV exprC
  go_enter Tryd.func11, Tryd.ntmps11
  go_wp2
  go_ret
  exact ⟨rfl, below1 u _⟩
set_option maxHeartbeats 2000000 in
set_option maxRecDepth 100000 in
theorem text_k1 (W : World) (hpow : Pow W) (ln co num : Int) (hn0 : -9223372036854775808 ≤ num) (hn1 : num ≤ 9223372036854775807) (name tn : ByteArray) (ta : Bool) (kids : List Tree) (fn : ByteArray) (fa : Bool) (ow : ByteArray) (ka : Option Addr) (kn kc : Nat) : TextOK W (.mk 1 ln co num name tn ta kids fn fa ow) (.slice ka kn kc) := by
  intro u hw _
  rw [show (⟨(tx (.mk 1 ln co num name tn ta kids fn fa ow)).toArray⟩ : ByteArray) = ⟨(Lib.itoa num).toArray⟩ from by rw [tx_mk]; rfl]
  have hpw : Pow u := Pow.keep hpow (Pow.pos hpow) hw
  have hpos := Pow.pos hpw
  unfold exprV exprC
  go_enter Tryd.func11, Tryd.ntmps11
  go_wp2_with fail
  refine (Tryd.strconv_FormatInt_10 num hn0 hn1 _ (Pow.keep hpw hpos (below1 u _))).mono ?_
  rintro e w1 ⟨rfl, hg⟩
  have hb1 : Below u.heap.size u w1 := (below1 u _).trans ((grow_below hg).mono (by simp))
  clear hg
  go_wp2
  go_ret
  exact ⟨rfl, hb1⟩
set_option maxHeartbeats 2000000 in
set_option maxRecDepth 100000 in
theorem text_other (W : World) (kind ln co num : Int) (name tn : ByteArray) (ta : Bool) (kids : List Tree) (fn : ByteArray) (fa : Bool) (ow : ByteArray) (ka : Option Addr) (kn kc : Nat)
    (h1 : (kind == 1) = false) (h2 : (kind == 2) = false) (h3 : (kind == 3) = false) (h5 : (kind == 5) = false) (h6 : (kind == 6) = false) (h7 : (kind == 7) = false) (h8 : (kind == 8) = false) (h9 : (kind == 9) = false) (h10 : (kind == 10) = false) (h11 : (kind == 11) = false) (h12 : (kind == 12) = false) (h13 : (kind == 13) = false) (h14 : (kind == 14) = false) (h15 : (kind == 15) = false) (h16 : (kind == 16) = false) (h17 : (kind == 17) = false) (h18 : (kind == 18) = false) (h19 : (kind == 19) = false) (h20 : (kind == 20) = false) : TextOK W (.mk kind ln co num name tn ta kids fn fa ow) (.slice ka kn kc) := by
  intro u _ _
  rw [show tx (.mk kind ln co num name tn ta kids fn fa ow) = nul from by rw [tx_mk, txk]; simp only [beq_eq_false_iff_ne, ne_eq] at *; simp only [*, if_false]]
  unfold nul
  unfold exprV exprC
  go_enter Tryd.func11, Tryd.ntmps11
  go_wp2
  go_ret
  exact ⟨rfl, below1 u _⟩
end Go.Proofs.YtojkagfbdpjckaaDoor
