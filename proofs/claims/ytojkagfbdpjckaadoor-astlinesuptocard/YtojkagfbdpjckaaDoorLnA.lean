/-
  Types and tabs that are laid on a page.
-/
import Derived.Test.YtojkagfbdpjckaaDoorLine
import Derived.Test.YtojkagfbdpjckaaDoorList
import Derived.Test.YtojkagfbdpjckaaDoorShelf
namespace Go.Proofs.YtojkagfbdpjckaaDoor
open Go.RowKit

def tyS (tn : ByteArray) (ta : Bool) : ByteArray := if ta then tn ++ ⟨#[91, 93]⟩ else tn
theorem tyS_bytes (tn : ByteArray) (ta : Bool) : (tyS tn ta).data.toList = tyB tn ta := by
  unfold tyS tyB
  cases ta <;> simp
set_option maxHeartbeats 1000000 in
theorem type50 (tn : ByteArray) (ta : Bool) (w : World) (hz : tn.size ≤ 140737488355328) :
    Calls Tryd.prog 50 #[.agg #[.string tn, .bool ta]] w fun e w' => e = .returned (.string (tyS tn ta)) ∧ Below w.heap.size w w' := by
  have h1 : ¬ 9223372036854775807 < tn.size + 2 := by omega
  cases ta
  · go_enter Tryd.func50, Tryd.ntmps50
    go_wp2
    go_ret
    exact ⟨rfl, below1 w _⟩
  · go_enter Tryd.func50, Tryd.ntmps50
    go_wp2
    go_ret
    exact ⟨rfl, below1 w _⟩
theorem rep_tabs : ∀ n : Nat, Lib.repeatL [9] n = tabs n
  | 0 => rfl
  | n + 1 => by
    have := rep_tabs n
    unfold tabs at *
    rw [List.replicate_succ, ← this]
    rfl
theorem tabs_len (n : Nat) : (tabs n).length = n := List.length_replicate
set_option maxHeartbeats 1000000 in
theorem tabs49 (B b : Nat) (l : Bs) (n : Nat) (w : World) (hp : Pg B b (Lib.byteCells l) w) (hlen : l.length + n ≤ 140737488355328) (hBw : B ≤ w.heap.size) :
    Calls Tryd.prog 49 #[.pointer (some ⟨b, 0, none⟩), .int .i64 n] w fun e w' => e = .returned (.tuple #[]) ∧ Lays B b (l ++ tabs n) w w' := by
  have hlt := hp.lt
  have HT := Lib.hid (rep_tabs n)
  have HTL := Lib.hid (tabs_len n)
  go_enter Tryd.func49, Tryd.ntmps49
  go_wp2_with fail
  refine (Tryd.strings_Repeat ⟨#[9]⟩ n w (by omega) (by show 1 * n ≤ _; omega)).mono ?_
  rintro e w1 ⟨rfl, hb1⟩
  have hs1 := hb1.size
  rw [show (⟨#[9]⟩ : ByteArray).data.toList = [9] from rfl, HT.out]
  have hp1 := hp.below hb1
  have hlt1 := hp1.lt
  go_wp2_with fail
  refine (put1 B b w1.heap.size l _ _ (hp1.alloc _) (heap_al1 _ _) (by omega) (by have := HTL.out; simp; omega) (by simp; omega)).mono ?_
  rintro e w2 ⟨rfl, hL2⟩
  have hfin : Lays B b (l ++ tabs n) w w2 := by
    have h1 := Lays.new (by omega) (below1 w1 _) hL2
    have h2 := Lays.new hBw hb1 h1
    simpa using h2
  clear hL2
  go_wp2
  go_end0
  exact ⟨rfl, hfin⟩
end Go.Proofs.YtojkagfbdpjckaaDoor
