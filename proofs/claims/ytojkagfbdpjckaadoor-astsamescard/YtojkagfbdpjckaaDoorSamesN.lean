/-
  AstSames where nothing is turned: names that are too long, and classes without methods; how long names may be.
-/
import Derived.Test.YtojkagfbdpjckaaDoorOpenC
import Derived.Test.YtojkagfbdpjckaaDoorFewC
namespace Go.Proofs.YtojkagfbdpjckaaDoor
open Go.RowKit

set_option maxRecDepth 100000 in
theorem weights_class {H : Type} {d0 d3 d4 : DataW H} {name sup : List UInt8} {ts : List TypeId} {ds : List (DataW H)} (h : (DataW.weightsEach Tryd.prog (38 :: ts) (.agg [d0, .lit (.string name), .lit (.string sup), d3, d4] :: ds)).all (· ≤ reachBytes) = true) : name.length ≤ reachBytes ∧ sup.length ≤ reachBytes := by
  rw [DataW.weightsEach, List.all_append, Bool.and_eq_true] at h
  have h1 := h.1
  rw [DataW.weights, Tryd.underlying38] at h1
  simp only [List.map_cons, List.map_nil] at h1
  rw [DataW.weightsEach, DataW.weightsEach, DataW.weightsEach] at h1
  simp only [DataW.weights, List.all_append, List.all_cons, List.all_nil, Bool.and_eq_true, decide_eq_true_eq, Bool.and_true] at h1
  exact ⟨h1.2.1, h1.2.2.1⟩

set_option maxHeartbeats 2000000 in
set_option maxRecDepth 100000 in
theorem sames_not (ln co : Int) (name sup : ByteArray) (fs : List Vr) (ms : List Mt) (a1 : Option Addr) (n1 c1 : Nat) (a2 : Option Addr) (n2 c2 : Nat) (which : Int) (nm : ByteArray) (W : World) (hpow : Pow W) (h1 : Sl W 3 VrR fs (.slice a1 n1 c1)) (h2 : Sl W 8 (MtR W) ms (.slice a2 n2 c2)) (hz : name.size + sup.size ≤ 281474976710656) (hbad : 40 < nm.size ∨ ¬ 40 < nm.size ∧ ((n2 : Int) == 0) = true) :
    Calls Tryd.prog 4 #[.agg #[.int .i64 ln, .int .i64 co, .string name, .string sup, .slice a1 n1 c1, .slice a2 n2 c2], .int .i64 which, .string nm] W fun e w' => e = .returned (.bool true) ∧ Below W.heap.size W w' := by
  have hpos := Pow.pos hpow
  have HP := Lib.hid (fun (w : World) (hb : Below W.heap.size W w) => Pow.keep hpow hpos hb)
  have H1 := Lib.hid h1
  have H2 := Lib.hid h2
  clear hpow h1 h2
  go_enter Tryd.func4, Tryd.ntmps4
  go_wp2_with fail
  refine (head8 _ (HP.out _ (below1 W _))).mono ?_
  rintro e w1 ⟨rfl, hb1⟩
  have hB1 : Below W.heap.size W w1 := (below1 W _).trans (hb1.mono (by simp))
  have hr0 := (hb1.block W.heap.size (by simp)).trans (heap_al1 W _)
  have hs1 : W.heap.size + 1 ≤ w1.heap.size := by have := hb1.size; simpa using this
  clear hb1
  have p0 := cell_row hr0 0 rfl
  have p1 := cell_row hr0 1 rfl
  have p2 := cell_row hr0 2 rfl
  have p3 := cell_row hr0 3 rfl
  have p4 := cell_row hr0 4 rfl
  have p5 := cell_row hr0 5 rfl
  go_wp2_with fail
  refine (few13 ln co name sup fs ms a1 n1 c1 a2 n2 c2 w1 (H1.out.mono hB1 (fun _ _ h => h)) (H2.out.mono hB1 (fun _ _ h => h.below hB1)) (by omega)).mono ?_
  rintro e w2 ⟨r, rfl, hfew, hb⟩
  have hB2 : Below W.heap.size W w2 := hB1.trans (hb.mono (by omega))
  have hr0 := (hb.block W.heap.size (by omega)).trans hr0
  clear hb p0 p1 p2 p3 p4 p5 hfew
  have p5 := cell_row hr0 5 rfl
  cases r with
  | false =>
    go_wp2
    go_ret
    exact ⟨rfl, hB2⟩
  | true =>
    rcases hbad with hbad | ⟨hb1, hb2⟩
    · go_wp2
      go_ret
      exact ⟨rfl, hB2⟩
    · go_wp2
      go_ret
      exact ⟨rfl, hB2⟩
end Go.Proofs.YtojkagfbdpjckaaDoor
