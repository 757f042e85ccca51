/-
  Statements are the same as themselves; lists of other lengths aren't.
-/
import Derived.Test.YtojkagfbdpjckaaDoorStm
import Derived.Test.YtojkagfbdpjckaaDoorSame
import Derived.BigQuiet
namespace Go.Proofs.YtojkagfbdpjckaaDoor
open Go.RowKit

def SameSl (W : World) (v : Value) : Prop := ∀ w, Below W.heap.size W w → Calls Tryd.prog 47 #[v, v, .func (.func 48) #[] #[]] w fun e w' => e = .returned (.bool true) ∧ Below w.heap.size w w'

theorem exprs33 {W : World} {es : List Tree} {ka : Option Addr} {kn kc : Nat} (h : Kids W (fun t kk => Ex W t kk) es (.slice ka kn kc)) (w : World) (hw : Below W.heap.size W w) :
    Calls Tryd.prog 33 #[.slice ka kn kc, .slice ka kn kc, .func (.func 12) #[] #[]] w fun e w' => e = .returned (.bool true) ∧ Below w.heap.size w w' :=
  equal33 W _ (fun t kk _ hx w hw => same12 t kk w (hx.below hw)) es ka kn kc h w hw

set_option maxHeartbeats 1000000 in
set_option maxRecDepth 100000 in
theorem same48 (W : World) (does ln co : Int) (name tn : ByteArray) (ta : Bool) (e : List Tree) (a1 : Option Addr) (n1 c1 : Nat) (a2 : Option Addr) (n2 c2 : Nat) (a3 : Option Addr) (n3 c3 : Nat) (h1 : Kids W (fun t kk => Ex W t kk) e (.slice a1 n1 c1)) (h2 : SameSl W (.slice a2 n2 c2)) (h3 : SameSl W (.slice a3 n3 c3)) (w : World) (hw : Below W.heap.size W w) :
    Calls Tryd.prog 48 #[.agg (stC does ln co name tn ta (.slice a1 n1 c1) (.slice a2 n2 c2) (.slice a3 n3 c3)).toArray, .agg (stC does ln co name tn ta (.slice a1 n1 c1) (.slice a2 n2 c2) (.slice a3 n3 c3)).toArray] w fun e w' => e = .returned (.bool true) ∧ Below w.heap.size w w' := by
  have H1 := Lib.hid (fun x hx => exprs33 h1 x hx)
  have H2 := Lib.hid h2
  have H3 := Lib.hid h3
  have hB := hw.size
  clear h1 h2 h3
  unfold stC
  go_enter Tryd.func48, Tryd.ntmps48
  go_wp2_with fail
  refine (H1.out _ (hw.trans ((below2 w _ _).mono hB))).mono ?_
  rintro e w1 ⟨rfl, hb1⟩
  have hr0 := (hb1.block w.heap.size (by simp; omega)).trans (heap_al2 w _ _)
  have hr1 := (hb1.block (w.heap.size + 1) (by simp)).trans (heap_al3 w _ _)
  have hb2 : Below w.heap.size w w1 := (below2 w _ _).trans (hb1.mono (by simp; omega))
  have hs1 : w.heap.size + 2 ≤ w1.heap.size := by have := hb1.size; simpa using this
  clear hb1
  have c7 := cell_row hr0 7 rfl
  have d7 := cell_row hr1 7 rfl
  go_wp2_with fail
  refine (H2.out _ (hw.trans (hb2.mono hB))).mono ?_
  rintro e w2 ⟨rfl, hb1⟩
  have hr0 := (hb1.block w.heap.size (by omega)).trans hr0
  have hr1 := (hb1.block (w.heap.size + 1) (by omega)).trans hr1
  have hb3 : Below w.heap.size w w2 := hb2.trans (hb1.mono (by omega))
  clear hb1 c7 d7
  have c8 := cell_row hr0 8 rfl
  have d8 := cell_row hr1 8 rfl
  go_wp2_with fail
  refine (H3.out _ (hw.trans (hb3.mono hB))).mono ?_
  rintro e w3 ⟨rfl, hb1⟩
  have hb4 : Below w.heap.size w w3 := hb3.trans (hb1.mono hb3.size)
  clear hb1
  go_wp2
  go_ret
  exact ⟨rfl, hb4⟩

set_option maxHeartbeats 1000000 in
theorem eq47 (W : World) (R : St → List Value → Prop) (hR : ∀ s cs, R s cs → ∃ does ln co name tn ta a1 n1 c1 a2 n2 c2 a3 n3 c3, cs = stC does ln co name tn ta (.slice a1 n1 c1) (.slice a2 n2 c2) (.slice a3 n3 c3) ∧ ∀ w, Below W.heap.size W w → Calls Tryd.prog 48 #[.agg cs.toArray, .agg cs.toArray] w fun e w' => e = .returned (.bool true) ∧ Below w.heap.size w w')
    (xs : List St) (v : Value) (hk : Sl W 9 R xs v) : SameSl W v := by
  intro w hw
  obtain ⟨ka, kc, rfl⟩ := hk.form
  obtain ⟨_, hl, hc, hkk⟩ := hk.at
  unfold maxLen at hc
  have hB := hw.size
  have HK := Lib.hid hkk
  clear hkk hk
  generalize hlen : xs.length = kn at *
  have HLen := Lib.hid hlen
  clear hlen
  go_enter Tryd.func47, Tryd.ntmps47
  go_wp2
  go_loopw [17] (fun i wr => ∃ k : Nat, k ≤ kn ∧ i = .int .i64 k ∧ Below w.heap.size w wr) (fun i _ => kn - (intOf i).toNat)
  case atStart => exact ⟨0, Nat.zero_le _, rfl, Below.refl _ _⟩
  case round =>
    obtain ⟨k, hk1, rfl, hbr⟩ := hrel
    have hwr : Below W.heap.size W wr := hw.trans (hbr.mono hB)
    have hsr := hbr.size
    by_cases hlt : k < kn
    · have hxk : k < xs.length := by rw [HLen.out]; exact hlt
      obtain ⟨g, o, cs, rfl, hcell, hst⟩ := HK.out k xs[k] (List.getElem?_eq_getElem hxk)
      obtain ⟨does, ln, co, name, tn, ta, a1, n1, c1, a2, n2, c2, a3, n3, c3, rfl, hS⟩ := hR _ _ hst
      have HS := Lib.hid hS
      have c0 : wr.cell? ⟨g, o + k * 9, none⟩ = some (.int .i64 does) := (hwr.cell (World.block_lt_of_cell? _ _ (hcell 0 _ rfl))).trans (hcell 0 _ rfl)
      have hgl : g < wr.heap.size := World.block_lt_of_cell? _ _ c0
      have k1 := (hwr.cell (World.block_lt_of_cell? _ _ (hcell 1 _ rfl))).trans (hcell 1 _ rfl)
      have k2 := (hwr.cell (World.block_lt_of_cell? _ _ (hcell 2 _ rfl))).trans (hcell 2 _ rfl)
      have k3 := (hwr.cell (World.block_lt_of_cell? _ _ (hcell 3 _ rfl))).trans (hcell 3 _ rfl)
      have k4 := (hwr.cell (World.block_lt_of_cell? _ _ (hcell 4 _ rfl))).trans (hcell 4 _ rfl)
      have k5 := (hwr.cell (World.block_lt_of_cell? _ _ (hcell 5 _ rfl))).trans (hcell 5 _ rfl)
      have k6 := (hwr.cell (World.block_lt_of_cell? _ _ (hcell 6 _ rfl))).trans (hcell 6 _ rfl)
      have k7 := (hwr.cell (World.block_lt_of_cell? _ _ (hcell 7 _ rfl))).trans (hcell 7 _ rfl)
      have k8 := (hwr.cell (World.block_lt_of_cell? _ _ (hcell 8 _ rfl))).trans (hcell 8 _ rfl)
      clear hcell hst hS
      go_wp2_with fail
      refine (HS.out _ (hwr.trans ((below2 wr _ _).mono (by omega)))).mono ?_
      rintro e w3 ⟨rfl, hb3⟩
      have hb4 : Below wr.heap.size wr w3 := (below2 wr _ _).trans (hb3.mono (by simp; omega))
      clear hb3
      go_wp2
      go_roundw
      case rel => exact ⟨k + 1, by omega, by go_num, hbr.trans (hb4.mono hsr)⟩
      case measure => simp [intOf]; omega
    · go_wp2
      go_ret
      exact ⟨rfl, hbr⟩

theorem sameS_any (W : World) : ∀ (d : Nat) (xs : List St) (v : Value), Sl W 9 (StR W d) xs v → SameSl W v
  | 0, xs, v, hk => eq47 W _ (fun _ _ h => h.elim) xs v hk
  | d + 1, xs, v, hk => eq47 W _ (fun s cs h => by
      obtain ⟨d', does, ln, co, name, tn, ta, e, th, el, a1, n1, c1, a2, n2, c2, a3, n3, c3, _, hd, hcs, s1, s2, s3⟩ := h.open
      cases hd
      subst hcs
      exact ⟨does, ln, co, name, tn, ta, a1, n1, c1, a2, n2, c2, a3, n3, c3, rfl, same48 W does ln co name tn ta e a1 n1 c1 a2 n2 c2 a3 n3 c3 s1.kids (sameS_any W d _ _ s2) (sameS_any W d _ _ s3)⟩) xs v hk

set_option maxHeartbeats 1000000 in
theorem eq47_len (a1 : Option Addr) (n1 c1 : Nat) (a2 : Option Addr) (n2 c2 : Nat) (h : ((n1 : Int) == n2) = false) (w : World) :
    Calls Tryd.prog 47 #[.slice a1 n1 c1, .slice a2 n2 c2, .func (.func 48) #[] #[]] w fun e w' => e = .returned (.bool false) ∧ Below w.heap.size w w' := by
  go_enter Tryd.func47, Tryd.ntmps47
  go_wp2
  go_ret
  exact ⟨rfl, Below.refl _ _⟩
set_option maxHeartbeats 1000000 in
theorem eq35_len (a1 : Option Addr) (n1 c1 : Nat) (a2 : Option Addr) (n2 c2 : Nat) (h : ((n1 : Int) == n2) = false) (w : World) :
    Calls Tryd.prog 35 #[.slice a1 n1 c1, .slice a2 n2 c2] w fun e w' => e = .returned (.bool false) ∧ Below w.heap.size w w' := by
  go_enter Tryd.func35, Tryd.ntmps35
  go_wp2
  go_ret
  exact ⟨rfl, Below.refl _ _⟩
set_option maxHeartbeats 1000000 in
theorem eq35 (W : World) (xs : List Vr) (ka : Option Addr) (kn kc : Nat) (hk : Sl W 3 VrR xs (.slice ka kn kc)) (w : World) (hw : Below W.heap.size W w) :
    Calls Tryd.prog 35 #[.slice ka kn kc, .slice ka kn kc] w fun e w' => e = .returned (.bool true) ∧ Below w.heap.size w w' := by
  obtain ⟨hlen, hl, hc, hkk⟩ := hk.at
  unfold maxLen at hc
  have hB := hw.size
  have HK := Lib.hid hkk
  have HLen := Lib.hid hlen
  clear hkk hk hlen
  go_enter Tryd.func35, Tryd.ntmps35
  go_wp2
  go_loopw [13] (fun i wr => ∃ k : Nat, k ≤ kn ∧ i = .int .i64 k ∧ Below w.heap.size w wr) (fun i _ => kn - (intOf i).toNat)
  case atStart => exact ⟨0, Nat.zero_le _, rfl, Below.refl _ _⟩
  case round =>
    obtain ⟨k, hk1, rfl, hbr⟩ := hrel
    have hwr : Below W.heap.size W wr := hw.trans (hbr.mono hB)
    have hsr := hbr.size
    by_cases hlt : k < kn
    · have hxk : k < xs.length := by rw [← HLen.out]; exact hlt
      obtain ⟨g, o, cs, rfl, hcell, rfl⟩ := HK.out k xs[k] (List.getElem?_eq_getElem hxk)
      have k0 : wr.cell? ⟨g, o + k * 3, none⟩ = some (.string xs[k].name) := (hwr.cell (World.block_lt_of_cell? _ _ (hcell 0 _ rfl))).trans (hcell 0 _ rfl)
      have k1 := (hwr.cell (World.block_lt_of_cell? _ _ (hcell 1 _ rfl))).trans (hcell 1 _ rfl)
      have k2 := (hwr.cell (World.block_lt_of_cell? _ _ (hcell 2 _ rfl))).trans (hcell 2 _ rfl)
      clear hcell
      generalize xs[k].name = nm at *
      generalize xs[k].tn = tn at *
      generalize xs[k].ta = ta at *
      go_wp2
      go_quiet (fail)
      go_wp2
      go_roundw
      case rel => exact ⟨k + 1, by omega, by go_num, ⟨hbr.os, hbr.tape, hbr.output, hbr.size, hbr.block⟩⟩
      case measure => simp [intOf]; omega
    · go_wp2
      go_ret
      exact ⟨rfl, hbr⟩
end Go.Proofs.YtojkagfbdpjckaaDoor
