/-
  AstKids at every two expressions.
-/
import Derived.Test.YtojkagfbdpjckaaDoorKidsWalk
namespace Go.Proofs.YtojkagfbdpjckaaDoor
open Go.RowKit Go.Lib Go.Sort

set_option maxHeartbeats 1000000 in
theorem kids_not (kind ln co num : Int) (name tn : ByteArray) (ta : Bool) (kids : List Tree) (fn : ByteArray) (fa : Bool) (ow : ByteArray) (a1 : Option Addr) (n1 c1 : Nat) (kind' ln' co' num' : Int) (name' tn' : ByteArray) (ta' : Bool) (kids' : List Tree) (fn' : ByteArray) (fa' : Bool) (ow' : ByteArray) (a2 : Option Addr) (n2 c2 : Nat) (W : World) (hpow : Pow W) (hx : Ex W (.mk kind ln co num name tn ta kids fn fa ow) (.slice a1 n1 c1)) (hy : Ex W (.mk kind' ln' co' num' name' tn' ta' kids' fn' fa' ow') (.slice a2 n2 c2)) (hf : few (.mk kind ln co num name tn ta kids fn fa ow) 0 = false ∨ few (.mk kind ln co num name tn ta kids fn fa ow) 0 = true ∧ few (.mk kind' ln' co' num' name' tn' ta' kids' fn' fa' ow') 0 = false) :
    Calls Tryd.prog 7 #[.agg #[.int .i64 kind, .int .i64 ln, .int .i64 co, .int .i64 num, .string name, .string tn, .bool ta, .slice a1 n1 c1, .string fn, .bool fa, .string ow], .agg #[.int .i64 kind', .int .i64 ln', .int .i64 co', .int .i64 num', .string name', .string tn', .bool ta', .slice a2 n2 c2, .string fn', .bool fa', .string ow']] W fun e w' => e = .returned (.bool true) ∧ Below W.heap.size W w' := by
  have hpos := Pow.pos hpow
  have HP := Lib.hid (fun (w : World) (hb : Below W.heap.size W w) => Pow.keep hpow hpos hb)
  have HX := Lib.hid (fun (w : World) (hb : Below W.heap.size W w) => hx.below hb)
  have HY := Lib.hid (fun (w : World) (hb : Below W.heap.size W w) => hy.below hb)
  clear hx hy hpow
  go_enter Tryd.func7, Tryd.ntmps7
  go_wp2_with fail
  refine (head8 _ (HP.out _ (below2 W _ _))).mono ?_
  rintro e w1 ⟨rfl, hb1⟩
  have hB1 : Below W.heap.size W w1 := (below2 W _ _).trans (hb1.mono (by simp; omega))
  have hr0 := (hb1.block W.heap.size (by simp; omega)).trans (heap_al2 W _ _)
  have hr1 := (hb1.block (W.heap.size + 1) (by simp)).trans (heap_al3 W _ _)
  have hs1 : W.heap.size + 2 ≤ w1.heap.size := by have := hb1.size; simpa using this
  clear hb1
  have p0 : (w1).cell? ⟨W.heap.size, 0, none⟩ = some (.int .i64 kind) := cell_row hr0 0 rfl
  have p1 : (w1).cell? ⟨W.heap.size, 1, none⟩ = some (.int .i64 ln) := cell_row hr0 1 rfl
  have p2 : (w1).cell? ⟨W.heap.size, 2, none⟩ = some (.int .i64 co) := cell_row hr0 2 rfl
  have p3 : (w1).cell? ⟨W.heap.size, 3, none⟩ = some (.int .i64 num) := cell_row hr0 3 rfl
  have p4 : (w1).cell? ⟨W.heap.size, 4, none⟩ = some (.string name) := cell_row hr0 4 rfl
  have p5 : (w1).cell? ⟨W.heap.size, 5, none⟩ = some (.string tn) := cell_row hr0 5 rfl
  have p6 : (w1).cell? ⟨W.heap.size, 6, none⟩ = some (.bool ta) := cell_row hr0 6 rfl
  have p7 : (w1).cell? ⟨W.heap.size, 7, none⟩ = some (.slice a1 n1 c1) := cell_row hr0 7 rfl
  have p8 : (w1).cell? ⟨W.heap.size, 8, none⟩ = some (.string fn) := cell_row hr0 8 rfl
  have p9 : (w1).cell? ⟨W.heap.size, 9, none⟩ = some (.bool fa) := cell_row hr0 9 rfl
  have p10 : (w1).cell? ⟨W.heap.size, 10, none⟩ = some (.string ow) := cell_row hr0 10 rfl
  have q0 : (w1).cell? ⟨(W.heap.size + 1), 0, none⟩ = some (.int .i64 kind') := cell_row hr1 0 rfl
  have q1 : (w1).cell? ⟨(W.heap.size + 1), 1, none⟩ = some (.int .i64 ln') := cell_row hr1 1 rfl
  have q2 : (w1).cell? ⟨(W.heap.size + 1), 2, none⟩ = some (.int .i64 co') := cell_row hr1 2 rfl
  have q3 : (w1).cell? ⟨(W.heap.size + 1), 3, none⟩ = some (.int .i64 num') := cell_row hr1 3 rfl
  have q4 : (w1).cell? ⟨(W.heap.size + 1), 4, none⟩ = some (.string name') := cell_row hr1 4 rfl
  have q5 : (w1).cell? ⟨(W.heap.size + 1), 5, none⟩ = some (.string tn') := cell_row hr1 5 rfl
  have q6 : (w1).cell? ⟨(W.heap.size + 1), 6, none⟩ = some (.bool ta') := cell_row hr1 6 rfl
  have q7 : (w1).cell? ⟨(W.heap.size + 1), 7, none⟩ = some (.slice a2 n2 c2) := cell_row hr1 7 rfl
  have q8 : (w1).cell? ⟨(W.heap.size + 1), 8, none⟩ = some (.string fn') := cell_row hr1 8 rfl
  have q9 : (w1).cell? ⟨(W.heap.size + 1), 9, none⟩ = some (.bool fa') := cell_row hr1 9 rfl
  have q10 : (w1).cell? ⟨(W.heap.size + 1), 10, none⟩ = some (.string ow') := cell_row hr1 10 rfl
  go_wp2_with fail
  refine (few9 (.mk kind ln co num name tn ta kids fn fa ow) (.slice a1 n1 c1) w1 (HX.out _ hB1)).mono ?_
  rintro e w2 ⟨rfl, hb⟩
  have hB2 : Below W.heap.size W w2 := hB1.trans (hb.mono (by omega))
  have hr0 := (hb.block W.heap.size (by omega)).trans hr0
  have hr1 := (hb.block (W.heap.size + 1) (by omega)).trans hr1
  have hs2 : W.heap.size + 2 ≤ w2.heap.size := by have := hb.size; omega
  clear hb p0 q0 p1 q1 p2 q2 p3 q3 p4 q4 p5 q5 p6 q6 p7 q7 p8 q8 p9 q9 p10 q10
  rcases hf with hf | ⟨hf, hf1⟩
  · rw [hf]
    go_wp2
    go_ret
    exact ⟨rfl, hB2⟩
  · rw [hf]
    have p0 : (w2).cell? ⟨W.heap.size, 0, none⟩ = some (.int .i64 kind) := cell_row hr0 0 rfl
    have p1 : (w2).cell? ⟨W.heap.size, 1, none⟩ = some (.int .i64 ln) := cell_row hr0 1 rfl
    have p2 : (w2).cell? ⟨W.heap.size, 2, none⟩ = some (.int .i64 co) := cell_row hr0 2 rfl
    have p3 : (w2).cell? ⟨W.heap.size, 3, none⟩ = some (.int .i64 num) := cell_row hr0 3 rfl
    have p4 : (w2).cell? ⟨W.heap.size, 4, none⟩ = some (.string name) := cell_row hr0 4 rfl
    have p5 : (w2).cell? ⟨W.heap.size, 5, none⟩ = some (.string tn) := cell_row hr0 5 rfl
    have p6 : (w2).cell? ⟨W.heap.size, 6, none⟩ = some (.bool ta) := cell_row hr0 6 rfl
    have p7 : (w2).cell? ⟨W.heap.size, 7, none⟩ = some (.slice a1 n1 c1) := cell_row hr0 7 rfl
    have p8 : (w2).cell? ⟨W.heap.size, 8, none⟩ = some (.string fn) := cell_row hr0 8 rfl
    have p9 : (w2).cell? ⟨W.heap.size, 9, none⟩ = some (.bool fa) := cell_row hr0 9 rfl
    have p10 : (w2).cell? ⟨W.heap.size, 10, none⟩ = some (.string ow) := cell_row hr0 10 rfl
    have q0 : (w2).cell? ⟨(W.heap.size + 1), 0, none⟩ = some (.int .i64 kind') := cell_row hr1 0 rfl
    have q1 : (w2).cell? ⟨(W.heap.size + 1), 1, none⟩ = some (.int .i64 ln') := cell_row hr1 1 rfl
    have q2 : (w2).cell? ⟨(W.heap.size + 1), 2, none⟩ = some (.int .i64 co') := cell_row hr1 2 rfl
    have q3 : (w2).cell? ⟨(W.heap.size + 1), 3, none⟩ = some (.int .i64 num') := cell_row hr1 3 rfl
    have q4 : (w2).cell? ⟨(W.heap.size + 1), 4, none⟩ = some (.string name') := cell_row hr1 4 rfl
    have q5 : (w2).cell? ⟨(W.heap.size + 1), 5, none⟩ = some (.string tn') := cell_row hr1 5 rfl
    have q6 : (w2).cell? ⟨(W.heap.size + 1), 6, none⟩ = some (.bool ta') := cell_row hr1 6 rfl
    have q7 : (w2).cell? ⟨(W.heap.size + 1), 7, none⟩ = some (.slice a2 n2 c2) := cell_row hr1 7 rfl
    have q8 : (w2).cell? ⟨(W.heap.size + 1), 8, none⟩ = some (.string fn') := cell_row hr1 8 rfl
    have q9 : (w2).cell? ⟨(W.heap.size + 1), 9, none⟩ = some (.bool fa') := cell_row hr1 9 rfl
    have q10 : (w2).cell? ⟨(W.heap.size + 1), 10, none⟩ = some (.string ow') := cell_row hr1 10 rfl
    go_wp2_with fail
    refine (few9 (.mk kind' ln' co' num' name' tn' ta' kids' fn' fa' ow') (.slice a2 n2 c2) w2 (HY.out _ hB2)).mono ?_
    rintro e w3 ⟨rfl, hb⟩
    rw [hf1]
    have hB3 : Below W.heap.size W w3 := hB2.trans (hb.mono (by omega))
    clear hb
    go_wp2
    go_ret
    exact ⟨rfl, hB3⟩
theorem kids_any (t0 t1 : Tree) (k0 k1 : Value) (W : World) (hpow : Pow W) (hx : Ex W t0 k0) (hy : Ex W t1 k1) :
    Calls Tryd.prog 7 #[exprV t0 k0, exprV t1 k1] W fun e w' => e = .returned (.bool true) ∧ Below W.heap.size W w' := by
  obtain ⟨a1, n1, c1, rfl⟩ := hx.slice
  obtain ⟨a2, n2, c2, rfl⟩ := hy.slice
  obtain ⟨kind, ln, co, num, name, tn, ta, kids, fn, fa, ow⟩ := t0
  obtain ⟨kind', ln', co', num', name', tn', ta', kids', fn', fa', ow'⟩ := t1
  cases h0 : few (.mk kind ln co num name tn ta kids fn fa ow) 0 with
  | false => exact kids_not _ _ _ _ _ _ _ _ _ _ _ _ _ _ _ _ _ _ _ _ _ _ _ _ _ _ _ _ W hpow hx hy (.inl h0)
  | true =>
    cases h1 : few (.mk kind' ln' co' num' name' tn' ta' kids' fn' fa' ow') 0 with
    | false => exact kids_not _ _ _ _ _ _ _ _ _ _ _ _ _ _ _ _ _ _ _ _ _ _ _ _ _ _ _ _ W hpow hx hy (.inr ⟨h0, h1⟩)
    | true => exact kids_walk _ _ _ _ _ _ _ _ _ _ _ _ _ _ _ _ _ _ _ _ _ _ _ _ _ _ _ _ W hpow hx hy h0 h1
end Go.Proofs.YtojkagfbdpjckaaDoor
