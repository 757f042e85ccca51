/-
  The document's example.
-/
import Derived.Test.YtojkagfbdpjckaaDoorLay
namespace Go.Proofs.YtojkagfbdpjckaaDoor
open Go.RowKit Go.Lib Go.Sort

def numT (n : Int) : Tree := .mk 1 0 0 n ⟨#[]⟩ ⟨#[]⟩ false [] ⟨#[]⟩ false ⟨#[]⟩
def localT (s : ByteArray) : Tree := .mk 6 0 0 0 s ⟨#[]⟩ false [] ⟨#[]⟩ false ⟨#[]⟩
def twoT (x y : Tree) (op : ByteArray) : Tree := .mk 16 0 0 0 op ⟨#[]⟩ false [x, y] ⟨#[]⟩ false ⟨#[]⟩

theorem Ex.leaf (W : World) (t : Tree) (ht : t.ok) (h : t.kids = []) : Ex W t (.slice none 0 0) := ⟨ht, 0, by rw [h]; exact kids_nil _ _⟩

theorem Kin.succ {W : World} : ∀ {d : Nat} {ks : List Tree} {k : Value}, Kin W d ks k → Kin W (d + 1) ks k
  | 0, _, _, h => Kids.mono h (Below.refl _ _) (fun _ _ h => h.elim)
  | d + 1, _, _, h => Kids.mono h (Below.refl _ _) (fun _ _ h => Kin.succ (d := d) h)
theorem Kin.le {W : World} {ks : List Tree} {k : Value} {d e : Nat} (h : Kin W d ks k) (hd : d ≤ e) : Kin W e ks k := by
  induction hd with
  | refl => exact h
  | step _ ih => exact ih.succ

/-- Two expressions in a new slice. -/
theorem Ex.pair {W : World} {x y : Tree} {kx ky : Value} (hx : Ex W x kx) (hy : Ex W y ky) (g : Nat) (cs : List Value) (fz : Nat × Nat) (hg : W.heap[g]? = some (.cells cs.toArray 29 fz)) (hcs : cs = exprC x kx ++ exprC y ky) : ∃ d, Kin W d [x, y] (.slice (some ⟨g, 0, none⟩) 2 2) := by
  obtain ⟨ox, dx, hx'⟩ := id hx
  obtain ⟨oy, dy, hy'⟩ := id hy
  have lx : (exprC x kx).length = 11 := by cases x; rfl
  refine ⟨max dx dy + 1, ?_⟩
  refine ⟨_, _, rfl, Nat.le_refl _, by decide, fun i t hi => ?_⟩
  match i with
  | 0 =>
    cases hi
    refine ⟨g, 0, kx, rfl, fun j v hv => ?_, hx.slice, ox, hx'.le (by omega)⟩
    rw [Lib.cell_of_heap hg]
    simp only [Nat.zero_mul, Nat.zero_add, List.getElem?_toArray, hcs]
    rw [List.getElem?_append_left (by have := (List.getElem?_eq_some_iff.1 hv).1; omega)]
    exact hv
  | 1 =>
    cases hi
    refine ⟨g, 0, ky, rfl, fun j v hv => ?_, hy.slice, oy, hy'.le (by omega)⟩
    rw [Lib.cell_of_heap hg]
    simp only [Nat.zero_add, List.getElem?_toArray, hcs]
    rw [List.getElem?_append_right (by omega), lx, show 1 * 11 + j - 11 = j by omega]
    exact hv
  | i + 2 => simp at hi

theorem heap_al4 (w : World) (o p q r : Obj) : ((((w.alloc o).alloc p).alloc q).alloc r).heap[w.heap.size + 1 + 1 + 1]? = some r := by
  have h : (((w.heap.push o).push p).push q).size = w.heap.size + 1 + 1 + 1 := by simp
  show ((((w.heap.push o).push p).push q).push r)[w.heap.size + 1 + 1 + 1]? = some r
  rw [← h, Array.getElem?_push_size]

set_option maxHeartbeats 1000000 in
theorem num26 (n : Int) (w : World) : Calls Tryd.prog 26 #[.int .i64 n] w fun e w' => e = .returned (exprV (numT n) (.slice none 0 0)) ∧ Below w.heap.size w w' := by
  unfold numT exprV exprC
  go_enter Tryd.func26, Tryd.ntmps26
  go_wp2
  refine bodyPost_ret (v := exprV (numT n) (.slice none 0 0)) (by simp [results, Tryd.results26, go_sem, exprV, exprC, numT]) rfl ?_
  exact ⟨rfl, (Below.refl _ _).alloc (Nat.le_refl _) _⟩
set_option maxHeartbeats 1000000 in
theorem local27 (s : ByteArray) (w : World) : Calls Tryd.prog 27 #[.string s] w fun e w' => e = .returned (exprV (localT s) (.slice none 0 0)) ∧ Below w.heap.size w w' := by
  unfold localT exprV exprC
  go_enter Tryd.func27, Tryd.ntmps27
  go_wp2
  refine bodyPost_ret (v := exprV (localT s) (.slice none 0 0)) (by simp [results, Tryd.results27, go_sem, exprV, exprC, localT]) rfl ?_
  exact ⟨rfl, (Below.refl _ _).alloc (Nat.le_refl _) _⟩

set_option maxHeartbeats 2000000 in
theorem two25 (x y : Tree) (kx ky : Value) (op : ByteArray) (w : World) (hx : Ex w x kx) (hy : Ex w y ky) :
    Calls Tryd.prog 25 #[exprV x kx, exprV y ky, .string op] w fun e w' => ∃ k, e = .returned (exprV (twoT x y op) k) ∧ Ex w' (twoT x y op) k ∧ Below w.heap.size w w' := by
  obtain ⟨a1, n1, c1, rfl⟩ := hx.slice
  obtain ⟨a2, n2, c2, rfl⟩ := hy.slice
  have HX := Lib.hid hx
  have HY := Lib.hid hy
  clear hx hy
  obtain ⟨kind, ln, co, num, name, tn, ta, kids, fn, fa, ow⟩ := x
  obtain ⟨kind', ln', co', num', name', tn', ta', kids', fn', fa', ow'⟩ := y
  unfold exprV exprC
  go_enter Tryd.func25, Tryd.ntmps25
  go_wp2
  refine bodyPost_ret (v := exprV (twoT (.mk kind ln co num name tn ta kids fn fa ow) (.mk kind' ln' co' num' name' tn' ta' kids' fn' fa' ow') op) (.slice (some ⟨w.heap.size + 1 + 1 + 1, 0, none⟩) 2 2)) (by simp [results, Tryd.results25, go_sem, exprV, exprC, twoT]) rfl ?_
  have hb : Below w.heap.size w ((((w.alloc (Obj.cells (exprC (.mk kind ln co num name tn ta kids fn fa ow) (.slice a1 n1 c1)).toArray 29)).alloc (Obj.cells (exprC (.mk kind' ln' co' num' name' tn' ta' kids' fn' fa' ow') (.slice a2 n2 c2)).toArray 29)).alloc (Obj.cells (exprC (twoT (.mk kind ln co num name tn ta kids fn fa ow) (.mk kind' ln' co' num' name' tn' ta' kids' fn' fa' ow') op) (.slice (some ⟨w.heap.size + 1 + 1 + 1, 0, none⟩) 2 2)).toArray 29)).alloc (Obj.cells (exprC (.mk kind ln co num name tn ta kids fn fa ow) (.slice a1 n1 c1) ++ exprC (.mk kind' ln' co' num' name' tn' ta' kids' fn' fa' ow') (.slice a2 n2 c2)).toArray 29)) :=
    ((below2 w _ _).alloc (by simp; omega) _).alloc (by simp; omega) _
  refine ⟨_, rfl, ⟨⟨by decide, by decide⟩, Ex.pair (HX.out.below hb) (HY.out.below hb) (w.heap.size + 1 + 1 + 1) _ (0, 0) (heap_al4 _ _ _ _ _) rfl⟩, hb⟩

set_option maxHeartbeats 2000000 in
theorem head8 (w : World) (hpow : Pow w) : Calls Tryd.prog 8 #[] w fun e w' => e = .returned (.bool true) ∧ Below w.heap.size w w' := by
  have hpos := Pow.pos hpow
  go_enter Tryd.func8, Tryd.ntmps8
  go_wp2_with fail
  refine (num26 1 _).mono ?_
  rintro e w1 ⟨rfl, hb1⟩
  go_wp2_with fail
  refine (num26 2 _).mono ?_
  rintro e w2 ⟨rfl, hb2⟩
  go_wp2_with fail
  have h1 : Ex w2 (numT 1) (.slice none 0 0) := Ex.leaf _ _ ⟨by decide, by decide⟩ rfl
  have h2 : Ex w2 (numT 2) (.slice none 0 0) := Ex.leaf _ _ ⟨by decide, by decide⟩ rfl
  refine (two25 _ _ _ _ _ _ h1 h2).mono ?_
  rintro e w3 ⟨k3, rfl, h3, hb3⟩
  clear h1 h2
  go_wp2_with fail
  refine (local27 _ _).mono ?_
  rintro e w4 ⟨rfl, hb4⟩
  go_wp2_with fail
  have h4 : Ex w4 (localT ⟨#[120]⟩) (.slice none 0 0) := Ex.leaf _ _ ⟨by decide, by decide⟩ rfl
  refine (two25 _ _ _ _ _ _ (h3.below hb4) h4).mono ?_
  rintro e w5 ⟨k5, rfl, h5, hb5⟩
  clear h3 h4
  have hb : Below w.heap.size w w5 := by
    have s1 := hb1.size
    have s2 := hb2.size
    have s3 := hb3.size
    have s4 := hb4.size
    exact (((hb1.trans (hb2.mono s1)).trans (hb3.mono (by omega))).trans (hb4.mono (by omega))).trans (hb5.mono (by omega))
  have hs := hb.size
  go_wp2_with fail
  refine (text10 _ _ _ (Pow.keep hpow hpos hb) h5 (by decide +kernel)).mono ?_
  rintro e w6 ⟨rfl, hb6⟩
  have ht : tx (twoT (twoT (numT 1) (numT 2) ⟨#[43]⟩) (localT ⟨#[120]⟩) ⟨#[60]⟩) = [40, 40, 49, 32, 43, 32, 50, 41, 32, 60, 32, 120, 41] := by decide +kernel
  rw [ht]
  go_wp2
  go_ret
  exact ⟨rfl, hb.trans (hb6.mono hs)⟩
end Go.Proofs.YtojkagfbdpjckaaDoor
