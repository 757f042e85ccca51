/-
  Small facts for AstTypes.
-/
import Derived.Test.YtojkagfbdpjckaaDoorTypes
namespace Go.Proofs.YtojkagfbdpjckaaDoor
open Go.RowKit Go.Lib Go.Sort

theorem notEmpty {n : ByteArray} (h0 : 0 < n.size) : n.toList.isEmpty = false := by
  cases h : n.toList.isEmpty
  · rfl
  · rw [Lib.toList_data, List.isEmpty_iff, ← List.length_eq_zero_iff] at h; exact absurd h (by show ¬ n.size = 0; omega)
theorem notNull {n : ByteArray} (h0 : 0 < n.size) (h : n[0].toNat ≠ 110) : ¬ n.toList = [110, 117, 108, 108] := by
  intro e
  rw [Lib.toList_data] at e
  apply h
  have h1 : n.data.toList[0]? = some n[0] := by simp [ByteArray.getElem_eq_getElem_data]
  rw [e] at h1
  simp only [List.getElem?_cons_zero, Option.some.injEq] at h1
  rw [← h1]; rfl
theorem field0 (s : ByteArray) (w : World) : (Instr.field 26 (.agg #[.string s, .bool false]) 0).run Tryd.prog w = .ok (.string s) w := by kernel_rfl
theorem grow11 {W w0 w1 w2 w3 w4 w5 w6 w7 w8 w9 w10 w11 : World} (h0 : Below W.heap.size W w0) (h1 : Below w0.heap.size w0 w1) (h2 : Below w1.heap.size w1 w2) (h3 : Below w2.heap.size w2 w3) (h4 : Below w3.heap.size w3 w4) (h5 : Below w4.heap.size w4 w5) (h6 : Below w5.heap.size w5 w6) (h7 : Below w6.heap.size w6 w7) (h8 : Below w7.heap.size w7 w8) (h9 : Below w8.heap.size w8 w9) (h10 : Below w9.heap.size w9 w10) (h11 : Below w10.heap.size w10 w11) : Below W.heap.size W w11 := by
  have t1 := h0.trans (h1.mono h0.size)
  have t2 := t1.trans (h2.mono t1.size)
  have t3 := t2.trans (h3.mono t2.size)
  have t4 := t3.trans (h4.mono t3.size)
  have t5 := t4.trans (h5.mono t4.size)
  have t6 := t5.trans (h6.mono t5.size)
  have t7 := t6.trans (h7.mono t6.size)
  have t8 := t7.trans (h8.mono t7.size)
  have t9 := t8.trans (h9.mono t8.size)
  have t10 := t9.trans (h10.mono t9.size)
  exact t10.trans (h11.mono t10.size)
end Go.Proofs.YtojkagfbdpjckaaDoor
