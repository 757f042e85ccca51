/-
  Unlike faces have unlike bytes.
-/
import Derived.Test.YtdcbeemjdpgjmaaDoorFcHead
import Derived.Test.YtdcbeemjdpgjmaaDoorFcFew
namespace Go.Proofs.YtdcbeemjdpgjmaaDoor.Fc
open Go.RowKit
set_option linter.unusedVariables false

theorem wat_keep {base bw B : Nat} {w w' : World} {bs : List UInt8} (h : Pk.WAt base bw w bs) (hb : ∀ k, k < w.heap.size → k ≠ B → w'.heap[k]? = w.heap[k]?) (hB : ∀ cs, w.heap[B]? ≠ some (.cells cs 5 (0, 0))) (hne : bw ≠ B) : Pk.WAt base bw w' bs := by
  obtain ⟨v, hv, hl, hrow⟩ := h
  refine ⟨v, (hb bw (lt_of_block hv) hne).trans hv, hl, ?_⟩
  rcases hrow with ⟨h0, h1⟩ | ⟨g, cap, cur, e, h1, h2, h3⟩
  · exact .inl ⟨h0, h1⟩
  · exact .inr ⟨g, cap, cur, e, h1, (hb g (lt_of_block h2) (fun e => hB cur (by rw [← e]; exact h2))).trans h2, h3⟩
theorem wat_below {base bw : Nat} {w w' : World} {bs : List UInt8} (h : Pk.WAt base bw w bs) (hb : Below w.heap.size w w') : Pk.WAt base bw w' bs := by
  obtain ⟨v, hv, hl, hrow⟩ := h
  refine ⟨v, (hb.block bw (lt_of_block hv)).trans hv, hl, ?_⟩
  rcases hrow with ⟨h0, h1⟩ | ⟨g, cap, cur, e, h1, h2, h3⟩
  · exact .inl ⟨h0, h1⟩
  · exact .inr ⟨g, cap, cur, e, h1, (hb.block g (lt_of_block h2)).trans h2, h3⟩
theorem bl_len (s : ByteArray) : (bl s).length = s.size := Array.length_toList
theorem okS {s : ByteArray} {m : Int} (h : s.size ≤ 1000) (hm : 1000 ≤ m) : OkS m s := ⟨by rw [bl_len]; omega, by rw [bl_len]; omega⟩
theorem small_ok {f : Fc} (h : Small f) : OkF 1000 1000 f := by
  have h1 := h.name; have h2 := h.sup; have h3 := h.fs; have h4 := h.ms
  refine ⟨okS (by omega) (by omega), okS (by omega) (by omega), ⟨⟨by omega, by omega⟩, fun x hx => ?_⟩, ⟨⟨by omega, by omega⟩, fun m hm => ?_⟩⟩
  · obtain ⟨a, b⟩ := h.f1 x hx
    exact ⟨okS (by omega) (by omega), okS (s := x.tn) (by omega) (by omega), trivial⟩
  · obtain ⟨a, b, c, d⟩ := h.m1 m hm
    exact ⟨okS (by omega) (by omega), trivial, ⟨okS (s := m.rn) (by omega) (by omega), trivial⟩, ⟨by omega, by omega⟩, fun t ht => ⟨okS (by have := d t ht; omega) (by omega), trivial⟩⟩
theorem flat_le {α : Type} (e : α → List UInt8) (B : Nat) (xs : List α) (h : ∀ x ∈ xs, (e x).length ≤ B) : (xs.flatMap e).length ≤ xs.length * B := by
  induction xs with
  | nil => simp
  | cons x xs ih =>
    have h1 := h x (by simp)
    have h2 := ih (fun y hy => h y (by simp [hy]))
    simp only [List.flatMap_cons, List.length_append, List.length_cons, Nat.succ_mul]
    omega
theorem sB_le {s : ByteArray} (h : s.size ≤ 60) : (sB s).length ≤ 69 := by
  have := Pk.enc_len9 (bl s).length (by rw [bl_len]; omega)
  simp only [sB, Pk.textB, List.length_append]
  rw [bl_len] at *
  omega
theorem tyB_le {t : Ty} (h : t.n.size ≤ 60) : (tyB t).length ≤ 70 := by
  have := sB_le h
  simp only [tyB, List.length_append, List.length_singleton]
  omega
theorem small_len {f : Fc} (h : Small f) : (fcB f).length ≤ 900000 := by
  have h1 := sB_le h.name; have h2 := sB_le h.sup; have h3 := h.fs; have h4 := h.ms
  have e1 := Pk.enc_len9 f.fs.length (by omega)
  have e2 := Pk.enc_len9 f.ms.length (by omega)
  have g1 := flat_le vrB 139 f.fs (fun x hx => by
    obtain ⟨a, b⟩ := h.f1 x hx
    have a1 := sB_le a
    have a2 := tyB_le (t := x.ty) b
    simp only [vrB, List.length_append]
    omega)
  have g2 := flat_le sgB 860 f.ms (fun m hm => by
    obtain ⟨a, b, c, d⟩ := h.m1 m hm
    have a1 := sB_le a
    have a2 := tyB_le (t := m.ret) b
    have a3 := flat_le tyB 70 m.ps (fun t ht => tyB_le (d t ht))
    have a4 := Pk.enc_len9 m.ps.length (by omega)
    have a5 : m.ps.length * 70 ≤ 10 * 70 := Nat.mul_le_mul_right _ c
    simp only [sgB, tysB, manyB, List.length_append, List.length_singleton]
    omega)
  have m1 : f.fs.length * 139 ≤ 12 * 139 := Nat.mul_le_mul_right _ h3
  have m2 : f.ms.length * 860 ≤ 12 * 860 := Nat.mul_le_mul_right _ h4
  simp only [fcB, manyB, List.length_append]
  omega
theorem fcB_inj {f g : Fc} (hf : Small f) (hg : Small g) : ((⟨(fcB f).toArray⟩ : ByteArray).toList == (⟨(fcB g).toArray⟩ : ByteArray).toList) = decide (f = g) := by
  by_cases h : f = g
  · rw [h]; simp
  · have : (⟨(fcB f).toArray⟩ : ByteArray) ≠ ⟨(fcB g).toArray⟩ := fun e => h (by
      have e2 : fcB f = fcB g := by injection e with e; simpa using e
      exact ((cod_fc 1000 1000).inj (r := []) (r' := []) (small_ok hf) (small_ok hg) (by rw [e2])).1)
    rw [tne this]
    simp [h]
/-- what stands while both are asked for -/
structure ApS (w : World) (f g : Fc) (cs ds : List Value) (F G A B base base' : Nat) (x : World) : Prop where
  bf : Blk x F cs 25
  bg : Blk x G ds 25
  rf : FcR x f cs
  rg : FcR x g ds
  a : Pk.WAt base A x (fcB f)
  b : Pk.WAt base' B x (fcB g)
  below : Below w.heap.size w x
section
variable {w x y : World} {f g : Fc} {cs ds : List Value} {F G A B base base' : Nat}
theorem ApS.step (h : ApS w f g cs ds F G A B base base' x) (hb : Below x.heap.size x y) : ApS w f g cs ds F G A B base base' y :=
  ⟨h.bf.below hb, h.bg.below hb, h.rf.keep (Keeps.of_below hb), h.rg.keep (Keeps.of_below hb), wat_below h.a hb, wat_below h.b hb, h.below.trans (hb.mono h.below.size)⟩
theorem ApS.dr (h : ApS w f g cs ds F G A B base base' x) : ApS w f g cs ds F G A B base base' x.drew := h.step (bl_dr (Below.refl _ _))
theorem ap_same {u v : Fc} {us vs : Array Value} {r : Bool} (h : ApS w f g cs ds F G A B base base' x) (h1 : FcR x u us.toList) (h2 : FcR x v vs.toList) (hr : decide (u = v) = r) :
    Calls Tryd.prog 19 #[.agg us, .agg vs] x fun e w' => e = .returned (.bool r) ∧ ApS w f g cs ds F G A B base base' w' := by
  refine (same19 u v us.toList vs.toList x h1 h2).mono ?_
  rintro e w' ⟨rfl, hb⟩
  exact ⟨by rw [hr], h.step hb⟩
end
end Go.Proofs.YtdcbeemjdpgjmaaDoor.Fc
