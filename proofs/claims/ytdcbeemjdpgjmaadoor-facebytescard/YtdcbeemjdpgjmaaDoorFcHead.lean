/-
  The document's example.
-/
import Derived.Test.YtdcbeemjdpgjmaaDoorFcOf
import Derived.Test.YtdcbeemjdpgjmaaDoorFcDig
import Derived.Test.YtdcbeemjdpgjmaaDoorFcTyp
import Derived.Test.YtdcbeemjdpgjmaaDoorShEq
namespace Go.Proofs.YtdcbeemjdpgjmaaDoor.Fc
open Go.RowKit
set_option linter.unusedVariables false

abbrev sInt : ByteArray := ⟨#[105, 110, 116]⟩
abbrev sBool : ByteArray := ⟨#[98, 111, 111, 108]⟩
abbrev vX : Vr := ⟨⟨#[120]⟩, sInt, false⟩
abbrev vY : Vr := ⟨⟨#[121]⟩, sBool, false⟩
abbrev clsA (b : Nat) : List Value := [.int .i64 0, .int .i64 0, .string ⟨#[65]⟩, .string ⟨#[]⟩, .slice (some ⟨b, 0, none⟩) 2 2, .slice none 0 0]
/-- the face of both -/
abbrev hF : Fc := ⟨⟨#[65]⟩, ⟨#[]⟩, srt cfV [vX, vY], []⟩

theorem hF_perm : srt cfV [vX, vY] = srt cfV [vY, vX] := srt_perm swoV (List.Perm.swap _ _ _) (fun x hx y hy h1 h2 => by
  rw [ltV] at h1 h2
  have e := ltS_total h1 h2
  simp only [List.mem_cons, List.not_mem_nil, or_false] at hx hy
  rcases hx with rfl | rfl <;> rcases hy with rfl | rfl <;> first | rfl | (exact absurd e (by decide)))
theorem sum_map_perm {α : Type} {e : α → List UInt8} {xs ys : List α} (h : xs.Perm ys) : (xs.flatMap e).length = (ys.flatMap e).length := by
  induction h with
  | nil => rfl
  | cons x _ ih => simp only [List.flatMap_cons, List.length_append, ih]
  | swap x y l => simp only [List.flatMap_cons, List.length_append]; omega
  | trans _ _ h1 h2 => exact h1.trans h2
theorem hF_len : (fcB hF).length ≤ 900000 := by
  have h := srt_facts swoV [vX, vY]
  simp only [fcB, manyB, List.length_append, sum_map_perm h.1, h.2.1]
  decide
theorem sl_two {x : World} {s : Nat} (u v : Vr) (h : Blk x s [.string u.name, .string u.tn, .bool u.ta, .string v.name, .string v.tn, .bool v.ta] 58) : Sl x 3 VrR [u, v] (.slice (some ⟨s, 0, none⟩) 2 2) := by
  refine ⟨_, 2, rfl, Nat.le_refl _, by decide, fun i t hi => ?_⟩
  have hi2 : i < 2 := (List.getElem?_eq_some_iff.1 hi).1
  rcases (show i = 0 ∨ i = 1 by omega) with rfl | rfl
  · cases hi
    refine ⟨s, 0, _, rfl, fun j w hw => ?_, rfl⟩
    have hj : j < 3 := (List.getElem?_eq_some_iff.1 hw).1
    have := h.cell j
    rcases (show j = 0 ∨ j = 1 ∨ j = 2 by omega) with rfl | rfl | rfl <;> (cases hw; simpa using this)
  · cases hi
    refine ⟨s, 0, _, rfl, fun j w hw => ?_, rfl⟩
    have hj : j < 3 := (List.getElem?_eq_some_iff.1 hw).1
    have := h.cell (3 + j)
    rcases (show j = 0 ∨ j = 1 ∨ j = 2 by omega) with rfl | rfl | rfl <;> (cases hw; simpa using this)
/-- what stands while the example is asked for -/
structure HdS (w : World) (s1 b1 s2 b2 : Nat) (x : World) : Prop where
  a : Blk x b1 (clsA s1) 54
  b : Blk x b2 (clsA s2) 54
  fa : Sl x 3 VrR [vX, vY] (.slice (some ⟨s1, 0, none⟩) 2 2)
  fb : Sl x 3 VrR [vY, vX] (.slice (some ⟨s2, 0, none⟩) 2 2)
  roots : RdW 0 x K
  below : Below w.heap.size w x
section
variable {w x y : World} {s1 b1 s2 b2 : Nat}
theorem HdS.step (h : HdS w s1 b1 s2 b2 x) (hb : Below x.heap.size x y) : HdS w s1 b1 s2 b2 y :=
  ⟨h.a.below hb, h.b.below hb, vrs_keep (Keeps.of_below hb) h.fa, vrs_keep (Keeps.of_below hb) h.fb, roots_keep h.roots hb, h.below.trans (hb.mono h.below.size)⟩
theorem HdS.dr (h : HdS w s1 b1 s2 b2 x) : HdS w s1 b1 s2 b2 x.drew := h.step (bl_dr (Below.refl _ _))
theorem HdS.cells (h : HdS w s1 b1 s2 b2 x) : x.cell? ⟨b1, 0, none⟩ = some (.int .i64 0) ∧ x.cell? ⟨b1, 1, none⟩ = some (.int .i64 0) ∧ x.cell? ⟨b1, 2, none⟩ = some (.string ⟨#[65]⟩) ∧ x.cell? ⟨b1, 3, none⟩ = some (.string ⟨#[]⟩) ∧ x.cell? ⟨b1, 4, none⟩ = some (.slice (some ⟨s1, 0, none⟩) 2 2) ∧ x.cell? ⟨b1, 5, none⟩ = some (.slice none 0 0) ∧
    x.cell? ⟨b2, 0, none⟩ = some (.int .i64 0) ∧ x.cell? ⟨b2, 1, none⟩ = some (.int .i64 0) ∧ x.cell? ⟨b2, 2, none⟩ = some (.string ⟨#[65]⟩) ∧ x.cell? ⟨b2, 3, none⟩ = some (.string ⟨#[]⟩) ∧ x.cell? ⟨b2, 4, none⟩ = some (.slice (some ⟨s2, 0, none⟩) 2 2) ∧ x.cell? ⟨b2, 5, none⟩ = some (.slice none 0 0) ∧ HdS w s1 b1 s2 b2 x :=
  ⟨h.a.cell 0, h.a.cell 1, h.a.cell 2, h.a.cell 3, h.a.cell 4, h.a.cell 5, h.b.cell 0, h.b.cell 1, h.b.cell 2, h.b.cell 3, h.b.cell 4, h.b.cell 5, h⟩
theorem hd_of (f : List Vr) (sl : Nat) (hs : Sl x 3 VrR f (.slice (some ⟨sl, 0, none⟩) 2 2)) (hf : srt cfV f = srt cfV [vX, vY]) (h : HdS w s1 b1 s2 b2 x) :
    Calls Tryd.prog 23 #[.agg (clsA sl).toArray] x fun e w' => ∃ cs, e = .returned (.agg cs) ∧ FcR w' hF cs.toList ∧ HdS w s1 b1 s2 b2 w' ∧ Below x.heap.size x w' := by
  refine (of23_0 0 0 ⟨#[65]⟩ ⟨#[]⟩ f _ 2 2 x hs (by decide)).mono ?_
  rintro e w' ⟨a', c', rfl, hS, hb⟩
  rw [hf] at hS
  exact ⟨_, rfl, ⟨a', 2, c', none, 0, 0, rfl, hS, Sl.nil _ _ _⟩, h.step hb, hb⟩
theorem hd_any {sl : Nat} (h : HdS w s1 b1 s2 b2 x) (hs : sl = s1 ∨ sl = s2) :
    Calls Tryd.prog 23 #[.agg (clsA sl).toArray] x fun e w' => ∃ cs, e = .returned (.agg cs) ∧ FcR w' hF cs.toList ∧ HdS w s1 b1 s2 b2 w' ∧ Below x.heap.size x w' := by
  rcases hs with rfl | rfl
  · exact hd_of [vX, vY] _ h.fa rfl h
  · exact hd_of [vY, vX] _ h.fb hF_perm.symm h
theorem hd_same {cs ds : Array Value} (h1 : FcR x hF cs.toList) (h2 : FcR x hF ds.toList) (h : HdS w s1 b1 s2 b2 x) :
    Calls Tryd.prog 19 #[.agg cs, .agg ds] x fun e w' => e = .returned (.bool true) ∧ HdS w s1 b1 s2 b2 w' ∧ Below x.heap.size x w' := by
  refine (same19 hF hF cs.toList ds.toList x h1 h2).mono ?_
  rintro e w' ⟨rfl, hb⟩
  exact ⟨by simp, h.step hb, hb⟩
theorem hd_dig {cs : Array Value} {dc : Array Value} (hd : digV hF = .agg dc) (h1 : FcR x hF cs.toList) (h : HdS w s1 b1 s2 b2 x) :
    Calls Tryd.prog 14 #[.agg cs] x fun e w' => e = .returned (.agg dc) ∧ HdS w s1 b1 s2 b2 w' ∧ Below x.heap.size x w' := by
  refine (digest14 hF cs.toList x h1 hF_len h.roots).mono ?_
  rintro e w' ⟨rfl, hb⟩
  exact ⟨by rw [hd], h.step hb, hb⟩
end
theorem dig_eq (f : Fc) : ∃ dc, Hid (digV f = .agg dc) ∧ ∀ w, (Op.equalIn 10000 35 (.agg dc) (.agg dc)).run Tryd.prog w = .ok true w :=
  ⟨_, Lib.hid rfl, fun w => eq_same _ (shaOf_length _) (shaOf_lt _) w⟩

set_option maxHeartbeats 4000000 in
set_option maxRecDepth 100000 in
theorem head8 (w : World) (hK : RdW 0 w K) : Calls Tryd.prog 8 #[] w fun e w' => e = .returned (.bool true) ∧ Below w.heap.size w w' := by
  have HI := Lib.hid int55
  have HBo := Lib.hid bool56
  have HK := Lib.hid hK
  obtain ⟨dc, HD, heq⟩ := dig_eq hF
  have HEQ := Lib.hid heq
  clear hK heq
  go_enter Tryd.func8, Tryd.ntmps8
  go_wp2_with fail
  refine (HI.out w).mono ?_
  rintro e w1 ⟨rfl, hb1⟩
  have hs1 := hb1.size
  go_wp2_with fail
  refine (HBo.out w1).mono ?_
  rintro e w2 ⟨rfl, hb2⟩
  have hs2 := hb2.size
  have HB2 : Hid (Below w.heap.size w w2) := Lib.hid (hb1.trans (hb2.mono hs1))
  clear hb1 hb2
  go_wp2_with fail
  obtain ⟨W3, HW3⟩ : ∃ W3, Hid (W3 = (w2.alloc (.cells #[.string ⟨#[120]⟩, .string ⟨#[105, 110, 116]⟩, .bool false, .string ⟨#[121]⟩, .string ⟨#[98, 111, 111, 108]⟩, .bool false] 58)).alloc (.cells #[.int .i64 0, .int .i64 0, .string ⟨#[65]⟩, .string ⟨#[]⟩, .slice (some ⟨w2.heap.size, 0, none⟩) 2 2, .slice none 0 0] 54)) := ⟨_, Lib.hid rfl⟩
  rw [← HW3.out]
  have hs3 : W3.heap.size = w2.heap.size + 2 := by rw [HW3.out]; simp
  have HS3 := Lib.hid hs3
  clear hs3
  refine (HBo.out W3).mono ?_
  rintro e w4 ⟨rfl, hb4⟩
  have hs4 := hb4.size
  go_wp2_with fail
  refine (HI.out w4).mono ?_
  rintro e w5 ⟨rfl, hb5⟩
  have hs5 := hb5.size
  have HB5 : Hid (Below W3.heap.size W3 w5) := Lib.hid (hb4.trans (hb5.mono hs4))
  clear hb4 hb5
  go_wp2_with fail
  obtain ⟨W6, HW6⟩ : ∃ W6, Hid (W6 = (w5.alloc (.cells #[.string ⟨#[121]⟩, .string ⟨#[98, 111, 111, 108]⟩, .bool false, .string ⟨#[120]⟩, .string ⟨#[105, 110, 116]⟩, .bool false] 58)).alloc (.cells #[.int .i64 0, .int .i64 0, .string ⟨#[65]⟩, .string ⟨#[]⟩, .slice (some ⟨w5.heap.size, 0, none⟩) 2 2, .slice none 0 0] 54)) := ⟨_, Lib.hid rfl⟩
  rw [← HW6.out]
  have HB6 : Hid (Below W3.heap.size W3 W6) := Lib.hid (by rw [HW6.out]; exact bl_al (bl_al HB5.out))
  have HH : Hid (HdS w w2.heap.size (w2.heap.size + 1) w5.heap.size (w5.heap.size + 1) W6) := Lib.hid (by
    have hbw : Below w.heap.size w W6 := by
      refine Below.trans ?_ (HB6.out.mono (by rw [HS3.out]; omega))
      rw [HW3.out]
      exact bl_al (bl_al HB2.out)
    have A1 : Blk W3 w2.heap.size [.string ⟨#[120]⟩, .string sInt, .bool false, .string ⟨#[121]⟩, .string sBool, .bool false] 58 := by rw [HW3.out]; exact (Blk.new w2 _ 58).al _
    have A2 : Blk W3 (w2.heap.size + 1) (clsA w2.heap.size) 54 := by rw [HW3.out]; exact Blk.newAt (by simp) (clsA w2.heap.size) 54
    have A3 : Blk W6 w5.heap.size [.string ⟨#[121]⟩, .string sBool, .bool false, .string ⟨#[120]⟩, .string sInt, .bool false] 58 := by rw [HW6.out]; exact (Blk.new w5 _ 58).al _
    have A4 : Blk W6 (w5.heap.size + 1) (clsA w5.heap.size) 54 := by rw [HW6.out]; exact Blk.newAt (by simp) (clsA w5.heap.size) 54
    exact ⟨A2.below HB6.out, A4, vrs_keep (Keeps.of_below HB6.out) (sl_two vX vY A1), sl_two vY vX A3, roots_keep HK.out hbw, hbw⟩)
  have HP := Lib.hid hF_perm
  clear HB6 HW6 HB5 HB2 HS3 HW3 HI HBo HK
  generalize w2.heap.size = s1 at *
  generalize w5.heap.size = s2 at *
  generalize hb1 : s1 + 1 = b1 at *
  generalize hb2 : s2 + 1 = b2 at *
  clear hb1 hb2 hs1 hs2 hs4 hs5
  have heq := HEQ.out
  go_region_held3 (fun x => x.cell? ⟨b1, 0, none⟩ = some (.int .i64 0) ∧ x.cell? ⟨b1, 1, none⟩ = some (.int .i64 0) ∧ x.cell? ⟨b1, 2, none⟩ = some (.string ⟨#[65]⟩) ∧ x.cell? ⟨b1, 3, none⟩ = some (.string ⟨#[]⟩) ∧ x.cell? ⟨b1, 4, none⟩ = some (.slice (some ⟨s1, 0, none⟩) 2 2) ∧ x.cell? ⟨b1, 5, none⟩ = some (.slice none 0 0) ∧
      x.cell? ⟨b2, 0, none⟩ = some (.int .i64 0) ∧ x.cell? ⟨b2, 1, none⟩ = some (.int .i64 0) ∧ x.cell? ⟨b2, 2, none⟩ = some (.string ⟨#[65]⟩) ∧ x.cell? ⟨b2, 3, none⟩ = some (.string ⟨#[]⟩) ∧ x.cell? ⟨b2, 4, none⟩ = some (.slice (some ⟨s2, 0, none⟩) 2 2) ∧ x.cell? ⟨b2, 5, none⟩ = some (.slice none 0 0) ∧ HdS w s1 b1 s2 b2 x)
    (first | exact HdS.cells hX | exact HH.out.cells | exact HH.out.dr.cells | exact HdS.cells hX.dr)
    (first
      | (go_at_call 23; refine (hd_any (w := w) (s1 := s1) (b1 := b1) (s2 := s2) (b2 := b2) ?_ ?_).mono ?_; (first | exact hX | exact HH.out | exact HH.out.dr); (first | exact Or.inl rfl | exact Or.inr rfl); rintro e wA ⟨csA, rfl, fA, hX, bA⟩)
      | (go_at_call 19; refine (hd_same ?_ ?_ hX).mono ?_; exact FcR.keep (Keeps.of_below bA) (by assumption); exact fA; rintro e wS ⟨rfl, hX, bS⟩)
      | (go_at_call 14; refine (hd_dig HD.out ?_ hX).mono ?_; exact fA; rintro e wD ⟨rfl, hX, bD⟩))
  go_wp2
  go_ret
  exact ⟨rfl, hX.below⟩
end Go.Proofs.YtdcbeemjdpgjmaaDoor.Fc
