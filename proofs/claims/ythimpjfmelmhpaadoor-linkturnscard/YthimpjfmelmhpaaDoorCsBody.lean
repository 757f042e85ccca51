/-
  Whether a method's body is right.
-/
import Derived.Test.YthimpjfmelmhpaaDoorCsMany
import Derived.Deep.RegionHeld3
namespace Go.Proofs.YthimpjfmelmhpaaDoor.Fc
open Go.RowKit
set_option linter.unusedVariables false

/-- a pool, a method and a body, each in its own block -/
structure BdS (w0 : World) (P : Nat) (pc sc bc : List Value) (z : World) : Prop where
  p : Blk z P pc 41
  s : Blk z (P + 1) sc 51
  b : Blk z (P + 2) bc 54
  below : Below w0.heap.size w0 z
theorem BdS.next {w0 z z' : World} {P : Nat} {pc sc bc : List Value} (h : BdS w0 P pc sc bc z) (hb : Below z.heap.size z z') : BdS w0 P pc sc bc z' :=
  ⟨h.p.below hb, h.s.below hb, h.b.below hb, h.below.trans (hb.mono h.below.size)⟩
theorem BdS.dr {w0 z : World} {P : Nat} {pc sc bc : List Value} (h : BdS w0 P pc sc bc z) : BdS w0 P pc sc bc z.drew := ⟨h.p, h.s, h.b, h.below.drew⟩
theorem BdS.new (w : World) (pc sc bc : List Value) : BdS w w.heap.size pc sc bc (((w.alloc (.cells pc.toArray 41)).alloc (.cells sc.toArray 51)).alloc (.cells bc.toArray 54)) := by
  have b1 := below1 w (.cells pc.toArray 41)
  have b2 := below1 (w.alloc (.cells pc.toArray 41)) (.cells sc.toArray 51)
  have b3 := below1 ((w.alloc (.cells pc.toArray 41)).alloc (.cells sc.toArray 51)) (.cells bc.toArray 54)
  refine ⟨((Blk.new w pc 41).below b2).below b3, ?_, ?_, (b1.trans (b2.mono b1.size)).trans (b3.mono (b1.trans (b2.mono b1.size)).size)⟩
  · have := (Blk.new (w.alloc (.cells pc.toArray 41)) sc 51).below b3; simpa using this
  · have := Blk.new ((w.alloc (.cells pc.toArray 41)).alloc (.cells sc.toArray 51)) bc 54; simpa using this

set_option maxHeartbeats 2000000 in
set_option maxRecDepth 100000 in
theorem body_1 (a1 : Option Addr) (n1 c1 : Nat) (a2 : Option Addr) (n2 c2 : Nat) (a3 : Option Addr) (n3 c3 : Nat) (a4 : Option Addr) (n4 c4 : Nat) (a5 : Option Addr) (n5 c5 : Nat) (s : Sg) (a7 : Option Addr) (n7 c7 : Nat) (lo st : Int) (a6 : Option Addr) (n6 c6 : Nat) (w : World) (hs : Sl w 2 TyR s.ps (.slice a7 n7 c7)) (hn7 : n7 ≤ 200) (h : lo < givenN s) :
    Calls Tryd.prog 42 #[.agg #[.slice a1 n1 c1, .slice a2 n2 c2, .slice a3 n3 c3, .slice a4 n4 c4, .slice a5 n5 c5], .agg #[.string s.name, .bool s.st, .slice a7 n7 c7, .string s.rn, .bool s.ra], .agg #[.int .i64 lo, .int .i64 st, .slice a6 n6 c6]] w fun e w' => e = .returned (.bool false) ∧ Below w.heap.size w w' := by
  have h1 : decide (lo < (givenN s : Int)) = true := decide_eq_true h
  obtain ⟨W0, HW0⟩ : ∃ W0, Hid (W0 = ((w.alloc (.cells #[.slice a1 n1 c1, .slice a2 n2 c2, .slice a3 n3 c3, .slice a4 n4 c4, .slice a5 n5 c5] 41)).alloc (.cells #[.string s.name, .bool s.st, .slice a7 n7 c7, .string s.rn, .bool s.ra] 51)).alloc (.cells #[.int .i64 lo, .int .i64 st, .slice a6 n6 c6] 54)) := ⟨_, Lib.hid rfl⟩
  have HS : Hid (BdS w w.heap.size [.slice a1 n1 c1, .slice a2 n2 c2, .slice a3 n3 c3, .slice a4 n4 c4, .slice a5 n5 c5] [.string s.name, .bool s.st, .slice a7 n7 c7, .string s.rn, .bool s.ra] [.int .i64 lo, .int .i64 st, .slice a6 n6 c6] W0) := Lib.hid (by rw [HW0.out]; exact BdS.new w _ _ _)
  have HG : Hid (∀ z, BdS w w.heap.size [.slice a1 n1 c1, .slice a2 n2 c2, .slice a3 n3 c3, .slice a4 n4 c4, .slice a5 n5 c5] [.string s.name, .bool s.st, .slice a7 n7 c7, .string s.rn, .bool s.ra] [.int .i64 lo, .int .i64 st, .slice a6 n6 c6] z → Calls Tryd.prog 74 #[.agg #[.string s.name, .bool s.st, .slice a7 n7 c7, .string s.rn, .bool s.ra]] z fun e w' => e = .returned (.int .i64 (givenN s : Int)) ∧ BdS w w.heap.size [.slice a1 n1 c1, .slice a2 n2 c2, .slice a3 n3 c3, .slice a4 n4 c4, .slice a5 n5 c5] [.string s.name, .bool s.st, .slice a7 n7 c7, .string s.rn, .bool s.ra] [.int .i64 lo, .int .i64 st, .slice a6 n6 c6] w') := Lib.hid (fun z hz => (given60 s a7 n7 c7 z (tys_keep (Keeps.of_below hz.below) hs) hn7).mono fun e w' ⟨p, q⟩ => ⟨p, hz.next q⟩)
  clear hs hn7
  generalize (givenN s : Int) = G at *
  go_enter Tryd.func42, Tryd.ntmps42
  go_upto_region 1 with fail
  rw [← HW0.out]
  clear HW0
  generalize w.heap.size = P at *
  refine wp_region_held_drew (S := fun z => BdS w P [.slice a1 n1 c1, .slice a2 n2 c2, .slice a3 n3 c3, .slice a4 n4 c4, .slice a5 n5 c5] [.string s.name, .bool s.st, .slice a7 n7 c7, .string s.rn, .bool s.ra] [.int .i64 lo, .int .i64 st, .slice a6 n6 c6] z) (by kernel_rfl) ?_ (fun hHeld => ?_)
  · exact HS.out.dr
  refine wpAnyH_take (i := 0) (v := ?_) rfl (by kernel_rfl) (by kernel_rfl) (by kernel_rfl) (fun _ _ _ h => h) (Or.inl ⟨by rfl, ?_⟩) (by assumption) ?_
  rotate_left
  focus (intro w hSw; have p0 := hSw.s.cell 0; have p1 := hSw.s.cell 1; have p2 := hSw.s.cell 2; have p3 := hSw.s.cell 3; have p4 := hSw.s.cell 4; have q0 := hSw.b.cell 0; have q1 := hSw.b.cell 1; simp only [List.getElem?_cons_zero, List.getElem?_cons_succ] at p0 p1 p2 p3 p4 q0 q1; go_simp; first | done | with_reducible rfl)
  simp only [Act.put, List.getElem_toArray, List.getElem_cons_zero, List.setIfInBounds_toArray, List.set_cons_zero, List.set_cons_succ]
  refine wpAnyH_take (i := 1) (v := ?_) rfl (by kernel_rfl) (by kernel_rfl) (by kernel_rfl) (fun _ _ _ h => h) (Or.inl ⟨by rfl, ?_⟩) (by assumption) ?_
  rotate_left
  focus (intro w hSw; have p0 := hSw.s.cell 0; have p1 := hSw.s.cell 1; have p2 := hSw.s.cell 2; have p3 := hSw.s.cell 3; have p4 := hSw.s.cell 4; have q0 := hSw.b.cell 0; have q1 := hSw.b.cell 1; simp only [List.getElem?_cons_zero, List.getElem?_cons_succ] at p0 p1 p2 p3 p4 q0 q1; go_simp; first | done | with_reducible rfl)
  simp only [Act.put, List.getElem_toArray, List.getElem_cons_zero, List.getElem_cons_succ, List.setIfInBounds_toArray, List.set_cons_zero, List.set_cons_succ]
  refine wpAnyH_take (i := 2) (v := ?_) rfl (by kernel_rfl) (by kernel_rfl) (by kernel_rfl) (fun _ _ _ h => h) (Or.inl ⟨by rfl, ?_⟩) (by assumption) ?_
  rotate_left
  focus (intro w hSw; have p0 := hSw.s.cell 0; have p1 := hSw.s.cell 1; have p2 := hSw.s.cell 2; have p3 := hSw.s.cell 3; have p4 := hSw.s.cell 4; have q0 := hSw.b.cell 0; have q1 := hSw.b.cell 1; simp only [List.getElem?_cons_zero, List.getElem?_cons_succ] at p0 p1 p2 p3 p4 q0 q1; go_simp; first | done | with_reducible rfl)
  simp only [Act.put, List.getElem_toArray, List.getElem_cons_zero, List.getElem_cons_succ, List.setIfInBounds_toArray, List.set_cons_zero, List.set_cons_succ]
  refine wpAnyH_ready (rs := [3]) (by kernel_rfl) (by simp) ?_
  refine AllReadyH.cons (o := _) rfl (fun K hK => ?_) AllReadyH.nil
  go_simp
  with_reducible refine (HG.out _ hHeld).mono ?_
  rintro e z1 ⟨rfl, hz1⟩
  go_simp
  refine hK.out _ _ hz1 (fun hHeld => ?_)
  clear hK K
  try simp only [Act.put, List.getElem_toArray, List.getElem_cons_zero, List.getElem_cons_succ, List.setIfInBounds_toArray, List.set_cons_zero, List.set_cons_succ]
  refine wpAnyH_take (i := 4) (v := ?_) rfl (by kernel_rfl) (by kernel_rfl) (by kernel_rfl) (fun _ _ _ h => h) (Or.inl ⟨by rfl, ?_⟩) (by assumption) ?_
  rotate_left
  focus (intro w hSw; have p0 := hSw.s.cell 0; have p1 := hSw.s.cell 1; have p2 := hSw.s.cell 2; have p3 := hSw.s.cell 3; have p4 := hSw.s.cell 4; have q0 := hSw.b.cell 0; have q1 := hSw.b.cell 1; simp only [List.getElem?_cons_zero, List.getElem?_cons_succ] at p0 p1 p2 p3 p4 q0 q1; go_simp; first | done | with_reducible rfl)
  simp only [Act.put, List.getElem_toArray, List.getElem_cons_zero, List.getElem_cons_succ, List.setIfInBounds_toArray, List.set_cons_zero, List.set_cons_succ]
  refine wpAnyH_take (i := 5) (v := ?_) rfl (by kernel_rfl) (by kernel_rfl) (by kernel_rfl) (fun _ _ _ h => h) (Or.inl ⟨by rfl, ?_⟩) (by assumption) ?_
  rotate_left
  focus (intro w hSw; have p0 := hSw.s.cell 0; have p1 := hSw.s.cell 1; have p2 := hSw.s.cell 2; have p3 := hSw.s.cell 3; have p4 := hSw.s.cell 4; have q0 := hSw.b.cell 0; have q1 := hSw.b.cell 1; simp only [List.getElem?_cons_zero, List.getElem?_cons_succ] at p0 p1 p2 p3 p4 q0 q1; go_simp; first | done | with_reducible rfl)
  simp only [Act.put, List.getElem_toArray, List.getElem_cons_zero, List.getElem_cons_succ, List.setIfInBounds_toArray, List.set_cons_zero, List.set_cons_succ]
  refine wpAnyH_take (i := 6) (v := undef) rfl (by kernel_rfl) (by kernel_rfl) (by kernel_rfl) (fun _ _ _ h => h) (Or.inr ⟨by rfl, rfl⟩) (by assumption) ?_
  try simp only [Act.put, List.getElem_toArray, List.getElem_cons_zero, List.getElem_cons_succ, List.setIfInBounds_toArray, List.set_cons_zero, List.set_cons_succ]
  refine wpAnyH_take (i := 7) (v := undef) rfl (by kernel_rfl) (by kernel_rfl) (by kernel_rfl) (fun _ _ _ h => h) (Or.inr ⟨by rfl, rfl⟩) (by assumption) ?_
  try simp only [Act.put, List.getElem_toArray, List.getElem_cons_zero, List.getElem_cons_succ, List.setIfInBounds_toArray, List.set_cons_zero, List.set_cons_succ]
  refine wpAnyH_take (i := 8) (v := undef) rfl (by kernel_rfl) (by kernel_rfl) (by kernel_rfl) (fun _ _ _ h => h) (Or.inr ⟨by rfl, rfl⟩) (by assumption) ?_
  try simp only [Act.put, List.getElem_toArray, List.getElem_cons_zero, List.getElem_cons_succ, List.setIfInBounds_toArray, List.set_cons_zero, List.set_cons_succ]
  refine wpAnyH_take (i := 9) (v := ?_) rfl (by kernel_rfl) (by kernel_rfl) (by kernel_rfl) (fun _ _ _ h => h) (Or.inl ⟨by rfl, ?_⟩) (by assumption) ?_
  rotate_left
  focus (intro w hSw; have p0 := hSw.s.cell 0; have p1 := hSw.s.cell 1; have p2 := hSw.s.cell 2; have p3 := hSw.s.cell 3; have p4 := hSw.s.cell 4; have q0 := hSw.b.cell 0; have q1 := hSw.b.cell 1; simp only [List.getElem?_cons_zero, List.getElem?_cons_succ] at p0 p1 p2 p3 p4 q0 q1; go_simp; first | done | with_reducible rfl)
  simp only [Act.put, List.getElem_toArray, List.getElem_cons_zero, List.getElem_cons_succ, List.setIfInBounds_toArray, List.set_cons_zero, List.set_cons_succ]
  refine wpAnyH_take (i := 10) (v := ?_) rfl (by kernel_rfl) (by kernel_rfl) (by kernel_rfl) (fun _ _ _ h => h) (Or.inl ⟨by rfl, ?_⟩) (by assumption) ?_
  rotate_left
  focus (intro w hSw; have p0 := hSw.s.cell 0; have p1 := hSw.s.cell 1; have p2 := hSw.s.cell 2; have p3 := hSw.s.cell 3; have p4 := hSw.s.cell 4; have q0 := hSw.b.cell 0; have q1 := hSw.b.cell 1; simp only [List.getElem?_cons_zero, List.getElem?_cons_succ] at p0 p1 p2 p3 p4 q0 q1; go_simp; first | done | with_reducible rfl)
  simp only [Act.put, List.getElem_toArray, List.getElem_cons_zero, List.getElem_cons_succ, List.setIfInBounds_toArray, List.set_cons_zero, List.set_cons_succ]
  refine wpAnyH_take (i := 11) (v := undef) rfl (by kernel_rfl) (by kernel_rfl) (by kernel_rfl) (fun _ _ _ h => h) (Or.inr ⟨by rfl, rfl⟩) (by assumption) ?_
  try simp only [Act.put, List.getElem_toArray, List.getElem_cons_zero, List.getElem_cons_succ, List.setIfInBounds_toArray, List.set_cons_zero, List.set_cons_succ]
  refine wpAnyH_take (i := 12) (v := undef) rfl (by kernel_rfl) (by kernel_rfl) (by kernel_rfl) (fun _ _ _ h => h) (Or.inr ⟨by rfl, rfl⟩) (by assumption) ?_
  try simp only [Act.put, List.getElem_toArray, List.getElem_cons_zero, List.getElem_cons_succ, List.setIfInBounds_toArray, List.set_cons_zero, List.set_cons_succ]
  refine wpAnyH_take (i := 13) (v := undef) rfl (by kernel_rfl) (by kernel_rfl) (by kernel_rfl) (fun _ _ _ h => h) (Or.inr ⟨by rfl, rfl⟩) (by assumption) ?_
  try simp only [Act.put, List.getElem_toArray, List.getElem_cons_zero, List.getElem_cons_succ, List.setIfInBounds_toArray, List.set_cons_zero, List.set_cons_succ]
  refine wpAnyH_take (i := 14) (v := ?_) rfl (by kernel_rfl) (by kernel_rfl) (by kernel_rfl) (fun _ _ _ h => h) (Or.inl ⟨by rfl, ?_⟩) (by assumption) ?_
  rotate_left
  focus (intro w hSw; have p0 := hSw.s.cell 0; have p1 := hSw.s.cell 1; have p2 := hSw.s.cell 2; have p3 := hSw.s.cell 3; have p4 := hSw.s.cell 4; have q0 := hSw.b.cell 0; have q1 := hSw.b.cell 1; simp only [List.getElem?_cons_zero, List.getElem?_cons_succ] at p0 p1 p2 p3 p4 q0 q1; go_simp; first | done | with_reducible rfl)
  simp only [Act.put, List.getElem_toArray, List.getElem_cons_zero, List.getElem_cons_succ, List.setIfInBounds_toArray, List.set_cons_zero, List.set_cons_succ]
  refine wpAnyH_take (i := 15) (v := ?_) rfl (by kernel_rfl) (by kernel_rfl) (by kernel_rfl) (fun _ _ _ h => h) (Or.inl ⟨by rfl, ?_⟩) (by assumption) ?_
  rotate_left
  focus (intro w hSw; have p0 := hSw.s.cell 0; have p1 := hSw.s.cell 1; have p2 := hSw.s.cell 2; have p3 := hSw.s.cell 3; have p4 := hSw.s.cell 4; have q0 := hSw.b.cell 0; have q1 := hSw.b.cell 1; simp only [List.getElem?_cons_zero, List.getElem?_cons_succ] at p0 p1 p2 p3 p4 q0 q1; go_simp; first | done | with_reducible rfl)
  simp only [Act.put, List.getElem_toArray, List.getElem_cons_zero, List.getElem_cons_succ, List.setIfInBounds_toArray, List.set_cons_zero, List.set_cons_succ]
  refine wpAnyH_take (i := 16) (v := undef) rfl (by kernel_rfl) (by kernel_rfl) (by kernel_rfl) (fun _ _ _ h => h) (Or.inr ⟨by rfl, rfl⟩) (by assumption) ?_
  try simp only [Act.put, List.getElem_toArray, List.getElem_cons_zero, List.getElem_cons_succ, List.setIfInBounds_toArray, List.set_cons_zero, List.set_cons_succ]
  refine wpAnyH_take (i := 17) (v := undef) rfl (by kernel_rfl) (by kernel_rfl) (by kernel_rfl) (fun _ _ _ h => h) (Or.inr ⟨by rfl, rfl⟩) (by assumption) ?_
  try simp only [Act.put, List.getElem_toArray, List.getElem_cons_zero, List.getElem_cons_succ, List.setIfInBounds_toArray, List.set_cons_zero, List.set_cons_succ]
  refine wpAnyH_take (i := 18) (v := undef) rfl (by kernel_rfl) (by kernel_rfl) (by kernel_rfl) (fun _ _ _ h => h) (Or.inr ⟨by rfl, rfl⟩) (by assumption) ?_
  try simp only [Act.put, List.getElem_toArray, List.getElem_cons_zero, List.getElem_cons_succ, List.setIfInBounds_toArray, List.set_cons_zero, List.set_cons_succ]
  refine wpAnyH_take (i := 19) (v := ?_) rfl (by kernel_rfl) (by kernel_rfl) (by kernel_rfl) (fun _ _ _ h => h) (Or.inl ⟨by rfl, ?_⟩) (by assumption) ?_
  rotate_left
  focus (intro w hSw; have p0 := hSw.s.cell 0; have p1 := hSw.s.cell 1; have p2 := hSw.s.cell 2; have p3 := hSw.s.cell 3; have p4 := hSw.s.cell 4; have q0 := hSw.b.cell 0; have q1 := hSw.b.cell 1; simp only [List.getElem?_cons_zero, List.getElem?_cons_succ] at p0 p1 p2 p3 p4 q0 q1; go_simp; first | done | with_reducible rfl)
  simp only [Act.put, List.getElem_toArray, List.getElem_cons_zero, List.getElem_cons_succ, List.setIfInBounds_toArray, List.set_cons_zero, List.set_cons_succ]
  refine wpAnyH_done (by kernel_rfl) ?_ _
  go_wp2
  go_ret
  exact ⟨rfl, hHeld.below⟩

set_option maxHeartbeats 2000000 in
set_option maxRecDepth 100000 in
theorem body_2 (a1 : Option Addr) (n1 c1 : Nat) (a2 : Option Addr) (n2 c2 : Nat) (a3 : Option Addr) (n3 c3 : Nat) (a4 : Option Addr) (n4 c4 : Nat) (a5 : Option Addr) (n5 c5 : Nat) (s : Sg) (a7 : Option Addr) (n7 c7 : Nat) (lo st : Int) (a6 : Option Addr) (n6 c6 : Nat) (w : World) (hs : Sl w 2 TyR s.ps (.slice a7 n7 c7)) (hn7 : n7 ≤ 200) (h : ¬ lo < givenN s) (h2 : 401 < lo) :
    Calls Tryd.prog 42 #[.agg #[.slice a1 n1 c1, .slice a2 n2 c2, .slice a3 n3 c3, .slice a4 n4 c4, .slice a5 n5 c5], .agg #[.string s.name, .bool s.st, .slice a7 n7 c7, .string s.rn, .bool s.ra], .agg #[.int .i64 lo, .int .i64 st, .slice a6 n6 c6]] w fun e w' => e = .returned (.bool false) ∧ Below w.heap.size w w' := by
  have h1 : decide (lo < (givenN s : Int)) = false := decide_eq_false h
  have h21 : decide (401 < lo) = true := decide_eq_true h2
  obtain ⟨W0, HW0⟩ : ∃ W0, Hid (W0 = ((w.alloc (.cells #[.slice a1 n1 c1, .slice a2 n2 c2, .slice a3 n3 c3, .slice a4 n4 c4, .slice a5 n5 c5] 41)).alloc (.cells #[.string s.name, .bool s.st, .slice a7 n7 c7, .string s.rn, .bool s.ra] 51)).alloc (.cells #[.int .i64 lo, .int .i64 st, .slice a6 n6 c6] 54)) := ⟨_, Lib.hid rfl⟩
  have HS : Hid (BdS w w.heap.size [.slice a1 n1 c1, .slice a2 n2 c2, .slice a3 n3 c3, .slice a4 n4 c4, .slice a5 n5 c5] [.string s.name, .bool s.st, .slice a7 n7 c7, .string s.rn, .bool s.ra] [.int .i64 lo, .int .i64 st, .slice a6 n6 c6] W0) := Lib.hid (by rw [HW0.out]; exact BdS.new w _ _ _)
  have HG : Hid (∀ z, BdS w w.heap.size [.slice a1 n1 c1, .slice a2 n2 c2, .slice a3 n3 c3, .slice a4 n4 c4, .slice a5 n5 c5] [.string s.name, .bool s.st, .slice a7 n7 c7, .string s.rn, .bool s.ra] [.int .i64 lo, .int .i64 st, .slice a6 n6 c6] z → Calls Tryd.prog 74 #[.agg #[.string s.name, .bool s.st, .slice a7 n7 c7, .string s.rn, .bool s.ra]] z fun e w' => e = .returned (.int .i64 (givenN s : Int)) ∧ BdS w w.heap.size [.slice a1 n1 c1, .slice a2 n2 c2, .slice a3 n3 c3, .slice a4 n4 c4, .slice a5 n5 c5] [.string s.name, .bool s.st, .slice a7 n7 c7, .string s.rn, .bool s.ra] [.int .i64 lo, .int .i64 st, .slice a6 n6 c6] w') := Lib.hid (fun z hz => (given60 s a7 n7 c7 z (tys_keep (Keeps.of_below hz.below) hs) hn7).mono fun e w' ⟨p, q⟩ => ⟨p, hz.next q⟩)
  clear hs hn7
  generalize (givenN s : Int) = G at *
  go_enter Tryd.func42, Tryd.ntmps42
  go_upto_region 1 with fail
  rw [← HW0.out]
  clear HW0
  generalize w.heap.size = P at *
  refine wp_region_held_drew (S := fun z => BdS w P [.slice a1 n1 c1, .slice a2 n2 c2, .slice a3 n3 c3, .slice a4 n4 c4, .slice a5 n5 c5] [.string s.name, .bool s.st, .slice a7 n7 c7, .string s.rn, .bool s.ra] [.int .i64 lo, .int .i64 st, .slice a6 n6 c6] z) (by kernel_rfl) ?_ (fun hHeld => ?_)
  · exact HS.out.dr
  refine wpAnyH_take (i := 0) (v := ?_) rfl (by kernel_rfl) (by kernel_rfl) (by kernel_rfl) (fun _ _ _ h => h) (Or.inl ⟨by rfl, ?_⟩) (by assumption) ?_
  rotate_left
  focus (intro w hSw; have p0 := hSw.s.cell 0; have p1 := hSw.s.cell 1; have p2 := hSw.s.cell 2; have p3 := hSw.s.cell 3; have p4 := hSw.s.cell 4; have q0 := hSw.b.cell 0; have q1 := hSw.b.cell 1; simp only [List.getElem?_cons_zero, List.getElem?_cons_succ] at p0 p1 p2 p3 p4 q0 q1; go_simp; first | done | with_reducible rfl)
  simp only [Act.put, List.getElem_toArray, List.getElem_cons_zero, List.setIfInBounds_toArray, List.set_cons_zero, List.set_cons_succ]
  refine wpAnyH_take (i := 1) (v := ?_) rfl (by kernel_rfl) (by kernel_rfl) (by kernel_rfl) (fun _ _ _ h => h) (Or.inl ⟨by rfl, ?_⟩) (by assumption) ?_
  rotate_left
  focus (intro w hSw; have p0 := hSw.s.cell 0; have p1 := hSw.s.cell 1; have p2 := hSw.s.cell 2; have p3 := hSw.s.cell 3; have p4 := hSw.s.cell 4; have q0 := hSw.b.cell 0; have q1 := hSw.b.cell 1; simp only [List.getElem?_cons_zero, List.getElem?_cons_succ] at p0 p1 p2 p3 p4 q0 q1; go_simp; first | done | with_reducible rfl)
  simp only [Act.put, List.getElem_toArray, List.getElem_cons_zero, List.getElem_cons_succ, List.setIfInBounds_toArray, List.set_cons_zero, List.set_cons_succ]
  refine wpAnyH_take (i := 2) (v := ?_) rfl (by kernel_rfl) (by kernel_rfl) (by kernel_rfl) (fun _ _ _ h => h) (Or.inl ⟨by rfl, ?_⟩) (by assumption) ?_
  rotate_left
  focus (intro w hSw; have p0 := hSw.s.cell 0; have p1 := hSw.s.cell 1; have p2 := hSw.s.cell 2; have p3 := hSw.s.cell 3; have p4 := hSw.s.cell 4; have q0 := hSw.b.cell 0; have q1 := hSw.b.cell 1; simp only [List.getElem?_cons_zero, List.getElem?_cons_succ] at p0 p1 p2 p3 p4 q0 q1; go_simp; first | done | with_reducible rfl)
  simp only [Act.put, List.getElem_toArray, List.getElem_cons_zero, List.getElem_cons_succ, List.setIfInBounds_toArray, List.set_cons_zero, List.set_cons_succ]
  refine wpAnyH_ready (rs := [3]) (by kernel_rfl) (by simp) ?_
  refine AllReadyH.cons (o := _) rfl (fun K hK => ?_) AllReadyH.nil
  go_simp
  with_reducible refine (HG.out _ hHeld).mono ?_
  rintro e z1 ⟨rfl, hz1⟩
  go_simp
  refine hK.out _ _ hz1 (fun hHeld => ?_)
  clear hK K
  try simp only [Act.put, List.getElem_toArray, List.getElem_cons_zero, List.getElem_cons_succ, List.setIfInBounds_toArray, List.set_cons_zero, List.set_cons_succ]
  refine wpAnyH_take (i := 4) (v := ?_) rfl (by kernel_rfl) (by kernel_rfl) (by kernel_rfl) (fun _ _ _ h => h) (Or.inl ⟨by rfl, ?_⟩) (by assumption) ?_
  rotate_left
  focus (intro w hSw; have p0 := hSw.s.cell 0; have p1 := hSw.s.cell 1; have p2 := hSw.s.cell 2; have p3 := hSw.s.cell 3; have p4 := hSw.s.cell 4; have q0 := hSw.b.cell 0; have q1 := hSw.b.cell 1; simp only [List.getElem?_cons_zero, List.getElem?_cons_succ] at p0 p1 p2 p3 p4 q0 q1; go_simp; first | done | with_reducible rfl)
  simp only [Act.put, List.getElem_toArray, List.getElem_cons_zero, List.getElem_cons_succ, List.setIfInBounds_toArray, List.set_cons_zero, List.set_cons_succ]
  refine wpAnyH_take (i := 5) (v := ?_) rfl (by kernel_rfl) (by kernel_rfl) (by kernel_rfl) (fun _ _ _ h => h) (Or.inl ⟨by rfl, ?_⟩) (by assumption) ?_
  rotate_left
  focus (intro w hSw; have p0 := hSw.s.cell 0; have p1 := hSw.s.cell 1; have p2 := hSw.s.cell 2; have p3 := hSw.s.cell 3; have p4 := hSw.s.cell 4; have q0 := hSw.b.cell 0; have q1 := hSw.b.cell 1; simp only [List.getElem?_cons_zero, List.getElem?_cons_succ] at p0 p1 p2 p3 p4 q0 q1; go_simp; first | done | with_reducible rfl)
  simp only [Act.put, List.getElem_toArray, List.getElem_cons_zero, List.getElem_cons_succ, List.setIfInBounds_toArray, List.set_cons_zero, List.set_cons_succ]
  refine wpAnyH_take (i := 6) (v := ?_) rfl (by kernel_rfl) (by kernel_rfl) (by kernel_rfl) (fun _ _ _ h => h) (Or.inl ⟨by rfl, ?_⟩) (by assumption) ?_
  rotate_left
  focus (intro w hSw; have p0 := hSw.s.cell 0; have p1 := hSw.s.cell 1; have p2 := hSw.s.cell 2; have p3 := hSw.s.cell 3; have p4 := hSw.s.cell 4; have q0 := hSw.b.cell 0; have q1 := hSw.b.cell 1; simp only [List.getElem?_cons_zero, List.getElem?_cons_succ] at p0 p1 p2 p3 p4 q0 q1; go_simp; first | done | with_reducible rfl)
  simp only [Act.put, List.getElem_toArray, List.getElem_cons_zero, List.getElem_cons_succ, List.setIfInBounds_toArray, List.set_cons_zero, List.set_cons_succ]
  refine wpAnyH_take (i := 7) (v := ?_) rfl (by kernel_rfl) (by kernel_rfl) (by kernel_rfl) (fun _ _ _ h => h) (Or.inl ⟨by rfl, ?_⟩) (by assumption) ?_
  rotate_left
  focus (intro w hSw; have p0 := hSw.s.cell 0; have p1 := hSw.s.cell 1; have p2 := hSw.s.cell 2; have p3 := hSw.s.cell 3; have p4 := hSw.s.cell 4; have q0 := hSw.b.cell 0; have q1 := hSw.b.cell 1; simp only [List.getElem?_cons_zero, List.getElem?_cons_succ] at p0 p1 p2 p3 p4 q0 q1; go_simp; first | done | with_reducible rfl)
  simp only [Act.put, List.getElem_toArray, List.getElem_cons_zero, List.getElem_cons_succ, List.setIfInBounds_toArray, List.set_cons_zero, List.set_cons_succ]
  refine wpAnyH_take (i := 8) (v := ?_) rfl (by kernel_rfl) (by kernel_rfl) (by kernel_rfl) (fun _ _ _ h => h) (Or.inl ⟨by rfl, ?_⟩) (by assumption) ?_
  rotate_left
  focus (intro w hSw; have p0 := hSw.s.cell 0; have p1 := hSw.s.cell 1; have p2 := hSw.s.cell 2; have p3 := hSw.s.cell 3; have p4 := hSw.s.cell 4; have q0 := hSw.b.cell 0; have q1 := hSw.b.cell 1; simp only [List.getElem?_cons_zero, List.getElem?_cons_succ] at p0 p1 p2 p3 p4 q0 q1; go_simp; first | done | with_reducible rfl)
  simp only [Act.put, List.getElem_toArray, List.getElem_cons_zero, List.getElem_cons_succ, List.setIfInBounds_toArray, List.set_cons_zero, List.set_cons_succ]
  refine wpAnyH_take (i := 9) (v := ?_) rfl (by kernel_rfl) (by kernel_rfl) (by kernel_rfl) (fun _ _ _ h => h) (Or.inl ⟨by rfl, ?_⟩) (by assumption) ?_
  rotate_left
  focus (intro w hSw; have p0 := hSw.s.cell 0; have p1 := hSw.s.cell 1; have p2 := hSw.s.cell 2; have p3 := hSw.s.cell 3; have p4 := hSw.s.cell 4; have q0 := hSw.b.cell 0; have q1 := hSw.b.cell 1; simp only [List.getElem?_cons_zero, List.getElem?_cons_succ] at p0 p1 p2 p3 p4 q0 q1; go_simp; first | done | with_reducible rfl)
  simp only [Act.put, List.getElem_toArray, List.getElem_cons_zero, List.getElem_cons_succ, List.setIfInBounds_toArray, List.set_cons_zero, List.set_cons_succ]
  refine wpAnyH_take (i := 10) (v := ?_) rfl (by kernel_rfl) (by kernel_rfl) (by kernel_rfl) (fun _ _ _ h => h) (Or.inl ⟨by rfl, ?_⟩) (by assumption) ?_
  rotate_left
  focus (intro w hSw; have p0 := hSw.s.cell 0; have p1 := hSw.s.cell 1; have p2 := hSw.s.cell 2; have p3 := hSw.s.cell 3; have p4 := hSw.s.cell 4; have q0 := hSw.b.cell 0; have q1 := hSw.b.cell 1; simp only [List.getElem?_cons_zero, List.getElem?_cons_succ] at p0 p1 p2 p3 p4 q0 q1; go_simp; first | done | with_reducible rfl)
  simp only [Act.put, List.getElem_toArray, List.getElem_cons_zero, List.getElem_cons_succ, List.setIfInBounds_toArray, List.set_cons_zero, List.set_cons_succ]
  refine wpAnyH_take (i := 11) (v := undef) rfl (by kernel_rfl) (by kernel_rfl) (by kernel_rfl) (fun _ _ _ h => h) (Or.inr ⟨by rfl, rfl⟩) (by assumption) ?_
  try simp only [Act.put, List.getElem_toArray, List.getElem_cons_zero, List.getElem_cons_succ, List.setIfInBounds_toArray, List.set_cons_zero, List.set_cons_succ]
  refine wpAnyH_take (i := 12) (v := undef) rfl (by kernel_rfl) (by kernel_rfl) (by kernel_rfl) (fun _ _ _ h => h) (Or.inr ⟨by rfl, rfl⟩) (by assumption) ?_
  try simp only [Act.put, List.getElem_toArray, List.getElem_cons_zero, List.getElem_cons_succ, List.setIfInBounds_toArray, List.set_cons_zero, List.set_cons_succ]
  refine wpAnyH_take (i := 13) (v := undef) rfl (by kernel_rfl) (by kernel_rfl) (by kernel_rfl) (fun _ _ _ h => h) (Or.inr ⟨by rfl, rfl⟩) (by assumption) ?_
  try simp only [Act.put, List.getElem_toArray, List.getElem_cons_zero, List.getElem_cons_succ, List.setIfInBounds_toArray, List.set_cons_zero, List.set_cons_succ]
  refine wpAnyH_take (i := 14) (v := ?_) rfl (by kernel_rfl) (by kernel_rfl) (by kernel_rfl) (fun _ _ _ h => h) (Or.inl ⟨by rfl, ?_⟩) (by assumption) ?_
  rotate_left
  focus (intro w hSw; have p0 := hSw.s.cell 0; have p1 := hSw.s.cell 1; have p2 := hSw.s.cell 2; have p3 := hSw.s.cell 3; have p4 := hSw.s.cell 4; have q0 := hSw.b.cell 0; have q1 := hSw.b.cell 1; simp only [List.getElem?_cons_zero, List.getElem?_cons_succ] at p0 p1 p2 p3 p4 q0 q1; go_simp; first | done | with_reducible rfl)
  simp only [Act.put, List.getElem_toArray, List.getElem_cons_zero, List.getElem_cons_succ, List.setIfInBounds_toArray, List.set_cons_zero, List.set_cons_succ]
  refine wpAnyH_take (i := 15) (v := ?_) rfl (by kernel_rfl) (by kernel_rfl) (by kernel_rfl) (fun _ _ _ h => h) (Or.inl ⟨by rfl, ?_⟩) (by assumption) ?_
  rotate_left
  focus (intro w hSw; have p0 := hSw.s.cell 0; have p1 := hSw.s.cell 1; have p2 := hSw.s.cell 2; have p3 := hSw.s.cell 3; have p4 := hSw.s.cell 4; have q0 := hSw.b.cell 0; have q1 := hSw.b.cell 1; simp only [List.getElem?_cons_zero, List.getElem?_cons_succ] at p0 p1 p2 p3 p4 q0 q1; go_simp; first | done | with_reducible rfl)
  simp only [Act.put, List.getElem_toArray, List.getElem_cons_zero, List.getElem_cons_succ, List.setIfInBounds_toArray, List.set_cons_zero, List.set_cons_succ]
  refine wpAnyH_take (i := 16) (v := undef) rfl (by kernel_rfl) (by kernel_rfl) (by kernel_rfl) (fun _ _ _ h => h) (Or.inr ⟨by rfl, rfl⟩) (by assumption) ?_
  try simp only [Act.put, List.getElem_toArray, List.getElem_cons_zero, List.getElem_cons_succ, List.setIfInBounds_toArray, List.set_cons_zero, List.set_cons_succ]
  refine wpAnyH_take (i := 17) (v := undef) rfl (by kernel_rfl) (by kernel_rfl) (by kernel_rfl) (fun _ _ _ h => h) (Or.inr ⟨by rfl, rfl⟩) (by assumption) ?_
  try simp only [Act.put, List.getElem_toArray, List.getElem_cons_zero, List.getElem_cons_succ, List.setIfInBounds_toArray, List.set_cons_zero, List.set_cons_succ]
  refine wpAnyH_take (i := 18) (v := undef) rfl (by kernel_rfl) (by kernel_rfl) (by kernel_rfl) (fun _ _ _ h => h) (Or.inr ⟨by rfl, rfl⟩) (by assumption) ?_
  try simp only [Act.put, List.getElem_toArray, List.getElem_cons_zero, List.getElem_cons_succ, List.setIfInBounds_toArray, List.set_cons_zero, List.set_cons_succ]
  refine wpAnyH_take (i := 19) (v := ?_) rfl (by kernel_rfl) (by kernel_rfl) (by kernel_rfl) (fun _ _ _ h => h) (Or.inl ⟨by rfl, ?_⟩) (by assumption) ?_
  rotate_left
  focus (intro w hSw; have p0 := hSw.s.cell 0; have p1 := hSw.s.cell 1; have p2 := hSw.s.cell 2; have p3 := hSw.s.cell 3; have p4 := hSw.s.cell 4; have q0 := hSw.b.cell 0; have q1 := hSw.b.cell 1; simp only [List.getElem?_cons_zero, List.getElem?_cons_succ] at p0 p1 p2 p3 p4 q0 q1; go_simp; first | done | with_reducible rfl)
  simp only [Act.put, List.getElem_toArray, List.getElem_cons_zero, List.getElem_cons_succ, List.setIfInBounds_toArray, List.set_cons_zero, List.set_cons_succ]
  refine wpAnyH_done (by kernel_rfl) ?_ _
  go_wp2
  go_ret
  exact ⟨rfl, hHeld.below⟩

set_option maxHeartbeats 2000000 in
set_option maxRecDepth 100000 in
theorem body_3 (a1 : Option Addr) (n1 c1 : Nat) (a2 : Option Addr) (n2 c2 : Nat) (a3 : Option Addr) (n3 c3 : Nat) (a4 : Option Addr) (n4 c4 : Nat) (a5 : Option Addr) (n5 c5 : Nat) (s : Sg) (a7 : Option Addr) (n7 c7 : Nat) (lo st : Int) (a6 : Option Addr) (n6 c6 : Nat) (w : World) (hs : Sl w 2 TyR s.ps (.slice a7 n7 c7)) (hn7 : n7 ≤ 200) (h : ¬ lo < givenN s) (h2 : ¬ 401 < lo) (h3 : st < 0) :
    Calls Tryd.prog 42 #[.agg #[.slice a1 n1 c1, .slice a2 n2 c2, .slice a3 n3 c3, .slice a4 n4 c4, .slice a5 n5 c5], .agg #[.string s.name, .bool s.st, .slice a7 n7 c7, .string s.rn, .bool s.ra], .agg #[.int .i64 lo, .int .i64 st, .slice a6 n6 c6]] w fun e w' => e = .returned (.bool false) ∧ Below w.heap.size w w' := by
  have h1 : decide (lo < (givenN s : Int)) = false := decide_eq_false h
  have h21 : decide (401 < lo) = false := decide_eq_false h2
  have h31 : decide (st < 0) = true := decide_eq_true h3
  obtain ⟨W0, HW0⟩ : ∃ W0, Hid (W0 = ((w.alloc (.cells #[.slice a1 n1 c1, .slice a2 n2 c2, .slice a3 n3 c3, .slice a4 n4 c4, .slice a5 n5 c5] 41)).alloc (.cells #[.string s.name, .bool s.st, .slice a7 n7 c7, .string s.rn, .bool s.ra] 51)).alloc (.cells #[.int .i64 lo, .int .i64 st, .slice a6 n6 c6] 54)) := ⟨_, Lib.hid rfl⟩
  have HS : Hid (BdS w w.heap.size [.slice a1 n1 c1, .slice a2 n2 c2, .slice a3 n3 c3, .slice a4 n4 c4, .slice a5 n5 c5] [.string s.name, .bool s.st, .slice a7 n7 c7, .string s.rn, .bool s.ra] [.int .i64 lo, .int .i64 st, .slice a6 n6 c6] W0) := Lib.hid (by rw [HW0.out]; exact BdS.new w _ _ _)
  have HG : Hid (∀ z, BdS w w.heap.size [.slice a1 n1 c1, .slice a2 n2 c2, .slice a3 n3 c3, .slice a4 n4 c4, .slice a5 n5 c5] [.string s.name, .bool s.st, .slice a7 n7 c7, .string s.rn, .bool s.ra] [.int .i64 lo, .int .i64 st, .slice a6 n6 c6] z → Calls Tryd.prog 74 #[.agg #[.string s.name, .bool s.st, .slice a7 n7 c7, .string s.rn, .bool s.ra]] z fun e w' => e = .returned (.int .i64 (givenN s : Int)) ∧ BdS w w.heap.size [.slice a1 n1 c1, .slice a2 n2 c2, .slice a3 n3 c3, .slice a4 n4 c4, .slice a5 n5 c5] [.string s.name, .bool s.st, .slice a7 n7 c7, .string s.rn, .bool s.ra] [.int .i64 lo, .int .i64 st, .slice a6 n6 c6] w') := Lib.hid (fun z hz => (given60 s a7 n7 c7 z (tys_keep (Keeps.of_below hz.below) hs) hn7).mono fun e w' ⟨p, q⟩ => ⟨p, hz.next q⟩)
  clear hs hn7
  generalize (givenN s : Int) = G at *
  go_enter Tryd.func42, Tryd.ntmps42
  go_upto_region 1 with fail
  rw [← HW0.out]
  clear HW0
  generalize w.heap.size = P at *
  refine wp_region_held_drew (S := fun z => BdS w P [.slice a1 n1 c1, .slice a2 n2 c2, .slice a3 n3 c3, .slice a4 n4 c4, .slice a5 n5 c5] [.string s.name, .bool s.st, .slice a7 n7 c7, .string s.rn, .bool s.ra] [.int .i64 lo, .int .i64 st, .slice a6 n6 c6] z) (by kernel_rfl) ?_ (fun hHeld => ?_)
  · exact HS.out.dr
  refine wpAnyH_take (i := 0) (v := ?_) rfl (by kernel_rfl) (by kernel_rfl) (by kernel_rfl) (fun _ _ _ h => h) (Or.inl ⟨by rfl, ?_⟩) (by assumption) ?_
  rotate_left
  focus (intro w hSw; have p0 := hSw.s.cell 0; have p1 := hSw.s.cell 1; have p2 := hSw.s.cell 2; have p3 := hSw.s.cell 3; have p4 := hSw.s.cell 4; have q0 := hSw.b.cell 0; have q1 := hSw.b.cell 1; simp only [List.getElem?_cons_zero, List.getElem?_cons_succ] at p0 p1 p2 p3 p4 q0 q1; go_simp; first | done | with_reducible rfl)
  simp only [Act.put, List.getElem_toArray, List.getElem_cons_zero, List.setIfInBounds_toArray, List.set_cons_zero, List.set_cons_succ]
  refine wpAnyH_take (i := 1) (v := ?_) rfl (by kernel_rfl) (by kernel_rfl) (by kernel_rfl) (fun _ _ _ h => h) (Or.inl ⟨by rfl, ?_⟩) (by assumption) ?_
  rotate_left
  focus (intro w hSw; have p0 := hSw.s.cell 0; have p1 := hSw.s.cell 1; have p2 := hSw.s.cell 2; have p3 := hSw.s.cell 3; have p4 := hSw.s.cell 4; have q0 := hSw.b.cell 0; have q1 := hSw.b.cell 1; simp only [List.getElem?_cons_zero, List.getElem?_cons_succ] at p0 p1 p2 p3 p4 q0 q1; go_simp; first | done | with_reducible rfl)
  simp only [Act.put, List.getElem_toArray, List.getElem_cons_zero, List.getElem_cons_succ, List.setIfInBounds_toArray, List.set_cons_zero, List.set_cons_succ]
  refine wpAnyH_take (i := 2) (v := ?_) rfl (by kernel_rfl) (by kernel_rfl) (by kernel_rfl) (fun _ _ _ h => h) (Or.inl ⟨by rfl, ?_⟩) (by assumption) ?_
  rotate_left
  focus (intro w hSw; have p0 := hSw.s.cell 0; have p1 := hSw.s.cell 1; have p2 := hSw.s.cell 2; have p3 := hSw.s.cell 3; have p4 := hSw.s.cell 4; have q0 := hSw.b.cell 0; have q1 := hSw.b.cell 1; simp only [List.getElem?_cons_zero, List.getElem?_cons_succ] at p0 p1 p2 p3 p4 q0 q1; go_simp; first | done | with_reducible rfl)
  simp only [Act.put, List.getElem_toArray, List.getElem_cons_zero, List.getElem_cons_succ, List.setIfInBounds_toArray, List.set_cons_zero, List.set_cons_succ]
  refine wpAnyH_ready (rs := [3]) (by kernel_rfl) (by simp) ?_
  refine AllReadyH.cons (o := _) rfl (fun K hK => ?_) AllReadyH.nil
  go_simp
  with_reducible refine (HG.out _ hHeld).mono ?_
  rintro e z1 ⟨rfl, hz1⟩
  go_simp
  refine hK.out _ _ hz1 (fun hHeld => ?_)
  clear hK K
  try simp only [Act.put, List.getElem_toArray, List.getElem_cons_zero, List.getElem_cons_succ, List.setIfInBounds_toArray, List.set_cons_zero, List.set_cons_succ]
  refine wpAnyH_take (i := 4) (v := ?_) rfl (by kernel_rfl) (by kernel_rfl) (by kernel_rfl) (fun _ _ _ h => h) (Or.inl ⟨by rfl, ?_⟩) (by assumption) ?_
  rotate_left
  focus (intro w hSw; have p0 := hSw.s.cell 0; have p1 := hSw.s.cell 1; have p2 := hSw.s.cell 2; have p3 := hSw.s.cell 3; have p4 := hSw.s.cell 4; have q0 := hSw.b.cell 0; have q1 := hSw.b.cell 1; simp only [List.getElem?_cons_zero, List.getElem?_cons_succ] at p0 p1 p2 p3 p4 q0 q1; go_simp; first | done | with_reducible rfl)
  simp only [Act.put, List.getElem_toArray, List.getElem_cons_zero, List.getElem_cons_succ, List.setIfInBounds_toArray, List.set_cons_zero, List.set_cons_succ]
  refine wpAnyH_take (i := 5) (v := ?_) rfl (by kernel_rfl) (by kernel_rfl) (by kernel_rfl) (fun _ _ _ h => h) (Or.inl ⟨by rfl, ?_⟩) (by assumption) ?_
  rotate_left
  focus (intro w hSw; have p0 := hSw.s.cell 0; have p1 := hSw.s.cell 1; have p2 := hSw.s.cell 2; have p3 := hSw.s.cell 3; have p4 := hSw.s.cell 4; have q0 := hSw.b.cell 0; have q1 := hSw.b.cell 1; simp only [List.getElem?_cons_zero, List.getElem?_cons_succ] at p0 p1 p2 p3 p4 q0 q1; go_simp; first | done | with_reducible rfl)
  simp only [Act.put, List.getElem_toArray, List.getElem_cons_zero, List.getElem_cons_succ, List.setIfInBounds_toArray, List.set_cons_zero, List.set_cons_succ]
  refine wpAnyH_take (i := 6) (v := ?_) rfl (by kernel_rfl) (by kernel_rfl) (by kernel_rfl) (fun _ _ _ h => h) (Or.inl ⟨by rfl, ?_⟩) (by assumption) ?_
  rotate_left
  focus (intro w hSw; have p0 := hSw.s.cell 0; have p1 := hSw.s.cell 1; have p2 := hSw.s.cell 2; have p3 := hSw.s.cell 3; have p4 := hSw.s.cell 4; have q0 := hSw.b.cell 0; have q1 := hSw.b.cell 1; simp only [List.getElem?_cons_zero, List.getElem?_cons_succ] at p0 p1 p2 p3 p4 q0 q1; go_simp; first | done | with_reducible rfl)
  simp only [Act.put, List.getElem_toArray, List.getElem_cons_zero, List.getElem_cons_succ, List.setIfInBounds_toArray, List.set_cons_zero, List.set_cons_succ]
  refine wpAnyH_take (i := 7) (v := ?_) rfl (by kernel_rfl) (by kernel_rfl) (by kernel_rfl) (fun _ _ _ h => h) (Or.inl ⟨by rfl, ?_⟩) (by assumption) ?_
  rotate_left
  focus (intro w hSw; have p0 := hSw.s.cell 0; have p1 := hSw.s.cell 1; have p2 := hSw.s.cell 2; have p3 := hSw.s.cell 3; have p4 := hSw.s.cell 4; have q0 := hSw.b.cell 0; have q1 := hSw.b.cell 1; simp only [List.getElem?_cons_zero, List.getElem?_cons_succ] at p0 p1 p2 p3 p4 q0 q1; go_simp; first | done | with_reducible rfl)
  simp only [Act.put, List.getElem_toArray, List.getElem_cons_zero, List.getElem_cons_succ, List.setIfInBounds_toArray, List.set_cons_zero, List.set_cons_succ]
  refine wpAnyH_take (i := 8) (v := ?_) rfl (by kernel_rfl) (by kernel_rfl) (by kernel_rfl) (fun _ _ _ h => h) (Or.inl ⟨by rfl, ?_⟩) (by assumption) ?_
  rotate_left
  focus (intro w hSw; have p0 := hSw.s.cell 0; have p1 := hSw.s.cell 1; have p2 := hSw.s.cell 2; have p3 := hSw.s.cell 3; have p4 := hSw.s.cell 4; have q0 := hSw.b.cell 0; have q1 := hSw.b.cell 1; simp only [List.getElem?_cons_zero, List.getElem?_cons_succ] at p0 p1 p2 p3 p4 q0 q1; go_simp; first | done | with_reducible rfl)
  simp only [Act.put, List.getElem_toArray, List.getElem_cons_zero, List.getElem_cons_succ, List.setIfInBounds_toArray, List.set_cons_zero, List.set_cons_succ]
  refine wpAnyH_take (i := 9) (v := ?_) rfl (by kernel_rfl) (by kernel_rfl) (by kernel_rfl) (fun _ _ _ h => h) (Or.inl ⟨by rfl, ?_⟩) (by assumption) ?_
  rotate_left
  focus (intro w hSw; have p0 := hSw.s.cell 0; have p1 := hSw.s.cell 1; have p2 := hSw.s.cell 2; have p3 := hSw.s.cell 3; have p4 := hSw.s.cell 4; have q0 := hSw.b.cell 0; have q1 := hSw.b.cell 1; simp only [List.getElem?_cons_zero, List.getElem?_cons_succ] at p0 p1 p2 p3 p4 q0 q1; go_simp; first | done | with_reducible rfl)
  simp only [Act.put, List.getElem_toArray, List.getElem_cons_zero, List.getElem_cons_succ, List.setIfInBounds_toArray, List.set_cons_zero, List.set_cons_succ]
  refine wpAnyH_take (i := 10) (v := ?_) rfl (by kernel_rfl) (by kernel_rfl) (by kernel_rfl) (fun _ _ _ h => h) (Or.inl ⟨by rfl, ?_⟩) (by assumption) ?_
  rotate_left
  focus (intro w hSw; have p0 := hSw.s.cell 0; have p1 := hSw.s.cell 1; have p2 := hSw.s.cell 2; have p3 := hSw.s.cell 3; have p4 := hSw.s.cell 4; have q0 := hSw.b.cell 0; have q1 := hSw.b.cell 1; simp only [List.getElem?_cons_zero, List.getElem?_cons_succ] at p0 p1 p2 p3 p4 q0 q1; go_simp; first | done | with_reducible rfl)
  simp only [Act.put, List.getElem_toArray, List.getElem_cons_zero, List.getElem_cons_succ, List.setIfInBounds_toArray, List.set_cons_zero, List.set_cons_succ]
  refine wpAnyH_take (i := 11) (v := ?_) rfl (by kernel_rfl) (by kernel_rfl) (by kernel_rfl) (fun _ _ _ h => h) (Or.inl ⟨by rfl, ?_⟩) (by assumption) ?_
  rotate_left
  focus (intro w hSw; have p0 := hSw.s.cell 0; have p1 := hSw.s.cell 1; have p2 := hSw.s.cell 2; have p3 := hSw.s.cell 3; have p4 := hSw.s.cell 4; have q0 := hSw.b.cell 0; have q1 := hSw.b.cell 1; simp only [List.getElem?_cons_zero, List.getElem?_cons_succ] at p0 p1 p2 p3 p4 q0 q1; go_simp; first | done | with_reducible rfl)
  simp only [Act.put, List.getElem_toArray, List.getElem_cons_zero, List.getElem_cons_succ, List.setIfInBounds_toArray, List.set_cons_zero, List.set_cons_succ]
  refine wpAnyH_take (i := 12) (v := ?_) rfl (by kernel_rfl) (by kernel_rfl) (by kernel_rfl) (fun _ _ _ h => h) (Or.inl ⟨by rfl, ?_⟩) (by assumption) ?_
  rotate_left
  focus (intro w hSw; have p0 := hSw.s.cell 0; have p1 := hSw.s.cell 1; have p2 := hSw.s.cell 2; have p3 := hSw.s.cell 3; have p4 := hSw.s.cell 4; have q0 := hSw.b.cell 0; have q1 := hSw.b.cell 1; simp only [List.getElem?_cons_zero, List.getElem?_cons_succ] at p0 p1 p2 p3 p4 q0 q1; go_simp; first | done | with_reducible rfl)
  simp only [Act.put, List.getElem_toArray, List.getElem_cons_zero, List.getElem_cons_succ, List.setIfInBounds_toArray, List.set_cons_zero, List.set_cons_succ]
  refine wpAnyH_take (i := 13) (v := ?_) rfl (by kernel_rfl) (by kernel_rfl) (by kernel_rfl) (fun _ _ _ h => h) (Or.inl ⟨by rfl, ?_⟩) (by assumption) ?_
  rotate_left
  focus (intro w hSw; have p0 := hSw.s.cell 0; have p1 := hSw.s.cell 1; have p2 := hSw.s.cell 2; have p3 := hSw.s.cell 3; have p4 := hSw.s.cell 4; have q0 := hSw.b.cell 0; have q1 := hSw.b.cell 1; simp only [List.getElem?_cons_zero, List.getElem?_cons_succ] at p0 p1 p2 p3 p4 q0 q1; go_simp; first | done | with_reducible rfl)
  simp only [Act.put, List.getElem_toArray, List.getElem_cons_zero, List.getElem_cons_succ, List.setIfInBounds_toArray, List.set_cons_zero, List.set_cons_succ]
  refine wpAnyH_take (i := 14) (v := ?_) rfl (by kernel_rfl) (by kernel_rfl) (by kernel_rfl) (fun _ _ _ h => h) (Or.inl ⟨by rfl, ?_⟩) (by assumption) ?_
  rotate_left
  focus (intro w hSw; have p0 := hSw.s.cell 0; have p1 := hSw.s.cell 1; have p2 := hSw.s.cell 2; have p3 := hSw.s.cell 3; have p4 := hSw.s.cell 4; have q0 := hSw.b.cell 0; have q1 := hSw.b.cell 1; simp only [List.getElem?_cons_zero, List.getElem?_cons_succ] at p0 p1 p2 p3 p4 q0 q1; go_simp; first | done | with_reducible rfl)
  simp only [Act.put, List.getElem_toArray, List.getElem_cons_zero, List.getElem_cons_succ, List.setIfInBounds_toArray, List.set_cons_zero, List.set_cons_succ]
  refine wpAnyH_take (i := 15) (v := ?_) rfl (by kernel_rfl) (by kernel_rfl) (by kernel_rfl) (fun _ _ _ h => h) (Or.inl ⟨by rfl, ?_⟩) (by assumption) ?_
  rotate_left
  focus (intro w hSw; have p0 := hSw.s.cell 0; have p1 := hSw.s.cell 1; have p2 := hSw.s.cell 2; have p3 := hSw.s.cell 3; have p4 := hSw.s.cell 4; have q0 := hSw.b.cell 0; have q1 := hSw.b.cell 1; simp only [List.getElem?_cons_zero, List.getElem?_cons_succ] at p0 p1 p2 p3 p4 q0 q1; go_simp; first | done | with_reducible rfl)
  simp only [Act.put, List.getElem_toArray, List.getElem_cons_zero, List.getElem_cons_succ, List.setIfInBounds_toArray, List.set_cons_zero, List.set_cons_succ]
  refine wpAnyH_take (i := 16) (v := undef) rfl (by kernel_rfl) (by kernel_rfl) (by kernel_rfl) (fun _ _ _ h => h) (Or.inr ⟨by rfl, rfl⟩) (by assumption) ?_
  try simp only [Act.put, List.getElem_toArray, List.getElem_cons_zero, List.getElem_cons_succ, List.setIfInBounds_toArray, List.set_cons_zero, List.set_cons_succ]
  refine wpAnyH_take (i := 17) (v := undef) rfl (by kernel_rfl) (by kernel_rfl) (by kernel_rfl) (fun _ _ _ h => h) (Or.inr ⟨by rfl, rfl⟩) (by assumption) ?_
  try simp only [Act.put, List.getElem_toArray, List.getElem_cons_zero, List.getElem_cons_succ, List.setIfInBounds_toArray, List.set_cons_zero, List.set_cons_succ]
  refine wpAnyH_take (i := 18) (v := undef) rfl (by kernel_rfl) (by kernel_rfl) (by kernel_rfl) (fun _ _ _ h => h) (Or.inr ⟨by rfl, rfl⟩) (by assumption) ?_
  try simp only [Act.put, List.getElem_toArray, List.getElem_cons_zero, List.getElem_cons_succ, List.setIfInBounds_toArray, List.set_cons_zero, List.set_cons_succ]
  refine wpAnyH_take (i := 19) (v := ?_) rfl (by kernel_rfl) (by kernel_rfl) (by kernel_rfl) (fun _ _ _ h => h) (Or.inl ⟨by rfl, ?_⟩) (by assumption) ?_
  rotate_left
  focus (intro w hSw; have p0 := hSw.s.cell 0; have p1 := hSw.s.cell 1; have p2 := hSw.s.cell 2; have p3 := hSw.s.cell 3; have p4 := hSw.s.cell 4; have q0 := hSw.b.cell 0; have q1 := hSw.b.cell 1; simp only [List.getElem?_cons_zero, List.getElem?_cons_succ] at p0 p1 p2 p3 p4 q0 q1; go_simp; first | done | with_reducible rfl)
  simp only [Act.put, List.getElem_toArray, List.getElem_cons_zero, List.getElem_cons_succ, List.setIfInBounds_toArray, List.set_cons_zero, List.set_cons_succ]
  refine wpAnyH_done (by kernel_rfl) ?_ _
  go_wp2
  go_ret
  exact ⟨rfl, hHeld.below⟩

set_option maxHeartbeats 2000000 in
set_option maxRecDepth 100000 in
theorem body_4 (a1 : Option Addr) (n1 c1 : Nat) (a2 : Option Addr) (n2 c2 : Nat) (a3 : Option Addr) (n3 c3 : Nat) (a4 : Option Addr) (n4 c4 : Nat) (a5 : Option Addr) (n5 c5 : Nat) (s : Sg) (a7 : Option Addr) (n7 c7 : Nat) (lo st : Int) (a6 : Option Addr) (n6 c6 : Nat) (w : World) (hs : Sl w 2 TyR s.ps (.slice a7 n7 c7)) (hn7 : n7 ≤ 200) (h : ¬ lo < givenN s) (h2 : ¬ 401 < lo) (h3 : ¬ st < 0) (h4 : 1000 < st) :
    Calls Tryd.prog 42 #[.agg #[.slice a1 n1 c1, .slice a2 n2 c2, .slice a3 n3 c3, .slice a4 n4 c4, .slice a5 n5 c5], .agg #[.string s.name, .bool s.st, .slice a7 n7 c7, .string s.rn, .bool s.ra], .agg #[.int .i64 lo, .int .i64 st, .slice a6 n6 c6]] w fun e w' => e = .returned (.bool false) ∧ Below w.heap.size w w' := by
  have h1 : decide (lo < (givenN s : Int)) = false := decide_eq_false h
  have h21 : decide (401 < lo) = false := decide_eq_false h2
  have h31 : decide (st < 0) = false := decide_eq_false h3
  have h41 : decide (1000 < st) = true := decide_eq_true h4
  obtain ⟨W0, HW0⟩ : ∃ W0, Hid (W0 = ((w.alloc (.cells #[.slice a1 n1 c1, .slice a2 n2 c2, .slice a3 n3 c3, .slice a4 n4 c4, .slice a5 n5 c5] 41)).alloc (.cells #[.string s.name, .bool s.st, .slice a7 n7 c7, .string s.rn, .bool s.ra] 51)).alloc (.cells #[.int .i64 lo, .int .i64 st, .slice a6 n6 c6] 54)) := ⟨_, Lib.hid rfl⟩
  have HS : Hid (BdS w w.heap.size [.slice a1 n1 c1, .slice a2 n2 c2, .slice a3 n3 c3, .slice a4 n4 c4, .slice a5 n5 c5] [.string s.name, .bool s.st, .slice a7 n7 c7, .string s.rn, .bool s.ra] [.int .i64 lo, .int .i64 st, .slice a6 n6 c6] W0) := Lib.hid (by rw [HW0.out]; exact BdS.new w _ _ _)
  have HG : Hid (∀ z, BdS w w.heap.size [.slice a1 n1 c1, .slice a2 n2 c2, .slice a3 n3 c3, .slice a4 n4 c4, .slice a5 n5 c5] [.string s.name, .bool s.st, .slice a7 n7 c7, .string s.rn, .bool s.ra] [.int .i64 lo, .int .i64 st, .slice a6 n6 c6] z → Calls Tryd.prog 74 #[.agg #[.string s.name, .bool s.st, .slice a7 n7 c7, .string s.rn, .bool s.ra]] z fun e w' => e = .returned (.int .i64 (givenN s : Int)) ∧ BdS w w.heap.size [.slice a1 n1 c1, .slice a2 n2 c2, .slice a3 n3 c3, .slice a4 n4 c4, .slice a5 n5 c5] [.string s.name, .bool s.st, .slice a7 n7 c7, .string s.rn, .bool s.ra] [.int .i64 lo, .int .i64 st, .slice a6 n6 c6] w') := Lib.hid (fun z hz => (given60 s a7 n7 c7 z (tys_keep (Keeps.of_below hz.below) hs) hn7).mono fun e w' ⟨p, q⟩ => ⟨p, hz.next q⟩)
  clear hs hn7
  generalize (givenN s : Int) = G at *
  go_enter Tryd.func42, Tryd.ntmps42
  go_upto_region 1 with fail
  rw [← HW0.out]
  clear HW0
  generalize w.heap.size = P at *
  refine wp_region_held_drew (S := fun z => BdS w P [.slice a1 n1 c1, .slice a2 n2 c2, .slice a3 n3 c3, .slice a4 n4 c4, .slice a5 n5 c5] [.string s.name, .bool s.st, .slice a7 n7 c7, .string s.rn, .bool s.ra] [.int .i64 lo, .int .i64 st, .slice a6 n6 c6] z) (by kernel_rfl) ?_ (fun hHeld => ?_)
  · exact HS.out.dr
  refine wpAnyH_take (i := 0) (v := ?_) rfl (by kernel_rfl) (by kernel_rfl) (by kernel_rfl) (fun _ _ _ h => h) (Or.inl ⟨by rfl, ?_⟩) (by assumption) ?_
  rotate_left
  focus (intro w hSw; have p0 := hSw.s.cell 0; have p1 := hSw.s.cell 1; have p2 := hSw.s.cell 2; have p3 := hSw.s.cell 3; have p4 := hSw.s.cell 4; have q0 := hSw.b.cell 0; have q1 := hSw.b.cell 1; simp only [List.getElem?_cons_zero, List.getElem?_cons_succ] at p0 p1 p2 p3 p4 q0 q1; go_simp; first | done | with_reducible rfl)
  simp only [Act.put, List.getElem_toArray, List.getElem_cons_zero, List.setIfInBounds_toArray, List.set_cons_zero, List.set_cons_succ]
  refine wpAnyH_take (i := 1) (v := ?_) rfl (by kernel_rfl) (by kernel_rfl) (by kernel_rfl) (fun _ _ _ h => h) (Or.inl ⟨by rfl, ?_⟩) (by assumption) ?_
  rotate_left
  focus (intro w hSw; have p0 := hSw.s.cell 0; have p1 := hSw.s.cell 1; have p2 := hSw.s.cell 2; have p3 := hSw.s.cell 3; have p4 := hSw.s.cell 4; have q0 := hSw.b.cell 0; have q1 := hSw.b.cell 1; simp only [List.getElem?_cons_zero, List.getElem?_cons_succ] at p0 p1 p2 p3 p4 q0 q1; go_simp; first | done | with_reducible rfl)
  simp only [Act.put, List.getElem_toArray, List.getElem_cons_zero, List.getElem_cons_succ, List.setIfInBounds_toArray, List.set_cons_zero, List.set_cons_succ]
  refine wpAnyH_take (i := 2) (v := ?_) rfl (by kernel_rfl) (by kernel_rfl) (by kernel_rfl) (fun _ _ _ h => h) (Or.inl ⟨by rfl, ?_⟩) (by assumption) ?_
  rotate_left
  focus (intro w hSw; have p0 := hSw.s.cell 0; have p1 := hSw.s.cell 1; have p2 := hSw.s.cell 2; have p3 := hSw.s.cell 3; have p4 := hSw.s.cell 4; have q0 := hSw.b.cell 0; have q1 := hSw.b.cell 1; simp only [List.getElem?_cons_zero, List.getElem?_cons_succ] at p0 p1 p2 p3 p4 q0 q1; go_simp; first | done | with_reducible rfl)
  simp only [Act.put, List.getElem_toArray, List.getElem_cons_zero, List.getElem_cons_succ, List.setIfInBounds_toArray, List.set_cons_zero, List.set_cons_succ]
  refine wpAnyH_ready (rs := [3]) (by kernel_rfl) (by simp) ?_
  refine AllReadyH.cons (o := _) rfl (fun K hK => ?_) AllReadyH.nil
  go_simp
  with_reducible refine (HG.out _ hHeld).mono ?_
  rintro e z1 ⟨rfl, hz1⟩
  go_simp
  refine hK.out _ _ hz1 (fun hHeld => ?_)
  clear hK K
  try simp only [Act.put, List.getElem_toArray, List.getElem_cons_zero, List.getElem_cons_succ, List.setIfInBounds_toArray, List.set_cons_zero, List.set_cons_succ]
  refine wpAnyH_take (i := 4) (v := ?_) rfl (by kernel_rfl) (by kernel_rfl) (by kernel_rfl) (fun _ _ _ h => h) (Or.inl ⟨by rfl, ?_⟩) (by assumption) ?_
  rotate_left
  focus (intro w hSw; have p0 := hSw.s.cell 0; have p1 := hSw.s.cell 1; have p2 := hSw.s.cell 2; have p3 := hSw.s.cell 3; have p4 := hSw.s.cell 4; have q0 := hSw.b.cell 0; have q1 := hSw.b.cell 1; simp only [List.getElem?_cons_zero, List.getElem?_cons_succ] at p0 p1 p2 p3 p4 q0 q1; go_simp; first | done | with_reducible rfl)
  simp only [Act.put, List.getElem_toArray, List.getElem_cons_zero, List.getElem_cons_succ, List.setIfInBounds_toArray, List.set_cons_zero, List.set_cons_succ]
  refine wpAnyH_take (i := 5) (v := ?_) rfl (by kernel_rfl) (by kernel_rfl) (by kernel_rfl) (fun _ _ _ h => h) (Or.inl ⟨by rfl, ?_⟩) (by assumption) ?_
  rotate_left
  focus (intro w hSw; have p0 := hSw.s.cell 0; have p1 := hSw.s.cell 1; have p2 := hSw.s.cell 2; have p3 := hSw.s.cell 3; have p4 := hSw.s.cell 4; have q0 := hSw.b.cell 0; have q1 := hSw.b.cell 1; simp only [List.getElem?_cons_zero, List.getElem?_cons_succ] at p0 p1 p2 p3 p4 q0 q1; go_simp; first | done | with_reducible rfl)
  simp only [Act.put, List.getElem_toArray, List.getElem_cons_zero, List.getElem_cons_succ, List.setIfInBounds_toArray, List.set_cons_zero, List.set_cons_succ]
  refine wpAnyH_take (i := 6) (v := ?_) rfl (by kernel_rfl) (by kernel_rfl) (by kernel_rfl) (fun _ _ _ h => h) (Or.inl ⟨by rfl, ?_⟩) (by assumption) ?_
  rotate_left
  focus (intro w hSw; have p0 := hSw.s.cell 0; have p1 := hSw.s.cell 1; have p2 := hSw.s.cell 2; have p3 := hSw.s.cell 3; have p4 := hSw.s.cell 4; have q0 := hSw.b.cell 0; have q1 := hSw.b.cell 1; simp only [List.getElem?_cons_zero, List.getElem?_cons_succ] at p0 p1 p2 p3 p4 q0 q1; go_simp; first | done | with_reducible rfl)
  simp only [Act.put, List.getElem_toArray, List.getElem_cons_zero, List.getElem_cons_succ, List.setIfInBounds_toArray, List.set_cons_zero, List.set_cons_succ]
  refine wpAnyH_take (i := 7) (v := ?_) rfl (by kernel_rfl) (by kernel_rfl) (by kernel_rfl) (fun _ _ _ h => h) (Or.inl ⟨by rfl, ?_⟩) (by assumption) ?_
  rotate_left
  focus (intro w hSw; have p0 := hSw.s.cell 0; have p1 := hSw.s.cell 1; have p2 := hSw.s.cell 2; have p3 := hSw.s.cell 3; have p4 := hSw.s.cell 4; have q0 := hSw.b.cell 0; have q1 := hSw.b.cell 1; simp only [List.getElem?_cons_zero, List.getElem?_cons_succ] at p0 p1 p2 p3 p4 q0 q1; go_simp; first | done | with_reducible rfl)
  simp only [Act.put, List.getElem_toArray, List.getElem_cons_zero, List.getElem_cons_succ, List.setIfInBounds_toArray, List.set_cons_zero, List.set_cons_succ]
  refine wpAnyH_take (i := 8) (v := ?_) rfl (by kernel_rfl) (by kernel_rfl) (by kernel_rfl) (fun _ _ _ h => h) (Or.inl ⟨by rfl, ?_⟩) (by assumption) ?_
  rotate_left
  focus (intro w hSw; have p0 := hSw.s.cell 0; have p1 := hSw.s.cell 1; have p2 := hSw.s.cell 2; have p3 := hSw.s.cell 3; have p4 := hSw.s.cell 4; have q0 := hSw.b.cell 0; have q1 := hSw.b.cell 1; simp only [List.getElem?_cons_zero, List.getElem?_cons_succ] at p0 p1 p2 p3 p4 q0 q1; go_simp; first | done | with_reducible rfl)
  simp only [Act.put, List.getElem_toArray, List.getElem_cons_zero, List.getElem_cons_succ, List.setIfInBounds_toArray, List.set_cons_zero, List.set_cons_succ]
  refine wpAnyH_take (i := 9) (v := ?_) rfl (by kernel_rfl) (by kernel_rfl) (by kernel_rfl) (fun _ _ _ h => h) (Or.inl ⟨by rfl, ?_⟩) (by assumption) ?_
  rotate_left
  focus (intro w hSw; have p0 := hSw.s.cell 0; have p1 := hSw.s.cell 1; have p2 := hSw.s.cell 2; have p3 := hSw.s.cell 3; have p4 := hSw.s.cell 4; have q0 := hSw.b.cell 0; have q1 := hSw.b.cell 1; simp only [List.getElem?_cons_zero, List.getElem?_cons_succ] at p0 p1 p2 p3 p4 q0 q1; go_simp; first | done | with_reducible rfl)
  simp only [Act.put, List.getElem_toArray, List.getElem_cons_zero, List.getElem_cons_succ, List.setIfInBounds_toArray, List.set_cons_zero, List.set_cons_succ]
  refine wpAnyH_take (i := 10) (v := ?_) rfl (by kernel_rfl) (by kernel_rfl) (by kernel_rfl) (fun _ _ _ h => h) (Or.inl ⟨by rfl, ?_⟩) (by assumption) ?_
  rotate_left
  focus (intro w hSw; have p0 := hSw.s.cell 0; have p1 := hSw.s.cell 1; have p2 := hSw.s.cell 2; have p3 := hSw.s.cell 3; have p4 := hSw.s.cell 4; have q0 := hSw.b.cell 0; have q1 := hSw.b.cell 1; simp only [List.getElem?_cons_zero, List.getElem?_cons_succ] at p0 p1 p2 p3 p4 q0 q1; go_simp; first | done | with_reducible rfl)
  simp only [Act.put, List.getElem_toArray, List.getElem_cons_zero, List.getElem_cons_succ, List.setIfInBounds_toArray, List.set_cons_zero, List.set_cons_succ]
  refine wpAnyH_take (i := 11) (v := ?_) rfl (by kernel_rfl) (by kernel_rfl) (by kernel_rfl) (fun _ _ _ h => h) (Or.inl ⟨by rfl, ?_⟩) (by assumption) ?_
  rotate_left
  focus (intro w hSw; have p0 := hSw.s.cell 0; have p1 := hSw.s.cell 1; have p2 := hSw.s.cell 2; have p3 := hSw.s.cell 3; have p4 := hSw.s.cell 4; have q0 := hSw.b.cell 0; have q1 := hSw.b.cell 1; simp only [List.getElem?_cons_zero, List.getElem?_cons_succ] at p0 p1 p2 p3 p4 q0 q1; go_simp; first | done | with_reducible rfl)
  simp only [Act.put, List.getElem_toArray, List.getElem_cons_zero, List.getElem_cons_succ, List.setIfInBounds_toArray, List.set_cons_zero, List.set_cons_succ]
  refine wpAnyH_take (i := 12) (v := ?_) rfl (by kernel_rfl) (by kernel_rfl) (by kernel_rfl) (fun _ _ _ h => h) (Or.inl ⟨by rfl, ?_⟩) (by assumption) ?_
  rotate_left
  focus (intro w hSw; have p0 := hSw.s.cell 0; have p1 := hSw.s.cell 1; have p2 := hSw.s.cell 2; have p3 := hSw.s.cell 3; have p4 := hSw.s.cell 4; have q0 := hSw.b.cell 0; have q1 := hSw.b.cell 1; simp only [List.getElem?_cons_zero, List.getElem?_cons_succ] at p0 p1 p2 p3 p4 q0 q1; go_simp; first | done | with_reducible rfl)
  simp only [Act.put, List.getElem_toArray, List.getElem_cons_zero, List.getElem_cons_succ, List.setIfInBounds_toArray, List.set_cons_zero, List.set_cons_succ]
  refine wpAnyH_take (i := 13) (v := ?_) rfl (by kernel_rfl) (by kernel_rfl) (by kernel_rfl) (fun _ _ _ h => h) (Or.inl ⟨by rfl, ?_⟩) (by assumption) ?_
  rotate_left
  focus (intro w hSw; have p0 := hSw.s.cell 0; have p1 := hSw.s.cell 1; have p2 := hSw.s.cell 2; have p3 := hSw.s.cell 3; have p4 := hSw.s.cell 4; have q0 := hSw.b.cell 0; have q1 := hSw.b.cell 1; simp only [List.getElem?_cons_zero, List.getElem?_cons_succ] at p0 p1 p2 p3 p4 q0 q1; go_simp; first | done | with_reducible rfl)
  simp only [Act.put, List.getElem_toArray, List.getElem_cons_zero, List.getElem_cons_succ, List.setIfInBounds_toArray, List.set_cons_zero, List.set_cons_succ]
  refine wpAnyH_take (i := 14) (v := ?_) rfl (by kernel_rfl) (by kernel_rfl) (by kernel_rfl) (fun _ _ _ h => h) (Or.inl ⟨by rfl, ?_⟩) (by assumption) ?_
  rotate_left
  focus (intro w hSw; have p0 := hSw.s.cell 0; have p1 := hSw.s.cell 1; have p2 := hSw.s.cell 2; have p3 := hSw.s.cell 3; have p4 := hSw.s.cell 4; have q0 := hSw.b.cell 0; have q1 := hSw.b.cell 1; simp only [List.getElem?_cons_zero, List.getElem?_cons_succ] at p0 p1 p2 p3 p4 q0 q1; go_simp; first | done | with_reducible rfl)
  simp only [Act.put, List.getElem_toArray, List.getElem_cons_zero, List.getElem_cons_succ, List.setIfInBounds_toArray, List.set_cons_zero, List.set_cons_succ]
  refine wpAnyH_take (i := 15) (v := ?_) rfl (by kernel_rfl) (by kernel_rfl) (by kernel_rfl) (fun _ _ _ h => h) (Or.inl ⟨by rfl, ?_⟩) (by assumption) ?_
  rotate_left
  focus (intro w hSw; have p0 := hSw.s.cell 0; have p1 := hSw.s.cell 1; have p2 := hSw.s.cell 2; have p3 := hSw.s.cell 3; have p4 := hSw.s.cell 4; have q0 := hSw.b.cell 0; have q1 := hSw.b.cell 1; simp only [List.getElem?_cons_zero, List.getElem?_cons_succ] at p0 p1 p2 p3 p4 q0 q1; go_simp; first | done | with_reducible rfl)
  simp only [Act.put, List.getElem_toArray, List.getElem_cons_zero, List.getElem_cons_succ, List.setIfInBounds_toArray, List.set_cons_zero, List.set_cons_succ]
  refine wpAnyH_take (i := 16) (v := ?_) rfl (by kernel_rfl) (by kernel_rfl) (by kernel_rfl) (fun _ _ _ h => h) (Or.inl ⟨by rfl, ?_⟩) (by assumption) ?_
  rotate_left
  focus (intro w hSw; have p0 := hSw.s.cell 0; have p1 := hSw.s.cell 1; have p2 := hSw.s.cell 2; have p3 := hSw.s.cell 3; have p4 := hSw.s.cell 4; have q0 := hSw.b.cell 0; have q1 := hSw.b.cell 1; simp only [List.getElem?_cons_zero, List.getElem?_cons_succ] at p0 p1 p2 p3 p4 q0 q1; go_simp; first | done | with_reducible rfl)
  simp only [Act.put, List.getElem_toArray, List.getElem_cons_zero, List.getElem_cons_succ, List.setIfInBounds_toArray, List.set_cons_zero, List.set_cons_succ]
  refine wpAnyH_take (i := 17) (v := ?_) rfl (by kernel_rfl) (by kernel_rfl) (by kernel_rfl) (fun _ _ _ h => h) (Or.inl ⟨by rfl, ?_⟩) (by assumption) ?_
  rotate_left
  focus (intro w hSw; have p0 := hSw.s.cell 0; have p1 := hSw.s.cell 1; have p2 := hSw.s.cell 2; have p3 := hSw.s.cell 3; have p4 := hSw.s.cell 4; have q0 := hSw.b.cell 0; have q1 := hSw.b.cell 1; simp only [List.getElem?_cons_zero, List.getElem?_cons_succ] at p0 p1 p2 p3 p4 q0 q1; go_simp; first | done | with_reducible rfl)
  simp only [Act.put, List.getElem_toArray, List.getElem_cons_zero, List.getElem_cons_succ, List.setIfInBounds_toArray, List.set_cons_zero, List.set_cons_succ]
  refine wpAnyH_take (i := 18) (v := ?_) rfl (by kernel_rfl) (by kernel_rfl) (by kernel_rfl) (fun _ _ _ h => h) (Or.inl ⟨by rfl, ?_⟩) (by assumption) ?_
  rotate_left
  focus (intro w hSw; have p0 := hSw.s.cell 0; have p1 := hSw.s.cell 1; have p2 := hSw.s.cell 2; have p3 := hSw.s.cell 3; have p4 := hSw.s.cell 4; have q0 := hSw.b.cell 0; have q1 := hSw.b.cell 1; simp only [List.getElem?_cons_zero, List.getElem?_cons_succ] at p0 p1 p2 p3 p4 q0 q1; go_simp; first | done | with_reducible rfl)
  simp only [Act.put, List.getElem_toArray, List.getElem_cons_zero, List.getElem_cons_succ, List.setIfInBounds_toArray, List.set_cons_zero, List.set_cons_succ]
  refine wpAnyH_take (i := 19) (v := ?_) rfl (by kernel_rfl) (by kernel_rfl) (by kernel_rfl) (fun _ _ _ h => h) (Or.inl ⟨by rfl, ?_⟩) (by assumption) ?_
  rotate_left
  focus (intro w hSw; have p0 := hSw.s.cell 0; have p1 := hSw.s.cell 1; have p2 := hSw.s.cell 2; have p3 := hSw.s.cell 3; have p4 := hSw.s.cell 4; have q0 := hSw.b.cell 0; have q1 := hSw.b.cell 1; simp only [List.getElem?_cons_zero, List.getElem?_cons_succ] at p0 p1 p2 p3 p4 q0 q1; go_simp; first | done | with_reducible rfl)
  simp only [Act.put, List.getElem_toArray, List.getElem_cons_zero, List.getElem_cons_succ, List.setIfInBounds_toArray, List.set_cons_zero, List.set_cons_succ]
  refine wpAnyH_done (by kernel_rfl) ?_ _
  go_wp2
  go_ret
  exact ⟨rfl, hHeld.below⟩

/-- right instructions, from one to the most that may be -/
def CodeP (n1 n2 n3 n4 n5 : Nat) (lo : Int) (n6 : Nat) (co : List (Int × Int)) : Prop := 1 ≤ co.length ∧ co.length ≤ 16384 ∧ ∀ x ∈ co, rightB (kd x.1) x.2 (manyN n1 n2 n3 n4 n5 lo n6 (poolN (kd x.1))) = true

set_option maxHeartbeats 2000000 in
set_option maxRecDepth 100000 in
theorem body_5 (a1 : Option Addr) (n1 c1 : Nat) (a2 : Option Addr) (n2 c2 : Nat) (a3 : Option Addr) (n3 c3 : Nat) (a4 : Option Addr) (n4 c4 : Nat) (a5 : Option Addr) (n5 c5 : Nat) (s : Sg) (a7 : Option Addr) (n7 c7 : Nat) (lo st : Int) (a6 : Option Addr) (n6 c6 : Nat) (w : World) (hs : Sl w 2 TyR s.ps (.slice a7 n7 c7)) (hn7 : n7 ≤ 200) (h : ¬ lo < givenN s) (h2 : ¬ 401 < lo) (h3 : ¬ st < 0) (h4 : ¬ 1000 < st) (hT : TabR w) (co : List (Int × Int)) (hco : Sl w 2 InR co (.slice a6 n6 c6)) :
    Calls Tryd.prog 42 #[.agg #[.slice a1 n1 c1, .slice a2 n2 c2, .slice a3 n3 c3, .slice a4 n4 c4, .slice a5 n5 c5], .agg #[.string s.name, .bool s.st, .slice a7 n7 c7, .string s.rn, .bool s.ra], .agg #[.int .i64 lo, .int .i64 st, .slice a6 n6 c6]] w (IffP (CodeP n1 n2 n3 n4 n5 lo n6 co) w) := by
  obtain ⟨e1, l1, k1, hk1⟩ := hco.at
  unfold maxLen at k1
  have E1 := Lib.hid e1
  have HK1 := Lib.hid hk1
  have HT := Lib.hid hT
  clear e1 hk1 hco hT
  have HSZ : Hid (∀ z, Below w.heap.size w z → Below w.heap.size w z) := Lib.hid (fun _ h => h)
  have h1 : decide (lo < (givenN s : Int)) = false := decide_eq_false h
  have h21 : decide (401 < lo) = false := decide_eq_false h2
  have h31 : decide (st < 0) = false := decide_eq_false h3
  have h41 : decide (1000 < st) = false := decide_eq_false h4
  obtain ⟨W0, HW0⟩ : ∃ W0, Hid (W0 = ((w.alloc (.cells #[.slice a1 n1 c1, .slice a2 n2 c2, .slice a3 n3 c3, .slice a4 n4 c4, .slice a5 n5 c5] 41)).alloc (.cells #[.string s.name, .bool s.st, .slice a7 n7 c7, .string s.rn, .bool s.ra] 51)).alloc (.cells #[.int .i64 lo, .int .i64 st, .slice a6 n6 c6] 54)) := ⟨_, Lib.hid rfl⟩
  have HS : Hid (BdS w w.heap.size [.slice a1 n1 c1, .slice a2 n2 c2, .slice a3 n3 c3, .slice a4 n4 c4, .slice a5 n5 c5] [.string s.name, .bool s.st, .slice a7 n7 c7, .string s.rn, .bool s.ra] [.int .i64 lo, .int .i64 st, .slice a6 n6 c6] W0) := Lib.hid (by rw [HW0.out]; exact BdS.new w _ _ _)
  have HG : Hid (∀ z, BdS w w.heap.size [.slice a1 n1 c1, .slice a2 n2 c2, .slice a3 n3 c3, .slice a4 n4 c4, .slice a5 n5 c5] [.string s.name, .bool s.st, .slice a7 n7 c7, .string s.rn, .bool s.ra] [.int .i64 lo, .int .i64 st, .slice a6 n6 c6] z → Calls Tryd.prog 74 #[.agg #[.string s.name, .bool s.st, .slice a7 n7 c7, .string s.rn, .bool s.ra]] z fun e w' => e = .returned (.int .i64 (givenN s : Int)) ∧ BdS w w.heap.size [.slice a1 n1 c1, .slice a2 n2 c2, .slice a3 n3 c3, .slice a4 n4 c4, .slice a5 n5 c5] [.string s.name, .bool s.st, .slice a7 n7 c7, .string s.rn, .bool s.ra] [.int .i64 lo, .int .i64 st, .slice a6 n6 c6] w') := Lib.hid (fun z hz => (given60 s a7 n7 c7 z (tys_keep (Keeps.of_below hz.below) hs) hn7).mono fun e w' ⟨p, q⟩ => ⟨p, hz.next q⟩)
  clear hs hn7
  generalize (givenN s : Int) = G at *
  go_enter Tryd.func42, Tryd.ntmps42
  go_upto_region 1 with fail
  rw [← HW0.out]
  clear HW0
  refine wp_region_held_drew (S := fun z => BdS w w.heap.size [.slice a1 n1 c1, .slice a2 n2 c2, .slice a3 n3 c3, .slice a4 n4 c4, .slice a5 n5 c5] [.string s.name, .bool s.st, .slice a7 n7 c7, .string s.rn, .bool s.ra] [.int .i64 lo, .int .i64 st, .slice a6 n6 c6] z) (by kernel_rfl) ?_ (fun hHeld => ?_)
  · exact HS.out.dr
  refine wpAnyH_take (i := 0) (v := ?_) rfl (by kernel_rfl) (by kernel_rfl) (by kernel_rfl) (fun _ _ _ h => h) (Or.inl ⟨by rfl, ?_⟩) (by assumption) ?_
  rotate_left
  focus (intro w hSw; have p0 := hSw.s.cell 0; have p1 := hSw.s.cell 1; have p2 := hSw.s.cell 2; have p3 := hSw.s.cell 3; have p4 := hSw.s.cell 4; have q0 := hSw.b.cell 0; have q1 := hSw.b.cell 1; simp only [List.getElem?_cons_zero, List.getElem?_cons_succ] at p0 p1 p2 p3 p4 q0 q1; go_simp; first | done | with_reducible rfl)
  simp only [Act.put, List.getElem_toArray, List.getElem_cons_zero, List.setIfInBounds_toArray, List.set_cons_zero, List.set_cons_succ]
  refine wpAnyH_take (i := 1) (v := ?_) rfl (by kernel_rfl) (by kernel_rfl) (by kernel_rfl) (fun _ _ _ h => h) (Or.inl ⟨by rfl, ?_⟩) (by assumption) ?_
  rotate_left
  focus (intro w hSw; have p0 := hSw.s.cell 0; have p1 := hSw.s.cell 1; have p2 := hSw.s.cell 2; have p3 := hSw.s.cell 3; have p4 := hSw.s.cell 4; have q0 := hSw.b.cell 0; have q1 := hSw.b.cell 1; simp only [List.getElem?_cons_zero, List.getElem?_cons_succ] at p0 p1 p2 p3 p4 q0 q1; go_simp; first | done | with_reducible rfl)
  simp only [Act.put, List.getElem_toArray, List.getElem_cons_zero, List.getElem_cons_succ, List.setIfInBounds_toArray, List.set_cons_zero, List.set_cons_succ]
  refine wpAnyH_take (i := 2) (v := ?_) rfl (by kernel_rfl) (by kernel_rfl) (by kernel_rfl) (fun _ _ _ h => h) (Or.inl ⟨by rfl, ?_⟩) (by assumption) ?_
  rotate_left
  focus (intro w hSw; have p0 := hSw.s.cell 0; have p1 := hSw.s.cell 1; have p2 := hSw.s.cell 2; have p3 := hSw.s.cell 3; have p4 := hSw.s.cell 4; have q0 := hSw.b.cell 0; have q1 := hSw.b.cell 1; simp only [List.getElem?_cons_zero, List.getElem?_cons_succ] at p0 p1 p2 p3 p4 q0 q1; go_simp; first | done | with_reducible rfl)
  simp only [Act.put, List.getElem_toArray, List.getElem_cons_zero, List.getElem_cons_succ, List.setIfInBounds_toArray, List.set_cons_zero, List.set_cons_succ]
  refine wpAnyH_ready (rs := [3]) (by kernel_rfl) (by simp) ?_
  refine AllReadyH.cons (o := _) rfl (fun K hK => ?_) AllReadyH.nil
  go_simp
  with_reducible refine (HG.out _ hHeld).mono ?_
  rintro e z1 ⟨rfl, hz1⟩
  go_simp
  refine hK.out _ _ hz1 (fun hHeld => ?_)
  clear hK K
  try simp only [Act.put, List.getElem_toArray, List.getElem_cons_zero, List.getElem_cons_succ, List.setIfInBounds_toArray, List.set_cons_zero, List.set_cons_succ]
  refine wpAnyH_take (i := 4) (v := ?_) rfl (by kernel_rfl) (by kernel_rfl) (by kernel_rfl) (fun _ _ _ h => h) (Or.inl ⟨by rfl, ?_⟩) (by assumption) ?_
  rotate_left
  focus (intro w hSw; have p0 := hSw.s.cell 0; have p1 := hSw.s.cell 1; have p2 := hSw.s.cell 2; have p3 := hSw.s.cell 3; have p4 := hSw.s.cell 4; have q0 := hSw.b.cell 0; have q1 := hSw.b.cell 1; simp only [List.getElem?_cons_zero, List.getElem?_cons_succ] at p0 p1 p2 p3 p4 q0 q1; go_simp; first | done | with_reducible rfl)
  simp only [Act.put, List.getElem_toArray, List.getElem_cons_zero, List.getElem_cons_succ, List.setIfInBounds_toArray, List.set_cons_zero, List.set_cons_succ]
  refine wpAnyH_take (i := 5) (v := ?_) rfl (by kernel_rfl) (by kernel_rfl) (by kernel_rfl) (fun _ _ _ h => h) (Or.inl ⟨by rfl, ?_⟩) (by assumption) ?_
  rotate_left
  focus (intro w hSw; have p0 := hSw.s.cell 0; have p1 := hSw.s.cell 1; have p2 := hSw.s.cell 2; have p3 := hSw.s.cell 3; have p4 := hSw.s.cell 4; have q0 := hSw.b.cell 0; have q1 := hSw.b.cell 1; simp only [List.getElem?_cons_zero, List.getElem?_cons_succ] at p0 p1 p2 p3 p4 q0 q1; go_simp; first | done | with_reducible rfl)
  simp only [Act.put, List.getElem_toArray, List.getElem_cons_zero, List.getElem_cons_succ, List.setIfInBounds_toArray, List.set_cons_zero, List.set_cons_succ]
  refine wpAnyH_take (i := 6) (v := ?_) rfl (by kernel_rfl) (by kernel_rfl) (by kernel_rfl) (fun _ _ _ h => h) (Or.inl ⟨by rfl, ?_⟩) (by assumption) ?_
  rotate_left
  focus (intro w hSw; have p0 := hSw.s.cell 0; have p1 := hSw.s.cell 1; have p2 := hSw.s.cell 2; have p3 := hSw.s.cell 3; have p4 := hSw.s.cell 4; have q0 := hSw.b.cell 0; have q1 := hSw.b.cell 1; simp only [List.getElem?_cons_zero, List.getElem?_cons_succ] at p0 p1 p2 p3 p4 q0 q1; go_simp; first | done | with_reducible rfl)
  simp only [Act.put, List.getElem_toArray, List.getElem_cons_zero, List.getElem_cons_succ, List.setIfInBounds_toArray, List.set_cons_zero, List.set_cons_succ]
  refine wpAnyH_take (i := 7) (v := ?_) rfl (by kernel_rfl) (by kernel_rfl) (by kernel_rfl) (fun _ _ _ h => h) (Or.inl ⟨by rfl, ?_⟩) (by assumption) ?_
  rotate_left
  focus (intro w hSw; have p0 := hSw.s.cell 0; have p1 := hSw.s.cell 1; have p2 := hSw.s.cell 2; have p3 := hSw.s.cell 3; have p4 := hSw.s.cell 4; have q0 := hSw.b.cell 0; have q1 := hSw.b.cell 1; simp only [List.getElem?_cons_zero, List.getElem?_cons_succ] at p0 p1 p2 p3 p4 q0 q1; go_simp; first | done | with_reducible rfl)
  simp only [Act.put, List.getElem_toArray, List.getElem_cons_zero, List.getElem_cons_succ, List.setIfInBounds_toArray, List.set_cons_zero, List.set_cons_succ]
  refine wpAnyH_take (i := 8) (v := ?_) rfl (by kernel_rfl) (by kernel_rfl) (by kernel_rfl) (fun _ _ _ h => h) (Or.inl ⟨by rfl, ?_⟩) (by assumption) ?_
  rotate_left
  focus (intro w hSw; have p0 := hSw.s.cell 0; have p1 := hSw.s.cell 1; have p2 := hSw.s.cell 2; have p3 := hSw.s.cell 3; have p4 := hSw.s.cell 4; have q0 := hSw.b.cell 0; have q1 := hSw.b.cell 1; simp only [List.getElem?_cons_zero, List.getElem?_cons_succ] at p0 p1 p2 p3 p4 q0 q1; go_simp; first | done | with_reducible rfl)
  simp only [Act.put, List.getElem_toArray, List.getElem_cons_zero, List.getElem_cons_succ, List.setIfInBounds_toArray, List.set_cons_zero, List.set_cons_succ]
  refine wpAnyH_take (i := 9) (v := ?_) rfl (by kernel_rfl) (by kernel_rfl) (by kernel_rfl) (fun _ _ _ h => h) (Or.inl ⟨by rfl, ?_⟩) (by assumption) ?_
  rotate_left
  focus (intro w hSw; have p0 := hSw.s.cell 0; have p1 := hSw.s.cell 1; have p2 := hSw.s.cell 2; have p3 := hSw.s.cell 3; have p4 := hSw.s.cell 4; have q0 := hSw.b.cell 0; have q1 := hSw.b.cell 1; simp only [List.getElem?_cons_zero, List.getElem?_cons_succ] at p0 p1 p2 p3 p4 q0 q1; go_simp; first | done | with_reducible rfl)
  simp only [Act.put, List.getElem_toArray, List.getElem_cons_zero, List.getElem_cons_succ, List.setIfInBounds_toArray, List.set_cons_zero, List.set_cons_succ]
  refine wpAnyH_take (i := 10) (v := ?_) rfl (by kernel_rfl) (by kernel_rfl) (by kernel_rfl) (fun _ _ _ h => h) (Or.inl ⟨by rfl, ?_⟩) (by assumption) ?_
  rotate_left
  focus (intro w hSw; have p0 := hSw.s.cell 0; have p1 := hSw.s.cell 1; have p2 := hSw.s.cell 2; have p3 := hSw.s.cell 3; have p4 := hSw.s.cell 4; have q0 := hSw.b.cell 0; have q1 := hSw.b.cell 1; simp only [List.getElem?_cons_zero, List.getElem?_cons_succ] at p0 p1 p2 p3 p4 q0 q1; go_simp; first | done | with_reducible rfl)
  simp only [Act.put, List.getElem_toArray, List.getElem_cons_zero, List.getElem_cons_succ, List.setIfInBounds_toArray, List.set_cons_zero, List.set_cons_succ]
  refine wpAnyH_take (i := 11) (v := ?_) rfl (by kernel_rfl) (by kernel_rfl) (by kernel_rfl) (fun _ _ _ h => h) (Or.inl ⟨by rfl, ?_⟩) (by assumption) ?_
  rotate_left
  focus (intro w hSw; have p0 := hSw.s.cell 0; have p1 := hSw.s.cell 1; have p2 := hSw.s.cell 2; have p3 := hSw.s.cell 3; have p4 := hSw.s.cell 4; have q0 := hSw.b.cell 0; have q1 := hSw.b.cell 1; simp only [List.getElem?_cons_zero, List.getElem?_cons_succ] at p0 p1 p2 p3 p4 q0 q1; go_simp; first | done | with_reducible rfl)
  simp only [Act.put, List.getElem_toArray, List.getElem_cons_zero, List.getElem_cons_succ, List.setIfInBounds_toArray, List.set_cons_zero, List.set_cons_succ]
  refine wpAnyH_take (i := 12) (v := ?_) rfl (by kernel_rfl) (by kernel_rfl) (by kernel_rfl) (fun _ _ _ h => h) (Or.inl ⟨by rfl, ?_⟩) (by assumption) ?_
  rotate_left
  focus (intro w hSw; have p0 := hSw.s.cell 0; have p1 := hSw.s.cell 1; have p2 := hSw.s.cell 2; have p3 := hSw.s.cell 3; have p4 := hSw.s.cell 4; have q0 := hSw.b.cell 0; have q1 := hSw.b.cell 1; simp only [List.getElem?_cons_zero, List.getElem?_cons_succ] at p0 p1 p2 p3 p4 q0 q1; go_simp; first | done | with_reducible rfl)
  simp only [Act.put, List.getElem_toArray, List.getElem_cons_zero, List.getElem_cons_succ, List.setIfInBounds_toArray, List.set_cons_zero, List.set_cons_succ]
  refine wpAnyH_take (i := 13) (v := ?_) rfl (by kernel_rfl) (by kernel_rfl) (by kernel_rfl) (fun _ _ _ h => h) (Or.inl ⟨by rfl, ?_⟩) (by assumption) ?_
  rotate_left
  focus (intro w hSw; have p0 := hSw.s.cell 0; have p1 := hSw.s.cell 1; have p2 := hSw.s.cell 2; have p3 := hSw.s.cell 3; have p4 := hSw.s.cell 4; have q0 := hSw.b.cell 0; have q1 := hSw.b.cell 1; simp only [List.getElem?_cons_zero, List.getElem?_cons_succ] at p0 p1 p2 p3 p4 q0 q1; go_simp; first | done | with_reducible rfl)
  simp only [Act.put, List.getElem_toArray, List.getElem_cons_zero, List.getElem_cons_succ, List.setIfInBounds_toArray, List.set_cons_zero, List.set_cons_succ]
  refine wpAnyH_take (i := 14) (v := ?_) rfl (by kernel_rfl) (by kernel_rfl) (by kernel_rfl) (fun _ _ _ h => h) (Or.inl ⟨by rfl, ?_⟩) (by assumption) ?_
  rotate_left
  focus (intro w hSw; have p0 := hSw.s.cell 0; have p1 := hSw.s.cell 1; have p2 := hSw.s.cell 2; have p3 := hSw.s.cell 3; have p4 := hSw.s.cell 4; have q0 := hSw.b.cell 0; have q1 := hSw.b.cell 1; simp only [List.getElem?_cons_zero, List.getElem?_cons_succ] at p0 p1 p2 p3 p4 q0 q1; go_simp; first | done | with_reducible rfl)
  simp only [Act.put, List.getElem_toArray, List.getElem_cons_zero, List.getElem_cons_succ, List.setIfInBounds_toArray, List.set_cons_zero, List.set_cons_succ]
  refine wpAnyH_take (i := 15) (v := ?_) rfl (by kernel_rfl) (by kernel_rfl) (by kernel_rfl) (fun _ _ _ h => h) (Or.inl ⟨by rfl, ?_⟩) (by assumption) ?_
  rotate_left
  focus (intro w hSw; have p0 := hSw.s.cell 0; have p1 := hSw.s.cell 1; have p2 := hSw.s.cell 2; have p3 := hSw.s.cell 3; have p4 := hSw.s.cell 4; have q0 := hSw.b.cell 0; have q1 := hSw.b.cell 1; simp only [List.getElem?_cons_zero, List.getElem?_cons_succ] at p0 p1 p2 p3 p4 q0 q1; go_simp; first | done | with_reducible rfl)
  simp only [Act.put, List.getElem_toArray, List.getElem_cons_zero, List.getElem_cons_succ, List.setIfInBounds_toArray, List.set_cons_zero, List.set_cons_succ]
  refine wpAnyH_take (i := 16) (v := ?_) rfl (by kernel_rfl) (by kernel_rfl) (by kernel_rfl) (fun _ _ _ h => h) (Or.inl ⟨by rfl, ?_⟩) (by assumption) ?_
  rotate_left
  focus (intro w hSw; have p0 := hSw.s.cell 0; have p1 := hSw.s.cell 1; have p2 := hSw.s.cell 2; have p3 := hSw.s.cell 3; have p4 := hSw.s.cell 4; have q0 := hSw.b.cell 0; have q1 := hSw.b.cell 1; simp only [List.getElem?_cons_zero, List.getElem?_cons_succ] at p0 p1 p2 p3 p4 q0 q1; go_simp; first | done | with_reducible rfl)
  simp only [Act.put, List.getElem_toArray, List.getElem_cons_zero, List.getElem_cons_succ, List.setIfInBounds_toArray, List.set_cons_zero, List.set_cons_succ]
  refine wpAnyH_take (i := 17) (v := ?_) rfl (by kernel_rfl) (by kernel_rfl) (by kernel_rfl) (fun _ _ _ h => h) (Or.inl ⟨by rfl, ?_⟩) (by assumption) ?_
  rotate_left
  focus (intro w hSw; have p0 := hSw.s.cell 0; have p1 := hSw.s.cell 1; have p2 := hSw.s.cell 2; have p3 := hSw.s.cell 3; have p4 := hSw.s.cell 4; have q0 := hSw.b.cell 0; have q1 := hSw.b.cell 1; simp only [List.getElem?_cons_zero, List.getElem?_cons_succ] at p0 p1 p2 p3 p4 q0 q1; go_simp; first | done | with_reducible rfl)
  simp only [Act.put, List.getElem_toArray, List.getElem_cons_zero, List.getElem_cons_succ, List.setIfInBounds_toArray, List.set_cons_zero, List.set_cons_succ]
  refine wpAnyH_take (i := 18) (v := ?_) rfl (by kernel_rfl) (by kernel_rfl) (by kernel_rfl) (fun _ _ _ h => h) (Or.inl ⟨by rfl, ?_⟩) (by assumption) ?_
  rotate_left
  focus (intro w hSw; have p0 := hSw.s.cell 0; have p1 := hSw.s.cell 1; have p2 := hSw.s.cell 2; have p3 := hSw.s.cell 3; have p4 := hSw.s.cell 4; have q0 := hSw.b.cell 0; have q1 := hSw.b.cell 1; simp only [List.getElem?_cons_zero, List.getElem?_cons_succ] at p0 p1 p2 p3 p4 q0 q1; go_simp; first | done | with_reducible rfl)
  simp only [Act.put, List.getElem_toArray, List.getElem_cons_zero, List.getElem_cons_succ, List.setIfInBounds_toArray, List.set_cons_zero, List.set_cons_succ]
  refine wpAnyH_take (i := 19) (v := ?_) rfl (by kernel_rfl) (by kernel_rfl) (by kernel_rfl) (fun _ _ _ h => h) (Or.inl ⟨by rfl, ?_⟩) (by assumption) ?_
  rotate_left
  focus (intro w hSw; have p0 := hSw.s.cell 0; have p1 := hSw.s.cell 1; have p2 := hSw.s.cell 2; have p3 := hSw.s.cell 3; have p4 := hSw.s.cell 4; have q0 := hSw.b.cell 0; have q1 := hSw.b.cell 1; simp only [List.getElem?_cons_zero, List.getElem?_cons_succ] at p0 p1 p2 p3 p4 q0 q1; go_simp; first | done | with_reducible rfl)
  simp only [Act.put, List.getElem_toArray, List.getElem_cons_zero, List.getElem_cons_succ, List.setIfInBounds_toArray, List.set_cons_zero, List.set_cons_succ]
  refine wpAnyH_done (by kernel_rfl) ?_ _
  have HS1 := Lib.hid hHeld
  clear hHeld HS HG
  have q2 := HS1.out.b.cell 2
  simp only [List.getElem?_cons_zero, List.getElem?_cons_succ] at q2
  by_cases t1 : n6 < 1
  · have t1' : decide ((n6 : Int) < 1) = true := decide_eq_true (by omega)
    go_wp2
    go_ret
    exact IffP.no rfl (fun h => by have := h.1; have := E1.out; omega) HS1.out.below
  have t1' : decide ((n6 : Int) < 1) = false := decide_eq_false (by omega)
  by_cases t2 : 16384 < n6
  · have t2' : decide (16384 < (n6 : Int)) = true := decide_eq_true (by omega)
    go_wp2
    go_ret
    exact IffP.no rfl (fun h => by have := h.2.1; have := E1.out; omega) HS1.out.below
  have t2' : decide (16384 < (n6 : Int)) = false := decide_eq_false (by omega)
  go_wp2
  clear q2
  go_loopw [44] (fun i wr => ∃ k : Nat, k ≤ n6 ∧ i = .int .i64 k ∧ Hid (∀ j x, j < k → co[j]? = some x → rightB (kd x.1) x.2 (manyN n1 n2 n3 n4 n5 lo n6 (poolN (kd x.1))) = true) ∧ Hid (BdS w w.heap.size [.slice a1 n1 c1, .slice a2 n2 c2, .slice a3 n3 c3, .slice a4 n4 c4, .slice a5 n5 c5] [.string s.name, .bool s.st, .slice a7 n7 c7, .string s.rn, .bool s.ra] [.int .i64 lo, .int .i64 st, .slice a6 n6 c6] wr)) (fun i _ => n6 - (intOf i).toNat)
  case atStart => exact ⟨0, Nat.zero_le _, rfl, Lib.hid (by intro j x h; omega), HS1⟩
  case round =>
    obtain ⟨k, hk, rfl, HA, HSr⟩ := hrel
    by_cases hkl : k < n6
    · obtain ⟨x, hx⟩ : ∃ v, co[k]? = some v := ⟨_, List.getElem?_eq_getElem (by have := E1.out; omega)⟩
      obtain ⟨g, o, cs, rfl, hcell, rfl⟩ := HK1.out k x hx
      have p0 : wr.cell? ⟨g, o + k * 2, none⟩ = some (.int .i64 x.1) := (HSr.out.below.cell (World.block_lt_of_cell? _ _ (hcell 0 _ rfl))).trans (hcell 0 _ rfl)
      have p1 : wr.cell? ⟨g, o + k * 2 + 1, none⟩ = some (.int .i64 x.2) := (HSr.out.below.cell (World.block_lt_of_cell? _ _ (hcell 1 _ rfl))).trans (hcell 1 _ rfl)
      obtain ⟨r, hr⟩ : ∃ r, r = rightB (kd x.1) x.2 (manyN n1 n2 n3 n4 n5 lo n6 (poolN (kd x.1))) := ⟨_, rfl⟩
      have HC : Hid (Calls Tryd.prog 77 #[.agg #[.int .i64 x.1, .int .i64 x.2], .func (.func 75) #[] #[.pointer (some ⟨w.heap.size, 0, none⟩), .pointer (some ⟨w.heap.size + 2, 0, none⟩)]] (wr.alloc (.cells #[.int .i64 x.1, .int .i64 x.2] 95)) fun e w' => e = .returned (.bool r) ∧ BdS w w.heap.size [.slice a1 n1 c1, .slice a2 n2 c2, .slice a3 n3 c3, .slice a4 n4 c4, .slice a5 n5 c5] [.string s.name, .bool s.st, .slice a7 n7 c7, .string s.rn, .bool s.ra] [.int .i64 lo, .int .i64 st, .slice (some ⟨g, o, none⟩) n6 c6] w') := Lib.hid (by
        have hn := HSr.out.next (below1 wr (.cells #[.int .i64 x.1, .int .i64 x.2] 95))
        refine (right17_61 x.1 x.2 (manyN n1 n2 n3 n4 n5 lo n6 (poolN (kd x.1))) _ _ _ (HT.out.below hn.below) (fun y hy => ?_)).mono fun e w' ⟨p, q⟩ => ⟨by rw [p, hr], hn.next q⟩
        have hy' := hn.next hy
        exact clos61 a1 n1 c1 a2 n2 c2 a3 n3 c3 a4 n4 c4 a5 n5 c5 lo st (some ⟨g, o, none⟩) n6 c6 w.heap.size (w.heap.size + 2) _ y hy'.p hy'.b)
      have HR := Lib.hid hr
      have HX := Lib.hid hx
      clear hcell hx hr
      go_wp2_with fail
      refine HC.out.mono ?_
      rintro e w2 ⟨rfl, hs2⟩
      have HS2 := Lib.hid hs2
      clear hs2 HC p0 p1
      cases r with
      | false =>
        go_wp2
        go_ret
        exact IffP.no rfl (fun h => by have := h.2.2 x (List.mem_of_getElem? HX.out); rw [← HR.out] at this; cases this) HS2.out.below
      | true =>
        have HA2 : Hid (∀ j y, j < k + 1 → co[j]? = some y → rightB (kd y.1) y.2 (manyN n1 n2 n3 n4 n5 lo n6 (poolN (kd y.1))) = true) := Lib.hid (fun j y hj hy => by
          rcases Nat.lt_succ_iff_lt_or_eq.1 hj with hj | rfl
          · exact HA.out j y hj hy
          · rw [HX.out] at hy; cases hy; exact HR.out.symm)
        go_wp2
        go_roundw
        case rel => exact ⟨k + 1, by omega, by go_num, HA2, HS2⟩
        case measure => simp [intOf]; omega
    · have HE : Hid (CodeP n1 n2 n3 n4 n5 lo n6 co) := Lib.hid ⟨by have := E1.out; omega, by have := E1.out; omega, fun x hx => by
        obtain ⟨j, hj⟩ := List.getElem?_of_mem hx
        have hl := (List.getElem?_eq_some_iff.1 hj).1
        exact HA.out j x (by have := E1.out; omega) hj⟩
      go_wp2
      go_ret
      exact IffP.yes rfl HE.out HSr.out.below

/-- a right body -/
structure BodyP (n1 n2 n3 n4 n5 : Nat) (s : Sg) (b : Bd) : Prop where
  l1 : ¬ b.lo < givenN s
  l2 : ¬ 401 < b.lo
  s1 : ¬ b.st < 0
  s2 : ¬ 1000 < b.st
  co : CodeP n1 n2 n3 n4 n5 b.lo b.co.length b.co
theorem body28 (a1 : Option Addr) (n1 c1 : Nat) (a2 : Option Addr) (n2 c2 : Nat) (a3 : Option Addr) (n3 c3 : Nat) (a4 : Option Addr) (n4 c4 : Nat) (a5 : Option Addr) (n5 c5 : Nat) (s : Sg) (a7 : Option Addr) (n7 c7 : Nat) (b : Bd) (a6 : Option Addr) (n6 c6 : Nat) (w : World) (hs : Sl w 2 TyR s.ps (.slice a7 n7 c7)) (hn7 : n7 ≤ 200) (hT : TabR w) (hco : Sl w 2 InR b.co (.slice a6 n6 c6)) :
    Calls Tryd.prog 42 #[.agg #[.slice a1 n1 c1, .slice a2 n2 c2, .slice a3 n3 c3, .slice a4 n4 c4, .slice a5 n5 c5], .agg #[.string s.name, .bool s.st, .slice a7 n7 c7, .string s.rn, .bool s.ra], .agg #[.int .i64 b.lo, .int .i64 b.st, .slice a6 n6 c6]] w (IffP (BodyP n1 n2 n3 n4 n5 s b) w) := by
  by_cases h1 : b.lo < givenN s
  · exact (body_1 a1 n1 c1 a2 n2 c2 a3 n3 c3 a4 n4 c4 a5 n5 c5 s a7 n7 c7 b.lo b.st a6 n6 c6 w hs hn7 h1).mono fun e w' ⟨p, q⟩ => IffP.no p (fun h => h.l1 h1) q
  by_cases h2 : 401 < b.lo
  · exact (body_2 a1 n1 c1 a2 n2 c2 a3 n3 c3 a4 n4 c4 a5 n5 c5 s a7 n7 c7 b.lo b.st a6 n6 c6 w hs hn7 h1 h2).mono fun e w' ⟨p, q⟩ => IffP.no p (fun h => h.l2 h2) q
  by_cases h3 : b.st < 0
  · exact (body_3 a1 n1 c1 a2 n2 c2 a3 n3 c3 a4 n4 c4 a5 n5 c5 s a7 n7 c7 b.lo b.st a6 n6 c6 w hs hn7 h1 h2 h3).mono fun e w' ⟨p, q⟩ => IffP.no p (fun h => h.s1 h3) q
  by_cases h4 : 1000 < b.st
  · exact (body_4 a1 n1 c1 a2 n2 c2 a3 n3 c3 a4 n4 c4 a5 n5 c5 s a7 n7 c7 b.lo b.st a6 n6 c6 w hs hn7 h1 h2 h3 h4).mono fun e w' ⟨p, q⟩ => IffP.no p (fun h => h.s2 h4) q
  refine (body_5 a1 n1 c1 a2 n2 c2 a3 n3 c3 a4 n4 c4 a5 n5 c5 s a7 n7 c7 b.lo b.st a6 n6 c6 w hs hn7 h1 h2 h3 h4 hT b.co hco).mono fun e w' ⟨r, p, q, hb⟩ => ⟨r, p, q.trans ⟨fun h => ⟨h1, h2, h3, h4, by rw [← hco.at.1]; exact h⟩, fun h => by have := h.co; rwa [← hco.at.1] at this⟩, hb⟩
end Go.Proofs.YthimpjfmelmhpaaDoor.Fc
