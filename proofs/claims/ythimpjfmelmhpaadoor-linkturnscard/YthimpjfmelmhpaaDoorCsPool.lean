/-
  Whether a pool is right.
-/
import Derived.Test.YthimpjfmelmhpaaDoorCsAll
namespace Go.Proofs.YthimpjfmelmhpaaDoor.Fc
open Go.RowKit
set_option linter.unusedVariables false

/-- a right pool -/
def PoolP (f : Fl) : Prop := f.nu.length ≤ 16384 ∧ (f.cl.length ≤ 16384 ∧ ∀ x ∈ f.cl, RightP ⟨x, ⟨#[]⟩, [], []⟩) ∧ (f.ty.length ≤ 16384 ∧ ∀ x ∈ f.ty, goodB x.n = true) ∧ (f.fd.length ≤ 16384 ∧ ∀ x ∈ f.fd, RightP ⟨x.2, ⟨#[]⟩, [x.1], []⟩) ∧ (f.mt.length ≤ 16384 ∧ ∀ x ∈ f.mt, RightP ⟨x.2, ⟨#[]⟩, [], [x.1]⟩)
set_option maxHeartbeats 2000000 in
set_option maxRecDepth 100000 in
theorem pool27 (f : Fl) (a1 : Option Addr) (n1 c1 : Nat) (a2 : Option Addr) (n2 c2 : Nat) (a3 : Option Addr) (n3 c3 : Nat) (a4 : Option Addr) (n4 c4 : Nat) (a5 : Option Addr) (n5 c5 : Nat) (w : World)
    (h : PoR w f (.slice a1 n1 c1) (.slice a2 n2 c2) (.slice a3 n3 c3) (.slice a4 n4 c4) (.slice a5 n5 c5)) :
    Calls Tryd.prog 41 #[.agg #[.slice a1 n1 c1, .slice a2 n2 c2, .slice a3 n3 c3, .slice a4 n4 c4, .slice a5 n5 c5]] w (IffP (PoolP f) w) := by
  have hn1 : n1 = f.nu.length := h.nu.at.1
  have E1 := Lib.hid hn1
  have HH := Lib.hid h
  clear h hn1
  obtain ⟨W0, HW0⟩ : ∃ W0, Hid (W0 = w.alloc (.cells #[.slice a1 n1 c1, .slice a2 n2 c2, .slice a3 n3 c3, .slice a4 n4 c4, .slice a5 n5 c5] 41)) := ⟨_, Lib.hid rfl⟩
  have HB0 : Hid (Below w.heap.size w W0) := Lib.hid (by rw [HW0.out]; exact below1 w _)
  have F0 : Hid (Blk W0 w.heap.size [.slice a1 n1 c1, .slice a2 n2 c2, .slice a3 n3 c3, .slice a4 n4 c4, .slice a5 n5 c5] 41) := Lib.hid (by rw [HW0.out]; exact Blk.new w [.slice a1 n1 c1, .slice a2 n2 c2, .slice a3 n3 c3, .slice a4 n4 c4, .slice a5 n5 c5] 41)
  by_cases t1 : n1 ≤ 16384
  rotate_left
  · have t1' : ¬ ((n1 : Int) ≤ 16384) := by omega
    have p0 := F0.out.cell 0
    simp only [List.getElem?_cons_zero] at p0
    go_enter Tryd.func41, Tryd.ntmps41
    go_wp2_with fail
    go_ret
    exact IffP.no rfl (fun h => by have := h.1; have := E1.out; omega) (below1 w _)
  go_enter Tryd.func41, Tryd.ntmps41
  go_upto_region 1 with fail
  rw [← HW0.out]
  clear HW0
  have p0 := F0.out.cell 0
  have p1 := F0.out.cell 1
  simp only [List.getElem?_cons_zero, List.getElem?_cons_succ] at p0 p1
  go_wp2_with fail
  refine (all51 f.cl a2 n2 c2 W0 (strs_keep (Keeps.of_below HB0.out) HH.out.cl)).mono ?_
  rintro e w1 ⟨r1, rfl, hr1, hb1⟩
  have HB1 : Hid (Below w.heap.size w w1) := Lib.hid (HB0.out.trans (hb1.mono HB0.out.size))
  have F1 := Lib.hid (F0.out.below hb1)
  have HR1 := Lib.hid hr1
  clear hr1 hb1 p0 p1
  cases r1 with
  | false =>
    go_wp2
    go_ret
    exact IffP.no rfl (fun h => by have := HR1.out.2 h.2.1; cases this) HB1.out
  | true =>
  have q := F1.out.cell 2
  simp only [List.getElem?_cons_zero, List.getElem?_cons_succ] at q
  go_wp2_with fail
  refine (all53 f.ty a3 n3 c3 w1 (tys_keep (Keeps.of_below HB1.out) HH.out.ty)).mono ?_
  rintro e w2 ⟨r2, rfl, hr2, hb2⟩
  have HB2 : Hid (Below w.heap.size w w2) := Lib.hid (HB1.out.trans (hb2.mono HB1.out.size))
  have F2 := Lib.hid (F1.out.below hb2)
  have HR2 := Lib.hid hr2
  clear hr2 hb2 q
  cases r2 with
  | false =>
    go_wp2
    go_ret
    exact IffP.no rfl (fun h => by have := HR2.out.2 h.2.2.1; cases this) HB2.out
  | true =>
  have q := F2.out.cell 3
  simp only [List.getElem?_cons_zero, List.getElem?_cons_succ] at q
  go_wp2_with fail
  refine (all54 f.fd a4 n4 c4 w2 (fds_keep (Keeps.of_below HB2.out) HH.out.fd)).mono ?_
  rintro e w3 ⟨r3, rfl, hr3, hb3⟩
  have HB3 : Hid (Below w.heap.size w w3) := Lib.hid (HB2.out.trans (hb3.mono HB2.out.size))
  have F3 := Lib.hid (F2.out.below hb3)
  have HR3 := Lib.hid hr3
  clear hr3 hb3 q
  cases r3 with
  | false =>
    go_wp2
    go_ret
    exact IffP.no rfl (fun h => by have := HR3.out.2 h.2.2.2.1; cases this) HB3.out
  | true =>
  have q := F3.out.cell 4
  simp only [List.getElem?_cons_zero, List.getElem?_cons_succ] at q
  go_wp2_with fail
  refine (all57 f.mt a5 n5 c5 w3 (mts_keep (Keeps.of_below HB3.out) HH.out.mt)).mono ?_
  rintro e w4 ⟨r4, rfl, hr4, hb4⟩
  have HB4 : Hid (Below w.heap.size w w4) := Lib.hid (HB3.out.trans (hb4.mono HB3.out.size))
  have F4 := Lib.hid (F3.out.below hb4)
  have HR4 := Lib.hid hr4
  clear hr4 hb4 q
  cases r4 with
  | false =>
    go_wp2
    go_ret
    exact IffP.no rfl (fun h => by have := HR4.out.2 h.2.2.2.2; cases this) HB4.out
  | true =>
  go_wp2
  go_ret
  exact IffP.yes rfl ⟨by have := E1.out; omega, HR1.out.1 (by simp), HR2.out.1 (by simp), HR3.out.1 (by simp), HR4.out.1 (by simp)⟩ HB4.out
end Go.Proofs.YthimpjfmelmhpaaDoor.Fc
