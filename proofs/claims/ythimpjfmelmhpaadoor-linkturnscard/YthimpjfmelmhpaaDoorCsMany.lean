/-
  How many there are of what an instruction names.
-/
import Derived.Test.YthimpjfmelmhpaaDoorCsPool
namespace Go.Proofs.YthimpjfmelmhpaaDoor.Fc
open Go.RowKit
set_option linter.unusedVariables false

/-- how many there are of p -/
def manyN (n1 n2 n3 n4 n5 : Nat) (lo : Int) (n6 : Nat) (p : Int) : Int :=
  if p = 110 then n1 else if p = 99 then n2 else if p = 116 then n3 else if p = 102 then n4 else if p = 109 then n5 else if p = 108 then lo else if p = 106 then n6 else if p = 98 then 2 else 0
theorem many_other {n1 n2 n3 n4 n5 n6 : Nat} {lo p : Int} (h0 : ¬ p = 110) (h1 : ¬ p = 99) (h2 : ¬ p = 116) (h3 : ¬ p = 102) (h4 : ¬ p = 109) (h5 : ¬ p = 108) (h6 : ¬ p = 106) (h7 : ¬ p = 98) : manyN n1 n2 n3 n4 n5 lo n6 p = 0 := by
  unfold manyN; rw [if_neg h0, if_neg h1, if_neg h2, if_neg h3, if_neg h4, if_neg h5, if_neg h6, if_neg h7]
set_option maxHeartbeats 2000000 in
set_option maxRecDepth 100000 in
theorem many62 (a1 : Option Addr) (n1 c1 : Nat) (a2 : Option Addr) (n2 c2 : Nat) (a3 : Option Addr) (n3 c3 : Nat) (a4 : Option Addr) (n4 c4 : Nat) (a5 : Option Addr) (n5 c5 : Nat) (lo st : Int) (a6 : Option Addr) (n6 c6 : Nat) (p : Int) (w : World) :
    Calls Tryd.prog 76 #[.agg #[.slice a1 n1 c1, .slice a2 n2 c2, .slice a3 n3 c3, .slice a4 n4 c4, .slice a5 n5 c5], .agg #[.int .i64 lo, .int .i64 st, .slice a6 n6 c6], .int .i32 p] w fun e w' => e = .returned (.int .i64 (manyN n1 n2 n3 n4 n5 lo n6 p)) ∧ Below w.heap.size w w' := by
  by_cases h0 : p = 110
  · subst h0
    go_enter Tryd.func76, Tryd.ntmps76
    go_wp2
    go_ret
    exact ⟨rfl, below2 w _ _⟩
  by_cases h1 : p = 99
  · subst h1
    go_enter Tryd.func76, Tryd.ntmps76
    go_wp2
    go_ret
    exact ⟨rfl, below2 w _ _⟩
  by_cases h2 : p = 116
  · subst h2
    go_enter Tryd.func76, Tryd.ntmps76
    go_wp2
    go_ret
    exact ⟨rfl, below2 w _ _⟩
  by_cases h3 : p = 102
  · subst h3
    go_enter Tryd.func76, Tryd.ntmps76
    go_wp2
    go_ret
    exact ⟨rfl, below2 w _ _⟩
  by_cases h4 : p = 109
  · subst h4
    go_enter Tryd.func76, Tryd.ntmps76
    go_wp2
    go_ret
    exact ⟨rfl, below2 w _ _⟩
  by_cases h5 : p = 108
  · subst h5
    go_enter Tryd.func76, Tryd.ntmps76
    go_wp2
    go_ret
    exact ⟨rfl, below2 w _ _⟩
  by_cases h6 : p = 106
  · subst h6
    go_enter Tryd.func76, Tryd.ntmps76
    go_wp2
    go_ret
    exact ⟨rfl, below2 w _ _⟩
  by_cases h7 : p = 98
  · subst h7
    go_enter Tryd.func76, Tryd.ntmps76
    go_wp2
    go_ret
    exact ⟨rfl, below2 w _ _⟩
  rw [many_other h0 h1 h2 h3 h4 h5 h6 h7]
  have g0 : (p == 110) = false := by simpa using h0
  have g1 : (p == 99) = false := by simpa using h1
  have g2 : (p == 116) = false := by simpa using h2
  have g3 : (p == 102) = false := by simpa using h3
  have g4 : (p == 109) = false := by simpa using h4
  have g5 : (p == 108) = false := by simpa using h5
  have g6 : (p == 106) = false := by simpa using h6
  have g7 : (p == 98) = false := by simpa using h7
  clear h0 h1 h2 h3 h4 h5 h6 h7
  go_enter Tryd.func76, Tryd.ntmps76
  go_wp2
  go_ret
  exact ⟨rfl, below2 w _ _⟩
set_option maxHeartbeats 1000000 in
set_option maxRecDepth 100000 in
theorem clos61 (a1 : Option Addr) (n1 c1 : Nat) (a2 : Option Addr) (n2 c2 : Nat) (a3 : Option Addr) (n3 c3 : Nat) (a4 : Option Addr) (n4 c4 : Nat) (a5 : Option Addr) (n5 c5 : Nat) (lo st : Int) (a6 : Option Addr) (n6 c6 : Nat) (P B : Nat) (p : Int) (w : World) (hP : Blk w P [.slice a1 n1 c1, .slice a2 n2 c2, .slice a3 n3 c3, .slice a4 n4 c4, .slice a5 n5 c5] 41) (hB : Blk w B [.int .i64 lo, .int .i64 st, .slice a6 n6 c6] 54) :
    Calls Tryd.prog 75 #[.int .i32 p, .pointer (some ⟨P, 0, none⟩), .pointer (some ⟨B, 0, none⟩)] w fun e w' => e = .returned (.int .i64 (manyN n1 n2 n3 n4 n5 lo n6 p)) ∧ Below w.heap.size w w' := by
  have p0 := hP.cell 0
  have p1 := hP.cell 1
  have p2 := hP.cell 2
  have p3 := hP.cell 3
  have p4 := hP.cell 4
  have q0 := hB.cell 0
  have q1 := hB.cell 1
  have q2 := hB.cell 2
  simp only [List.getElem?_cons_zero, List.getElem?_cons_succ] at p0 p1 p2 p3 p4 q0 q1 q2
  have HM := Lib.hid (many62 a1 n1 c1 a2 n2 c2 a3 n3 c3 a4 n4 c4 a5 n5 c5 lo st a6 n6 c6 p)
  clear hP hB
  go_enter Tryd.func75, Tryd.ntmps75
  go_wp2_with fail
  refine (HM.out _).mono ?_
  rintro e w1 ⟨rfl, hb⟩
  have HB := Lib.hid hb
  clear hb
  go_wp2
  go_ret
  exact ⟨rfl, HB.out⟩
/-- how many locals a method has at its beginning -/
def givenN (s : Sg) : Nat := if s.st then s.ps.length else s.ps.length + 1
theorem given60 (s : Sg) (a : Option Addr) (n c : Nat) (w : World) (h : Sl w 2 TyR s.ps (.slice a n c)) (hn : n ≤ 200) :
    Calls Tryd.prog 74 #[.agg #[.string s.name, .bool s.st, .slice a n c, .string s.rn, .bool s.ra]] w fun e w' => e = .returned (.int .i64 (givenN s : Int)) ∧ Below w.heap.size w w' := by
  obtain ⟨e1, l1, k1, _⟩ := h.at
  unfold maxLen at k1
  have E1 := Lib.hid e1
  clear e1 h
  obtain ⟨nm, st, ps, rn, ra⟩ := s
  cases st with
  | true =>
    go_enter Tryd.func74, Tryd.ntmps74
    go_wp2
    go_ret
    exact ⟨by rw [E1.out]; rfl, below1 w _⟩
  | false =>
    have HG : Hid (((givenN ⟨nm, false, ps, rn, ra⟩ : Nat) : Int) = (n : Int) + 1) := Lib.hid (by have := E1.out; unfold givenN; simp at this ⊢; omega)
    rw [HG.out]
    go_enter Tryd.func74, Tryd.ntmps74
    go_wp2
    go_ret
    exact ⟨rfl, below1 w _⟩
end Go.Proofs.YthimpjfmelmhpaaDoor.Fc
