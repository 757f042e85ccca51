/-
  DiskSwaps' files, one after the other.
-/
import Derived.Test.YtecegjdnodcamaaBits
namespace Go.Proofs.Ytecegjdnodcamaa
open Go.RowKit Go.Maps

def tT : ByteArray := ⟨#[116]⟩
theorem tAB : tA ≠ tB := by intro h; have := congrArg (fun s : ByteArray => s.data.toList) h; simp [tA, tB] at this
theorem tAT : tA ≠ tT := by intro h; have := congrArg (fun s : ByteArray => s.data.toList) h; simp [tA, tT] at this
theorem tBT : tB ≠ tT := by intro h; have := congrArg (fun s : ByteArray => s.data.toList) h; simp [tB, tT] at this

section
variable (a b : ByteArray)
def q1 : Dt := putF (.map []) tA a
def q2 : Dt := putF (q1 a) tB b
def q3 : Dt := putF (delF (q2 a b) tA) tT a
def q4 : Dt := putF (delF (q3 a b) tB) tA b
def q5 : Dt := putF (delF (q4 a b) tT) tB a
theorem g1 : Good (q1 a) := good_empty.put _ _
theorem g2 : Good (q2 a b) := (g1 a).put _ _
theorem g3 : Good (q3 a b) := ((g2 a b).del _).put _ _
theorem g4 : Good (q4 a b) := ((g3 a b).del _).put _ _
theorem g5 : Good (q5 a b) := ((g4 a b).del _).put _ _
theorem q1A : get (q1 a) tA = a ∧ hasF (q1 a) tA = true := ⟨get_put_same good_empty _ _, has_put_same' good_empty _ _⟩
theorem q1B : get (q1 a) tB = ByteArray.empty ∧ hasF (q1 a) tB = false ∧ hasF (q1 a) tT = false := by
  have h1 : hasF (q1 a) tB = false := (has_put_other' tAB.symm a).trans rfl
  exact ⟨get_of_not h1, h1, (has_put_other' tAT.symm a).trans rfl⟩
theorem q2A : get (q2 a b) tA = a ∧ hasF (q2 a b) tA = true := ⟨(get_put_other tAB b).trans (q1A a).1, (has_put_other' tAB b).trans (q1A a).2⟩
theorem q2B : get (q2 a b) tB = b ∧ hasF (q2 a b) tB = true := ⟨get_put_same (g1 a) _ _, has_put_same' (g1 a) _ _⟩
theorem q2T : hasF (q2 a b) tT = false := (has_put_other' tBT.symm b).trans (q1B a).2.2
theorem q3T : get (q3 a b) tT = a ∧ hasF (q3 a b) tT = true := ⟨get_put_same ((g2 a b).del _) _ _, has_put_same' ((g2 a b).del _) _ _⟩
theorem q3B : get (q3 a b) tB = b ∧ hasF (q3 a b) tB = true :=
  ⟨(get_put_other tBT a).trans ((get_del_other tAB.symm).trans (q2B a b).1), (has_put_other' tBT a).trans ((has_del_other' tAB.symm).trans (q2B a b).2)⟩
theorem q3A : hasF (q3 a b) tA = false := (has_put_other' tAT a).trans (has_del_same' _ _)
theorem q4A : get (q4 a b) tA = b ∧ hasF (q4 a b) tA = true := ⟨get_put_same ((g3 a b).del _) _ _, has_put_same' ((g3 a b).del _) _ _⟩
theorem q4T : get (q4 a b) tT = a ∧ hasF (q4 a b) tT = true :=
  ⟨(get_put_other tAT.symm b).trans ((get_del_other tBT.symm).trans (q3T a b).1), (has_put_other' tAT.symm b).trans ((has_del_other' tBT.symm).trans (q3T a b).2)⟩
theorem q4B : hasF (q4 a b) tB = false := (has_put_other' tAB.symm b).trans (has_del_same' _ _)
theorem q5B : get (q5 a b) tB = a ∧ hasF (q5 a b) tB = true := ⟨get_put_same ((g4 a b).del _) _ _, has_put_same' ((g4 a b).del _) _ _⟩
theorem q5A : get (q5 a b) tA = b ∧ hasF (q5 a b) tA = true :=
  ⟨(get_put_other tAB a).trans ((get_del_other tAT).trans (q4A a b).1), (has_put_other' tAB a).trans ((has_del_other' tAT).trans (q4A a b).2)⟩

theorem size_swap {D : Dt} (h : Good D) (k k' s : ByteArray) (h1 : hasF D k = true) (h2 : hasF (delF D k) k' = false) (n : Nat) (hn : Maps.size D = n) : Maps.size (putF (delF D k) k' s) = n := by
  have e1 := size_del (k := ky k) h.tidy
  have e2 := size_put (k := ky k') (h.del k).tidy (tx s)
  unfold hasF at h1 h2
  rw [h2] at e2
  rw [h1] at e1
  show Maps.size ((delF D k).put (ky k') (tx s)) = n
  rw [e2]
  unfold delF
  simp only [if_true, Bool.false_eq_true, if_false] at *
  omega
theorem s2 : Maps.size (q2 a b) = 2 := by
  have e1 := size_put (k := ky tA) good_empty.tidy (tx a)
  have e2 := size_put (k := ky tB) (g1 a).tidy (tx b)
  have h1 := (q1B a).2.1
  unfold hasF at h1
  rw [h1] at e2
  show Maps.size ((q1 a).put (ky tB) (tx b)) = 2
  rw [e2]
  show Maps.size (DataW.put (.map []) (ky tA) (tx a)) + 1 = 2
  rw [e1]
  rfl
theorem s3 : Maps.size (q3 a b) = 2 := size_swap (g2 a b) _ _ _ (q2A a b).2 ((has_del_other' tAT.symm).trans (q2T a b)) 2 (s2 a b)
theorem s4 : Maps.size (q4 a b) = 2 := size_swap (g3 a b) _ _ _ (q3B a b).2 ((has_del_other' tAB).trans (q3A a b)) 2 (s3 a b)
theorem s5 : Maps.size (q5 a b) = 2 := size_swap (g4 a b) _ _ _ (q4T a b).2 ((has_del_other' tBT).trans (q4B a b)) 2 (s4 a b)

def c1 : Chg := ⟨1, tA, tT⟩
def c2 : Chg := ⟨1, tB, tA⟩
def c3 : Chg := ⟨1, tT, tB⟩
theorem a3 : app (q2 a b) c1 = q3 a b := by simp [app, c1, (q2A a b).1, (q2A a b).2, q3]
theorem a4 : app (q3 a b) c2 = q4 a b := by simp [app, c2, (q3B a b).1, (q3B a b).2, q4]
theorem a5 : app (q4 a b) c3 = q5 a b := by simp [app, c3, (q4T a b).1, (q4T a b).2, q5]

def z0 : DS := newS 1000
def z1 : DS := ⟨1000, .map [], [⟨0, tA, a⟩], false, 0, false⟩
def z2 : DS := ⟨1000, .map [], [⟨0, tA, a⟩, ⟨0, tB, b⟩], false, 0, false⟩
def z3 : DS := ⟨1000, q2 a b, [], false, 0, false⟩
def z4 : DS := ⟨1000, q2 a b, [c1], false, 0, false⟩
def z5 : DS := ⟨1000, q2 a b, [c1, c2], false, 0, false⟩
def z6 : DS := ⟨1000, q2 a b, [c1, c2, c3], false, 0, false⟩
theorem n1 : (z1 a).now = q1 a := rfl
theorem n2 : (z2 a b).now = q2 a b := rfl
theorem n4 : (z4 a b).now = q3 a b := a3 a b
theorem n5 : (z5 a b).now = q4 a b := by show app (app (q2 a b) c1) c2 = _; rw [a3, a4]
variable {a b} (ha : a.size ≤ 100) (hb : b.size ≤ 100)
include ha in
theorem w1 : wrS z0 tA a = (0, z1 a) := by
  unfold wrS
  rw [if_neg (by simp [turnS, z0, newS]), if_neg (by decide +kernel), if_neg]
  · rfl
  · have e1 : tot z0.now = 0 := rfl
    have e2 : (z0.room : Int) = 1000 := rfl
    rw [e1, e2]
    omega
include ha hb in
theorem w2 : wrS (z1 a) tB b = (0, z2 a b) := by
  unfold wrS
  rw [if_neg (by simp [turnS, z1]), if_neg (by decide +kernel), if_neg]
  · rfl
  · rw [n1]
    have e1 : tot (q1 a) = a.size := by have := tot_put good_empty tA a; unfold q1; rw [this]; have : tot (delF (.map []) tA) = 0 := rfl; omega
    show ¬ ((1000 : Nat) : Int) - _ + _ < _
    rw [e1]
    omega
theorem w3 : syS (z2 a b) = (0, z3 a b) := by
  unfold syS
  rw [if_neg (by simp [turnS, z2])]
  rfl
theorem w4 : rnS (z3 a b) tA tT = (0, z4 a b) := by
  unfold rnS
  rw [if_neg (by simp [turnS, z3]), if_neg (by decide +kernel), if_neg]
  · rfl
  · have : hasF (z3 a b).now tA = true := (q2A a b).2
    rw [this]
    simp
theorem w5 : rnS (z4 a b) tB tA = (0, z5 a b) := by
  unfold rnS
  rw [if_neg (by simp [turnS, z4]), if_neg (by decide +kernel), if_neg]
  · rfl
  · rw [n4, (q3B a b).2]
    simp
theorem w6 : rnS (z5 a b) tT tB = (0, z6 a b) := by
  unfold rnS
  rw [if_neg (by simp [turnS, z5]), if_neg (by decide +kernel), if_neg]
  · rfl
  · rw [n5, (q4T a b).2]
    simp
end

end Go.Proofs.Ytecegjdnodcamaa
