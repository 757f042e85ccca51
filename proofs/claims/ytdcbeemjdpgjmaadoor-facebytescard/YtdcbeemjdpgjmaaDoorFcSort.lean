/-
  Sorting: slices.SortStableFunc of a few members, by their names.
-/
import Derived.Test.YtdcbeemjdpgjmaaDoorFcClone
import Derived.Shelf.SlSortCmp.InsertionK
import Derived.Sort.Walk0
namespace Go.Proofs
open Go.Shelf
def Tryd.insV_ren : Go.Shelf.Ren := ⟨fun | 20 => 80 | n => n, fun | 22 => 22 | 24 => 58 | 25 => 104 | n => n, fun | n => n⟩
theorem Tryd.insV : Go.Proofs.SlLaysF0.n20 Tryd.prog Tryd.insV_ren := {
  mixed := by kernel_rfl
  f20 := ⟨Tryd.f80.name, by decide, Tryd.func80.trans (congrArg some (by kernel_rfl))⟩
  t0 := Tryd.underlying0
  a0 := Tryd.isAgg0
  z0 := Tryd.sizeOf0
  v0 := Tryd.zeroValue0
  t3 := Tryd.underlying3
  a3 := Tryd.isAgg3
  z3 := Tryd.sizeOf3
  v3 := Tryd.zeroValue3
  t4 := Tryd.underlying4
  a4 := Tryd.isAgg4
  z4 := Tryd.sizeOf4
  v4 := Tryd.zeroValue4
  t22 := Tryd.underlying22
  a22 := Tryd.isAgg22
  z22 := Tryd.sizeOf22
  v22 := Tryd.zeroValue22
  t25 := Tryd.underlying104
  a25 := Tryd.isAgg104
  z25 := Tryd.sizeOf104
  v25 := Tryd.zeroValue104 }
def Tryd.insS_ren : Go.Shelf.Ren := ⟨fun | 20 => 82 | n => n, fun | 22 => 23 | 24 => 68 | 25 => 106 | n => n, fun | n => n⟩
theorem Tryd.insS : Go.Proofs.SlLaysF0.n20 Tryd.prog Tryd.insS_ren := {
  mixed := by kernel_rfl
  f20 := ⟨Tryd.f82.name, by decide, Tryd.func82.trans (congrArg some (by kernel_rfl))⟩
  t0 := Tryd.underlying0
  a0 := Tryd.isAgg0
  z0 := Tryd.sizeOf0
  v0 := Tryd.zeroValue0
  t3 := Tryd.underlying3
  a3 := Tryd.isAgg3
  z3 := Tryd.sizeOf3
  v3 := Tryd.zeroValue3
  t4 := Tryd.underlying4
  a4 := Tryd.isAgg4
  z4 := Tryd.sizeOf4
  v4 := Tryd.zeroValue4
  t22 := Tryd.underlying23
  a22 := Tryd.isAgg23
  z22 := Tryd.sizeOf23
  v22 := Tryd.zeroValue23
  t25 := Tryd.underlying106
  a25 := Tryd.isAgg106
  z25 := Tryd.sizeOf106
  v25 := Tryd.zeroValue106 }
namespace YtdcbeemjdpgjmaaDoor.Fc
open Go.RowKit Go.Lib Go.Sort
set_option linter.unusedVariables false

theorem nan75 (s : ByteArray) (w : World) : Calls Tryd.prog 75 #[.string s] w fun e w' => e = .returned (.bool false) ∧ w = w' := by
  have h : (s.toList == s.toList) = true := by simp
  go_enter Tryd.func75, Tryd.ntmps75
  go_wp2
  go_ret
  exact ⟨by first | rfl | simp, rfl⟩
/-- which of two names comes first -/
def ltS (a b : ByteArray) : Bool := Op.bytesLess a.toList b.toList
def cmpS (a b : ByteArray) : Int := if ltS a b then -1 else if a = b then 0 else 1
theorem gtr9 (a b : ByteArray) (w : World) : (binOp .gtr 9 (.string a) (.string b)).run Tryd.prog w = .ok (.bool (!(Op.bytesLess a.toList b.toList || a.toList == b.toList))) w := by simp [binOp, Op.stringOp]
theorem geq9 (a b : ByteArray) (w : World) : (binOp .geq 9 (.string a) (.string b)).run Tryd.prog w = .ok (.bool (!(Op.bytesLess a.toList b.toList))) w := by simp [binOp, Op.stringOp]
set_option maxHeartbeats 1000000 in
theorem cmp56 (a b : ByteArray) (w : World) : Calls Tryd.prog 56 #[.string a, .string b] w fun e w' => e = .returned (.int .i64 (cmpS a b)) ∧ w = w' := by
  have HN := Lib.hid nan75
  unfold cmpS ltS
  have hg := gtr9 a b w
  cases h1 : Op.bytesLess a.toList b.toList with
  | true =>
    clear hg
    go_enter Tryd.func56, Tryd.ntmps56
    go_wp2_with (go_at_call 75; refine (HN.out _ _).mono ?_; rintro e w' ⟨rfl, rfl⟩)
    go_ret
    exact ⟨rfl, rfl⟩
  | false =>
    rw [h1] at hg
    by_cases h2 : a = b
    · rw [teq h2] at hg
      have HE : Hid ((if false = true then (-1 : Int) else if a = b then 0 else 1) = 0) := Lib.hid (by rw [if_neg (by simp), if_pos h2])
      rw [HE.out]
      simp only [Bool.or_true, Bool.not_true] at hg
      clear h2 HE
      go_enter Tryd.func56, Tryd.ntmps56
      go_wp2_with (go_at_call 75; refine (HN.out _ _).mono ?_; rintro e w' ⟨rfl, rfl⟩)
      go_ret
      exact ⟨rfl, rfl⟩
    · rw [tne h2] at hg
      have HE : Hid ((if false = true then (-1 : Int) else if a = b then 0 else 1) = 1) := Lib.hid (by rw [if_neg (by simp), if_neg h2])
      rw [HE.out]
      simp only [Bool.or_false, Bool.not_false] at hg
      clear h2 HE
      go_enter Tryd.func56, Tryd.ntmps56
      go_wp2_with (go_at_call 75; refine (HN.out _ _).mono ?_; rintro e w' ⟨rfl, rfl⟩)
      go_ret
      exact ⟨rfl, rfl⟩

def encV (x : Vr) : List Value := [.string x.name, .string x.tn, .bool x.ta]
/-- a method, and where its parameters lie -/
abbrev SgP := Sg × Option Addr × Nat × Nat
def encG (x : SgP) : List Value := [.string x.1.name, .bool x.1.st, .slice x.2.1 x.2.2.1 x.2.2.2, .string x.1.rn, .bool x.1.ra]
instance : Inhabited Ty := ⟨⟨⟨#[]⟩, false⟩⟩
instance : Inhabited Vr := ⟨⟨⟨#[]⟩, ⟨#[]⟩, false⟩⟩
instance : Inhabited Sg := ⟨⟨⟨#[]⟩, false, [], ⟨#[]⟩, false⟩⟩
def cfV (x y : Vr) : Int := cmpS x.name y.name
def cfG (x y : SgP) : Int := cmpS x.1.name y.1.name
set_option maxHeartbeats 1000000 in
theorem clos55 (x y : Vr) (W : World) : Calls Tryd.prog 55 #[.agg (encV x).toArray, .agg (encV y).toArray] W fun e w' => e = .returned (.int .i64 (cfV x y)) ∧ ∃ q os', w' = grow (W.drewN q) os' := by
  have HC := Lib.hid (cmp56 x.name y.name)
  unfold cfV encV
  generalize cmpS x.name y.name = r at *
  go_enter Tryd.func55, Tryd.ntmps55
  go_wp2_with (go_at_call 56; refine (HC.out _).mono ?_; rintro e w' ⟨rfl, rfl⟩)
  go_ret
  exact ⟨rfl, 0, _, by rw [alloc_eq_grow, alloc_eq_grow, grow_grow]; rfl⟩
set_option maxHeartbeats 1000000 in
theorem clos58 (x y : SgP) (W : World) : Calls Tryd.prog 58 #[.agg (encG x).toArray, .agg (encG y).toArray] W fun e w' => e = .returned (.int .i64 (cfG x y)) ∧ ∃ q os', w' = grow (W.drewN q) os' := by
  obtain ⟨x, a1, n1, c1⟩ := x
  obtain ⟨y, a2, n2, c2⟩ := y
  have HC := Lib.hid (cmp56 x.name y.name)
  unfold cfG encG
  dsimp only
  generalize cmpS x.name y.name = r at *
  go_enter Tryd.func58, Tryd.ntmps58
  go_wp2_with (go_at_call 56; refine (HC.out _).mono ?_; rintro e w' ⟨rfl, rfl⟩)
  go_ret
  exact ⟨rfl, 0, _, by rw [alloc_eq_grow, alloc_eq_grow, grow_grow]; rfl⟩
theorem ins80 (blk off cap : Nat) (d : Array Vr) (w : World) (hH : HoldsK encV 3 w blk off d) (hblk : blk < w.heap.size) (h12 : d.size ≤ 19) :
    Calls Tryd.prog 80 #[.slice (some ⟨blk, off, none⟩) d.size cap, .int .i64 0, .int .i64 d.size, .func (.func 55) #[] #[]] w fun e w' => e = .returned (.tuple #[]) ∧ ∃ n os, w' = sortWorldK encV 3 w blk off n (Sort.insertionSort (ltOf cfV) d 0 d.size) os :=
  AnyQ.insertionSortCmpFunc Tryd.insV 3 Tryd.isAgg58 Tryd.sizeOf58 encV (fun _ => rfl) (fun x v hv => by simp [encV] at hv; rcases hv with rfl | rfl | rfl <;> rfl) cfV 55 #[] blk off cap 0 d.size d w (enters_of Tryd.func55 (by kernel_rfl) rfl) (fun _ _ _ _ x y => clos55 x y _) hH hblk (Nat.zero_le _) (Nat.le_refl _) (by omega)
theorem ins82 (blk off cap : Nat) (d : Array SgP) (w : World) (hH : HoldsK encG 5 w blk off d) (hblk : blk < w.heap.size) (h12 : d.size ≤ 19) :
    Calls Tryd.prog 82 #[.slice (some ⟨blk, off, none⟩) d.size cap, .int .i64 0, .int .i64 d.size, .func (.func 58) #[] #[]] w fun e w' => e = .returned (.tuple #[]) ∧ ∃ n os, w' = sortWorldK encG 5 w blk off n (Sort.insertionSort (ltOf cfG) d 0 d.size) os :=
  AnyQ.insertionSortCmpFunc Tryd.insS 5 Tryd.isAgg68 Tryd.sizeOf68 encG (fun _ => rfl) (fun x v hv => by simp [encG] at hv; rcases hv with rfl | rfl | rfl | rfl | rfl <;> rfl) cfG 58 #[] blk off cap 0 d.size d w (enters_of Tryd.func58 (by kernel_rfl) rfl) (fun _ _ _ _ x y => clos58 x y _) hH hblk (Nat.zero_le _) (Nat.le_refl _) (by omega)
set_option maxHeartbeats 1000000 in
theorem ins80_nil (a : Option Addr) (cap : Nat) (w : World) : Calls Tryd.prog 80 #[.slice a 0 cap, .int .i64 0, .int .i64 0, .func (.func 55) #[] #[]] w fun e w' => e = .returned (.tuple #[]) ∧ w = w' := by
  go_enter Tryd.func80, Tryd.ntmps80
  go_wp2
  go_loopw [8] (fun i wr => i = .int .i64 1 ∧ wr = w) (fun _ _ => 0)
  case atStart => exact ⟨rfl, rfl⟩
  case round =>
    obtain ⟨rfl, rfl⟩ := hrel
    go_wp2
    go_end0
    exact ⟨rfl, rfl⟩
set_option maxHeartbeats 1000000 in
theorem stab74 (a : Option Addr) (n cap : Nat) (w : World) (hn : n ≤ 19) (Q : World → Prop) (h : Calls Tryd.prog 80 #[.slice a n cap, .int .i64 0, .int .i64 n, .func (.func 55) #[] #[]] w fun e w' => e = .returned (.tuple #[]) ∧ Q w') :
    Calls Tryd.prog 74 #[.slice a n cap, .int .i64 n, .func (.func 55) #[] #[]] w fun e w' => e = .returned (.tuple #[]) ∧ Q w' := by
  have H := Lib.hid h
  clear h
  go_enter Tryd.func74, Tryd.ntmps74
  go_wp2
  go_loopw [7, 8] (fun a b wr => a = .int .i64 0 ∧ b = .int .i64 20 ∧ wr = w) (fun _ _ _ => 0)
  case atStart => exact ⟨rfl, rfl, rfl⟩
  case round =>
    obtain ⟨rfl, rfl, rfl⟩ := hrel
    go_wp2_with (go_at_call 80; refine H.out.mono ?_; rintro e w' ⟨rfl, hq⟩)
    go_loopw [6] (fun a wr => a = .int .i64 20 ∧ wr = w') (fun _ _ => 0)
    case atStart => exact ⟨rfl, rfl⟩
    case round =>
      obtain ⟨rfl, rfl⟩ := hrel
      go_wp2
      go_end0
      exact ⟨rfl, hq⟩
set_option maxHeartbeats 1000000 in
theorem sort54 (a : Option Addr) (n cap : Nat) (w : World) (hn : n ≤ 19) (Q : World → Prop) (h : Calls Tryd.prog 80 #[.slice a n cap, .int .i64 0, .int .i64 n, .func (.func 55) #[] #[]] w fun e w' => e = .returned (.tuple #[]) ∧ Q w') :
    Calls Tryd.prog 54 #[.slice a n cap, .func (.func 55) #[] #[]] w fun e w' => e = .returned (.tuple #[]) ∧ Q w' := by
  have H := Lib.hid (stab74 a n cap w hn Q h)
  clear h
  go_enter Tryd.func54, Tryd.ntmps54
  go_wp2_with (go_at_call 74; refine H.out.mono ?_; rintro e w' ⟨rfl, hq⟩)
  go_end0
  exact ⟨rfl, hq⟩
set_option maxHeartbeats 1000000 in
theorem ins82_nil (a : Option Addr) (cap : Nat) (w : World) : Calls Tryd.prog 82 #[.slice a 0 cap, .int .i64 0, .int .i64 0, .func (.func 58) #[] #[]] w fun e w' => e = .returned (.tuple #[]) ∧ w = w' := by
  go_enter Tryd.func82, Tryd.ntmps82
  go_wp2
  go_loopw [8] (fun i wr => i = .int .i64 1 ∧ wr = w) (fun _ _ => 0)
  case atStart => exact ⟨rfl, rfl⟩
  case round =>
    obtain ⟨rfl, rfl⟩ := hrel
    go_wp2
    go_end0
    exact ⟨rfl, rfl⟩
set_option maxHeartbeats 1000000 in
theorem stab76 (a : Option Addr) (n cap : Nat) (w : World) (hn : n ≤ 19) (Q : World → Prop) (h : Calls Tryd.prog 82 #[.slice a n cap, .int .i64 0, .int .i64 n, .func (.func 58) #[] #[]] w fun e w' => e = .returned (.tuple #[]) ∧ Q w') :
    Calls Tryd.prog 76 #[.slice a n cap, .int .i64 n, .func (.func 58) #[] #[]] w fun e w' => e = .returned (.tuple #[]) ∧ Q w' := by
  have H := Lib.hid h
  clear h
  go_enter Tryd.func76, Tryd.ntmps76
  go_wp2
  go_loopw [7, 8] (fun a b wr => a = .int .i64 0 ∧ b = .int .i64 20 ∧ wr = w) (fun _ _ _ => 0)
  case atStart => exact ⟨rfl, rfl, rfl⟩
  case round =>
    obtain ⟨rfl, rfl, rfl⟩ := hrel
    go_wp2_with (go_at_call 82; refine H.out.mono ?_; rintro e w' ⟨rfl, hq⟩)
    go_loopw [6] (fun a wr => a = .int .i64 20 ∧ wr = w') (fun _ _ => 0)
    case atStart => exact ⟨rfl, rfl⟩
    case round =>
      obtain ⟨rfl, rfl⟩ := hrel
      go_wp2
      go_end0
      exact ⟨rfl, hq⟩
set_option maxHeartbeats 1000000 in
theorem sort57 (a : Option Addr) (n cap : Nat) (w : World) (hn : n ≤ 19) (Q : World → Prop) (h : Calls Tryd.prog 82 #[.slice a n cap, .int .i64 0, .int .i64 n, .func (.func 58) #[] #[]] w fun e w' => e = .returned (.tuple #[]) ∧ Q w') :
    Calls Tryd.prog 57 #[.slice a n cap, .func (.func 58) #[] #[]] w fun e w' => e = .returned (.tuple #[]) ∧ Q w' := by
  have H := Lib.hid (stab76 a n cap w hn Q h)
  clear h
  go_enter Tryd.func57, Tryd.ntmps57
  go_wp2_with (go_at_call 76; refine H.out.mono ?_; rintro e w' ⟨rfl, hq⟩)
  go_end0
  exact ⟨rfl, hq⟩
end YtdcbeemjdpgjmaaDoor.Fc
end Go.Proofs
