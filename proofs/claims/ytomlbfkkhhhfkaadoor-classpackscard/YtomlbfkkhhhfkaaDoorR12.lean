/-
  The statements' own right: its closures.
  The statements' own right.
-/
import Derived.Test.YtomlbfkkhhhfkaaDoorCsArc
import Derived.Laws.RangeString
namespace Go.Proofs.YtomlbfkkhhhfkaaDoor.Fc
open Go.RowKit
set_option linter.unusedVariables false
set_option linter.unusedSimpArgs false

theorem clos29 (s : ByteArray) (w : World) : Calls Tryd.prog 29 #[.string s] w fun e w' => e = .returned (.bool (classB s)) ∧ w = w' := by
  by_cases h0 : 0 < s.size
  · have hE : s.toList.isEmpty = false := by
      cases h : s.toList.isEmpty
      · rfl
      · rw [ByteArray.toList_eq, List.isEmpty_iff, ← List.length_eq_zero_iff] at h; exact absurd h (by show ¬ s.size = 0; omega)
    have hG : classB s = (decide ((65 : Int) ≤ s[0].toNat) && decide ((s[0].toNat : Int) ≤ 90) && decide ((s.size : Int) ≤ 40)) := by unfold classB greatB; rw [dif_pos h0]
    have HG := Lib.hid hG
    clear hG
    by_cases h65 : (65 : Int) ≤ s[0].toNat
    · by_cases h90 : (s[0].toNat : Int) ≤ 90
      · by_cases h40 : (s.size : Int) ≤ 40
        · have HV : classB s = true := by rw [HG.out, decide_eq_true h65, decide_eq_true h90, decide_eq_true h40]; rfl
          rw [HV]
          clear HG HV
          go_enter Tryd.func29, Tryd.ntmps29
          go_wp2
          go_ret
          first | exact ⟨rfl, rfl⟩ | exact ⟨by simp; omega, rfl⟩
        · have HV : classB s = false := by rw [HG.out, decide_eq_true h65, decide_eq_true h90, decide_eq_false h40]; rfl
          rw [HV]
          clear HG HV
          go_enter Tryd.func29, Tryd.ntmps29
          go_wp2
          go_ret
          first | exact ⟨rfl, rfl⟩ | exact ⟨by simp; omega, rfl⟩
      · have HV : classB s = false := by rw [HG.out, decide_eq_true h65, decide_eq_false h90]; rfl
        rw [HV]
        clear HG HV
        go_enter Tryd.func29, Tryd.ntmps29
        go_wp2
        go_ret
        first | exact ⟨rfl, rfl⟩ | exact ⟨by simp; omega, rfl⟩
    · have HV : classB s = false := by rw [HG.out, decide_eq_false h65]; rfl
      rw [HV]
      clear HG HV
      go_enter Tryd.func29, Tryd.ntmps29
      go_wp2
      go_ret
      first | exact ⟨rfl, rfl⟩ | exact ⟨by simp; omega, rfl⟩
  · have hE : s.toList = [] := by rw [ByteArray.toList_eq, ← List.length_eq_zero_iff]; show s.size = 0; omega
    have hE2 : s.toList.isEmpty = true := by rw [hE]; rfl
    have HV : classB s = false := by unfold classB greatB; rw [dif_neg h0]; rfl
    rw [HV]
    clear HV
    go_enter Tryd.func29, Tryd.ntmps29
    go_wp2
    go_ret
    exact ⟨rfl, rfl⟩
def FdS (x : Fd) : Prop := classB x.2 = true ∧ 0 < x.1.name.size ∧ x.1.name.size ≤ 40 ∧ goodB x.1.tn = true
def MtS (x : Mt) : Prop := classB x.2 = true ∧ RightP ⟨⟨#[65]⟩, ⟨#[]⟩, [], [x.1]⟩
/-- a right file, by the statements -/
structure RightS (f : Fl) : Prop where
  fc : RightP f.fc
  ln : f.bd.length = f.fc.ms.length
  cl : ∀ y ∈ f.cl, classB y = true
  ty : ∀ y ∈ f.ty, goodB y.n = true
  fd : ∀ y ∈ f.fd, FdS y
  mt : ∀ y ∈ f.mt, MtS y
  bd : ∀ (i : Nat) s b, f.fc.ms[i]? = some s → f.bd[i]? = some b → BodyP f.nu.length f.cl.length f.ty.length f.fd.length f.mt.length s b

def kindsI : List Int := [110, 99, 116, 102, 109, 108, 106, 98]
set_option maxHeartbeats 4000000 in
set_option maxRecDepth 100000 in
theorem clos32 (nm sp : ByteArray) (a8 : Option Addr) (n8 c8 : Nat) (a9 : Option Addr) (n9 c9 : Nat) (a1 : Option Addr) (n1 c1 : Nat) (a2 : Option Addr) (n2 c2 : Nat) (a3 : Option Addr) (n3 c3 : Nat) (a4 : Option Addr) (n4 c4 : Nat) (a5 : Option Addr) (n5 c5 : Nat) (a0 : Option Addr) (n0 c0 : Nat) (lo st : Int) (a6 : Option Addr) (n6 c6 : Nat) (F B : Nat) (p : Int) (w : World) (hF : Blk w F [.string nm, .string sp, .slice a8 n8 c8, .slice a9 n9 c9, .slice a1 n1 c1, .slice a2 n2 c2, .slice a3 n3 c3, .slice a4 n4 c4, .slice a5 n5 c5, .slice a0 n0 c0] 35) (hB : Blk w B [.int .i64 lo, .int .i64 st, .slice a6 n6 c6] 69) :
    Calls Tryd.prog 32 #[.int .i32 p, .pointer (some ⟨F, 0, none⟩), .pointer (some ⟨B, 0, none⟩)] w fun e w' => e = .returned (.int .i64 (manyN n1 n2 n3 n4 n5 lo n6 p)) ∧ Below w.heap.size w w' := by
  have HF := Lib.hid hF
  have HB := Lib.hid hB
  clear hF hB
  go_enter Tryd.func32, Tryd.ntmps32
  go_wp2
  go_loopw [] (fun wr => ∃ k : Nat, k ≤ 8 ∧ wr = w.iter (⟨#[110, 99, 116, 102, 109, 108, 106, 98]⟩ : ByteArray) k ∧ Hid (∀ c ∈ kindsI.take k, ¬ p = c)) (fun wr => 8 - wr.iterPos w.heap.size)
  case atStart => exact ⟨0, Nat.zero_le _, rfl, Lib.hid (by intro c hc; simp at hc)⟩
  case round =>
    obtain ⟨k, hk, rfl, HN⟩ := hrel
    rcases (show k = 0 ∨ k = 1 ∨ k = 2 ∨ k = 3 ∨ k = 4 ∨ k = 5 ∨ k = 6 ∨ k = 7 ∨ k = 8 by omega) with rfl | rfl | rfl | rfl | rfl | rfl | rfl | rfl | rfl
    · have hnx : ∀ ty, (Instr.next (.pointer (some ⟨w.heap.size, 0, none⟩)) true ty).run Tryd.prog (w.iter (⟨#[110, 99, 116, 102, 109, 108, 106, 98]⟩ : ByteArray) 0) = .ok (.tuple #[.bool true, .int .i64 0, .int .i32 110]) (w.iter (⟨#[110, 99, 116, 102, 109, 108, 106, 98]⟩ : ByteArray) 1) := fun ty => run_next_ascii w (⟨#[110, 99, 116, 102, 109, 108, 106, 98]⟩ : ByteArray) 0 ty (by decide) (by decide)
      by_cases hp : (110 : Int) = p
      · subst hp
        have hF1 := HF.out.below (below1 w (.stringIter (⟨#[110, 99, 116, 102, 109, 108, 106, 98]⟩ : ByteArray) 1))
        have hB1 := HB.out.below (below1 w (.stringIter (⟨#[110, 99, 116, 102, 109, 108, 106, 98]⟩ : ByteArray) 1))
        have f4 : (w.iter (⟨#[110, 99, 116, 102, 109, 108, 106, 98]⟩ : ByteArray) 1).cell? ⟨F, 4, none⟩ = _ := hF1.cell 4
        have f5 : (w.iter (⟨#[110, 99, 116, 102, 109, 108, 106, 98]⟩ : ByteArray) 1).cell? ⟨F, 5, none⟩ = _ := hF1.cell 5
        have f6 : (w.iter (⟨#[110, 99, 116, 102, 109, 108, 106, 98]⟩ : ByteArray) 1).cell? ⟨F, 6, none⟩ = _ := hF1.cell 6
        have f7 : (w.iter (⟨#[110, 99, 116, 102, 109, 108, 106, 98]⟩ : ByteArray) 1).cell? ⟨F, 7, none⟩ = _ := hF1.cell 7
        have f8 : (w.iter (⟨#[110, 99, 116, 102, 109, 108, 106, 98]⟩ : ByteArray) 1).cell? ⟨F, 8, none⟩ = _ := hF1.cell 8
        have b0 : (w.iter (⟨#[110, 99, 116, 102, 109, 108, 106, 98]⟩ : ByteArray) 1).cell? ⟨B, 0, none⟩ = _ := hB1.cell 0
        have b2 : (w.iter (⟨#[110, 99, 116, 102, 109, 108, 106, 98]⟩ : ByteArray) 1).cell? ⟨B, 2, none⟩ = _ := hB1.cell 2
        simp only [List.getElem?_cons_succ, List.getElem?_cons_zero] at f4 f5 f6 f7 f8 b0 b2
        clear hF1 hB1
        go_wp2
        go_ret
        exact ⟨by unfold manyN; simp, (below1 w (.stringIter (⟨#[110, 99, 116, 102, 109, 108, 106, 98]⟩ : ByteArray) 1)).alloc (by simp [World.iter]) _⟩
      · have hpe : ((110 : Int) == p) = false := by simpa using hp
        have HN2 : Hid (∀ c ∈ kindsI.take 1, ¬ p = c) := Lib.hid (all_snk (P := fun c => ¬ p = c) (k := 0) (x := 110) rfl HN.out (fun e => hp e.symm))
        clear HN hp
        go_wp2
        go_roundw
        case rel => exact ⟨1, by omega, rfl, HN2⟩
        case measure => simp
    · have hnx : ∀ ty, (Instr.next (.pointer (some ⟨w.heap.size, 0, none⟩)) true ty).run Tryd.prog (w.iter (⟨#[110, 99, 116, 102, 109, 108, 106, 98]⟩ : ByteArray) 1) = .ok (.tuple #[.bool true, .int .i64 1, .int .i32 99]) (w.iter (⟨#[110, 99, 116, 102, 109, 108, 106, 98]⟩ : ByteArray) 2) := fun ty => run_next_ascii w (⟨#[110, 99, 116, 102, 109, 108, 106, 98]⟩ : ByteArray) 1 ty (by decide) (by decide)
      by_cases hp : (99 : Int) = p
      · subst hp
        have hF1 := HF.out.below (below1 w (.stringIter (⟨#[110, 99, 116, 102, 109, 108, 106, 98]⟩ : ByteArray) 2))
        have hB1 := HB.out.below (below1 w (.stringIter (⟨#[110, 99, 116, 102, 109, 108, 106, 98]⟩ : ByteArray) 2))
        have f4 : (w.iter (⟨#[110, 99, 116, 102, 109, 108, 106, 98]⟩ : ByteArray) 2).cell? ⟨F, 4, none⟩ = _ := hF1.cell 4
        have f5 : (w.iter (⟨#[110, 99, 116, 102, 109, 108, 106, 98]⟩ : ByteArray) 2).cell? ⟨F, 5, none⟩ = _ := hF1.cell 5
        have f6 : (w.iter (⟨#[110, 99, 116, 102, 109, 108, 106, 98]⟩ : ByteArray) 2).cell? ⟨F, 6, none⟩ = _ := hF1.cell 6
        have f7 : (w.iter (⟨#[110, 99, 116, 102, 109, 108, 106, 98]⟩ : ByteArray) 2).cell? ⟨F, 7, none⟩ = _ := hF1.cell 7
        have f8 : (w.iter (⟨#[110, 99, 116, 102, 109, 108, 106, 98]⟩ : ByteArray) 2).cell? ⟨F, 8, none⟩ = _ := hF1.cell 8
        have b0 : (w.iter (⟨#[110, 99, 116, 102, 109, 108, 106, 98]⟩ : ByteArray) 2).cell? ⟨B, 0, none⟩ = _ := hB1.cell 0
        have b2 : (w.iter (⟨#[110, 99, 116, 102, 109, 108, 106, 98]⟩ : ByteArray) 2).cell? ⟨B, 2, none⟩ = _ := hB1.cell 2
        simp only [List.getElem?_cons_succ, List.getElem?_cons_zero] at f4 f5 f6 f7 f8 b0 b2
        clear hF1 hB1
        go_wp2
        go_ret
        exact ⟨by unfold manyN; simp, (below1 w (.stringIter (⟨#[110, 99, 116, 102, 109, 108, 106, 98]⟩ : ByteArray) 2)).alloc (by simp [World.iter]) _⟩
      · have hpe : ((99 : Int) == p) = false := by simpa using hp
        have HN2 : Hid (∀ c ∈ kindsI.take 2, ¬ p = c) := Lib.hid (all_snk (P := fun c => ¬ p = c) (k := 1) (x := 99) rfl HN.out (fun e => hp e.symm))
        clear HN hp
        go_wp2
        go_roundw
        case rel => exact ⟨2, by omega, rfl, HN2⟩
        case measure => simp
    · have hnx : ∀ ty, (Instr.next (.pointer (some ⟨w.heap.size, 0, none⟩)) true ty).run Tryd.prog (w.iter (⟨#[110, 99, 116, 102, 109, 108, 106, 98]⟩ : ByteArray) 2) = .ok (.tuple #[.bool true, .int .i64 2, .int .i32 116]) (w.iter (⟨#[110, 99, 116, 102, 109, 108, 106, 98]⟩ : ByteArray) 3) := fun ty => run_next_ascii w (⟨#[110, 99, 116, 102, 109, 108, 106, 98]⟩ : ByteArray) 2 ty (by decide) (by decide)
      by_cases hp : (116 : Int) = p
      · subst hp
        have hF1 := HF.out.below (below1 w (.stringIter (⟨#[110, 99, 116, 102, 109, 108, 106, 98]⟩ : ByteArray) 3))
        have hB1 := HB.out.below (below1 w (.stringIter (⟨#[110, 99, 116, 102, 109, 108, 106, 98]⟩ : ByteArray) 3))
        have f4 : (w.iter (⟨#[110, 99, 116, 102, 109, 108, 106, 98]⟩ : ByteArray) 3).cell? ⟨F, 4, none⟩ = _ := hF1.cell 4
        have f5 : (w.iter (⟨#[110, 99, 116, 102, 109, 108, 106, 98]⟩ : ByteArray) 3).cell? ⟨F, 5, none⟩ = _ := hF1.cell 5
        have f6 : (w.iter (⟨#[110, 99, 116, 102, 109, 108, 106, 98]⟩ : ByteArray) 3).cell? ⟨F, 6, none⟩ = _ := hF1.cell 6
        have f7 : (w.iter (⟨#[110, 99, 116, 102, 109, 108, 106, 98]⟩ : ByteArray) 3).cell? ⟨F, 7, none⟩ = _ := hF1.cell 7
        have f8 : (w.iter (⟨#[110, 99, 116, 102, 109, 108, 106, 98]⟩ : ByteArray) 3).cell? ⟨F, 8, none⟩ = _ := hF1.cell 8
        have b0 : (w.iter (⟨#[110, 99, 116, 102, 109, 108, 106, 98]⟩ : ByteArray) 3).cell? ⟨B, 0, none⟩ = _ := hB1.cell 0
        have b2 : (w.iter (⟨#[110, 99, 116, 102, 109, 108, 106, 98]⟩ : ByteArray) 3).cell? ⟨B, 2, none⟩ = _ := hB1.cell 2
        simp only [List.getElem?_cons_succ, List.getElem?_cons_zero] at f4 f5 f6 f7 f8 b0 b2
        clear hF1 hB1
        go_wp2
        go_ret
        exact ⟨by unfold manyN; simp, (below1 w (.stringIter (⟨#[110, 99, 116, 102, 109, 108, 106, 98]⟩ : ByteArray) 3)).alloc (by simp [World.iter]) _⟩
      · have hpe : ((116 : Int) == p) = false := by simpa using hp
        have HN2 : Hid (∀ c ∈ kindsI.take 3, ¬ p = c) := Lib.hid (all_snk (P := fun c => ¬ p = c) (k := 2) (x := 116) rfl HN.out (fun e => hp e.symm))
        clear HN hp
        go_wp2
        go_roundw
        case rel => exact ⟨3, by omega, rfl, HN2⟩
        case measure => simp
    · have hnx : ∀ ty, (Instr.next (.pointer (some ⟨w.heap.size, 0, none⟩)) true ty).run Tryd.prog (w.iter (⟨#[110, 99, 116, 102, 109, 108, 106, 98]⟩ : ByteArray) 3) = .ok (.tuple #[.bool true, .int .i64 3, .int .i32 102]) (w.iter (⟨#[110, 99, 116, 102, 109, 108, 106, 98]⟩ : ByteArray) 4) := fun ty => run_next_ascii w (⟨#[110, 99, 116, 102, 109, 108, 106, 98]⟩ : ByteArray) 3 ty (by decide) (by decide)
      by_cases hp : (102 : Int) = p
      · subst hp
        have hF1 := HF.out.below (below1 w (.stringIter (⟨#[110, 99, 116, 102, 109, 108, 106, 98]⟩ : ByteArray) 4))
        have hB1 := HB.out.below (below1 w (.stringIter (⟨#[110, 99, 116, 102, 109, 108, 106, 98]⟩ : ByteArray) 4))
        have f4 : (w.iter (⟨#[110, 99, 116, 102, 109, 108, 106, 98]⟩ : ByteArray) 4).cell? ⟨F, 4, none⟩ = _ := hF1.cell 4
        have f5 : (w.iter (⟨#[110, 99, 116, 102, 109, 108, 106, 98]⟩ : ByteArray) 4).cell? ⟨F, 5, none⟩ = _ := hF1.cell 5
        have f6 : (w.iter (⟨#[110, 99, 116, 102, 109, 108, 106, 98]⟩ : ByteArray) 4).cell? ⟨F, 6, none⟩ = _ := hF1.cell 6
        have f7 : (w.iter (⟨#[110, 99, 116, 102, 109, 108, 106, 98]⟩ : ByteArray) 4).cell? ⟨F, 7, none⟩ = _ := hF1.cell 7
        have f8 : (w.iter (⟨#[110, 99, 116, 102, 109, 108, 106, 98]⟩ : ByteArray) 4).cell? ⟨F, 8, none⟩ = _ := hF1.cell 8
        have b0 : (w.iter (⟨#[110, 99, 116, 102, 109, 108, 106, 98]⟩ : ByteArray) 4).cell? ⟨B, 0, none⟩ = _ := hB1.cell 0
        have b2 : (w.iter (⟨#[110, 99, 116, 102, 109, 108, 106, 98]⟩ : ByteArray) 4).cell? ⟨B, 2, none⟩ = _ := hB1.cell 2
        simp only [List.getElem?_cons_succ, List.getElem?_cons_zero] at f4 f5 f6 f7 f8 b0 b2
        clear hF1 hB1
        go_wp2
        go_ret
        exact ⟨by unfold manyN; simp, (below1 w (.stringIter (⟨#[110, 99, 116, 102, 109, 108, 106, 98]⟩ : ByteArray) 4)).alloc (by simp [World.iter]) _⟩
      · have hpe : ((102 : Int) == p) = false := by simpa using hp
        have HN2 : Hid (∀ c ∈ kindsI.take 4, ¬ p = c) := Lib.hid (all_snk (P := fun c => ¬ p = c) (k := 3) (x := 102) rfl HN.out (fun e => hp e.symm))
        clear HN hp
        go_wp2
        go_roundw
        case rel => exact ⟨4, by omega, rfl, HN2⟩
        case measure => simp
    · have hnx : ∀ ty, (Instr.next (.pointer (some ⟨w.heap.size, 0, none⟩)) true ty).run Tryd.prog (w.iter (⟨#[110, 99, 116, 102, 109, 108, 106, 98]⟩ : ByteArray) 4) = .ok (.tuple #[.bool true, .int .i64 4, .int .i32 109]) (w.iter (⟨#[110, 99, 116, 102, 109, 108, 106, 98]⟩ : ByteArray) 5) := fun ty => run_next_ascii w (⟨#[110, 99, 116, 102, 109, 108, 106, 98]⟩ : ByteArray) 4 ty (by decide) (by decide)
      by_cases hp : (109 : Int) = p
      · subst hp
        have hF1 := HF.out.below (below1 w (.stringIter (⟨#[110, 99, 116, 102, 109, 108, 106, 98]⟩ : ByteArray) 5))
        have hB1 := HB.out.below (below1 w (.stringIter (⟨#[110, 99, 116, 102, 109, 108, 106, 98]⟩ : ByteArray) 5))
        have f4 : (w.iter (⟨#[110, 99, 116, 102, 109, 108, 106, 98]⟩ : ByteArray) 5).cell? ⟨F, 4, none⟩ = _ := hF1.cell 4
        have f5 : (w.iter (⟨#[110, 99, 116, 102, 109, 108, 106, 98]⟩ : ByteArray) 5).cell? ⟨F, 5, none⟩ = _ := hF1.cell 5
        have f6 : (w.iter (⟨#[110, 99, 116, 102, 109, 108, 106, 98]⟩ : ByteArray) 5).cell? ⟨F, 6, none⟩ = _ := hF1.cell 6
        have f7 : (w.iter (⟨#[110, 99, 116, 102, 109, 108, 106, 98]⟩ : ByteArray) 5).cell? ⟨F, 7, none⟩ = _ := hF1.cell 7
        have f8 : (w.iter (⟨#[110, 99, 116, 102, 109, 108, 106, 98]⟩ : ByteArray) 5).cell? ⟨F, 8, none⟩ = _ := hF1.cell 8
        have b0 : (w.iter (⟨#[110, 99, 116, 102, 109, 108, 106, 98]⟩ : ByteArray) 5).cell? ⟨B, 0, none⟩ = _ := hB1.cell 0
        have b2 : (w.iter (⟨#[110, 99, 116, 102, 109, 108, 106, 98]⟩ : ByteArray) 5).cell? ⟨B, 2, none⟩ = _ := hB1.cell 2
        simp only [List.getElem?_cons_succ, List.getElem?_cons_zero] at f4 f5 f6 f7 f8 b0 b2
        clear hF1 hB1
        go_wp2
        go_ret
        exact ⟨by unfold manyN; simp, (below1 w (.stringIter (⟨#[110, 99, 116, 102, 109, 108, 106, 98]⟩ : ByteArray) 5)).alloc (by simp [World.iter]) _⟩
      · have hpe : ((109 : Int) == p) = false := by simpa using hp
        have HN2 : Hid (∀ c ∈ kindsI.take 5, ¬ p = c) := Lib.hid (all_snk (P := fun c => ¬ p = c) (k := 4) (x := 109) rfl HN.out (fun e => hp e.symm))
        clear HN hp
        go_wp2
        go_roundw
        case rel => exact ⟨5, by omega, rfl, HN2⟩
        case measure => simp
    · have hnx : ∀ ty, (Instr.next (.pointer (some ⟨w.heap.size, 0, none⟩)) true ty).run Tryd.prog (w.iter (⟨#[110, 99, 116, 102, 109, 108, 106, 98]⟩ : ByteArray) 5) = .ok (.tuple #[.bool true, .int .i64 5, .int .i32 108]) (w.iter (⟨#[110, 99, 116, 102, 109, 108, 106, 98]⟩ : ByteArray) 6) := fun ty => run_next_ascii w (⟨#[110, 99, 116, 102, 109, 108, 106, 98]⟩ : ByteArray) 5 ty (by decide) (by decide)
      by_cases hp : (108 : Int) = p
      · subst hp
        have hF1 := HF.out.below (below1 w (.stringIter (⟨#[110, 99, 116, 102, 109, 108, 106, 98]⟩ : ByteArray) 6))
        have hB1 := HB.out.below (below1 w (.stringIter (⟨#[110, 99, 116, 102, 109, 108, 106, 98]⟩ : ByteArray) 6))
        have f4 : (w.iter (⟨#[110, 99, 116, 102, 109, 108, 106, 98]⟩ : ByteArray) 6).cell? ⟨F, 4, none⟩ = _ := hF1.cell 4
        have f5 : (w.iter (⟨#[110, 99, 116, 102, 109, 108, 106, 98]⟩ : ByteArray) 6).cell? ⟨F, 5, none⟩ = _ := hF1.cell 5
        have f6 : (w.iter (⟨#[110, 99, 116, 102, 109, 108, 106, 98]⟩ : ByteArray) 6).cell? ⟨F, 6, none⟩ = _ := hF1.cell 6
        have f7 : (w.iter (⟨#[110, 99, 116, 102, 109, 108, 106, 98]⟩ : ByteArray) 6).cell? ⟨F, 7, none⟩ = _ := hF1.cell 7
        have f8 : (w.iter (⟨#[110, 99, 116, 102, 109, 108, 106, 98]⟩ : ByteArray) 6).cell? ⟨F, 8, none⟩ = _ := hF1.cell 8
        have b0 : (w.iter (⟨#[110, 99, 116, 102, 109, 108, 106, 98]⟩ : ByteArray) 6).cell? ⟨B, 0, none⟩ = _ := hB1.cell 0
        have b2 : (w.iter (⟨#[110, 99, 116, 102, 109, 108, 106, 98]⟩ : ByteArray) 6).cell? ⟨B, 2, none⟩ = _ := hB1.cell 2
        simp only [List.getElem?_cons_succ, List.getElem?_cons_zero] at f4 f5 f6 f7 f8 b0 b2
        clear hF1 hB1
        go_wp2
        go_ret
        exact ⟨by unfold manyN; simp, (below1 w (.stringIter (⟨#[110, 99, 116, 102, 109, 108, 106, 98]⟩ : ByteArray) 6)).alloc (by simp [World.iter]) _⟩
      · have hpe : ((108 : Int) == p) = false := by simpa using hp
        have HN2 : Hid (∀ c ∈ kindsI.take 6, ¬ p = c) := Lib.hid (all_snk (P := fun c => ¬ p = c) (k := 5) (x := 108) rfl HN.out (fun e => hp e.symm))
        clear HN hp
        go_wp2
        go_roundw
        case rel => exact ⟨6, by omega, rfl, HN2⟩
        case measure => simp
    · have hnx : ∀ ty, (Instr.next (.pointer (some ⟨w.heap.size, 0, none⟩)) true ty).run Tryd.prog (w.iter (⟨#[110, 99, 116, 102, 109, 108, 106, 98]⟩ : ByteArray) 6) = .ok (.tuple #[.bool true, .int .i64 6, .int .i32 106]) (w.iter (⟨#[110, 99, 116, 102, 109, 108, 106, 98]⟩ : ByteArray) 7) := fun ty => run_next_ascii w (⟨#[110, 99, 116, 102, 109, 108, 106, 98]⟩ : ByteArray) 6 ty (by decide) (by decide)
      by_cases hp : (106 : Int) = p
      · subst hp
        have hF1 := HF.out.below (below1 w (.stringIter (⟨#[110, 99, 116, 102, 109, 108, 106, 98]⟩ : ByteArray) 7))
        have hB1 := HB.out.below (below1 w (.stringIter (⟨#[110, 99, 116, 102, 109, 108, 106, 98]⟩ : ByteArray) 7))
        have f4 : (w.iter (⟨#[110, 99, 116, 102, 109, 108, 106, 98]⟩ : ByteArray) 7).cell? ⟨F, 4, none⟩ = _ := hF1.cell 4
        have f5 : (w.iter (⟨#[110, 99, 116, 102, 109, 108, 106, 98]⟩ : ByteArray) 7).cell? ⟨F, 5, none⟩ = _ := hF1.cell 5
        have f6 : (w.iter (⟨#[110, 99, 116, 102, 109, 108, 106, 98]⟩ : ByteArray) 7).cell? ⟨F, 6, none⟩ = _ := hF1.cell 6
        have f7 : (w.iter (⟨#[110, 99, 116, 102, 109, 108, 106, 98]⟩ : ByteArray) 7).cell? ⟨F, 7, none⟩ = _ := hF1.cell 7
        have f8 : (w.iter (⟨#[110, 99, 116, 102, 109, 108, 106, 98]⟩ : ByteArray) 7).cell? ⟨F, 8, none⟩ = _ := hF1.cell 8
        have b0 : (w.iter (⟨#[110, 99, 116, 102, 109, 108, 106, 98]⟩ : ByteArray) 7).cell? ⟨B, 0, none⟩ = _ := hB1.cell 0
        have b2 : (w.iter (⟨#[110, 99, 116, 102, 109, 108, 106, 98]⟩ : ByteArray) 7).cell? ⟨B, 2, none⟩ = _ := hB1.cell 2
        simp only [List.getElem?_cons_succ, List.getElem?_cons_zero] at f4 f5 f6 f7 f8 b0 b2
        clear hF1 hB1
        go_wp2
        go_ret
        exact ⟨by unfold manyN; simp, (below1 w (.stringIter (⟨#[110, 99, 116, 102, 109, 108, 106, 98]⟩ : ByteArray) 7)).alloc (by simp [World.iter]) _⟩
      · have hpe : ((106 : Int) == p) = false := by simpa using hp
        have HN2 : Hid (∀ c ∈ kindsI.take 7, ¬ p = c) := Lib.hid (all_snk (P := fun c => ¬ p = c) (k := 6) (x := 106) rfl HN.out (fun e => hp e.symm))
        clear HN hp
        go_wp2
        go_roundw
        case rel => exact ⟨7, by omega, rfl, HN2⟩
        case measure => simp
    · have hnx : ∀ ty, (Instr.next (.pointer (some ⟨w.heap.size, 0, none⟩)) true ty).run Tryd.prog (w.iter (⟨#[110, 99, 116, 102, 109, 108, 106, 98]⟩ : ByteArray) 7) = .ok (.tuple #[.bool true, .int .i64 7, .int .i32 98]) (w.iter (⟨#[110, 99, 116, 102, 109, 108, 106, 98]⟩ : ByteArray) 8) := fun ty => run_next_ascii w (⟨#[110, 99, 116, 102, 109, 108, 106, 98]⟩ : ByteArray) 7 ty (by decide) (by decide)
      by_cases hp : (98 : Int) = p
      · subst hp
        have hF1 := HF.out.below (below1 w (.stringIter (⟨#[110, 99, 116, 102, 109, 108, 106, 98]⟩ : ByteArray) 8))
        have hB1 := HB.out.below (below1 w (.stringIter (⟨#[110, 99, 116, 102, 109, 108, 106, 98]⟩ : ByteArray) 8))
        have f4 : (w.iter (⟨#[110, 99, 116, 102, 109, 108, 106, 98]⟩ : ByteArray) 8).cell? ⟨F, 4, none⟩ = _ := hF1.cell 4
        have f5 : (w.iter (⟨#[110, 99, 116, 102, 109, 108, 106, 98]⟩ : ByteArray) 8).cell? ⟨F, 5, none⟩ = _ := hF1.cell 5
        have f6 : (w.iter (⟨#[110, 99, 116, 102, 109, 108, 106, 98]⟩ : ByteArray) 8).cell? ⟨F, 6, none⟩ = _ := hF1.cell 6
        have f7 : (w.iter (⟨#[110, 99, 116, 102, 109, 108, 106, 98]⟩ : ByteArray) 8).cell? ⟨F, 7, none⟩ = _ := hF1.cell 7
        have f8 : (w.iter (⟨#[110, 99, 116, 102, 109, 108, 106, 98]⟩ : ByteArray) 8).cell? ⟨F, 8, none⟩ = _ := hF1.cell 8
        have b0 : (w.iter (⟨#[110, 99, 116, 102, 109, 108, 106, 98]⟩ : ByteArray) 8).cell? ⟨B, 0, none⟩ = _ := hB1.cell 0
        have b2 : (w.iter (⟨#[110, 99, 116, 102, 109, 108, 106, 98]⟩ : ByteArray) 8).cell? ⟨B, 2, none⟩ = _ := hB1.cell 2
        simp only [List.getElem?_cons_succ, List.getElem?_cons_zero] at f4 f5 f6 f7 f8 b0 b2
        clear hF1 hB1
        go_wp2
        go_ret
        exact ⟨by unfold manyN; simp, (below1 w (.stringIter (⟨#[110, 99, 116, 102, 109, 108, 106, 98]⟩ : ByteArray) 8)).alloc (by simp [World.iter]) _⟩
      · have hpe : ((98 : Int) == p) = false := by simpa using hp
        have HN2 : Hid (∀ c ∈ kindsI.take 8, ¬ p = c) := Lib.hid (all_snk (P := fun c => ¬ p = c) (k := 7) (x := 98) rfl HN.out (fun e => hp e.symm))
        clear HN hp
        go_wp2
        go_roundw
        case rel => exact ⟨8, by omega, rfl, HN2⟩
        case measure => simp
    · have hnx : ∀ ty, (Instr.next (.pointer (some ⟨w.heap.size, 0, none⟩)) true ty).run Tryd.prog (w.iter (⟨#[110, 99, 116, 102, 109, 108, 106, 98]⟩ : ByteArray) 8) = .ok (.tuple #[.bool false]) (w.iter (⟨#[110, 99, 116, 102, 109, 108, 106, 98]⟩ : ByteArray) 8) := fun ty => run_next_end w (⟨#[110, 99, 116, 102, 109, 108, 106, 98]⟩ : ByteArray) 8 ty (by decide)
      go_wp2
      go_ret
      refine ⟨?_, below1 w _⟩
      have h := HN.out
      rw [many_other (h 110 (by decide)) (h 99 (by decide)) (h 116 (by decide)) (h 102 (by decide)) (h 109 (by decide)) (h 108 (by decide)) (h 106 (by decide)) (h 98 (by decide))]
      rfl
end Go.Proofs.YtomlbfkkhhhfkaaDoor.Fc
namespace Go.Proofs.YtomlbfkkhhhfkaaDoor.Fc
open Go.RowKit
set_option linter.unusedVariables false
set_option linter.unusedSimpArgs false

set_option maxHeartbeats 16000000 in
set_option maxRecDepth 1000000 in
theorem right12 (f : Fl) (cs : List Value) (w : World) (hf : FlR w f cs) (hT : TabR w) : Calls Tryd.prog 12 #[.agg cs.toArray] w (IffP (RightS f) w) := by
  obtain ⟨a8, n8, c8, a9, n9, c9, a1, n1, c1, a2, n2, c2, a3, n3, c3, a4, n4, c4, a5, n5, c5, a0, n0, c0, rfl, hfc, hpo, hbd⟩ := hf
  obtain ⟨_, _, _, _, _, _, he, hf8, hf9⟩ := id hfc
  simp only [List.cons.injEq, Value.slice.injEq, true_and, and_true] at he
  obtain ⟨⟨rfl, rfl, rfl⟩, rfl, rfl, rfl⟩ := he
  obtain ⟨e2, l2, k2, hk2⟩ := hpo.cl.at
  obtain ⟨e3, l3, k3, hk3⟩ := hpo.ty.at
  obtain ⟨e4, l4, k4, hk4⟩ := hpo.fd.at
  obtain ⟨e5, l5, k5, hk5⟩ := hpo.mt.at
  obtain ⟨e0, l0, k0, hk0⟩ := hbd.at
  obtain ⟨e9, l9, k9, hk9⟩ := hf9.at
  unfold maxLen at k2 k3 k4 k5 k0 k9
  have E2 := Lib.hid e2
  have HK2 := Lib.hid hk2
  have E3 := Lib.hid e3
  have HK3 := Lib.hid hk3
  have E4 := Lib.hid e4
  have HK4 := Lib.hid hk4
  have E5 := Lib.hid e5
  have HK5 := Lib.hid hk5
  have E0 := Lib.hid e0
  have HK0 := Lib.hid hk0
  have E9 := Lib.hid e9
  have HK9 := Lib.hid hk9
  have HN1 := Lib.hid hpo.nu.at.1
  have HF := Lib.hid hfc
  have HT := Lib.hid hT
  clear e2 hk2 e3 hk3 e4 hk4 e5 hk5 e0 hk0 e9 hk9 hfc hpo hbd hf8 hf9 hT
  obtain ⟨W0, HW0⟩ : ∃ W0, Hid (W0 = w.alloc (.cells #[.string f.fc.name, .string f.fc.sup, .slice a8 n8 c8, .slice a9 n9 c9, .slice a1 n1 c1, .slice a2 n2 c2, .slice a3 n3 c3, .slice a4 n4 c4, .slice a5 n5 c5, .slice a0 n0 c0] 35)) := ⟨_, Lib.hid rfl⟩
  have F0 : Hid (Blk W0 w.heap.size [.string f.fc.name, .string f.fc.sup, .slice a8 n8 c8, .slice a9 n9 c9, .slice a1 n1 c1, .slice a2 n2 c2, .slice a3 n3 c3, .slice a4 n4 c4, .slice a5 n5 c5, .slice a0 n0 c0] 35) := Lib.hid (by rw [HW0.out]; exact Blk.new w _ 35)
  have HB0 : Hid (Below w.heap.size w W0) := Lib.hid (by rw [HW0.out]; exact below1 w _)
  go_enter Tryd.func12, Tryd.ntmps12
  go_upto_region 1 with fail
  try dsimp only [List.append]
  rw [← HW0.out]
  clear HW0
  have p0 := F0.out.cell 0
  have p1 := F0.out.cell 1
  have p2 := F0.out.cell 2
  have p3 := F0.out.cell 3
  simp only [List.getElem?_cons_succ, List.getElem?_cons_zero] at p0 p1 p2 p3
  go_wp2_with fail
  refine (right10 f.fc _ W0 (HF.out.keep (Keeps.of_below HB0.out))).mono ?_
  rintro e w1 ⟨r1, rfl, hr1, hb1⟩
  have HBR : Hid (Below w.heap.size w w1) := Lib.hid (HB0.out.trans (hb1.mono HB0.out.size))
  have HB := Lib.hid (F0.out.below hb1)
  have HR1 := Lib.hid hr1
  clear hr1 hb1 p0 p1 p2 p3 F0 HB0
  cases r1 with
  | false =>
    go_wp2
    go_ret
    exact IffP.no rfl (fun h => by have := HR1.out.2 h.fc; cases this) HBR.out
  | true =>
  have HRP := Lib.hid (HR1.out.1 rfl)
  clear HR1
  have p9 := HB.out.cell 9
  have p3 := HB.out.cell 3
  simp only [List.getElem?_cons_succ, List.getElem?_cons_zero] at p9 p3
  by_cases hln : n0 = n9
  rotate_left
  · have hln' : ((n0 : Int) == (n9 : Int)) = false := by simp; omega
    have HNO : Hid (¬ RightS f) := Lib.hid (fun h => by have := h.ln; have := E9.out; have := E0.out; omega)
    go_wp2
    go_ret
    exact IffP.no rfl HNO.out HBR.out
  subst hln
  have hnn : ((n0 : Int) == n0) = true := by simp
  have HLN : Hid (f.bd.length = f.fc.ms.length) := Lib.hid (by have := E9.out; have := E0.out; omega)
  have p4 := HB.out.cell 5
  simp only [List.getElem?_cons_succ, List.getElem?_cons_zero] at p4
  go_wp2
  clear p4
  go_loopw [37] (fun i wr => ∃ k : Nat, k ≤ n2 ∧ i = .int .i64 k ∧ Hid (Blk wr w.heap.size [.string f.fc.name, .string f.fc.sup, .slice a8 n8 c8, .slice a9 n0 c9, .slice a1 n1 c1, .slice a2 n2 c2, .slice a3 n3 c3, .slice a4 n4 c4, .slice a5 n5 c5, .slice a0 n0 c0] 35) ∧ Hid (∀ y ∈ f.cl.take k, classB y = true) ∧ Hid (Below w.heap.size w wr)) (fun i _ => n2 - (intOf i).toNat)
  case atStart => exact ⟨0, Nat.zero_le _, rfl, HB, Lib.hid (by intro y hy; simp at hy), HBR⟩
  case round =>
    clear HB HBR
    obtain ⟨k, hk, rfl, HB, HAL, HBR⟩ := hrel
    have hsr := HBR.out.size
    by_cases hkl : k < n2
    · obtain ⟨x, hx⟩ : ∃ v, f.cl[k]? = some v := ⟨_, List.getElem?_eq_getElem (by have := E2.out; omega)⟩
      obtain ⟨g, o, cs, rfl, hcell, rfl⟩ := HK2.out k x hx
      simp only [Nat.mul_one] at hcell
      have q0 : wr.cell? ⟨g, o + k, none⟩ = some (.string x) := (HBR.out.cell (World.block_lt_of_cell? _ _ (hcell 0 _ rfl))).trans (hcell 0 _ rfl)
      have HX := Lib.hid hx
      have HXM := Lib.hid (List.mem_of_getElem? hx)
      clear hcell hx
      have HNX : Hid (¬ classB x = true → ¬ RightS f) := Lib.hid (fun hn h => hn (h.cl x HXM.out))
      have HC := Lib.hid (clos29 x wr)
      go_wp2_with fail
      refine HC.out.mono ?_
      rintro e wz ⟨rfl, rfl⟩
      cases hc : classB x with
      | false =>
        have HNO := Lib.hid (HNX.out (by rw [hc]; simp))
        clear hc
        go_wp2
        go_ret
        exact IffP.no rfl HNO.out HBR.out
      | true =>
      have HCC : Hid (classB x = true) := Lib.hid hc
      clear hc q0
      go_wp2
      go_roundw
      case rel => exact ⟨k + 1, by omega, by go_num, HB, Lib.hid (all_snk HX.out HAL.out HCC.out), HBR⟩
      case measure => simp [intOf]; omega
    · have HALL0 : Hid (∀ y ∈ f.cl, classB y = true) := Lib.hid (by have h := HAL.out; rwa [List.take_of_length_le (by have := E2.out; omega)] at h)
      obtain ⟨wq, hwq⟩ : ∃ wq, wq = wr := ⟨_, rfl⟩
      subst hwq
      clear HAL hsr
      have p5 := HB.out.cell 6
      simp only [List.getElem?_cons_succ, List.getElem?_cons_zero] at p5
      go_wp2
      clear p5
      go_loopw [50] (fun i wr => ∃ k : Nat, k ≤ n3 ∧ i = .int .i64 k ∧ Hid (Blk wr w.heap.size [.string f.fc.name, .string f.fc.sup, .slice a8 n8 c8, .slice a9 n0 c9, .slice a1 n1 c1, .slice a2 n2 c2, .slice a3 n3 c3, .slice a4 n4 c4, .slice a5 n5 c5, .slice a0 n0 c0] 35) ∧ Hid (∀ y ∈ f.ty.take k, goodB y.n = true) ∧ Hid (Below w.heap.size w wr)) (fun i _ => n3 - (intOf i).toNat)
      case atStart => exact ⟨0, Nat.zero_le _, rfl, HB, Lib.hid (by intro y hy; simp at hy), HBR⟩
      case round =>
        clear HB HBR
        obtain ⟨k, hk, rfl, HB, HAL, HBR⟩ := hrel
        have hsr := HBR.out.size
        by_cases hkl : k < n3
        · obtain ⟨x, hx⟩ : ∃ v, f.ty[k]? = some v := ⟨_, List.getElem?_eq_getElem (by have := E3.out; omega)⟩
          obtain ⟨g, o, cs, rfl, hcell, rfl⟩ := HK3.out k x hx
          have q0 : wr.cell? ⟨g, o + k * 2, none⟩ = some (.string x.n) := (HBR.out.cell (World.block_lt_of_cell? _ _ (hcell 0 _ rfl))).trans (hcell 0 _ rfl)
          have q1 : wr.cell? ⟨g, o + k * 2 + 1, none⟩ = some (.bool x.a) := (HBR.out.cell (World.block_lt_of_cell? _ _ (hcell 1 _ rfl))).trans (hcell 1 _ rfl)
          have HX := Lib.hid hx
          have HXM := Lib.hid (List.mem_of_getElem? hx)
          clear hcell hx
          have HNX : Hid (¬ goodB x.n = true → ¬ RightS f) := Lib.hid (fun hn h => hn (h.ty x HXM.out))
          have HC := Lib.hid (good43 x.n x.a (wr.alloc (.cells #[.string x.n, .bool x.a] 60)))
          go_wp2_with fail
          refine HC.out.mono ?_
          rintro e wz ⟨rfl, hbz⟩
          have HBZ : Hid (Below w.heap.size w wz) := Lib.hid ((bl_al' HBR.out).trans (hbz.mono (bl_al' (o := .cells #[.string x.n, .bool x.a] 60) HBR.out).size))
          have HBL := Lib.hid ((HB.out.below (below1 wr _)).below hbz)
          clear hbz
          cases hc : goodB x.n with
          | false =>
            have HNO := Lib.hid (HNX.out (by rw [hc]; simp))
            clear hc
            go_wp2
            go_ret
            exact IffP.no rfl HNO.out HBZ.out
          | true =>
          have HCC : Hid (goodB x.n = true) := Lib.hid hc
          clear hc q0 q1 HB HBR
          go_wp2
          go_roundw
          case rel => exact ⟨k + 1, by omega, by go_num, HBL, Lib.hid (all_snk HX.out HAL.out HCC.out), HBZ⟩
          case measure => simp [intOf]; omega
        · have HALL1 : Hid (∀ y ∈ f.ty, goodB y.n = true) := Lib.hid (by have h := HAL.out; rwa [List.take_of_length_le (by have := E3.out; omega)] at h)
          obtain ⟨wq, hwq⟩ : ∃ wq, wq = wr := ⟨_, rfl⟩
          subst hwq
          clear HAL hsr
          have p6 := HB.out.cell 7
          simp only [List.getElem?_cons_succ, List.getElem?_cons_zero] at p6
          go_wp2
          clear p6
          go_loopw [62] (fun i wr => ∃ k : Nat, k ≤ n4 ∧ i = .int .i64 k ∧ Hid (Blk wr w.heap.size [.string f.fc.name, .string f.fc.sup, .slice a8 n8 c8, .slice a9 n0 c9, .slice a1 n1 c1, .slice a2 n2 c2, .slice a3 n3 c3, .slice a4 n4 c4, .slice a5 n5 c5, .slice a0 n0 c0] 35) ∧ Hid (∀ y ∈ f.fd.take k, FdS y) ∧ Hid (Below w.heap.size w wr)) (fun i _ => n4 - (intOf i).toNat)
          case atStart => exact ⟨0, Nat.zero_le _, rfl, HB, Lib.hid (by intro y hy; simp at hy), HBR⟩
          case round =>
            clear HB HBR
            obtain ⟨k, hk, rfl, HB, HAL, HBR⟩ := hrel
            have hsr := HBR.out.size
            by_cases hkl : k < n4
            · obtain ⟨x, hx⟩ : ∃ v, f.fd[k]? = some v := ⟨_, List.getElem?_eq_getElem (by have := E4.out; omega)⟩
              obtain ⟨g, o, cs, rfl, hcell, rfl⟩ := HK4.out k x hx
              have q0 : wr.cell? ⟨g, o + k * 4, none⟩ = some (.string x.1.name) := (HBR.out.cell (World.block_lt_of_cell? _ _ (hcell 0 _ rfl))).trans (hcell 0 _ rfl)
              have q1 : wr.cell? ⟨g, o + k * 4 + 1, none⟩ = some (.string x.1.tn) := (HBR.out.cell (World.block_lt_of_cell? _ _ (hcell 1 _ rfl))).trans (hcell 1 _ rfl)
              have q2 : wr.cell? ⟨g, o + k * 4 + 2, none⟩ = some (.bool x.1.ta) := (HBR.out.cell (World.block_lt_of_cell? _ _ (hcell 2 _ rfl))).trans (hcell 2 _ rfl)
              have q3 : wr.cell? ⟨g, o + k * 4 + 3, none⟩ = some (.string x.2) := (HBR.out.cell (World.block_lt_of_cell? _ _ (hcell 3 _ rfl))).trans (hcell 3 _ rfl)
              have HX := Lib.hid hx
              have HXM := Lib.hid (List.mem_of_getElem? hx)
              clear hcell hx
              have HNX : Hid (¬ FdS x → ¬ RightS f) := Lib.hid (fun hn h => hn (h.fd x HXM.out))
              obtain ⟨W2, HW2⟩ : ∃ W, Hid (W = wr.alloc (.cells #[.string x.1.name, .string x.1.tn, .bool x.1.ta, .string x.2] 77)) := ⟨_, Lib.hid rfl⟩
              have X2 : Hid (Blk W2 wr.heap.size [.string x.1.name, .string x.1.tn, .bool x.1.ta, .string x.2] 77) := Lib.hid (by rw [HW2.out]; exact Blk.new wr _ 77)
              have HB2 : Hid (Blk W2 w.heap.size [.string f.fc.name, .string f.fc.sup, .slice a8 n8 c8, .slice a9 n0 c9, .slice a1 n1 c1, .slice a2 n2 c2, .slice a3 n3 c3, .slice (some ⟨g, o, none⟩) n4 c4, .slice a5 n5 c5, .slice a0 n0 c0] 35) := Lib.hid (by rw [HW2.out]; exact HB.out.below (below1 wr _))
              have HBR2 : Hid (Below w.heap.size w W2) := Lib.hid (by rw [HW2.out]; exact bl_al' HBR.out)
              obtain ⟨X, HXE⟩ : ∃ b, Hid (b = wr.heap.size) := ⟨_, Lib.hid rfl⟩
              rw [← HXE.out] at X2
              go_upto_region 19 with fail
              rw [← HW2.out, ← HXE.out]
              clear HW2 HXE HB HBR q0 q1 q2 q3
              have p0 := X2.out.cell 0
              have p1 := X2.out.cell 1
              have p2 := X2.out.cell 2
              have p3 := X2.out.cell 3
              simp only [List.getElem?_cons_succ, List.getElem?_cons_zero] at p0 p1 p2 p3
              have HC := Lib.hid (clos29 x.2 W2)
              have HG := Lib.hid (good43 x.1.tn x.1.ta W2)
              cases hc : classB x.2 with
              | false =>
                have HNO := Lib.hid (HNX.out (fun h => by have := h.1; rw [hc] at this; cases this))
                rw [hc] at HC
                clear hc
                go_wp2_with fail
                refine HC.out.mono ?_
                rintro e wz ⟨rfl, rfl⟩
                go_wp2
                go_ret
                exact IffP.no rfl HNO.out HBR2.out
              | true =>
              have HC1 : Hid (classB x.2 = true) := Lib.hid hc
              rw [hc] at HC
              clear hc
              by_cases hz : 0 < x.1.name.size
              rotate_left
              · have HNO := Lib.hid (HNX.out (fun h => hz h.2.1))
                have hE : x.1.name.toList = [] := by rw [ByteArray.toList_eq, ← List.length_eq_zero_iff]; show x.1.name.size = 0; omega
                have hE2 : x.1.name.toList.isEmpty = true := by rw [hE]; rfl
                clear hz
                go_wp2_with fail
                refine HC.out.mono ?_
                rintro e wz ⟨rfl, rfl⟩
                go_wp2
                go_ret
                exact IffP.no rfl HNO.out HBR2.out
              have HZ := Lib.hid hz
              have hE2 : x.1.name.toList.isEmpty = false := by
                cases h : x.1.name.toList.isEmpty
                · rfl
                · rw [ByteArray.toList_eq, List.isEmpty_iff, ← List.length_eq_zero_iff] at h; exact absurd h (by show ¬ x.1.name.size = 0; omega)
              clear hz
              by_cases h40 : x.1.name.size ≤ 40
              rotate_left
              · have HNO := Lib.hid (HNX.out (fun h => h40 h.2.2.1))
                have d40 : decide ((40 : Int) < (x.1.name.size : Int)) = true := decide_eq_true (by omega)
                clear h40
                go_wp2_with fail
                refine HC.out.mono ?_
                rintro e wz ⟨rfl, rfl⟩
                go_wp2
                go_ret
                exact IffP.no rfl HNO.out HBR2.out
              have H40 := Lib.hid h40
              have d40 : decide ((40 : Int) < (x.1.name.size : Int)) = false := decide_eq_false (by omega)
              clear h40
              go_wp2_with fail
              refine HC.out.mono ?_
              rintro e wz ⟨rfl, rfl⟩
              go_wp2_with fail
              refine HG.out.mono ?_
              rintro e wz ⟨rfl, hbz⟩
              have HBZ : Hid (Below w.heap.size w wz) := Lib.hid (HBR2.out.trans (hbz.mono HBR2.out.size))
              have HBL := Lib.hid (HB2.out.below hbz)
              clear hbz
              cases hc : goodB x.1.tn with
              | false =>
                have HNO := Lib.hid (HNX.out (fun h => by have := h.2.2.2; rw [hc] at this; cases this))
                clear hc
                go_wp2
                go_ret
                exact IffP.no rfl HNO.out HBZ.out
              | true =>
              have HCC : Hid (goodB x.1.tn = true) := Lib.hid hc
              clear hc HB2 HBR2 X2 p0 p1 p2 p3 hE2 d40 HC HG
              go_wp2
              go_roundw
              case rel => exact ⟨k + 1, by omega, by go_num, HBL, Lib.hid (all_snk HX.out HAL.out ⟨HC1.out, HZ.out, H40.out, HCC.out⟩), HBZ⟩
              case measure => simp [intOf]; omega
            · have HALL2 : Hid (∀ y ∈ f.fd, FdS y) := Lib.hid (by have h := HAL.out; rwa [List.take_of_length_le (by have := E4.out; omega)] at h)
              obtain ⟨wq, hwq⟩ : ∃ wq, wq = wr := ⟨_, rfl⟩
              subst hwq
              clear HAL hsr
              have p7 := HB.out.cell 8
              simp only [List.getElem?_cons_succ, List.getElem?_cons_zero] at p7
              go_wp2
              clear p7
              go_loopw [96] (fun i wr => ∃ k : Nat, k ≤ n5 ∧ i = .int .i64 k ∧ Hid (Blk wr w.heap.size [.string f.fc.name, .string f.fc.sup, .slice a8 n8 c8, .slice a9 n0 c9, .slice a1 n1 c1, .slice a2 n2 c2, .slice a3 n3 c3, .slice a4 n4 c4, .slice a5 n5 c5, .slice a0 n0 c0] 35) ∧ Hid (∀ y ∈ f.mt.take k, MtS y) ∧ Hid (Below w.heap.size w wr)) (fun i _ => n5 - (intOf i).toNat)
              case atStart => exact ⟨0, Nat.zero_le _, rfl, HB, Lib.hid (by intro y hy; simp at hy), HBR⟩
              case round =>
                clear HB HBR
                obtain ⟨k, hk, rfl, HB, HAL, HBR⟩ := hrel
                have hsr := HBR.out.size
                by_cases hkl : k < n5
                · obtain ⟨x, hx⟩ : ∃ v, f.mt[k]? = some v := ⟨_, List.getElem?_eq_getElem (by have := E5.out; omega)⟩
                  obtain ⟨g, o, cs, rfl, hcell, a6, n6, c6, rfl, hps⟩ := HK5.out k x hx
                  have q0 : wr.cell? ⟨g, o + k * 6, none⟩ = some (.string x.1.name) := (HBR.out.cell (World.block_lt_of_cell? _ _ (hcell 0 _ rfl))).trans (hcell 0 _ rfl)
                  have q1 : wr.cell? ⟨g, o + k * 6 + 1, none⟩ = some (.bool x.1.st) := (HBR.out.cell (World.block_lt_of_cell? _ _ (hcell 1 _ rfl))).trans (hcell 1 _ rfl)
                  have q2 : wr.cell? ⟨g, o + k * 6 + 2, none⟩ = some (.slice a6 n6 c6) := (HBR.out.cell (World.block_lt_of_cell? _ _ (hcell 2 _ rfl))).trans (hcell 2 _ rfl)
                  have q3 : wr.cell? ⟨g, o + k * 6 + 3, none⟩ = some (.string x.1.rn) := (HBR.out.cell (World.block_lt_of_cell? _ _ (hcell 3 _ rfl))).trans (hcell 3 _ rfl)
                  have q4 : wr.cell? ⟨g, o + k * 6 + 4, none⟩ = some (.bool x.1.ra) := (HBR.out.cell (World.block_lt_of_cell? _ _ (hcell 4 _ rfl))).trans (hcell 4 _ rfl)
                  have q5 : wr.cell? ⟨g, o + k * 6 + 5, none⟩ = some (.string x.2) := (HBR.out.cell (World.block_lt_of_cell? _ _ (hcell 5 _ rfl))).trans (hcell 5 _ rfl)
                  have HX := Lib.hid hx
                  have HXM := Lib.hid (List.mem_of_getElem? hx)
                  have HPS := Lib.hid hps
                  clear hps
                  clear hcell hx
                  have HNX : Hid (¬ MtS x → ¬ RightS f) := Lib.hid (fun hn h => hn (h.mt x HXM.out))
                  obtain ⟨W2, HW2⟩ : ∃ W, Hid (W = ((wr.alloc (.cells #[.string x.1.name, .bool x.1.st, .slice a6 n6 c6, .string x.1.rn, .bool x.1.ra, .string x.2] 79)).alloc (.cells #[.string x.1.name, .bool x.1.st, .slice a6 n6 c6, .string x.1.rn, .bool x.1.ra] 63)).alloc (.cells #[.string ⟨#[65]⟩, .string ⟨#[]⟩, .slice none 0 0, .slice (some ⟨wr.heap.size + 1, 0, none⟩) 1 1] 25)) := ⟨_, Lib.hid rfl⟩
                  have hb3 : Below wr.heap.size wr W2 := by rw [HW2.out]; exact ((below2 wr _ _).alloc (by simp; omega) _)
                  have X2 : Hid (Blk W2 wr.heap.size [.string x.1.name, .bool x.1.st, .slice a6 n6 c6, .string x.1.rn, .bool x.1.ra, .string x.2] 79) := Lib.hid (by rw [HW2.out]; exact ((Blk.new wr _ 79).below (below1 _ _)).below (below1 _ _))
                  have Y2 : Hid (Blk W2 (wr.heap.size + 1) [.string x.1.name, .bool x.1.st, .slice a6 n6 c6, .string x.1.rn, .bool x.1.ra] 63) := Lib.hid (by rw [HW2.out]; exact (show Blk _ (wr.heap.size + 1) [.string x.1.name, .bool x.1.st, .slice a6 n6 c6, .string x.1.rn, .bool x.1.ra] 63 by have := Blk.new (wr.alloc (.cells #[.string x.1.name, .bool x.1.st, .slice a6 n6 c6, .string x.1.rn, .bool x.1.ra, .string x.2] 79)) [.string x.1.name, .bool x.1.st, .slice a6 n6 c6, .string x.1.rn, .bool x.1.ra] 63; simpa using this).below (below1 _ _))
                  have Z2 : Hid (Blk W2 (wr.heap.size + 1 + 1) [.string ⟨#[65]⟩, .string ⟨#[]⟩, .slice none 0 0, .slice (some ⟨wr.heap.size + 1, 0, none⟩) 1 1] 25) := Lib.hid (by rw [HW2.out]; have := Blk.new ((wr.alloc (.cells #[.string x.1.name, .bool x.1.st, .slice a6 n6 c6, .string x.1.rn, .bool x.1.ra, .string x.2] 79)).alloc (.cells #[.string x.1.name, .bool x.1.st, .slice a6 n6 c6, .string x.1.rn, .bool x.1.ra] 63)) [.string ⟨#[65]⟩, .string ⟨#[]⟩, .slice none 0 0, .slice (some ⟨wr.heap.size + 1, 0, none⟩) 1 1] 25; simpa using this)
                  have HB2 : Hid (Blk W2 w.heap.size [.string f.fc.name, .string f.fc.sup, .slice a8 n8 c8, .slice a9 n0 c9, .slice a1 n1 c1, .slice a2 n2 c2, .slice a3 n3 c3, .slice a4 n4 c4, .slice (some ⟨g, o, none⟩) n5 c5, .slice a0 n0 c0] 35) := Lib.hid (HB.out.below hb3)
                  have HBR2 : Hid (Below w.heap.size w W2) := Lib.hid (HBR.out.trans (hb3.mono HBR.out.size))
                  have HPS2 : Hid (Sl W2 2 TyR x.1.ps (.slice a6 n6 c6)) := Lib.hid (tys_keep (Keeps.of_below HBR2.out) HPS.out)
                  obtain ⟨X, HXE⟩ : ∃ b, Hid (b = wr.heap.size) := ⟨_, Lib.hid rfl⟩
                  have HR := Lib.hid (right10 ⟨⟨#[65]⟩, ⟨#[]⟩, [], [x.1]⟩ [.string ⟨#[65]⟩, .string ⟨#[]⟩, .slice none 0 0, .slice (some ⟨wr.heap.size + 1, 0, none⟩) 1 1] W2 ⟨none, 0, 0, some ⟨wr.heap.size + 1, 0, none⟩, 1, 1, rfl, Sl.nil _ _ _, Sl.one Y2.out ⟨a6, n6, c6, rfl, HPS2.out⟩⟩)
                  rw [← HXE.out] at X2 Y2 Z2 HR
                  go_upto_region 26 with fail
                  rw [← HW2.out, ← HXE.out]
                  clear HW2 HXE HB HBR hb3 q0 q1 q2 q3 q4 q5
                  have p5 := X2.out.cell 5
                  have z0 := Z2.out.cell 0
                  have z1 := Z2.out.cell 1
                  have z2 := Z2.out.cell 2
                  have z3 := Z2.out.cell 3
                  simp only [List.getElem?_cons_succ, List.getElem?_cons_zero] at p5 z0 z1 z2 z3
                  have HC := Lib.hid (clos29 x.2 W2)
                  cases hc : classB x.2 with
                  | false =>
                    have HNO := Lib.hid (HNX.out (fun h => by have := h.1; rw [hc] at this; cases this))
                    rw [hc] at HC
                    clear hc
                    go_wp2_with fail
                    refine HC.out.mono ?_
                    rintro e wz ⟨rfl, rfl⟩
                    go_wp2
                    go_ret
                    exact IffP.no rfl HNO.out HBR2.out
                  | true =>
                  have HC1 : Hid (classB x.2 = true) := Lib.hid hc
                  rw [hc] at HC
                  clear hc
                  go_wp2_with fail
                  refine HC.out.mono ?_
                  rintro e wz ⟨rfl, rfl⟩
                  go_wp2_with fail
                  refine HR.out.mono ?_
                  rintro e wz ⟨r, rfl, hr, hbz⟩
                  have HBZ : Hid (Below w.heap.size w wz) := Lib.hid (HBR2.out.trans (hbz.mono HBR2.out.size))
                  have HBL := Lib.hid (HB2.out.below hbz)
                  have HRR := Lib.hid hr
                  clear hbz hr HC HR
                  cases r with
                  | false =>
                    have HNO := Lib.hid (HNX.out (fun h => by have := HRR.out.2 h.2; cases this))
                    go_wp2
                    go_ret
                    exact IffP.no rfl HNO.out HBZ.out
                  | true =>
                  have HCC := Lib.hid (HRR.out.1 rfl)
                  clear HB2 HBR2 X2 Y2 Z2 p5 z0 z1 z2 z3 HPS2 HRR
                  go_wp2
                  go_roundw
                  case rel => exact ⟨k + 1, by omega, by go_num, HBL, Lib.hid (all_snk HX.out HAL.out ⟨HC1.out, HCC.out⟩), HBZ⟩
                  case measure => simp [intOf]; omega
                · have HALL3 : Hid (∀ y ∈ f.mt, MtS y) := Lib.hid (by have h := HAL.out; rwa [List.take_of_length_le (by have := E5.out; omega)] at h)
                  obtain ⟨wq, hwq⟩ : ∃ wq, wq = wr := ⟨_, rfl⟩
                  subst hwq
                  clear HAL hsr
                  have p9 := HB.out.cell 9
                  simp only [List.getElem?_cons_succ, List.getElem?_cons_zero] at p9
                  go_wp2
                  clear p9
                  go_loopw [118] (fun i wr => ∃ k : Nat, k ≤ n0 ∧ i = .int .i64 k ∧ Hid (Blk wr w.heap.size [.string f.fc.name, .string f.fc.sup, .slice a8 n8 c8, .slice a9 n0 c9, .slice a1 n1 c1, .slice a2 n2 c2, .slice a3 n3 c3, .slice a4 n4 c4, .slice a5 n5 c5, .slice a0 n0 c0] 35) ∧ Hid (∀ j s b, j < k → f.fc.ms[j]? = some s → f.bd[j]? = some b → BodyP n1 n2 n3 n4 n5 s b) ∧ Hid (Below w.heap.size w wr)) (fun i _ => n0 - (intOf i).toNat)
                  case atStart => exact ⟨0, Nat.zero_le _, rfl, HB, Lib.hid (by intro j s b h; omega), HBR⟩
                  case round =>
                    clear HB HBR
                    obtain ⟨k, hk, rfl, HB, HAL, HBR⟩ := hrel
                    have hsr := HBR.out.size
                    by_cases hkl : k < n0
                    · obtain ⟨s, hs⟩ : ∃ v, f.fc.ms[k]? = some v := ⟨_, List.getElem?_eq_getElem (by have := E9.out; omega)⟩
                      obtain ⟨b, hbk⟩ : ∃ v, f.bd[k]? = some v := ⟨_, List.getElem?_eq_getElem (by have := E0.out; omega)⟩
                      obtain ⟨g9, o9, cs9, rfl, hc9, a7, n7, c7, rfl, hsl7⟩ := HK9.out k s hs
                      obtain ⟨g0, o0, cs0, rfl, hc0, a6, n6, c6, rfl, hsl6⟩ := HK0.out k b hbk
                      have old : ∀ {p : Addr} {v : Value} (z : World), Below w.heap.size w z → w.cell? p = some v → z.cell? p = some v := fun z hz h => (hz.cell (World.block_lt_of_cell? _ _ h)).trans h
                      have HM1 : Hid (∀ z, Below w.heap.size w z → z.cell? ⟨g9, o9 + k * 5 + 1, none⟩ = some (.bool s.st)) := Lib.hid (fun z hz => old z hz (hc9 1 _ rfl))
                      have HM2 : Hid (∀ z, Below w.heap.size w z → z.cell? ⟨g9, o9 + k * 5 + 2, none⟩ = some (.slice a7 n7 c7)) := Lib.hid (fun z hz => old z hz (hc9 2 _ rfl))
                      have q0 := old wr HBR.out (hc0 0 _ rfl)
                      have q1 := old wr HBR.out (hc0 1 _ rfl)
                      have q2 := old wr HBR.out (hc0 2 _ rfl)
                      simp only [Nat.add_zero] at q0
                      obtain ⟨e6, l6, k6, hk6⟩ := hsl6.at
                      obtain ⟨e7, l7, k7, _⟩ := hsl7.at
                      unfold maxLen at k6 k7
                      have h7 : n7 ≤ 200 := by have := (HRP.out.ms k s hs).2.2.2.1; omega
                      have E6 := Lib.hid e6
                      have HK6 := Lib.hid hk6
                      have HGV : Hid ((givenN s : Int) = if s.st then (n7 : Int) else (n7 : Int) + 1) := Lib.hid (by unfold givenN; rw [e7]; cases s.st <;> simp)
                      have HSK := Lib.hid hs
                      have HBK := Lib.hid hbk
                      have HNX : Hid (¬ BodyP n1 n2 n3 n4 n5 s b → ¬ RightS f) := Lib.hid (fun hn h => hn (by have := h.bd k s b HSK.out HBK.out; rw [← HN1.out, ← E2.out, ← E3.out, ← E4.out, ← E5.out] at this; exact this))
                      obtain ⟨W2, HW2⟩ : ∃ W, Hid (W = wr.alloc (.cells #[.int .i64 b.lo, .int .i64 b.st, .slice a6 n6 c6] 69)) := ⟨_, Lib.hid rfl⟩
                      have X2 : Hid (Blk W2 wr.heap.size [.int .i64 b.lo, .int .i64 b.st, .slice a6 n6 c6] 69) := Lib.hid (by rw [HW2.out]; exact Blk.new wr _ 69)
                      have HB2 : Hid (Blk W2 w.heap.size [.string f.fc.name, .string f.fc.sup, .slice a8 n8 c8, .slice (some ⟨g9, o9, none⟩) n0 c9, .slice a1 n1 c1, .slice a2 n2 c2, .slice a3 n3 c3, .slice a4 n4 c4, .slice a5 n5 c5, .slice (some ⟨g0, o0, none⟩) n0 c0] 35) := Lib.hid (by rw [HW2.out]; exact HB.out.below (below1 wr _))
                      have HBR2 : Hid (Below w.heap.size w W2) := Lib.hid (by rw [HW2.out]; exact bl_al' HBR.out)
                      obtain ⟨X, HXE⟩ : ∃ b, Hid (b = wr.heap.size) := ⟨_, Lib.hid rfl⟩
                      rw [← HXE.out] at X2
                      clear hc9 hc0 hsl7 hsl6 e6 e7 hk6 old hs hbk
                      go_upto_region 32 with fail
                      rw [← HW2.out, ← HXE.out]
                      clear HW2 HXE HB HBR q0 q1 q2
                      have f3 := HB2.out.cell 3
                      have m1 := HM1.out W2 HBR2.out
                      have m2 := HM2.out W2 HBR2.out
                      have p0 := X2.out.cell 0
                      have p1 := X2.out.cell 1
                      have p2 := X2.out.cell 2
                      simp only [List.getElem?_cons_succ, List.getElem?_cons_zero] at f3 p0 p1 p2
                      clear HM1 HM2
                      cases hst : s.st with
                      | true =>
                        rw [hst] at m1 HGV
                        have HGV : Hid ((givenN s : Int) = (n7 : Int)) := Lib.hid (by simpa using HGV.out)
                        clear hst
                        go_upto_region 35 with fail
                        clear m1 m2 f3
                        by_cases u1 : b.lo < (n7 : Int)
                        · have HNO := Lib.hid (HNX.out (fun h => h.l1 (by have hg := HGV.out; omega)))
                          have d1 : decide (b.lo < (n7 : Int)) = true := decide_eq_true (by omega)
                          clear u1
                          go_wp2
                          go_ret
                          exact IffP.no rfl HNO.out HBR2.out
                        have U1 : Hid (¬ b.lo < (n7 : Int)) := Lib.hid u1
                        have d1 : decide (b.lo < (n7 : Int)) = false := decide_eq_false (by omega)
                        clear u1
                        by_cases u2 : 401 < b.lo
                        · have HNO := Lib.hid (HNX.out (fun h => h.l2 u2))
                          have d2 : decide (401 < b.lo) = true := decide_eq_true (by omega)
                          clear u2
                          go_wp2
                          go_ret
                          exact IffP.no rfl HNO.out HBR2.out
                        have U2 : Hid (¬ 401 < b.lo) := Lib.hid u2
                        have d2 : decide (401 < b.lo) = false := decide_eq_false (by omega)
                        clear u2
                        by_cases u3 : b.st < 0
                        · have HNO := Lib.hid (HNX.out (fun h => h.s1 u3))
                          have d3 : decide (b.st < 0) = true := decide_eq_true (by omega)
                          clear u3
                          go_wp2
                          go_ret
                          exact IffP.no rfl HNO.out HBR2.out
                        have U3 : Hid (¬ b.st < 0) := Lib.hid u3
                        have d3 : decide (b.st < 0) = false := decide_eq_false (by omega)
                        clear u3
                        by_cases u4 : 1000 < b.st
                        · have HNO := Lib.hid (HNX.out (fun h => h.s2 u4))
                          have d4 : decide (1000 < b.st) = true := decide_eq_true (by omega)
                          clear u4
                          go_wp2
                          go_ret
                          exact IffP.no rfl HNO.out HBR2.out
                        have U4 : Hid (¬ 1000 < b.st) := Lib.hid u4
                        have d4 : decide (1000 < b.st) = false := decide_eq_false (by omega)
                        clear u4
                        by_cases u5 : n6 = 0
                        · have HNO := Lib.hid (HNX.out (fun h => by have := h.co.1; have := E6.out; omega))
                          have d5 : ((n6 : Int) == 0) = true := by simp; omega
                          clear u5
                          go_wp2
                          go_ret
                          exact IffP.no rfl HNO.out HBR2.out
                        have U5 : Hid (¬ n6 = 0) := Lib.hid u5
                        have d5 : ((n6 : Int) == 0) = false := by simp; omega
                        clear u5
                        by_cases u6 : 16384 < n6
                        · have HNO := Lib.hid (HNX.out (fun h => by have := h.co.2.1; have := E6.out; omega))
                          have d6 : decide (16384 < (n6 : Int)) = true := decide_eq_true (by omega)
                          clear u6
                          go_wp2
                          go_ret
                          exact IffP.no rfl HNO.out HBR2.out
                        have U6 : Hid (¬ 16384 < n6) := Lib.hid u6
                        have d6 : decide (16384 < (n6 : Int)) = false := decide_eq_false (by omega)
                        clear u6
                        have HBPF : Hid (∀ h : CodeP n1 n2 n3 n4 n5 b.lo b.co.length b.co, BodyP n1 n2 n3 n4 n5 s b) := Lib.hid (fun h => ⟨by have hg := HGV.out; have := U1.out; omega, U2.out, U3.out, U4.out, h⟩)
                        have HCL : Hid (1 ≤ b.co.length ∧ b.co.length ≤ 16384) := Lib.hid (by have := E6.out; have := U5.out; have := U6.out; omega)
                        clear U1 U2 U3 U4 U5 U6 HGV
                        go_wp2
                        clear p0 p1 p2 d1 d2 d3 d4 d5 d6
                        go_loopw [175] (fun i wr => ∃ j : Nat, j ≤ n6 ∧ i = .int .i64 j ∧ Hid (Blk wr w.heap.size [.string f.fc.name, .string f.fc.sup, .slice a8 n8 c8, .slice (some ⟨g9, o9, none⟩) n0 c9, .slice a1 n1 c1, .slice a2 n2 c2, .slice a3 n3 c3, .slice a4 n4 c4, .slice a5 n5 c5, .slice (some ⟨g0, o0, none⟩) n0 c0] 35) ∧ Hid (Blk wr X [.int .i64 b.lo, .int .i64 b.st, .slice a6 n6 c6] 69) ∧ Hid (∀ i x, i < j → b.co[i]? = some x → rightB (kd x.1) x.2 (manyN n1 n2 n3 n4 n5 b.lo n6 (poolN (kd x.1))) = true) ∧ Hid (Below w.heap.size w wr)) (fun i _ => n6 - (intOf i).toNat)
                        case atStart => exact ⟨0, Nat.zero_le _, rfl, HB2, X2, Lib.hid (by intro i x h; omega), HBR2⟩
                        case round =>
                          clear HB2 X2 HBR2
                          obtain ⟨j, hj, rfl, HB, HX, HCO, HBR⟩ := hrel
                          have hsz := HBR.out.size
                          by_cases hjl : j < n6
                          · obtain ⟨x, hx⟩ : ∃ v, b.co[j]? = some v := ⟨_, List.getElem?_eq_getElem (by have := E6.out; omega)⟩
                            obtain ⟨g, o, cs, rfl, hcell, rfl⟩ := HK6.out j x hx
                            have p0 : wr.cell? ⟨g, o + j * 2, none⟩ = some (.int .i64 x.1) := (HBR.out.cell (World.block_lt_of_cell? _ _ (hcell 0 _ rfl))).trans (hcell 0 _ rfl)
                            have p1 : wr.cell? ⟨g, o + j * 2 + 1, none⟩ = some (.int .i64 x.2) := (HBR.out.cell (World.block_lt_of_cell? _ _ (hcell 1 _ rfl))).trans (hcell 1 _ rfl)
                            have HC := Lib.hid (right17_32 x.1 x.2 (manyN n1 n2 n3 n4 n5 b.lo n6 (poolN (kd x.1))) (some ⟨w.heap.size, 0, none⟩) (some ⟨X, 0, none⟩) (wr.alloc (.cells #[.int .i64 x.1, .int .i64 x.2] 66)) (HT.out.below (bl_al' HBR.out)) (fun y hy => by
                              have hn : Below wr.heap.size wr y := (below1 wr _).trans (hy.mono (by simp))
                              exact clos32 _ _ a8 n8 c8 _ n0 c9 a1 n1 c1 a2 n2 c2 a3 n3 c3 a4 n4 c4 a5 n5 c5 _ n0 c0 b.lo b.st _ n6 c6 w.heap.size X _ y (HB.out.below hn) (HX.out.below hn)))
                            have HX' := Lib.hid hx
                            obtain ⟨r, hr⟩ : ∃ r, r = rightB (kd x.1) x.2 (manyN n1 n2 n3 n4 n5 b.lo n6 (poolN (kd x.1))) := ⟨_, rfl⟩
                            rw [← hr] at HC
                            have HR := Lib.hid hr
                            have HB2 := Lib.hid (HB.out.below (below1 wr (.cells #[.int .i64 x.1, .int .i64 x.2] 66)))
                            have HX2 := Lib.hid (HX.out.below (below1 wr (.cells #[.int .i64 x.1, .int .i64 x.2] 66)))
                            have HBR2 : Hid (Below w.heap.size w (wr.alloc (.cells #[.int .i64 x.1, .int .i64 x.2] 66))) := Lib.hid (bl_al' HBR.out)
                            clear hcell hx hr
                            go_wp2_with fail
                            refine HC.out.mono ?_
                            rintro e wy ⟨rfl, hby⟩
                            have HBY : Hid (Below w.heap.size w wy) := Lib.hid (HBR2.out.trans (hby.mono HBR2.out.size))
                            have HB3 := Lib.hid (HB2.out.below hby)
                            have HX3 := Lib.hid (HX2.out.below hby)
                            clear hby HC p0 p1 HB HX HBR HB2 HX2 HBR2
                            cases r with
                            | false =>
                              have HNO := Lib.hid (HNX.out (fun h => by have := h.co.2.2 x (List.mem_of_getElem? HX'.out); rw [← E6.out, ← HR.out] at this; cases this))
                              go_wp2
                              go_ret
                              exact IffP.no rfl HNO.out HBY.out
                            | true =>
                            have HA2 : Hid (∀ i y, i < j + 1 → b.co[i]? = some y → rightB (kd y.1) y.2 (manyN n1 n2 n3 n4 n5 b.lo n6 (poolN (kd y.1))) = true) := Lib.hid (fun i y hi hy => by
                              rcases Nat.lt_succ_iff_lt_or_eq.1 hi with hi | rfl
                              · exact HCO.out i y hi hy
                              · rw [HX'.out] at hy; cases hy; exact HR.out.symm)
                            clear HCO
                            go_wp2
                            go_roundw
                            case rel => exact ⟨j + 1, by omega, by go_num, HB3, HX3, HA2, HBY⟩
                            case measure => simp [intOf]; omega
                          · have HBP : Hid (BodyP n1 n2 n3 n4 n5 s b) := Lib.hid (HBPF.out ⟨HCL.out.1, HCL.out.2, fun x hx => by
                              obtain ⟨i, hi⟩ := List.getElem?_of_mem hx
                              have hl := (List.getElem?_eq_some_iff.1 hi).1
                              rw [← E6.out]
                              exact HCO.out i x (by have := E6.out; omega) hi⟩)
                            have HA2 : Hid (∀ j s' b', j < k + 1 → f.fc.ms[j]? = some s' → f.bd[j]? = some b' → BodyP n1 n2 n3 n4 n5 s' b') := Lib.hid (fun j s' b' hj h1 h2 => by
                              rcases Nat.lt_succ_iff_lt_or_eq.1 hj with hj | rfl
                              · exact HAL.out j s' b' hj h1 h2
                              · rw [HSK.out] at h1; rw [HBK.out] at h2; cases h1; cases h2; exact HBP.out)
                            clear HAL HCO HX HBP
                            go_wp2
                            go_roundw
                            case rel => exact ⟨k + 1, by omega, by go_num, HB, HA2, HBR⟩
                            case measure => simp [intOf]; omega
                      | false =>
                        rw [hst] at m1 HGV
                        have HGV : Hid ((givenN s : Int) = ((n7 : Int) + 1)) := Lib.hid (by simpa using HGV.out)
                        clear hst
                        go_upto_region 35 with fail
                        clear m1 m2 f3
                        by_cases u1 : b.lo < ((n7 : Int) + 1)
                        · have HNO := Lib.hid (HNX.out (fun h => h.l1 (by have hg := HGV.out; omega)))
                          have d1 : decide (b.lo < ((n7 : Int) + 1)) = true := decide_eq_true (by omega)
                          clear u1
                          go_wp2
                          go_ret
                          exact IffP.no rfl HNO.out HBR2.out
                        have U1 : Hid (¬ b.lo < ((n7 : Int) + 1)) := Lib.hid u1
                        have d1 : decide (b.lo < ((n7 : Int) + 1)) = false := decide_eq_false (by omega)
                        clear u1
                        by_cases u2 : 401 < b.lo
                        · have HNO := Lib.hid (HNX.out (fun h => h.l2 u2))
                          have d2 : decide (401 < b.lo) = true := decide_eq_true (by omega)
                          clear u2
                          go_wp2
                          go_ret
                          exact IffP.no rfl HNO.out HBR2.out
                        have U2 : Hid (¬ 401 < b.lo) := Lib.hid u2
                        have d2 : decide (401 < b.lo) = false := decide_eq_false (by omega)
                        clear u2
                        by_cases u3 : b.st < 0
                        · have HNO := Lib.hid (HNX.out (fun h => h.s1 u3))
                          have d3 : decide (b.st < 0) = true := decide_eq_true (by omega)
                          clear u3
                          go_wp2
                          go_ret
                          exact IffP.no rfl HNO.out HBR2.out
                        have U3 : Hid (¬ b.st < 0) := Lib.hid u3
                        have d3 : decide (b.st < 0) = false := decide_eq_false (by omega)
                        clear u3
                        by_cases u4 : 1000 < b.st
                        · have HNO := Lib.hid (HNX.out (fun h => h.s2 u4))
                          have d4 : decide (1000 < b.st) = true := decide_eq_true (by omega)
                          clear u4
                          go_wp2
                          go_ret
                          exact IffP.no rfl HNO.out HBR2.out
                        have U4 : Hid (¬ 1000 < b.st) := Lib.hid u4
                        have d4 : decide (1000 < b.st) = false := decide_eq_false (by omega)
                        clear u4
                        by_cases u5 : n6 = 0
                        · have HNO := Lib.hid (HNX.out (fun h => by have := h.co.1; have := E6.out; omega))
                          have d5 : ((n6 : Int) == 0) = true := by simp; omega
                          clear u5
                          go_wp2
                          go_ret
                          exact IffP.no rfl HNO.out HBR2.out
                        have U5 : Hid (¬ n6 = 0) := Lib.hid u5
                        have d5 : ((n6 : Int) == 0) = false := by simp; omega
                        clear u5
                        by_cases u6 : 16384 < n6
                        · have HNO := Lib.hid (HNX.out (fun h => by have := h.co.2.1; have := E6.out; omega))
                          have d6 : decide (16384 < (n6 : Int)) = true := decide_eq_true (by omega)
                          clear u6
                          go_wp2
                          go_ret
                          exact IffP.no rfl HNO.out HBR2.out
                        have U6 : Hid (¬ 16384 < n6) := Lib.hid u6
                        have d6 : decide (16384 < (n6 : Int)) = false := decide_eq_false (by omega)
                        clear u6
                        have HBPF : Hid (∀ h : CodeP n1 n2 n3 n4 n5 b.lo b.co.length b.co, BodyP n1 n2 n3 n4 n5 s b) := Lib.hid (fun h => ⟨by have hg := HGV.out; have := U1.out; omega, U2.out, U3.out, U4.out, h⟩)
                        have HCL : Hid (1 ≤ b.co.length ∧ b.co.length ≤ 16384) := Lib.hid (by have := E6.out; have := U5.out; have := U6.out; omega)
                        clear U1 U2 U3 U4 U5 U6 HGV
                        go_wp2
                        clear p0 p1 p2 d1 d2 d3 d4 d5 d6
                        go_loopw [175] (fun i wr => ∃ j : Nat, j ≤ n6 ∧ i = .int .i64 j ∧ Hid (Blk wr w.heap.size [.string f.fc.name, .string f.fc.sup, .slice a8 n8 c8, .slice (some ⟨g9, o9, none⟩) n0 c9, .slice a1 n1 c1, .slice a2 n2 c2, .slice a3 n3 c3, .slice a4 n4 c4, .slice a5 n5 c5, .slice (some ⟨g0, o0, none⟩) n0 c0] 35) ∧ Hid (Blk wr X [.int .i64 b.lo, .int .i64 b.st, .slice a6 n6 c6] 69) ∧ Hid (∀ i x, i < j → b.co[i]? = some x → rightB (kd x.1) x.2 (manyN n1 n2 n3 n4 n5 b.lo n6 (poolN (kd x.1))) = true) ∧ Hid (Below w.heap.size w wr)) (fun i _ => n6 - (intOf i).toNat)
                        case atStart => exact ⟨0, Nat.zero_le _, rfl, HB2, X2, Lib.hid (by intro i x h; omega), HBR2⟩
                        case round =>
                          clear HB2 X2 HBR2
                          obtain ⟨j, hj, rfl, HB, HX, HCO, HBR⟩ := hrel
                          have hsz := HBR.out.size
                          by_cases hjl : j < n6
                          · obtain ⟨x, hx⟩ : ∃ v, b.co[j]? = some v := ⟨_, List.getElem?_eq_getElem (by have := E6.out; omega)⟩
                            obtain ⟨g, o, cs, rfl, hcell, rfl⟩ := HK6.out j x hx
                            have p0 : wr.cell? ⟨g, o + j * 2, none⟩ = some (.int .i64 x.1) := (HBR.out.cell (World.block_lt_of_cell? _ _ (hcell 0 _ rfl))).trans (hcell 0 _ rfl)
                            have p1 : wr.cell? ⟨g, o + j * 2 + 1, none⟩ = some (.int .i64 x.2) := (HBR.out.cell (World.block_lt_of_cell? _ _ (hcell 1 _ rfl))).trans (hcell 1 _ rfl)
                            have HC := Lib.hid (right17_32 x.1 x.2 (manyN n1 n2 n3 n4 n5 b.lo n6 (poolN (kd x.1))) (some ⟨w.heap.size, 0, none⟩) (some ⟨X, 0, none⟩) (wr.alloc (.cells #[.int .i64 x.1, .int .i64 x.2] 66)) (HT.out.below (bl_al' HBR.out)) (fun y hy => by
                              have hn : Below wr.heap.size wr y := (below1 wr _).trans (hy.mono (by simp))
                              exact clos32 _ _ a8 n8 c8 _ n0 c9 a1 n1 c1 a2 n2 c2 a3 n3 c3 a4 n4 c4 a5 n5 c5 _ n0 c0 b.lo b.st _ n6 c6 w.heap.size X _ y (HB.out.below hn) (HX.out.below hn)))
                            have HX' := Lib.hid hx
                            obtain ⟨r, hr⟩ : ∃ r, r = rightB (kd x.1) x.2 (manyN n1 n2 n3 n4 n5 b.lo n6 (poolN (kd x.1))) := ⟨_, rfl⟩
                            rw [← hr] at HC
                            have HR := Lib.hid hr
                            have HB2 := Lib.hid (HB.out.below (below1 wr (.cells #[.int .i64 x.1, .int .i64 x.2] 66)))
                            have HX2 := Lib.hid (HX.out.below (below1 wr (.cells #[.int .i64 x.1, .int .i64 x.2] 66)))
                            have HBR2 : Hid (Below w.heap.size w (wr.alloc (.cells #[.int .i64 x.1, .int .i64 x.2] 66))) := Lib.hid (bl_al' HBR.out)
                            clear hcell hx hr
                            go_wp2_with fail
                            refine HC.out.mono ?_
                            rintro e wy ⟨rfl, hby⟩
                            have HBY : Hid (Below w.heap.size w wy) := Lib.hid (HBR2.out.trans (hby.mono HBR2.out.size))
                            have HB3 := Lib.hid (HB2.out.below hby)
                            have HX3 := Lib.hid (HX2.out.below hby)
                            clear hby HC p0 p1 HB HX HBR HB2 HX2 HBR2
                            cases r with
                            | false =>
                              have HNO := Lib.hid (HNX.out (fun h => by have := h.co.2.2 x (List.mem_of_getElem? HX'.out); rw [← E6.out, ← HR.out] at this; cases this))
                              go_wp2
                              go_ret
                              exact IffP.no rfl HNO.out HBY.out
                            | true =>
                            have HA2 : Hid (∀ i y, i < j + 1 → b.co[i]? = some y → rightB (kd y.1) y.2 (manyN n1 n2 n3 n4 n5 b.lo n6 (poolN (kd y.1))) = true) := Lib.hid (fun i y hi hy => by
                              rcases Nat.lt_succ_iff_lt_or_eq.1 hi with hi | rfl
                              · exact HCO.out i y hi hy
                              · rw [HX'.out] at hy; cases hy; exact HR.out.symm)
                            clear HCO
                            go_wp2
                            go_roundw
                            case rel => exact ⟨j + 1, by omega, by go_num, HB3, HX3, HA2, HBY⟩
                            case measure => simp [intOf]; omega
                          · have HBP : Hid (BodyP n1 n2 n3 n4 n5 s b) := Lib.hid (HBPF.out ⟨HCL.out.1, HCL.out.2, fun x hx => by
                              obtain ⟨i, hi⟩ := List.getElem?_of_mem hx
                              have hl := (List.getElem?_eq_some_iff.1 hi).1
                              rw [← E6.out]
                              exact HCO.out i x (by have := E6.out; omega) hi⟩)
                            have HA2 : Hid (∀ j s' b', j < k + 1 → f.fc.ms[j]? = some s' → f.bd[j]? = some b' → BodyP n1 n2 n3 n4 n5 s' b') := Lib.hid (fun j s' b' hj h1 h2 => by
                              rcases Nat.lt_succ_iff_lt_or_eq.1 hj with hj | rfl
                              · exact HAL.out j s' b' hj h1 h2
                              · rw [HSK.out] at h1; rw [HBK.out] at h2; cases h1; cases h2; exact HBP.out)
                            clear HAL HCO HX HBP
                            go_wp2
                            go_roundw
                            case rel => exact ⟨k + 1, by omega, by go_num, HB, HA2, HBR⟩
                            case measure => simp [intOf]; omega
                    · have HE : Hid (RightS f) := Lib.hid ⟨HRP.out, HLN.out, HALL0.out, HALL1.out, HALL2.out, HALL3.out, fun i s b h1 h2 => by
                        have hl := (List.getElem?_eq_some_iff.1 h2).1
                        rw [← HN1.out, ← E2.out, ← E3.out, ← E4.out, ← E5.out]
                        exact HAL.out i s b (by have := E0.out; omega) h1 h2⟩
                      go_wp2
                      go_ret
                      exact IffP.yes rfl HE.out HBR.out
end Go.Proofs.YtomlbfkkhhhfkaaDoor.Fc
