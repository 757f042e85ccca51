/-
  The statements' own right: its closures.
-/
import Derived.Test.YtomlbfkkhhhfkaaDoorCsArc
import Derived.Laws.RangeString
namespace Go.Proofs.YtomlbfkkhhhfkaaDoor.Fc
open Go.RowKit
set_option linter.unusedVariables false
set_option linter.unusedSimpArgs false

theorem clos29 (s : ByteArray) (w : World) : Calls Tryd.prog 29 #[.string s] w fun e w' => e = .returned (.bool (classB s)) ∧ w = w' := by
  by_cases h0 : 0 < s.size
  · have hE : s.toList.isEmpty = false := by
      cases h : s.toList.isEmpty
      · rfl
      · rw [ByteArray.toList_eq, List.isEmpty_iff, ← List.length_eq_zero_iff] at h; exact absurd h (by show ¬ s.size = 0; omega)
    have hG : classB s = (decide ((65 : Int) ≤ s[0].toNat) && decide ((s[0].toNat : Int) ≤ 90) && decide ((s.size : Int) ≤ 40)) := by unfold classB greatB; rw [dif_pos h0]
    have HG := Lib.hid hG
    clear hG
    by_cases h65 : (65 : Int) ≤ s[0].toNat
    · by_cases h90 : (s[0].toNat : Int) ≤ 90
      · by_cases h40 : (s.size : Int) ≤ 40
        · have HV : classB s = true := by rw [HG.out, decide_eq_true h65, decide_eq_true h90, decide_eq_true h40]; rfl
          rw [HV]
          clear HG HV
          go_enter Tryd.func29, Tryd.ntmps29
          go_wp2
          go_ret
          first | exact ⟨rfl, rfl⟩ | exact ⟨by simp; omega, rfl⟩
        · have HV : classB s = false := by rw [HG.out, decide_eq_true h65, decide_eq_true h90, decide_eq_false h40]; rfl
          rw [HV]
          clear HG HV
          go_enter Tryd.func29, Tryd.ntmps29
          go_wp2
          go_ret
          first | exact ⟨rfl, rfl⟩ | exact ⟨by simp; omega, rfl⟩
      · have HV : classB s = false := by rw [HG.out, decide_eq_true h65, decide_eq_false h90]; rfl
        rw [HV]
        clear HG HV
        go_enter Tryd.func29, Tryd.ntmps29
        go_wp2
        go_ret
        first | exact ⟨rfl, rfl⟩ | exact ⟨by simp; omega, rfl⟩
    · have HV : classB s = false := by rw [HG.out, decide_eq_false h65]; rfl
      rw [HV]
      clear HG HV
      go_enter Tryd.func29, Tryd.ntmps29
      go_wp2
      go_ret
      first | exact ⟨rfl, rfl⟩ | exact ⟨by simp; omega, rfl⟩
  · have hE : s.toList = [] := by rw [ByteArray.toList_eq, ← List.length_eq_zero_iff]; show s.size = 0; omega
    have hE2 : s.toList.isEmpty = true := by rw [hE]; rfl
    have HV : classB s = false := by unfold classB greatB; rw [dif_neg h0]; rfl
    rw [HV]
    clear HV
    go_enter Tryd.func29, Tryd.ntmps29
    go_wp2
    go_ret
    exact ⟨rfl, rfl⟩
def FdS (x : Fd) : Prop := classB x.2 = true ∧ 0 < x.1.name.size ∧ x.1.name.size ≤ 40 ∧ goodB x.1.tn = true
def MtS (x : Mt) : Prop := classB x.2 = true ∧ RightP ⟨⟨#[65]⟩, ⟨#[]⟩, [], [x.1]⟩
/-- a right file, by the statements -/
structure RightS (f : Fl) : Prop where
  fc : RightP f.fc
  ln : f.bd.length = f.fc.ms.length
  cl : ∀ y ∈ f.cl, classB y = true
  ty : ∀ y ∈ f.ty, goodB y.n = true
  fd : ∀ y ∈ f.fd, FdS y
  mt : ∀ y ∈ f.mt, MtS y
  bd : ∀ (i : Nat) s b, f.fc.ms[i]? = some s → f.bd[i]? = some b → BodyP f.nu.length f.cl.length f.ty.length f.fd.length f.mt.length s b

def kindsI : List Int := [110, 99, 116, 102, 109, 108, 106, 98]
set_option maxHeartbeats 4000000 in
set_option maxRecDepth 100000 in
theorem clos32 (nm sp : ByteArray) (a8 : Option Addr) (n8 c8 : Nat) (a9 : Option Addr) (n9 c9 : Nat) (a1 : Option Addr) (n1 c1 : Nat) (a2 : Option Addr) (n2 c2 : Nat) (a3 : Option Addr) (n3 c3 : Nat) (a4 : Option Addr) (n4 c4 : Nat) (a5 : Option Addr) (n5 c5 : Nat) (a0 : Option Addr) (n0 c0 : Nat) (lo st : Int) (a6 : Option Addr) (n6 c6 : Nat) (F B : Nat) (p : Int) (w : World) (hF : Blk w F [.string nm, .string sp, .slice a8 n8 c8, .slice a9 n9 c9, .slice a1 n1 c1, .slice a2 n2 c2, .slice a3 n3 c3, .slice a4 n4 c4, .slice a5 n5 c5, .slice a0 n0 c0] 35) (hB : Blk w B [.int .i64 lo, .int .i64 st, .slice a6 n6 c6] 69) :
    Calls Tryd.prog 32 #[.int .i32 p, .pointer (some ⟨F, 0, none⟩), .pointer (some ⟨B, 0, none⟩)] w fun e w' => e = .returned (.int .i64 (manyN n1 n2 n3 n4 n5 lo n6 p)) ∧ Below w.heap.size w w' := by
  have HF := Lib.hid hF
  have HB := Lib.hid hB
  clear hF hB
  go_enter Tryd.func32, Tryd.ntmps32
  go_wp2
  go_loopw [] (fun wr => ∃ k : Nat, k ≤ 8 ∧ wr = w.iter (⟨#[110, 99, 116, 102, 109, 108, 106, 98]⟩ : ByteArray) k ∧ Hid (∀ c ∈ kindsI.take k, ¬ p = c)) (fun wr => 8 - wr.iterPos w.heap.size)
  case atStart => exact ⟨0, Nat.zero_le _, rfl, Lib.hid (by intro c hc; simp at hc)⟩
  case round =>
    obtain ⟨k, hk, rfl, HN⟩ := hrel
    rcases (show k = 0 ∨ k = 1 ∨ k = 2 ∨ k = 3 ∨ k = 4 ∨ k = 5 ∨ k = 6 ∨ k = 7 ∨ k = 8 by omega) with rfl | rfl | rfl | rfl | rfl | rfl | rfl | rfl | rfl
    · have hnx : ∀ ty, (Instr.next (.pointer (some ⟨w.heap.size, 0, none⟩)) true ty).run Tryd.prog (w.iter (⟨#[110, 99, 116, 102, 109, 108, 106, 98]⟩ : ByteArray) 0) = .ok (.tuple #[.bool true, .int .i64 0, .int .i32 110]) (w.iter (⟨#[110, 99, 116, 102, 109, 108, 106, 98]⟩ : ByteArray) 1) := fun ty => run_next_ascii w (⟨#[110, 99, 116, 102, 109, 108, 106, 98]⟩ : ByteArray) 0 ty (by decide) (by decide)
      by_cases hp : (110 : Int) = p
      · subst hp
        have hF1 := HF.out.below (below1 w (.stringIter (⟨#[110, 99, 116, 102, 109, 108, 106, 98]⟩ : ByteArray) 1))
        have hB1 := HB.out.below (below1 w (.stringIter (⟨#[110, 99, 116, 102, 109, 108, 106, 98]⟩ : ByteArray) 1))
        have f4 : (w.iter (⟨#[110, 99, 116, 102, 109, 108, 106, 98]⟩ : ByteArray) 1).cell? ⟨F, 4, none⟩ = _ := hF1.cell 4
        have f5 : (w.iter (⟨#[110, 99, 116, 102, 109, 108, 106, 98]⟩ : ByteArray) 1).cell? ⟨F, 5, none⟩ = _ := hF1.cell 5
        have f6 : (w.iter (⟨#[110, 99, 116, 102, 109, 108, 106, 98]⟩ : ByteArray) 1).cell? ⟨F, 6, none⟩ = _ := hF1.cell 6
        have f7 : (w.iter (⟨#[110, 99, 116, 102, 109, 108, 106, 98]⟩ : ByteArray) 1).cell? ⟨F, 7, none⟩ = _ := hF1.cell 7
        have f8 : (w.iter (⟨#[110, 99, 116, 102, 109, 108, 106, 98]⟩ : ByteArray) 1).cell? ⟨F, 8, none⟩ = _ := hF1.cell 8
        have b0 : (w.iter (⟨#[110, 99, 116, 102, 109, 108, 106, 98]⟩ : ByteArray) 1).cell? ⟨B, 0, none⟩ = _ := hB1.cell 0
        have b2 : (w.iter (⟨#[110, 99, 116, 102, 109, 108, 106, 98]⟩ : ByteArray) 1).cell? ⟨B, 2, none⟩ = _ := hB1.cell 2
        simp only [List.getElem?_cons_succ, List.getElem?_cons_zero] at f4 f5 f6 f7 f8 b0 b2
        clear hF1 hB1
        go_wp2
        go_ret
        exact ⟨by unfold manyN; simp, (below1 w (.stringIter (⟨#[110, 99, 116, 102, 109, 108, 106, 98]⟩ : ByteArray) 1)).alloc (by simp [World.iter]) _⟩
      · have hpe : ((110 : Int) == p) = false := by simpa using hp
        have HN2 : Hid (∀ c ∈ kindsI.take 1, ¬ p = c) := Lib.hid (all_snk (P := fun c => ¬ p = c) (k := 0) (x := 110) rfl HN.out (fun e => hp e.symm))
        clear HN hp
        go_wp2
        go_roundw
        case rel => exact ⟨1, by omega, rfl, HN2⟩
        case measure => simp
    · have hnx : ∀ ty, (Instr.next (.pointer (some ⟨w.heap.size, 0, none⟩)) true ty).run Tryd.prog (w.iter (⟨#[110, 99, 116, 102, 109, 108, 106, 98]⟩ : ByteArray) 1) = .ok (.tuple #[.bool true, .int .i64 1, .int .i32 99]) (w.iter (⟨#[110, 99, 116, 102, 109, 108, 106, 98]⟩ : ByteArray) 2) := fun ty => run_next_ascii w (⟨#[110, 99, 116, 102, 109, 108, 106, 98]⟩ : ByteArray) 1 ty (by decide) (by decide)
      by_cases hp : (99 : Int) = p
      · subst hp
        have hF1 := HF.out.below (below1 w (.stringIter (⟨#[110, 99, 116, 102, 109, 108, 106, 98]⟩ : ByteArray) 2))
        have hB1 := HB.out.below (below1 w (.stringIter (⟨#[110, 99, 116, 102, 109, 108, 106, 98]⟩ : ByteArray) 2))
        have f4 : (w.iter (⟨#[110, 99, 116, 102, 109, 108, 106, 98]⟩ : ByteArray) 2).cell? ⟨F, 4, none⟩ = _ := hF1.cell 4
        have f5 : (w.iter (⟨#[110, 99, 116, 102, 109, 108, 106, 98]⟩ : ByteArray) 2).cell? ⟨F, 5, none⟩ = _ := hF1.cell 5
        have f6 : (w.iter (⟨#[110, 99, 116, 102, 109, 108, 106, 98]⟩ : ByteArray) 2).cell? ⟨F, 6, none⟩ = _ := hF1.cell 6
        have f7 : (w.iter (⟨#[110, 99, 116, 102, 109, 108, 106, 98]⟩ : ByteArray) 2).cell? ⟨F, 7, none⟩ = _ := hF1.cell 7
        have f8 : (w.iter (⟨#[110, 99, 116, 102, 109, 108, 106, 98]⟩ : ByteArray) 2).cell? ⟨F, 8, none⟩ = _ := hF1.cell 8
        have b0 : (w.iter (⟨#[110, 99, 116, 102, 109, 108, 106, 98]⟩ : ByteArray) 2).cell? ⟨B, 0, none⟩ = _ := hB1.cell 0
        have b2 : (w.iter (⟨#[110, 99, 116, 102, 109, 108, 106, 98]⟩ : ByteArray) 2).cell? ⟨B, 2, none⟩ = _ := hB1.cell 2
        simp only [List.getElem?_cons_succ, List.getElem?_cons_zero] at f4 f5 f6 f7 f8 b0 b2
        clear hF1 hB1
        go_wp2
        go_ret
        exact ⟨by unfold manyN; simp, (below1 w (.stringIter (⟨#[110, 99, 116, 102, 109, 108, 106, 98]⟩ : ByteArray) 2)).alloc (by simp [World.iter]) _⟩
      · have hpe : ((99 : Int) == p) = false := by simpa using hp
        have HN2 : Hid (∀ c ∈ kindsI.take 2, ¬ p = c) := Lib.hid (all_snk (P := fun c => ¬ p = c) (k := 1) (x := 99) rfl HN.out (fun e => hp e.symm))
        clear HN hp
        go_wp2
        go_roundw
        case rel => exact ⟨2, by omega, rfl, HN2⟩
        case measure => simp
    · have hnx : ∀ ty, (Instr.next (.pointer (some ⟨w.heap.size, 0, none⟩)) true ty).run Tryd.prog (w.iter (⟨#[110, 99, 116, 102, 109, 108, 106, 98]⟩ : ByteArray) 2) = .ok (.tuple #[.bool true, .int .i64 2, .int .i32 116]) (w.iter (⟨#[110, 99, 116, 102, 109, 108, 106, 98]⟩ : ByteArray) 3) := fun ty => run_next_ascii w (⟨#[110, 99, 116, 102, 109, 108, 106, 98]⟩ : ByteArray) 2 ty (by decide) (by decide)
      by_cases hp : (116 : Int) = p
      · subst hp
        have hF1 := HF.out.below (below1 w (.stringIter (⟨#[110, 99, 116, 102, 109, 108, 106, 98]⟩ : ByteArray) 3))
        have hB1 := HB.out.below (below1 w (.stringIter (⟨#[110, 99, 116, 102, 109, 108, 106, 98]⟩ : ByteArray) 3))
        have f4 : (w.iter (⟨#[110, 99, 116, 102, 109, 108, 106, 98]⟩ : ByteArray) 3).cell? ⟨F, 4, none⟩ = _ := hF1.cell 4
        have f5 : (w.iter (⟨#[110, 99, 116, 102, 109, 108, 106, 98]⟩ : ByteArray) 3).cell? ⟨F, 5, none⟩ = _ := hF1.cell 5
        have f6 : (w.iter (⟨#[110, 99, 116, 102, 109, 108, 106, 98]⟩ : ByteArray) 3).cell? ⟨F, 6, none⟩ = _ := hF1.cell 6
        have f7 : (w.iter (⟨#[110, 99, 116, 102, 109, 108, 106, 98]⟩ : ByteArray) 3).cell? ⟨F, 7, none⟩ = _ := hF1.cell 7
        have f8 : (w.iter (⟨#[110, 99, 116, 102, 109, 108, 106, 98]⟩ : ByteArray) 3).cell? ⟨F, 8, none⟩ = _ := hF1.cell 8
        have b0 : (w.iter (⟨#[110, 99, 116, 102, 109, 108, 106, 98]⟩ : ByteArray) 3).cell? ⟨B, 0, none⟩ = _ := hB1.cell 0
        have b2 : (w.iter (⟨#[110, 99, 116, 102, 109, 108, 106, 98]⟩ : ByteArray) 3).cell? ⟨B, 2, none⟩ = _ := hB1.cell 2
        simp only [List.getElem?_cons_succ, List.getElem?_cons_zero] at f4 f5 f6 f7 f8 b0 b2
        clear hF1 hB1
        go_wp2
        go_ret
        exact ⟨by unfold manyN; simp, (below1 w (.stringIter (⟨#[110, 99, 116, 102, 109, 108, 106, 98]⟩ : ByteArray) 3)).alloc (by simp [World.iter]) _⟩
      · have hpe : ((116 : Int) == p) = false := by simpa using hp
        have HN2 : Hid (∀ c ∈ kindsI.take 3, ¬ p = c) := Lib.hid (all_snk (P := fun c => ¬ p = c) (k := 2) (x := 116) rfl HN.out (fun e => hp e.symm))
        clear HN hp
        go_wp2
        go_roundw
        case rel => exact ⟨3, by omega, rfl, HN2⟩
        case measure => simp
    · have hnx : ∀ ty, (Instr.next (.pointer (some ⟨w.heap.size, 0, none⟩)) true ty).run Tryd.prog (w.iter (⟨#[110, 99, 116, 102, 109, 108, 106, 98]⟩ : ByteArray) 3) = .ok (.tuple #[.bool true, .int .i64 3, .int .i32 102]) (w.iter (⟨#[110, 99, 116, 102, 109, 108, 106, 98]⟩ : ByteArray) 4) := fun ty => run_next_ascii w (⟨#[110, 99, 116, 102, 109, 108, 106, 98]⟩ : ByteArray) 3 ty (by decide) (by decide)
      by_cases hp : (102 : Int) = p
      · subst hp
        have hF1 := HF.out.below (below1 w (.stringIter (⟨#[110, 99, 116, 102, 109, 108, 106, 98]⟩ : ByteArray) 4))
        have hB1 := HB.out.below (below1 w (.stringIter (⟨#[110, 99, 116, 102, 109, 108, 106, 98]⟩ : ByteArray) 4))
        have f4 : (w.iter (⟨#[110, 99, 116, 102, 109, 108, 106, 98]⟩ : ByteArray) 4).cell? ⟨F, 4, none⟩ = _ := hF1.cell 4
        have f5 : (w.iter (⟨#[110, 99, 116, 102, 109, 108, 106, 98]⟩ : ByteArray) 4).cell? ⟨F, 5, none⟩ = _ := hF1.cell 5
        have f6 : (w.iter (⟨#[110, 99, 116, 102, 109, 108, 106, 98]⟩ : ByteArray) 4).cell? ⟨F, 6, none⟩ = _ := hF1.cell 6
        have f7 : (w.iter (⟨#[110, 99, 116, 102, 109, 108, 106, 98]⟩ : ByteArray) 4).cell? ⟨F, 7, none⟩ = _ := hF1.cell 7
        have f8 : (w.iter (⟨#[110, 99, 116, 102, 109, 108, 106, 98]⟩ : ByteArray) 4).cell? ⟨F, 8, none⟩ = _ := hF1.cell 8
        have b0 : (w.iter (⟨#[110, 99, 116, 102, 109, 108, 106, 98]⟩ : ByteArray) 4).cell? ⟨B, 0, none⟩ = _ := hB1.cell 0
        have b2 : (w.iter (⟨#[110, 99, 116, 102, 109, 108, 106, 98]⟩ : ByteArray) 4).cell? ⟨B, 2, none⟩ = _ := hB1.cell 2
        simp only [List.getElem?_cons_succ, List.getElem?_cons_zero] at f4 f5 f6 f7 f8 b0 b2
        clear hF1 hB1
        go_wp2
        go_ret
        exact ⟨by unfold manyN; simp, (below1 w (.stringIter (⟨#[110, 99, 116, 102, 109, 108, 106, 98]⟩ : ByteArray) 4)).alloc (by simp [World.iter]) _⟩
      · have hpe : ((102 : Int) == p) = false := by simpa using hp
        have HN2 : Hid (∀ c ∈ kindsI.take 4, ¬ p = c) := Lib.hid (all_snk (P := fun c => ¬ p = c) (k := 3) (x := 102) rfl HN.out (fun e => hp e.symm))
        clear HN hp
        go_wp2
        go_roundw
        case rel => exact ⟨4, by omega, rfl, HN2⟩
        case measure => simp
    · have hnx : ∀ ty, (Instr.next (.pointer (some ⟨w.heap.size, 0, none⟩)) true ty).run Tryd.prog (w.iter (⟨#[110, 99, 116, 102, 109, 108, 106, 98]⟩ : ByteArray) 4) = .ok (.tuple #[.bool true, .int .i64 4, .int .i32 109]) (w.iter (⟨#[110, 99, 116, 102, 109, 108, 106, 98]⟩ : ByteArray) 5) := fun ty => run_next_ascii w (⟨#[110, 99, 116, 102, 109, 108, 106, 98]⟩ : ByteArray) 4 ty (by decide) (by decide)
      by_cases hp : (109 : Int) = p
      · subst hp
        have hF1 := HF.out.below (below1 w (.stringIter (⟨#[110, 99, 116, 102, 109, 108, 106, 98]⟩ : ByteArray) 5))
        have hB1 := HB.out.below (below1 w (.stringIter (⟨#[110, 99, 116, 102, 109, 108, 106, 98]⟩ : ByteArray) 5))
        have f4 : (w.iter (⟨#[110, 99, 116, 102, 109, 108, 106, 98]⟩ : ByteArray) 5).cell? ⟨F, 4, none⟩ = _ := hF1.cell 4
        have f5 : (w.iter (⟨#[110, 99, 116, 102, 109, 108, 106, 98]⟩ : ByteArray) 5).cell? ⟨F, 5, none⟩ = _ := hF1.cell 5
        have f6 : (w.iter (⟨#[110, 99, 116, 102, 109, 108, 106, 98]⟩ : ByteArray) 5).cell? ⟨F, 6, none⟩ = _ := hF1.cell 6
        have f7 : (w.iter (⟨#[110, 99, 116, 102, 109, 108, 106, 98]⟩ : ByteArray) 5).cell? ⟨F, 7, none⟩ = _ := hF1.cell 7
        have f8 : (w.iter (⟨#[110, 99, 116, 102, 109, 108, 106, 98]⟩ : ByteArray) 5).cell? ⟨F, 8, none⟩ = _ := hF1.cell 8
        have b0 : (w.iter (⟨#[110, 99, 116, 102, 109, 108, 106, 98]⟩ : ByteArray) 5).cell? ⟨B, 0, none⟩ = _ := hB1.cell 0
        have b2 : (w.iter (⟨#[110, 99, 116, 102, 109, 108, 106, 98]⟩ : ByteArray) 5).cell? ⟨B, 2, none⟩ = _ := hB1.cell 2
        simp only [List.getElem?_cons_succ, List.getElem?_cons_zero] at f4 f5 f6 f7 f8 b0 b2
        clear hF1 hB1
        go_wp2
        go_ret
        exact ⟨by unfold manyN; simp, (below1 w (.stringIter (⟨#[110, 99, 116, 102, 109, 108, 106, 98]⟩ : ByteArray) 5)).alloc (by simp [World.iter]) _⟩
      · have hpe : ((109 : Int) == p) = false := by simpa using hp
        have HN2 : Hid (∀ c ∈ kindsI.take 5, ¬ p = c) := Lib.hid (all_snk (P := fun c => ¬ p = c) (k := 4) (x := 109) rfl HN.out (fun e => hp e.symm))
        clear HN hp
        go_wp2
        go_roundw
        case rel => exact ⟨5, by omega, rfl, HN2⟩
        case measure => simp
    · have hnx : ∀ ty, (Instr.next (.pointer (some ⟨w.heap.size, 0, none⟩)) true ty).run Tryd.prog (w.iter (⟨#[110, 99, 116, 102, 109, 108, 106, 98]⟩ : ByteArray) 5) = .ok (.tuple #[.bool true, .int .i64 5, .int .i32 108]) (w.iter (⟨#[110, 99, 116, 102, 109, 108, 106, 98]⟩ : ByteArray) 6) := fun ty => run_next_ascii w (⟨#[110, 99, 116, 102, 109, 108, 106, 98]⟩ : ByteArray) 5 ty (by decide) (by decide)
      by_cases hp : (108 : Int) = p
      · subst hp
        have hF1 := HF.out.below (below1 w (.stringIter (⟨#[110, 99, 116, 102, 109, 108, 106, 98]⟩ : ByteArray) 6))
        have hB1 := HB.out.below (below1 w (.stringIter (⟨#[110, 99, 116, 102, 109, 108, 106, 98]⟩ : ByteArray) 6))
        have f4 : (w.iter (⟨#[110, 99, 116, 102, 109, 108, 106, 98]⟩ : ByteArray) 6).cell? ⟨F, 4, none⟩ = _ := hF1.cell 4
        have f5 : (w.iter (⟨#[110, 99, 116, 102, 109, 108, 106, 98]⟩ : ByteArray) 6).cell? ⟨F, 5, none⟩ = _ := hF1.cell 5
        have f6 : (w.iter (⟨#[110, 99, 116, 102, 109, 108, 106, 98]⟩ : ByteArray) 6).cell? ⟨F, 6, none⟩ = _ := hF1.cell 6
        have f7 : (w.iter (⟨#[110, 99, 116, 102, 109, 108, 106, 98]⟩ : ByteArray) 6).cell? ⟨F, 7, none⟩ = _ := hF1.cell 7
        have f8 : (w.iter (⟨#[110, 99, 116, 102, 109, 108, 106, 98]⟩ : ByteArray) 6).cell? ⟨F, 8, none⟩ = _ := hF1.cell 8
        have b0 : (w.iter (⟨#[110, 99, 116, 102, 109, 108, 106, 98]⟩ : ByteArray) 6).cell? ⟨B, 0, none⟩ = _ := hB1.cell 0
        have b2 : (w.iter (⟨#[110, 99, 116, 102, 109, 108, 106, 98]⟩ : ByteArray) 6).cell? ⟨B, 2, none⟩ = _ := hB1.cell 2
        simp only [List.getElem?_cons_succ, List.getElem?_cons_zero] at f4 f5 f6 f7 f8 b0 b2
        clear hF1 hB1
        go_wp2
        go_ret
        exact ⟨by unfold manyN; simp, (below1 w (.stringIter (⟨#[110, 99, 116, 102, 109, 108, 106, 98]⟩ : ByteArray) 6)).alloc (by simp [World.iter]) _⟩
      · have hpe : ((108 : Int) == p) = false := by simpa using hp
        have HN2 : Hid (∀ c ∈ kindsI.take 6, ¬ p = c) := Lib.hid (all_snk (P := fun c => ¬ p = c) (k := 5) (x := 108) rfl HN.out (fun e => hp e.symm))
        clear HN hp
        go_wp2
        go_roundw
        case rel => exact ⟨6, by omega, rfl, HN2⟩
        case measure => simp
    · have hnx : ∀ ty, (Instr.next (.pointer (some ⟨w.heap.size, 0, none⟩)) true ty).run Tryd.prog (w.iter (⟨#[110, 99, 116, 102, 109, 108, 106, 98]⟩ : ByteArray) 6) = .ok (.tuple #[.bool true, .int .i64 6, .int .i32 106]) (w.iter (⟨#[110, 99, 116, 102, 109, 108, 106, 98]⟩ : ByteArray) 7) := fun ty => run_next_ascii w (⟨#[110, 99, 116, 102, 109, 108, 106, 98]⟩ : ByteArray) 6 ty (by decide) (by decide)
      by_cases hp : (106 : Int) = p
      · subst hp
        have hF1 := HF.out.below (below1 w (.stringIter (⟨#[110, 99, 116, 102, 109, 108, 106, 98]⟩ : ByteArray) 7))
        have hB1 := HB.out.below (below1 w (.stringIter (⟨#[110, 99, 116, 102, 109, 108, 106, 98]⟩ : ByteArray) 7))
        have f4 : (w.iter (⟨#[110, 99, 116, 102, 109, 108, 106, 98]⟩ : ByteArray) 7).cell? ⟨F, 4, none⟩ = _ := hF1.cell 4
        have f5 : (w.iter (⟨#[110, 99, 116, 102, 109, 108, 106, 98]⟩ : ByteArray) 7).cell? ⟨F, 5, none⟩ = _ := hF1.cell 5
        have f6 : (w.iter (⟨#[110, 99, 116, 102, 109, 108, 106, 98]⟩ : ByteArray) 7).cell? ⟨F, 6, none⟩ = _ := hF1.cell 6
        have f7 : (w.iter (⟨#[110, 99, 116, 102, 109, 108, 106, 98]⟩ : ByteArray) 7).cell? ⟨F, 7, none⟩ = _ := hF1.cell 7
        have f8 : (w.iter (⟨#[110, 99, 116, 102, 109, 108, 106, 98]⟩ : ByteArray) 7).cell? ⟨F, 8, none⟩ = _ := hF1.cell 8
        have b0 : (w.iter (⟨#[110, 99, 116, 102, 109, 108, 106, 98]⟩ : ByteArray) 7).cell? ⟨B, 0, none⟩ = _ := hB1.cell 0
        have b2 : (w.iter (⟨#[110, 99, 116, 102, 109, 108, 106, 98]⟩ : ByteArray) 7).cell? ⟨B, 2, none⟩ = _ := hB1.cell 2
        simp only [List.getElem?_cons_succ, List.getElem?_cons_zero] at f4 f5 f6 f7 f8 b0 b2
        clear hF1 hB1
        go_wp2
        go_ret
        exact ⟨by unfold manyN; simp, (below1 w (.stringIter (⟨#[110, 99, 116, 102, 109, 108, 106, 98]⟩ : ByteArray) 7)).alloc (by simp [World.iter]) _⟩
      · have hpe : ((106 : Int) == p) = false := by simpa using hp
        have HN2 : Hid (∀ c ∈ kindsI.take 7, ¬ p = c) := Lib.hid (all_snk (P := fun c => ¬ p = c) (k := 6) (x := 106) rfl HN.out (fun e => hp e.symm))
        clear HN hp
        go_wp2
        go_roundw
        case rel => exact ⟨7, by omega, rfl, HN2⟩
        case measure => simp
    · have hnx : ∀ ty, (Instr.next (.pointer (some ⟨w.heap.size, 0, none⟩)) true ty).run Tryd.prog (w.iter (⟨#[110, 99, 116, 102, 109, 108, 106, 98]⟩ : ByteArray) 7) = .ok (.tuple #[.bool true, .int .i64 7, .int .i32 98]) (w.iter (⟨#[110, 99, 116, 102, 109, 108, 106, 98]⟩ : ByteArray) 8) := fun ty => run_next_ascii w (⟨#[110, 99, 116, 102, 109, 108, 106, 98]⟩ : ByteArray) 7 ty (by decide) (by decide)
      by_cases hp : (98 : Int) = p
      · subst hp
        have hF1 := HF.out.below (below1 w (.stringIter (⟨#[110, 99, 116, 102, 109, 108, 106, 98]⟩ : ByteArray) 8))
        have hB1 := HB.out.below (below1 w (.stringIter (⟨#[110, 99, 116, 102, 109, 108, 106, 98]⟩ : ByteArray) 8))
        have f4 : (w.iter (⟨#[110, 99, 116, 102, 109, 108, 106, 98]⟩ : ByteArray) 8).cell? ⟨F, 4, none⟩ = _ := hF1.cell 4
        have f5 : (w.iter (⟨#[110, 99, 116, 102, 109, 108, 106, 98]⟩ : ByteArray) 8).cell? ⟨F, 5, none⟩ = _ := hF1.cell 5
        have f6 : (w.iter (⟨#[110, 99, 116, 102, 109, 108, 106, 98]⟩ : ByteArray) 8).cell? ⟨F, 6, none⟩ = _ := hF1.cell 6
        have f7 : (w.iter (⟨#[110, 99, 116, 102, 109, 108, 106, 98]⟩ : ByteArray) 8).cell? ⟨F, 7, none⟩ = _ := hF1.cell 7
        have f8 : (w.iter (⟨#[110, 99, 116, 102, 109, 108, 106, 98]⟩ : ByteArray) 8).cell? ⟨F, 8, none⟩ = _ := hF1.cell 8
        have b0 : (w.iter (⟨#[110, 99, 116, 102, 109, 108, 106, 98]⟩ : ByteArray) 8).cell? ⟨B, 0, none⟩ = _ := hB1.cell 0
        have b2 : (w.iter (⟨#[110, 99, 116, 102, 109, 108, 106, 98]⟩ : ByteArray) 8).cell? ⟨B, 2, none⟩ = _ := hB1.cell 2
        simp only [List.getElem?_cons_succ, List.getElem?_cons_zero] at f4 f5 f6 f7 f8 b0 b2
        clear hF1 hB1
        go_wp2
        go_ret
        exact ⟨by unfold manyN; simp, (below1 w (.stringIter (⟨#[110, 99, 116, 102, 109, 108, 106, 98]⟩ : ByteArray) 8)).alloc (by simp [World.iter]) _⟩
      · have hpe : ((98 : Int) == p) = false := by simpa using hp
        have HN2 : Hid (∀ c ∈ kindsI.take 8, ¬ p = c) := Lib.hid (all_snk (P := fun c => ¬ p = c) (k := 7) (x := 98) rfl HN.out (fun e => hp e.symm))
        clear HN hp
        go_wp2
        go_roundw
        case rel => exact ⟨8, by omega, rfl, HN2⟩
        case measure => simp
    · have hnx : ∀ ty, (Instr.next (.pointer (some ⟨w.heap.size, 0, none⟩)) true ty).run Tryd.prog (w.iter (⟨#[110, 99, 116, 102, 109, 108, 106, 98]⟩ : ByteArray) 8) = .ok (.tuple #[.bool false]) (w.iter (⟨#[110, 99, 116, 102, 109, 108, 106, 98]⟩ : ByteArray) 8) := fun ty => run_next_end w (⟨#[110, 99, 116, 102, 109, 108, 106, 98]⟩ : ByteArray) 8 ty (by decide)
      go_wp2
      go_ret
      refine ⟨?_, below1 w _⟩
      have h := HN.out
      rw [many_other (h 110 (by decide)) (h 99 (by decide)) (h 116 (by decide)) (h 102 (by decide)) (h 109 (by decide)) (h 108 (by decide)) (h 106 (by decide)) (h 98 (by decide))]
      rfl
end Go.Proofs.YtomlbfkkhhhfkaaDoor.Fc
