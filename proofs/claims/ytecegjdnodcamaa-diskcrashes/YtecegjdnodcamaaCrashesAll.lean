/-
  The walk of DiskCrashes, with its guards.
-/
import Derived.Test.YtecegjdnodcamaaCrashesWalk
namespace Go.Proofs.Ytecegjdnodcamaa
open Go.RowKit Go.Maps Go.Sort

set_option maxHeartbeats 12800000 in
set_option maxRecDepth 100000 in
theorem diskCrashes_walk (w : World) (room : Int) (A A3 B B4 : Option Addr) (c c3 d d4 : Nat) (l l3 : List ActD) (ks ks4 : List Bool) (hA : AArg w A l) (hA3 : AArg w A3 l3) (hB : BArg w B ks) (hB4 : BArg w B4 ks4)
    (hl : l.length ≤ maxLen) (hl3 : l3.length ≤ maxLen) (hk : ks.length ≤ maxLen) (hk4 : ks4.length ≤ maxLen) (hN : ∀ a ∈ l, a.N ≤ 9223372036854775807) (hN3 : ∀ a ∈ l3, a.N ≤ 9223372036854775807) :
    Calls Try.prog 4 #[.int .i64 room, .slice A l.length c, .slice B ks.length d, .slice A3 l3.length c3, .slice B4 ks4.length d4] w fun e w' => e = .returned (.bool true) ∧ Below w.heap.size w w' := by
  have HF := Lib.hid (fun u (hb : Below w.heap.size w u) => few_any l A c u (hA.keep hb) hl)
  have HF3 := Lib.hid (fun u (hb : Below w.heap.size w u) => few_any l3 A3 c3 u (hA3.keep hb) hl3)
  have HA := Lib.hid hA
  have HA3 := Lib.hid hA3
  have HB := Lib.hid hB
  have HB4 := Lib.hid hB4
  have HN := Lib.hid hN
  have HN3 := Lib.hid hN3
  unfold maxLen at hl hl3 hk hk4
  clear hA hA3 hB hB4 hN hN3
  cases hfew : fewB l
  · rw [hfew] at HF
    clear hfew
    go_enter Try.func4, Try.ntmps4
    go_wp2_with fail
    refine (head_any w).mono ?_
    rintro e u0 ⟨rfl, hb0⟩
    go_wp2_with fail
    refine (HF.out u0 hb0).mono ?_
    rintro e u1 ⟨rfl, hb1⟩
    go_wp2
    go_ret
    exact ⟨rfl, hb0.trans (hb1.mono hb0.size)⟩
  · cases hfew3 : fewB l3
    · rw [hfew] at HF
      rw [hfew3] at HF3
      clear hfew hfew3
      go_enter Try.func4, Try.ntmps4
      go_wp2_with fail
      refine (head_any w).mono ?_
      rintro e u0 ⟨rfl, hb0⟩
      go_wp2_with fail
      refine (HF.out u0 hb0).mono ?_
      rintro e u0b ⟨rfl, hb0b⟩
      have hb00 := hb0.trans (hb0b.mono hb0.size)
      go_wp2_with fail
      refine (HF3.out u0b hb00).mono ?_
      rintro e u1 ⟨rfl, hb1⟩
      go_wp2
      go_ret
      exact ⟨rfl, hb00.trans (hb1.mono hb00.size)⟩
    · by_cases h1 : 60 < ks.length
      · have d1 : decide ((60 : Int) < (ks.length : Int)) = true := decide_eq_true (by omega)
        rw [hfew] at HF
        rw [hfew3] at HF3
        clear hfew hfew3
        go_enter Try.func4, Try.ntmps4
        go_wp2_with fail
        refine (head_any w).mono ?_
        rintro e u0 ⟨rfl, hb0⟩
        go_wp2_with fail
        refine (HF.out u0 hb0).mono ?_
        rintro e u0b ⟨rfl, hb0b⟩
        have hb00 := hb0.trans (hb0b.mono hb0.size)
        go_wp2_with fail
        refine (HF3.out u0b hb00).mono ?_
        rintro e u1 ⟨rfl, hb1⟩
        go_wp2
        go_ret
        exact ⟨rfl, hb00.trans (hb1.mono hb00.size)⟩
      · by_cases h2 : 60 < ks4.length
        · have d1 : decide ((60 : Int) < (ks.length : Int)) = false := decide_eq_false (by omega)
          have d2 : decide ((60 : Int) < (ks4.length : Int)) = true := decide_eq_true (by omega)
          rw [hfew] at HF
          rw [hfew3] at HF3
          clear hfew hfew3
          go_enter Try.func4, Try.ntmps4
          go_wp2_with fail
          refine (head_any w).mono ?_
          rintro e u0 ⟨rfl, hb0⟩
          go_wp2_with fail
          refine (HF.out u0 hb0).mono ?_
          rintro e u0b ⟨rfl, hb0b⟩
          have hb00 := hb0.trans (hb0b.mono hb0.size)
          go_wp2_with fail
          refine (HF3.out u0b hb00).mono ?_
          rintro e u1 ⟨rfl, hb1⟩
          go_wp2
          go_ret
          exact ⟨rfl, hb00.trans (hb1.mono hb00.size)⟩
        · exact diskCrashes_main w room A A3 B B4 c c3 d d4 l l3 ks ks4 HA.out HA3.out HB.out HB4.out hfew hfew3 HN.out HN3.out (by omega) (by omega)

end Go.Proofs.Ytecegjdnodcamaa
