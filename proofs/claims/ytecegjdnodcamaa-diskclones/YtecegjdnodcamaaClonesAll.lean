/-
  The walk of DiskClones, with its guards.
-/
import Derived.Test.YtecegjdnodcamaaClonesWalk
namespace Go.Proofs.Ytecegjdnodcamaa
open Go.RowKit Go.Maps Go.Sort

set_option maxHeartbeats 12800000 in
set_option maxRecDepth 100000 in
theorem diskClones_walk (w : World) (room : Int) (A A2 : Option Addr) (c c2 : Nat) (l l2 : List ActD) (hA : AArg w A l) (hA2 : AArg w A2 l2)
    (hl : l.length ≤ maxLen) (hl2 : l2.length ≤ maxLen) (hN : ∀ a ∈ l, a.N ≤ 9223372036854775807) (hN2 : ∀ a ∈ l2, a.N ≤ 9223372036854775807) :
    Calls Try.prog 5 #[.int .i64 room, .slice A l.length c, .slice A2 l2.length c2] w fun e w' => e = .returned (.bool true) ∧ Below w.heap.size w w' := by
  have HF := Lib.hid (fun u (hb : Below w.heap.size w u) => few_any l A c u (hA.keep hb) hl)
  have HF2 := Lib.hid (fun u (hb : Below w.heap.size w u) => few_any l2 A2 c2 u (hA2.keep hb) hl2)
  have HA := Lib.hid hA
  have HA2 := Lib.hid hA2
  have HN := Lib.hid hN
  have HN2 := Lib.hid hN2
  unfold maxLen at hl hl2
  clear hA hA2 hN hN2
  cases hfew : fewB l
  · rw [hfew] at HF
    clear hfew
    go_enter Try.func5, Try.ntmps5
    go_wp2_with fail
    refine (head_any w).mono ?_
    rintro e u0 ⟨rfl, hb0⟩
    go_wp2_with fail
    refine (HF.out u0 hb0).mono ?_
    rintro e u1 ⟨rfl, hb1⟩
    go_wp2
    go_ret
    exact ⟨rfl, hb0.trans (hb1.mono hb0.size)⟩
  · cases hfew2 : fewB l2
    · rw [hfew] at HF
      rw [hfew2] at HF2
      clear hfew hfew2
      go_enter Try.func5, Try.ntmps5
      go_wp2_with fail
      refine (head_any w).mono ?_
      rintro e u0 ⟨rfl, hb0⟩
      go_wp2_with fail
      refine (HF.out u0 hb0).mono ?_
      rintro e u0b ⟨rfl, hb0b⟩
      have hb00 := hb0.trans (hb0b.mono hb0.size)
      go_wp2_with fail
      refine (HF2.out u0b hb00).mono ?_
      rintro e u1 ⟨rfl, hb1⟩
      go_wp2
      go_ret
      exact ⟨rfl, hb00.trans (hb1.mono hb00.size)⟩
    · exact diskClones_main w room A A2 c c2 l l2 HA.out HA2.out hfew hfew2 HN.out HN2.out

end Go.Proofs.Ytecegjdnodcamaa
