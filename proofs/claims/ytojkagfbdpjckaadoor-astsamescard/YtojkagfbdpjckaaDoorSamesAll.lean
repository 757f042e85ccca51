/-
  AstSames at every class, number and name.
-/
import Derived.Test.YtojkagfbdpjckaaDoorSames1
import Derived.Test.YtojkagfbdpjckaaDoorSames3
import Derived.Test.YtojkagfbdpjckaaDoorSames4
import Derived.Test.YtojkagfbdpjckaaDoorSames5
import Derived.Test.YtojkagfbdpjckaaDoorSames6
import Derived.Test.YtojkagfbdpjckaaDoorSames7
import Derived.Test.YtojkagfbdpjckaaDoorSamesN
namespace Go.Proofs.YtojkagfbdpjckaaDoor
open Go.RowKit

theorem sames_any (ln co : Int) (name sup : ByteArray) (fs : List Vr) (ms : List Mt) (a1 : Option Addr) (n1 c1 : Nat) (a2 : Option Addr) (n2 c2 : Nat) (which : Int) (nm : ByteArray) (W : World) (hpow : Pow W) (h1 : Sl W 3 VrR fs (.slice a1 n1 c1)) (h2 : Sl W 8 (MtR W) ms (.slice a2 n2 c2)) (hz : name.size ≤ reachBytes ∧ sup.size ≤ reachBytes) :
    Calls Tryd.prog 4 #[.agg #[.int .i64 ln, .int .i64 co, .string name, .string sup, .slice a1 n1 c1, .slice a2 n2 c2], .int .i64 which, .string nm] W fun e w' => e = .returned (.bool true) ∧ Below W.heap.size W w' := by
  have hz' : name.size + sup.size ≤ 281474976710656 := by unfold reachBytes at hz; omega
  by_cases hnm : 40 < nm.size
  · exact sames_not ln co name sup fs ms a1 n1 c1 a2 n2 c2 which nm W hpow h1 h2 hz' (.inl hnm)
  cases hn2 : ((n2 : Int) == 0) with
  | true => exact sames_not ln co name sup fs ms a1 n1 c1 a2 n2 c2 which nm W hpow h1 h2 hz' (.inr ⟨hnm, hn2⟩)
  | false =>
    have hb := i64_and7 which
    have h0 := Int.emod_nonneg which (show (8 : Int) ≠ 0 by omega)
    have h8 := Int.emod_lt_of_pos which (show (0 : Int) < 8 by omega)
    by_cases k0 : which % 8 = 0
    · exact sames_0 ln co name sup fs ms a1 n1 c1 a2 n2 c2 which nm W hpow h1 h2 hz' hnm hn2 (hb.trans k0)
    by_cases k1 : which % 8 = 1
    · exact sames_1 ln co name sup fs ms a1 n1 c1 a2 n2 c2 which nm W hpow h1 h2 hz' hnm hn2 (hb.trans k1)
    by_cases k2 : which % 8 = 2
    · exact sames_2 ln co name sup fs ms a1 n1 c1 a2 n2 c2 which nm W hpow h1 h2 hz' hnm hn2 (hb.trans k2)
    by_cases k3 : which % 8 = 3
    · exact sames_3 ln co name sup fs ms a1 n1 c1 a2 n2 c2 which nm W hpow h1 h2 hz' hnm hn2 (hb.trans k3)
    by_cases k4 : which % 8 = 4
    · exact sames_4 ln co name sup fs ms a1 n1 c1 a2 n2 c2 which nm W hpow h1 h2 hz' hnm hn2 (hb.trans k4)
    by_cases k5 : which % 8 = 5
    · exact sames_5 ln co name sup fs ms a1 n1 c1 a2 n2 c2 which nm W hpow h1 h2 hz' hnm hn2 (hb.trans k5)
    by_cases k6 : which % 8 = 6
    · exact sames_6 ln co name sup fs ms a1 n1 c1 a2 n2 c2 which nm W hpow h1 h2 hz' hnm hn2 (hb.trans k6)
    exact sames_7 ln co name sup fs ms a1 n1 c1 a2 n2 c2 which nm W hpow h1 h2 hz' hnm hn2 (hb.trans (by omega))
end Go.Proofs.YtojkagfbdpjckaaDoor
