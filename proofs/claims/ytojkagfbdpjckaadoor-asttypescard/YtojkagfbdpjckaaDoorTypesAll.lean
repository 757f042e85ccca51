/-
  AstTypes at every type.
-/
import Derived.Test.YtojkagfbdpjckaaDoorTypesA
import Derived.Test.YtojkagfbdpjckaaDoorTypesB
import Derived.Test.YtojkagfbdpjckaaDoorTypesC
import Derived.Test.YtojkagfbdpjckaaDoorTypesD
namespace Go.Proofs.YtojkagfbdpjckaaDoor
open Go.RowKit Go.Lib Go.Sort

theorem types_any (n : ByteArray) (a : Bool) (W : World) (hpow : Pow W) : Calls Tryd.prog 5 #[tyV n a] W fun e w' => e = .returned (.bool true) ∧ Below W.heap.size W w' := by
  by_cases h0 : 0 < n.size
  · by_cases h65 : (65 : Int) ≤ n[0].toNat
    · by_cases h90 : (n[0].toNat : Int) ≤ 90
      · cases a
        · exact types_Gf n h0 h65 h90 W hpow
        · exact types_Gt n h0 h65 h90 W hpow
      · by_cases hz : n.toList = [110, 117, 108, 108]
        · cases a
          · exact types_Zf n h0 h65 h90 hz W hpow
          · exact types_Zt n h0 h65 h90 hz W hpow
        · cases a
          · exact types_Nf n h0 h65 h90 hz W hpow
          · exact types_Nt n h0 h65 h90 hz W hpow
    · cases a
      · exact types_Sf n h0 h65 W hpow
      · exact types_St n h0 h65 W hpow
  · have h0' : n.size = 0 := by omega
    cases a
    · exact types_Ef n h0' W hpow
    · exact types_Et n h0' W hpow
end Go.Proofs.YtojkagfbdpjckaaDoor
