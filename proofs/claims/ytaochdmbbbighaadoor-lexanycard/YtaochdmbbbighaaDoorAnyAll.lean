/-
  LexAny: the walk, of any text.
-/
import Derived.Test.YtaochdmbbbighaaDoorAnyGood
namespace Go.Proofs.YtaochdmbbbighaaDoor
open Go.RowKit

theorem any_walk (s : ByteArray) (w : World) (hT : Tabs w) : Calls Tryd.prog 3 #[.string s] w fun e w' => e = .returned (.bool true) ∧ Below w.heap.size w w' := by
  by_cases h : 600 < s.size
  · exact any_long s w hT h
  · obtain ⟨ts, r, hL⟩ := Lx.total s.data.toList 0 (Nat.zero_le _)
    rcases r with _ | ⟨er, p⟩
    · exact any_good s w hT h ts hL
    · exact any_bad s w hT h ts er p hL
end Go.Proofs.YtaochdmbbbighaaDoor
