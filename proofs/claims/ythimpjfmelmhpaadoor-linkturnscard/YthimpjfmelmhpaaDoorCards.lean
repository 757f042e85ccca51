/-
  DERIVED. GIVEN WITH THE SEED: THE CARDS: each row of YthimpjfmelmhpaaDoorRows.lean that lists a variable, with what it lists TIED to the program's text (the seventh form; the later family's looks); each row that meets fmt, with fmt's text TOLD by the authors' own Lean function (tested against real Go, not proved from fmt's source: count such statements apart). THE CARD IS WHAT COUNTS. Prove the row's statement (the work); the ties are given (YthimpjfmelmhpaaDoorTie.lean); close each card by the builder's one call (the guide's Derived/Test/ToyasCard.lean, 'card_holds'). Laid BY PROGRAM, IN A SANDBOX (cutbox-door.mjs). By AI agents, Wed Nov 11 2026. No macro, syntax, notation, axiom, sorry.
-/
import Derived.Test.YthimpjfmelmhpaaDoorRows
import GoSem.ClaimSeven
namespace Go.Proofs.YthimpjfmelmhpaaDoor
namespace Rows

/-- THE TIED CARD OF 'kilnlaw14.LinkErrors'. -/
def linkErrorsCard : Claim7 := { stood := { row := linkErrorsRow, standIns := [], harness := (true, "d681bdda67c86e18af54b35ab33a0782c8b58967f230735b804d51104a488ccb"), looks := false }, kinds := [], alts := [], laidByText := true, laidKinds := [.data], laidTests := true, laidLooks := .later }
def LinkErrorsCardSaid : Prop := Claim7.holds Tryd.pinned (.plain (OpenSpec.ofChange linkErrorsSpec)) linkErrorsCard

/-- THE TIED CARD OF 'kilnlaw14.LinkTurns'. -/
def linkTurnsCard : Claim7 := { stood := { row := linkTurnsRow, standIns := [], harness := (true, "d681bdda67c86e18af54b35ab33a0782c8b58967f230735b804d51104a488ccb"), looks := false }, kinds := [], alts := [], laidByText := true, laidKinds := [.data], laidTests := true, laidLooks := .later }
def LinkTurnsCardSaid : Prop := Claim7.holds Tryd.pinned (.plain (OpenSpec.ofChange linkTurnsSpec)) linkTurnsCard

/-- THE TIED CARD OF 'kilnlaw14.LinkMany'. -/
def linkManyCard : Claim7 := { stood := { row := linkManyRow, standIns := [], harness := (true, "d681bdda67c86e18af54b35ab33a0782c8b58967f230735b804d51104a488ccb"), looks := false }, kinds := [], alts := [], laidByText := true, laidKinds := [.data], laidTests := true, laidLooks := .later }
def LinkManyCardSaid : Prop := Claim7.holds Tryd.pinned (.plain (OpenSpec.ofChange linkManySpec)) linkManyCard

/-- THE SECOND FORM's CARD OF 'kilnlaw14.LinkErrors'. -/
def linkErrorsUptoCard : Claim7 := { stood := { row := linkErrorsUptoRow, standIns := [], harness := (true, "d681bdda67c86e18af54b35ab33a0782c8b58967f230735b804d51104a488ccb"), looks := false }, kinds := [], alts := [], laidByText := true, laidKinds := [.data], laidTests := true, laidLooks := .later }
def LinkErrorsUptoCardSaid : Prop := Claim7.holds Tryd.pinned (.plain (OpenSpec.upto linkErrorsSpec)) linkErrorsUptoCard

/-- THE SECOND FORM's CARD OF 'kilnlaw14.LinkTurns'. -/
def linkTurnsUptoCard : Claim7 := { stood := { row := linkTurnsUptoRow, standIns := [], harness := (true, "d681bdda67c86e18af54b35ab33a0782c8b58967f230735b804d51104a488ccb"), looks := false }, kinds := [], alts := [], laidByText := true, laidKinds := [.data], laidTests := true, laidLooks := .later }
def LinkTurnsUptoCardSaid : Prop := Claim7.holds Tryd.pinned (.plain (OpenSpec.upto linkTurnsSpec)) linkTurnsUptoCard

/-- THE SECOND FORM's CARD OF 'kilnlaw14.LinkMany'. -/
def linkManyUptoCard : Claim7 := { stood := { row := linkManyUptoRow, standIns := [], harness := (true, "d681bdda67c86e18af54b35ab33a0782c8b58967f230735b804d51104a488ccb"), looks := false }, kinds := [], alts := [], laidByText := true, laidKinds := [.data], laidTests := true, laidLooks := .later }
def LinkManyUptoCardSaid : Prop := Claim7.holds Tryd.pinned (.plain (OpenSpec.upto linkManySpec)) linkManyUptoCard
end Rows
end Go.Proofs.YthimpjfmelmhpaaDoor
