/-
  DERIVED. GIVEN WITH THE SEED: THE CARDS: each row of YtojkagfbdpjckaaDoorRows.lean that lists a variable, with what it lists TIED to the program's text (the seventh form; the later family's looks); each row that meets fmt, with fmt's text TOLD by the authors' own Lean function (tested against real Go, not proved from fmt's source: count such statements apart). THE CARD IS WHAT COUNTS. Prove the row's statement (the work); the ties are given (YtojkagfbdpjckaaDoorTie.lean); close each card by the builder's one call (the guide's Derived/Test/ToyasCard.lean, 'card_holds'). Laid BY PROGRAM, IN A SANDBOX (cutbox-door.mjs). By AI agents, Wed Nov 11 2026. No macro, syntax, notation, axiom, sorry.
-/
import Derived.Test.YtojkagfbdpjckaaDoorRows
import GoSem.ClaimSeven
namespace Go.Proofs.YtojkagfbdpjckaaDoor
namespace Rows

/-- THE TIED CARD OF 'kilnlaw05.AstExprs'. -/
def astExprsCard : Claim7 := { stood := { row := astExprsRow, standIns := [], harness := (true, "10ab2ca2c2aee9c4c4ca037f4eea334d5041bd66ff00f93a803dc9738b55951d"), looks := false }, kinds := [], alts := [], laidByText := true, laidKinds := [.data, .data, .data], laidTests := true, laidLooks := .later }
def AstExprsCardSaid : Prop := Claim7.holds Tryd.pinned (.plain (OpenSpec.ofChange astExprsSpec)) astExprsCard

/-- THE TIED CARD OF 'kilnlaw05.AstSames'. -/
def astSamesCard : Claim7 := { stood := { row := astSamesRow, standIns := [], harness := (true, "10ab2ca2c2aee9c4c4ca037f4eea334d5041bd66ff00f93a803dc9738b55951d"), looks := false }, kinds := [], alts := [], laidByText := true, laidKinds := [.data, .data, .data], laidTests := true, laidLooks := .later }
def AstSamesCardSaid : Prop := Claim7.holds Tryd.pinned (.plain (OpenSpec.ofChange astSamesSpec)) astSamesCard

/-- THE TIED CARD OF 'kilnlaw05.AstTypes'. -/
def astTypesCard : Claim7 := { stood := { row := astTypesRow, standIns := [], harness := (true, "10ab2ca2c2aee9c4c4ca037f4eea334d5041bd66ff00f93a803dc9738b55951d"), looks := false }, kinds := [], alts := [], laidByText := true, laidKinds := [.data, .data, .data], laidTests := true, laidLooks := .later }
def AstTypesCardSaid : Prop := Claim7.holds Tryd.pinned (.plain (OpenSpec.ofChange astTypesSpec)) astTypesCard

/-- THE TIED CARD OF 'kilnlaw05.AstLines'. -/
def astLinesCard : Claim7 := { stood := { row := astLinesRow, standIns := [], harness := (true, "10ab2ca2c2aee9c4c4ca037f4eea334d5041bd66ff00f93a803dc9738b55951d"), looks := false }, kinds := [], alts := [], laidByText := true, laidKinds := [.data, .data, .data], laidTests := true, laidLooks := .later }
def AstLinesCardSaid : Prop := Claim7.holds Tryd.pinned (.plain (OpenSpec.ofChange astLinesSpec)) astLinesCard

/-- THE TIED CARD OF 'kilnlaw05.AstKids'. -/
def astKidsCard : Claim7 := { stood := { row := astKidsRow, standIns := [], harness := (true, "10ab2ca2c2aee9c4c4ca037f4eea334d5041bd66ff00f93a803dc9738b55951d"), looks := false }, kinds := [], alts := [], laidByText := true, laidKinds := [.data, .data, .data], laidTests := true, laidLooks := .later }
def AstKidsCardSaid : Prop := Claim7.holds Tryd.pinned (.plain (OpenSpec.ofChange astKidsSpec)) astKidsCard

/-- THE SECOND FORM's CARD OF 'kilnlaw05.AstExprs'. -/
def astExprsUptoCard : Claim7 := { stood := { row := astExprsUptoRow, standIns := [], harness := (true, "10ab2ca2c2aee9c4c4ca037f4eea334d5041bd66ff00f93a803dc9738b55951d"), looks := false }, kinds := [], alts := [], laidByText := true, laidKinds := [.data, .data, .data], laidTests := true, laidLooks := .later }
def AstExprsUptoCardSaid : Prop := Claim7.holds Tryd.pinned (.plain (OpenSpec.upto astExprsSpec)) astExprsUptoCard

/-- THE SECOND FORM's CARD OF 'kilnlaw05.AstSames'. -/
def astSamesUptoCard : Claim7 := { stood := { row := astSamesUptoRow, standIns := [], harness := (true, "10ab2ca2c2aee9c4c4ca037f4eea334d5041bd66ff00f93a803dc9738b55951d"), looks := false }, kinds := [], alts := [], laidByText := true, laidKinds := [.data, .data, .data], laidTests := true, laidLooks := .later }
def AstSamesUptoCardSaid : Prop := Claim7.holds Tryd.pinned (.plain (OpenSpec.upto astSamesSpec)) astSamesUptoCard

/-- THE SECOND FORM's CARD OF 'kilnlaw05.AstTypes'. -/
def astTypesUptoCard : Claim7 := { stood := { row := astTypesUptoRow, standIns := [], harness := (true, "10ab2ca2c2aee9c4c4ca037f4eea334d5041bd66ff00f93a803dc9738b55951d"), looks := false }, kinds := [], alts := [], laidByText := true, laidKinds := [.data, .data, .data], laidTests := true, laidLooks := .later }
def AstTypesUptoCardSaid : Prop := Claim7.holds Tryd.pinned (.plain (OpenSpec.upto astTypesSpec)) astTypesUptoCard

/-- THE SECOND FORM's CARD OF 'kilnlaw05.AstLines'. -/
def astLinesUptoCard : Claim7 := { stood := { row := astLinesUptoRow, standIns := [], harness := (true, "10ab2ca2c2aee9c4c4ca037f4eea334d5041bd66ff00f93a803dc9738b55951d"), looks := false }, kinds := [], alts := [], laidByText := true, laidKinds := [.data, .data, .data], laidTests := true, laidLooks := .later }
def AstLinesUptoCardSaid : Prop := Claim7.holds Tryd.pinned (.plain (OpenSpec.upto astLinesSpec)) astLinesUptoCard

/-- THE SECOND FORM's CARD OF 'kilnlaw05.AstKids'. -/
def astKidsUptoCard : Claim7 := { stood := { row := astKidsUptoRow, standIns := [], harness := (true, "10ab2ca2c2aee9c4c4ca037f4eea334d5041bd66ff00f93a803dc9738b55951d"), looks := false }, kinds := [], alts := [], laidByText := true, laidKinds := [.data, .data, .data], laidTests := true, laidLooks := .later }
def AstKidsUptoCardSaid : Prop := Claim7.holds Tryd.pinned (.plain (OpenSpec.upto astKidsSpec)) astKidsUptoCard
end Rows
end Go.Proofs.YtojkagfbdpjckaaDoor
