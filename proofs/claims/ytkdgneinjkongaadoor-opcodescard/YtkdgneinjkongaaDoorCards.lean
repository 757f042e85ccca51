/-
  DERIVED. GIVEN WITH THE SEED: THE CARDS: each row of YtkdgneinjkongaaDoorRows.lean that lists a variable, with what it lists TIED to the program's text (the seventh form; the later family's looks); each row that meets fmt, with fmt's text TOLD by the authors' own Lean function (tested against real Go, not proved from fmt's source: count such statements apart). THE CARD IS WHAT COUNTS. Prove the row's statement (the work); the ties are given (YtkdgneinjkongaaDoorTie.lean); close each card by the builder's one call (the guide's Derived/Test/ToyasCard.lean, 'card_holds'). Laid BY PROGRAM, IN A SANDBOX (cutbox-door.mjs). By AI agents, Wed Nov 11 2026. No macro, syntax, notation, axiom, sorry.
-/
import Derived.Test.YtkdgneinjkongaaDoorRows
import GoSem.ClaimSeven
namespace Go.Proofs.YtkdgneinjkongaaDoor
namespace Rows

/-- THE TIED CARD OF 'kilnlaw11.OpCodes'. -/
def opCodesCard : Claim7 := { stood := { row := opCodesRow, standIns := [], harness := (true, "effdd6ec09f7066fcb76d998db0f6a1b2d416ff7e525761b1141e74c61eb7cd4"), looks := false }, kinds := [], alts := [], laidByText := true, laidKinds := [.data, .data, .data, .data], laidTests := true, laidLooks := .later }
def OpCodesCardSaid : Prop := Claim7.holds Tryd.pinned (.plain (OpenSpec.ofChange opCodesSpec)) opCodesCard

/-- THE TIED CARD OF 'kilnlaw11.OpInstrs'. -/
def opInstrsCard : Claim7 := { stood := { row := opInstrsRow, standIns := [], harness := (true, "effdd6ec09f7066fcb76d998db0f6a1b2d416ff7e525761b1141e74c61eb7cd4"), looks := false }, kinds := [], alts := [], laidByText := true, laidKinds := [.data, .data, .data, .data], laidTests := true, laidLooks := .later }
def OpInstrsCardSaid : Prop := Claim7.holds Tryd.pinned (.plain (OpenSpec.ofChange opInstrsSpec)) opInstrsCard

/-- THE TIED CARD OF 'kilnlaw11.OpFinds'. -/
def opFindsCard : Claim7 := { stood := { row := opFindsRow, standIns := [], harness := (true, "effdd6ec09f7066fcb76d998db0f6a1b2d416ff7e525761b1141e74c61eb7cd4"), looks := false }, kinds := [], alts := [], laidByText := true, laidKinds := [.data, .data, .data, .data], laidTests := true, laidLooks := .later }
def OpFindsCardSaid : Prop := Claim7.holds Tryd.pinned (.plain (OpenSpec.ofChange opFindsSpec)) opFindsCard

/-- THE TIED CARD OF 'kilnlaw11.OpTexts'. -/
def opTextsCard : Claim7 := { stood := { row := opTextsRow, standIns := [], harness := (true, "effdd6ec09f7066fcb76d998db0f6a1b2d416ff7e525761b1141e74c61eb7cd4"), looks := false }, kinds := [], alts := [], laidByText := true, laidKinds := [.data, .data, .data, .data], laidTests := true, laidLooks := .later }
def OpTextsCardSaid : Prop := Claim7.holds Tryd.pinned (.plain (OpenSpec.ofChange opTextsSpec)) opTextsCard

/-- THE SECOND FORM's CARD OF 'kilnlaw11.OpCodes'. -/
def opCodesUptoCard : Claim7 := { stood := { row := opCodesUptoRow, standIns := [], harness := (true, "effdd6ec09f7066fcb76d998db0f6a1b2d416ff7e525761b1141e74c61eb7cd4"), looks := false }, kinds := [], alts := [], laidByText := true, laidKinds := [.data, .data, .data, .data], laidTests := true, laidLooks := .later }
def OpCodesUptoCardSaid : Prop := Claim7.holds Tryd.pinned (.plain (OpenSpec.upto opCodesSpec)) opCodesUptoCard

/-- THE SECOND FORM's CARD OF 'kilnlaw11.OpInstrs'. -/
def opInstrsUptoCard : Claim7 := { stood := { row := opInstrsUptoRow, standIns := [], harness := (true, "effdd6ec09f7066fcb76d998db0f6a1b2d416ff7e525761b1141e74c61eb7cd4"), looks := false }, kinds := [], alts := [], laidByText := true, laidKinds := [.data, .data, .data, .data], laidTests := true, laidLooks := .later }
def OpInstrsUptoCardSaid : Prop := Claim7.holds Tryd.pinned (.plain (OpenSpec.upto opInstrsSpec)) opInstrsUptoCard

/-- THE SECOND FORM's CARD OF 'kilnlaw11.OpFinds'. -/
def opFindsUptoCard : Claim7 := { stood := { row := opFindsUptoRow, standIns := [], harness := (true, "effdd6ec09f7066fcb76d998db0f6a1b2d416ff7e525761b1141e74c61eb7cd4"), looks := false }, kinds := [], alts := [], laidByText := true, laidKinds := [.data, .data, .data, .data], laidTests := true, laidLooks := .later }
def OpFindsUptoCardSaid : Prop := Claim7.holds Tryd.pinned (.plain (OpenSpec.upto opFindsSpec)) opFindsUptoCard

/-- THE SECOND FORM's CARD OF 'kilnlaw11.OpTexts'. -/
def opTextsUptoCard : Claim7 := { stood := { row := opTextsUptoRow, standIns := [], harness := (true, "effdd6ec09f7066fcb76d998db0f6a1b2d416ff7e525761b1141e74c61eb7cd4"), looks := false }, kinds := [], alts := [], laidByText := true, laidKinds := [.data, .data, .data, .data], laidTests := true, laidLooks := .later }
def OpTextsUptoCardSaid : Prop := Claim7.holds Tryd.pinned (.plain (OpenSpec.upto opTextsSpec)) opTextsUptoCard
end Rows
end Go.Proofs.YtkdgneinjkongaaDoor
