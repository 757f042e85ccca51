/-
  DERIVED. GIVEN WITH THE SEED: THE CARDS: each row of YtdcbeemjdpgjmaaDoorRows.lean that lists a variable, with what it lists TIED to the program's text (the seventh form; the later family's looks); each row that meets fmt, with fmt's text TOLD by the authors' own Lean function (tested against real Go, not proved from fmt's source: count such statements apart). THE CARD IS WHAT COUNTS. Prove the row's statement (the work); the ties are given (YtdcbeemjdpgjmaaDoorTie.lean); close each card by the builder's one call (the guide's Derived/Test/ToyasCard.lean, 'card_holds'). Laid BY PROGRAM, IN A SANDBOX (cutbox-door.mjs). By AI agents, Wed Nov 11 2026. No macro, syntax, notation, axiom, sorry.
-/
import Derived.Test.YtdcbeemjdpgjmaaDoorRows
import GoSem.ClaimSeven
namespace Go.Proofs.YtdcbeemjdpgjmaaDoor
namespace Rows

/-- THE TIED CARD OF 'kilnlaw07.FaceBytes'. -/
def faceBytesCard : Claim7 := { stood := { row := faceBytesRow, standIns := [], harness := (true, "4227b360c7b54028ca16606dac1d721d2cb941a0f4f35a4b0b29b192737b9578"), looks := false }, kinds := [], alts := [], laidByText := true, laidKinds := [.data], laidTests := true, laidLooks := .later }
def FaceBytesCardSaid : Prop := Claim7.holds Tryd.pinned (.plain (OpenSpec.ofChange faceBytesSpec)) faceBytesCard

/-- THE TIED CARD OF 'kilnlaw07.FaceReads'. -/
def faceReadsCard : Claim7 := { stood := { row := faceReadsRow, standIns := [], harness := (true, "4227b360c7b54028ca16606dac1d721d2cb941a0f4f35a4b0b29b192737b9578"), looks := false }, kinds := [], alts := [], laidByText := true, laidKinds := [.data], laidTests := true, laidLooks := .later }
def FaceReadsCardSaid : Prop := Claim7.holds Tryd.pinned (.plain (OpenSpec.ofChange faceReadsSpec)) faceReadsCard

/-- THE TIED CARD OF 'kilnlaw07.FaceApart'. -/
def faceApartCard : Claim7 := { stood := { row := faceApartRow, standIns := [], harness := (true, "4227b360c7b54028ca16606dac1d721d2cb941a0f4f35a4b0b29b192737b9578"), looks := false }, kinds := [], alts := [], laidByText := true, laidKinds := [.data], laidTests := true, laidLooks := .later }
def FaceApartCardSaid : Prop := Claim7.holds Tryd.pinned (.plain (OpenSpec.ofChange faceApartSpec)) faceApartCard

/-- THE TIED CARD OF 'kilnlaw07.FaceOrders'. -/
def faceOrdersCard : Claim7 := { stood := { row := faceOrdersRow, standIns := [], harness := (true, "4227b360c7b54028ca16606dac1d721d2cb941a0f4f35a4b0b29b192737b9578"), looks := false }, kinds := [], alts := [], laidByText := true, laidKinds := [.data], laidTests := true, laidLooks := .later }
def FaceOrdersCardSaid : Prop := Claim7.holds Tryd.pinned (.plain (OpenSpec.ofChange faceOrdersSpec)) faceOrdersCard

/-- THE TIED CARD OF 'kilnlaw07.FaceFinds'. -/
def faceFindsCard : Claim7 := { stood := { row := faceFindsRow, standIns := [], harness := (true, "4227b360c7b54028ca16606dac1d721d2cb941a0f4f35a4b0b29b192737b9578"), looks := false }, kinds := [], alts := [], laidByText := true, laidKinds := [.data], laidTests := true, laidLooks := .later }
def FaceFindsCardSaid : Prop := Claim7.holds Tryd.pinned (.plain (OpenSpec.ofChange faceFindsSpec)) faceFindsCard

/-- THE SECOND FORM's CARD OF 'kilnlaw07.FaceBytes'. -/
def faceBytesUptoCard : Claim7 := { stood := { row := faceBytesUptoRow, standIns := [], harness := (true, "4227b360c7b54028ca16606dac1d721d2cb941a0f4f35a4b0b29b192737b9578"), looks := false }, kinds := [], alts := [], laidByText := true, laidKinds := [.data], laidTests := true, laidLooks := .later }
def FaceBytesUptoCardSaid : Prop := Claim7.holds Tryd.pinned (.plain (OpenSpec.upto faceBytesSpec)) faceBytesUptoCard

/-- THE SECOND FORM's CARD OF 'kilnlaw07.FaceReads'. -/
def faceReadsUptoCard : Claim7 := { stood := { row := faceReadsUptoRow, standIns := [], harness := (true, "4227b360c7b54028ca16606dac1d721d2cb941a0f4f35a4b0b29b192737b9578"), looks := false }, kinds := [], alts := [], laidByText := true, laidKinds := [.data], laidTests := true, laidLooks := .later }
def FaceReadsUptoCardSaid : Prop := Claim7.holds Tryd.pinned (.plain (OpenSpec.upto faceReadsSpec)) faceReadsUptoCard

/-- THE SECOND FORM's CARD OF 'kilnlaw07.FaceApart'. -/
def faceApartUptoCard : Claim7 := { stood := { row := faceApartUptoRow, standIns := [], harness := (true, "4227b360c7b54028ca16606dac1d721d2cb941a0f4f35a4b0b29b192737b9578"), looks := false }, kinds := [], alts := [], laidByText := true, laidKinds := [.data], laidTests := true, laidLooks := .later }
def FaceApartUptoCardSaid : Prop := Claim7.holds Tryd.pinned (.plain (OpenSpec.upto faceApartSpec)) faceApartUptoCard

/-- THE SECOND FORM's CARD OF 'kilnlaw07.FaceOrders'. -/
def faceOrdersUptoCard : Claim7 := { stood := { row := faceOrdersUptoRow, standIns := [], harness := (true, "4227b360c7b54028ca16606dac1d721d2cb941a0f4f35a4b0b29b192737b9578"), looks := false }, kinds := [], alts := [], laidByText := true, laidKinds := [.data], laidTests := true, laidLooks := .later }
def FaceOrdersUptoCardSaid : Prop := Claim7.holds Tryd.pinned (.plain (OpenSpec.upto faceOrdersSpec)) faceOrdersUptoCard

/-- THE SECOND FORM's CARD OF 'kilnlaw07.FaceFinds'. -/
def faceFindsUptoCard : Claim7 := { stood := { row := faceFindsUptoRow, standIns := [], harness := (true, "4227b360c7b54028ca16606dac1d721d2cb941a0f4f35a4b0b29b192737b9578"), looks := false }, kinds := [], alts := [], laidByText := true, laidKinds := [.data], laidTests := true, laidLooks := .later }
def FaceFindsUptoCardSaid : Prop := Claim7.holds Tryd.pinned (.plain (OpenSpec.upto faceFindsSpec)) faceFindsUptoCard
end Rows
end Go.Proofs.YtdcbeemjdpgjmaaDoor
