/-
  DERIVED. GIVEN WITH THE SEED: THE CARDS: each row of YtpofehagmpdgeaaDoorRows.lean that lists a variable, with what it lists TIED to the program's text (the seventh form; the later family's looks); each row that meets fmt, with fmt's text TOLD by the authors' own Lean function (tested against real Go, not proved from fmt's source: count such statements apart). THE CARD IS WHAT COUNTS. Prove the row's statement (the work); the ties are given (YtpofehagmpdgeaaDoorTie.lean); close each card by the builder's one call (the guide's Derived/Test/ToyasCard.lean, 'card_holds'). Laid BY PROGRAM, IN A SANDBOX (cutbox-door.mjs). By AI agents, Wed Nov 11 2026. No macro, syntax, notation, axiom, sorry.
-/
import Derived.Test.YtpofehagmpdgeaaDoorRows
import GoSem.ClaimSeven
namespace Go.Proofs.YtpofehagmpdgeaaDoor
namespace Rows

/-- THE TIED CARD OF 'mootlaw04.MerkleTells'. -/
def merkleTellsCard : Claim7 := { stood := { row := merkleTellsRow, standIns := [], harness := (true, "c5a271cb816674d641db698399e0c16faaf00318e9b3c1720e690a7dcc6df442"), looks := false }, kinds := [], alts := [], laidByText := true, laidKinds := [.data, .data], laidTests := true, laidLooks := .later }
def MerkleTellsCardSaid : Prop := Claim7.holds Tryd.pinned (.plain (OpenSpec.ofChange merkleTellsSpec)) merkleTellsCard

/-- THE TIED CARD OF 'mootlaw04.MerkleBack'. -/
def merkleBackCard : Claim7 := { stood := { row := merkleBackRow, standIns := [], harness := (true, "c5a271cb816674d641db698399e0c16faaf00318e9b3c1720e690a7dcc6df442"), looks := false }, kinds := [], alts := [], laidByText := true, laidKinds := [.data, .data], laidTests := true, laidLooks := .later }
def MerkleBackCardSaid : Prop := Claim7.holds Tryd.pinned (.plain (OpenSpec.ofChange merkleBackSpec)) merkleBackCard

/-- THE TIED CARD OF 'mootlaw04.MerkleRows'. -/
def merkleRowsCard : Claim7 := { stood := { row := merkleRowsRow, standIns := [], harness := (true, "c5a271cb816674d641db698399e0c16faaf00318e9b3c1720e690a7dcc6df442"), looks := false }, kinds := [], alts := [], laidByText := true, laidKinds := [.data, .data], laidTests := true, laidLooks := .later }
def MerkleRowsCardSaid : Prop := Claim7.holds Tryd.pinned (.plain (OpenSpec.ofChange merkleRowsSpec)) merkleRowsCard

/-- THE TIED CARD OF 'mootlaw04.MerkleWidths'. -/
def merkleWidthsCard : Claim7 := { stood := { row := merkleWidthsRow, standIns := [], harness := (true, "c5a271cb816674d641db698399e0c16faaf00318e9b3c1720e690a7dcc6df442"), looks := false }, kinds := [], alts := [], laidByText := true, laidKinds := [.data, .data], laidTests := true, laidLooks := .later }
def MerkleWidthsCardSaid : Prop := Claim7.holds Tryd.pinned (.plain (OpenSpec.ofChange merkleWidthsSpec)) merkleWidthsCard

/-- THE SECOND FORM's CARD OF 'mootlaw04.MerkleTells'. -/
def merkleTellsUptoCard : Claim7 := { stood := { row := merkleTellsUptoRow, standIns := [], harness := (true, "c5a271cb816674d641db698399e0c16faaf00318e9b3c1720e690a7dcc6df442"), looks := false }, kinds := [], alts := [], laidByText := true, laidKinds := [.data, .data], laidTests := true, laidLooks := .later }
def MerkleTellsUptoCardSaid : Prop := Claim7.holds Tryd.pinned (.plain (OpenSpec.upto merkleTellsSpec)) merkleTellsUptoCard

/-- THE SECOND FORM's CARD OF 'mootlaw04.MerkleBack'. -/
def merkleBackUptoCard : Claim7 := { stood := { row := merkleBackUptoRow, standIns := [], harness := (true, "c5a271cb816674d641db698399e0c16faaf00318e9b3c1720e690a7dcc6df442"), looks := false }, kinds := [], alts := [], laidByText := true, laidKinds := [.data, .data], laidTests := true, laidLooks := .later }
def MerkleBackUptoCardSaid : Prop := Claim7.holds Tryd.pinned (.plain (OpenSpec.upto merkleBackSpec)) merkleBackUptoCard

/-- THE SECOND FORM's CARD OF 'mootlaw04.MerkleRows'. -/
def merkleRowsUptoCard : Claim7 := { stood := { row := merkleRowsUptoRow, standIns := [], harness := (true, "c5a271cb816674d641db698399e0c16faaf00318e9b3c1720e690a7dcc6df442"), looks := false }, kinds := [], alts := [], laidByText := true, laidKinds := [.data, .data], laidTests := true, laidLooks := .later }
def MerkleRowsUptoCardSaid : Prop := Claim7.holds Tryd.pinned (.plain (OpenSpec.upto merkleRowsSpec)) merkleRowsUptoCard

/-- THE SECOND FORM's CARD OF 'mootlaw04.MerkleWidths'. -/
def merkleWidthsUptoCard : Claim7 := { stood := { row := merkleWidthsUptoRow, standIns := [], harness := (true, "c5a271cb816674d641db698399e0c16faaf00318e9b3c1720e690a7dcc6df442"), looks := false }, kinds := [], alts := [], laidByText := true, laidKinds := [.data, .data], laidTests := true, laidLooks := .later }
def MerkleWidthsUptoCardSaid : Prop := Claim7.holds Tryd.pinned (.plain (OpenSpec.upto merkleWidthsSpec)) merkleWidthsUptoCard
end Rows
end Go.Proofs.YtpofehagmpdgeaaDoor
