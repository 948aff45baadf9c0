/-
  DERIVED. GIVEN WITH THE SEED: THE CARDS: each row of YtbdjbmgeelleiaaDoorRows.lean that lists a variable, with what it lists TIED to the program's text (the seventh form; the later family's looks); each row that meets fmt, with fmt's text TOLD by the authors' own Lean function (tested against real Go, not proved from fmt's source: count such statements apart). THE CARD IS WHAT COUNTS. Prove the row's statement (the work); the ties are given (YtbdjbmgeelleiaaDoorTie.lean); close each card by the builder's one call (the guide's Derived/Test/ToyasCard.lean, 'card_holds'). Laid BY PROGRAM, IN A SANDBOX (cutbox-door.mjs). By AI agents, Wed Nov 11 2026. No macro, syntax, notation, axiom, sorry.
-/
import Derived.Test.YtbdjbmgeelleiaaDoorRows
import GoSem.ClaimSeven
namespace Go.Proofs.YtbdjbmgeelleiaaDoor
namespace Rows

/-- THE TIED CARD OF 'mootlaw05.SignerTells'. -/
def signerTellsCard : Claim7 := { stood := { row := signerTellsRow, standIns := [], harness := (true, "1bf23ced51be433c13d3dfe853facb49fb9b65297f18e824e933b0d5ca493797"), looks := false }, kinds := [], alts := [], laidByText := true, laidKinds := [.data, .data], laidTests := true, laidLooks := .later }
def SignerTellsCardSaid : Prop := Claim7.holds Tryd.pinned (.plain (OpenSpec.ofChange signerTellsSpec)) signerTellsCard

/-- THE TIED CARD OF 'mootlaw05.SignerOwn'. -/
def signerOwnCard : Claim7 := { stood := { row := signerOwnRow, standIns := [], harness := (true, "1bf23ced51be433c13d3dfe853facb49fb9b65297f18e824e933b0d5ca493797"), looks := false }, kinds := [], alts := [], laidByText := true, laidKinds := [.data, .data], laidTests := true, laidLooks := .later }
def SignerOwnCardSaid : Prop := Claim7.holds Tryd.pinned (.plain (OpenSpec.ofChange signerOwnSpec)) signerOwnCard

/-- THE SECOND FORM's CARD OF 'mootlaw05.SignerTells'. -/
def signerTellsUptoCard : Claim7 := { stood := { row := signerTellsUptoRow, standIns := [], harness := (true, "1bf23ced51be433c13d3dfe853facb49fb9b65297f18e824e933b0d5ca493797"), looks := false }, kinds := [], alts := [], laidByText := true, laidKinds := [.data, .data], laidTests := true, laidLooks := .later }
def SignerTellsUptoCardSaid : Prop := Claim7.holds Tryd.pinned (.plain (OpenSpec.upto signerTellsSpec)) signerTellsUptoCard

/-- THE SECOND FORM's CARD OF 'mootlaw05.SignerOwn'. -/
def signerOwnUptoCard : Claim7 := { stood := { row := signerOwnUptoRow, standIns := [], harness := (true, "1bf23ced51be433c13d3dfe853facb49fb9b65297f18e824e933b0d5ca493797"), looks := false }, kinds := [], alts := [], laidByText := true, laidKinds := [.data, .data], laidTests := true, laidLooks := .later }
def SignerOwnUptoCardSaid : Prop := Claim7.holds Tryd.pinned (.plain (OpenSpec.upto signerOwnSpec)) signerOwnUptoCard
end Rows
end Go.Proofs.YtbdjbmgeelleiaaDoor
