import Derived.Laws.EntriesVeiled
import Derived.Test.YtbdjbmgeelleiaaDoorSgNewK
/-
  signer: what Verify takes off a signature, piece by piece.
-/
namespace Go.Proofs.YtbdjbmgeelleiaaDoor
set_option maxRecDepth 100000
section
set_option linter.unusedVariables false
open Go.RowKit

theorem strOfNums_drop (zs : List Int) (k : Nat) : (strOfNums zs).extract k (strOfNums zs).size = strOfNums (zs.drop k) := by
  apply ByteArray.ext
  rw [strOfNums_size]
  simp [strOfNums, ByteArray.data_extract, List.map_drop]
  rw [List.take_of_length_le (by simp)]

/-- the text that is left, in its box -/
def Left (B : Nat) (zs : List Int) (W : World) : Prop := W.heap[B]? = some (.cells #[.string (strOfNums zs)] 9 (0, 0))
/-- a piece of eight octets -/
def pieceB (sig : List Int) (p : Nat) : List Int := (sig.drop p).take 8

end
end Go.Proofs.YtbdjbmgeelleiaaDoor
