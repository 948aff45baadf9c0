import Derived.Test.YtnipkhgaceicbaaTxCheck
/-
  The reference: whether a transaction may be.
-/
namespace Go.Proofs.Ytnipkhgaceicbaa
set_option maxRecDepth 100000
section
set_option linter.unusedVariables false
open Go.RowKit

end
end Go.Proofs.Ytnipkhgaceicbaa
