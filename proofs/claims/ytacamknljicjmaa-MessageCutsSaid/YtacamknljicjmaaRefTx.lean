import Derived.Test.YtacamknljicjmaaTxCheck
/-
  The reference: whether a transaction may be.
-/
namespace Go.Proofs.Ytacamknljicjmaa
set_option maxRecDepth 100000
section
set_option linter.unusedVariables false
open Go.RowKit

end
end Go.Proofs.Ytacamknljicjmaa
