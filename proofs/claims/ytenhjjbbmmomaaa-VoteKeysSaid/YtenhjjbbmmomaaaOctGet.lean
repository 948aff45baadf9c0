import Derived.Test.YtenhjjbbmmomaaaBase
namespace Go.Proofs.Ytenhjjbbmmomaaa
open Go.RowKit
set_option linter.unusedVariables false

end Go.Proofs.Ytenhjjbbmmomaaa
