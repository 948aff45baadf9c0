import Derived.Test.YtgmicppfiapilaaBase
namespace Go.Proofs.Ytgmicppfiapilaa
open Go.RowKit
set_option linter.unusedVariables false

end Go.Proofs.Ytgmicppfiapilaa
