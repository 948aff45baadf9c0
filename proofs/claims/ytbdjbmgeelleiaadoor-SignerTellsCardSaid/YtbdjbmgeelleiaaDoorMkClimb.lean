import Derived.WalkKit
import Derived.Outline
import Derived.Deep.QuietTactic
import Derived.BigQuiet
import Derived.Test.YtbdjbmgeelleiaaDoorMkPlain
namespace Go.Proofs.YtbdjbmgeelleiaaDoor
section
set_option linter.unusedVariables false
open Go.RowKit

end
end Go.Proofs.YtbdjbmgeelleiaaDoor
