/- The document's whole numbers: Times. -/
import Derived.Test.YtmkploknoohliaaDoorNC
import Derived.Deep.AppendLies
namespace Go.Proofs.YtmkploknoohliaaDoor
open Go.RowKit
open M
set_option linter.unusedVariables false
set_option linter.unusedSimpArgs false

end Go.Proofs.YtmkploknoohliaaDoor
