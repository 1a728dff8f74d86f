/- Layer 7 (param), the document's: which parameters are right. By contracts. -/
import Derived.Test.YtioghkkpdkkedaaDoorParA
import Derived.Deep.QuietTactic
import Derived.BigQuiet
namespace Go.Proofs.YtioghkkpdkkedaaDoor
open Go.RowKit
set_option linter.unusedVariables false

end Go.Proofs.YtioghkkpdkkedaaDoor
