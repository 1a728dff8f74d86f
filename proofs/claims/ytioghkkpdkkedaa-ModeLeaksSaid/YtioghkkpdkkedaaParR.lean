/- Layer 7 (param), the document's: which parameters are right. By contracts. -/
import Derived.Test.YtioghkkpdkkedaaParA
import Derived.Deep.QuietTactic
import Derived.BigQuiet
namespace Go.Proofs.Ytioghkkpdkkedaa
open Go.RowKit
set_option linter.unusedVariables false

end Go.Proofs.Ytioghkkpdkkedaa
