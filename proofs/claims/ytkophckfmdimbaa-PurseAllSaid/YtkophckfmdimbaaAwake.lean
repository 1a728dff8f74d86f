/- The chapter's examples (layer 1): they are what the calls answer. -/
import Derived.Test.YtkophckfmdimbaaMoneySum
namespace Go.Proofs.Ytkophckfmdimbaa
open Go.RowKit
set_option linter.unusedVariables false

end Go.Proofs.Ytkophckfmdimbaa
