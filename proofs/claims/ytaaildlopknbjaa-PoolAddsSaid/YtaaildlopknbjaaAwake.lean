/- The chapter's examples (layer 1): they are what the calls answer. -/
import Derived.Test.YtaaildlopknbjaaMoneySum
namespace Go.Proofs.Ytaaildlopknbjaa
open Go.RowKit
set_option linter.unusedVariables false

end Go.Proofs.Ytaaildlopknbjaa
