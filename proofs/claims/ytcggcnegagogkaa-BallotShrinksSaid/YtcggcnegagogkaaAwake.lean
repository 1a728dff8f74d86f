/- The chapter's examples (layer 1): they are what the calls answer. -/
import Derived.Test.YtcggcnegagogkaaMoneySum
namespace Go.Proofs.Ytcggcnegagogkaa
open Go.RowKit
set_option linter.unusedVariables false

end Go.Proofs.Ytcggcnegagogkaa
