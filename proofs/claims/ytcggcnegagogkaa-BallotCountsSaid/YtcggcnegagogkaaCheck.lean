/- What Check answers, as a hypothesis: contracts that take it don't wait for its proof. -/
import Derived.Test.YtcggcnegagogkaaParL
namespace Go.Proofs.Ytcggcnegagogkaa
open Go.RowKit
set_option linter.unusedVariables false

end Go.Proofs.Ytcggcnegagogkaa
