/- Does a mode leak? Layer 11's answer and the document's. By contracts. -/
import Derived.Test.YtcggcnegagogkaaPlM
import Derived.Test.YtcggcnegagogkaaCore
import Derived.Test.YtcggcnegagogkaaProg
namespace Go.Proofs.Ytcggcnegagogkaa
open Go.RowKit
set_option linter.unusedVariables false
set_option linter.unusedSimpArgs false

end Go.Proofs.Ytcggcnegagogkaa
