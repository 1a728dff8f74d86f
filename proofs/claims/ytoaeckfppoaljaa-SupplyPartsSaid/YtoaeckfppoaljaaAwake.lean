/- The chapter's examples (layer 1): they are what the calls answer. -/
import Derived.Test.YtoaeckfppoaljaaMoneySum
namespace Go.Proofs.Ytoaeckfppoaljaa
open Go.RowKit
set_option linter.unusedVariables false

end Go.Proofs.Ytoaeckfppoaljaa
