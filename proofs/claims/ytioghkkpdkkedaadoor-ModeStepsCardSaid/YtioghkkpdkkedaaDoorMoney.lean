/- The calls of layer 1 (money) on single numbers, each by a contract: what they answer, and that the world stays. -/
import Derived.Test.YtioghkkpdkkedaaDoorProg
import Derived.WalkKit
import Derived.ProofKit
namespace Go.Proofs.YtioghkkpdkkedaaDoor
open Go.RowKit
set_option linter.unusedVariables false

end Go.Proofs.YtioghkkpdkkedaaDoor
