/- The calls of layer 1 (money) on single numbers, each by a contract: what they answer, and that the world stays. -/
import Derived.Test.YtklempnebhcoiaaProg
import Derived.WalkKit
import Derived.ProofKit
namespace Go.Proofs.Ytklempnebhcoiaa
open Go.RowKit
set_option linter.unusedVariables false

end Go.Proofs.Ytklempnebhcoiaa
