/- What Check answers, as a hypothesis: contracts that take it don't wait for its proof. -/
import Derived.Test.YtklempnebhcoiaaParL
namespace Go.Proofs.Ytklempnebhcoiaa
open Go.RowKit
set_option linter.unusedVariables false

/-- What Check answers, in any world. -/
def CheckIs (p : Par) (c : Int) : Prop := ∀ w, Calls Try.prog 18 #[.agg p.vals] w fun e w' => e = .returned (.int .i64 c) ∧ Below w.heap.size w w'
end Go.Proofs.Ytklempnebhcoiaa
