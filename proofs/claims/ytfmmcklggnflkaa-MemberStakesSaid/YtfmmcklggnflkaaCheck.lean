/- What Check answers, as a hypothesis: contracts that take it don't wait for its proof. -/
import Derived.Test.YtfmmcklggnflkaaParL
namespace Go.Proofs.Ytfmmcklggnflkaa
open Go.RowKit
set_option linter.unusedVariables false

/-- What Check answers, in any world. -/
def CheckIs (p : Par) (c : Int) : Prop := ∀ w, Calls Try.prog 26 #[.agg p.vals] w fun e w' => e = .returned (.int .i64 c) ∧ Below w.heap.size w w'
end Go.Proofs.Ytfmmcklggnflkaa
