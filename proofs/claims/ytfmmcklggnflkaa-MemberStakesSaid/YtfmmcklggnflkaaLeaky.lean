/- Does a mode leak? Layer 11's answer and the document's. By contracts. -/
import Derived.Test.YtfmmcklggnflkaaScoM
import Derived.Test.YtfmmcklggnflkaaCore
import Derived.Test.YtfmmcklggnflkaaProg
namespace Go.Proofs.Ytfmmcklggnflkaa
open Go.RowKit
set_option linter.unusedVariables false
set_option linter.unusedSimpArgs false

end Go.Proofs.Ytfmmcklggnflkaa
