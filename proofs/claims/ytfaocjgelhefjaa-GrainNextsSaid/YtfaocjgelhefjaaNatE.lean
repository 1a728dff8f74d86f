/- The reference's numbers (layer 1): differences. By contracts. -/
import Derived.Test.YtfaocjgelhefjaaNatD
namespace Go.Proofs.Ytfaocjgelhefjaa
open Go.RowKit
set_option linter.unusedVariables false

end Go.Proofs.Ytfaocjgelhefjaa
