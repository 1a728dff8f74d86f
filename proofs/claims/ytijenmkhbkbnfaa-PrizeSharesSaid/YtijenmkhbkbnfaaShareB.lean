/- Layer 4 (share): what the parts leave; a sum shared out; without a rest. By contracts. -/
import Derived.Test.YtijenmkhbkbnfaaShareA
import Derived.Maps.AppendAt
namespace Go.Proofs.Ytijenmkhbkbnfaa
open Go.RowKit Go.Shelf
set_option linter.unusedVariables false
attribute [local go_sem] Oper.semAt_some

end Go.Proofs.Ytijenmkhbkbnfaa
