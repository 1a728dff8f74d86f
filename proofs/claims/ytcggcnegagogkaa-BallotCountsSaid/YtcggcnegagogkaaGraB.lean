/- Layer 10 (grain): the effective balance that follows. By contracts. · Layer 10 (grain): Whole, Next, Fits, Clamp. By contracts. -/
import Derived.Test.YtcggcnegagogkaaPlM
import Derived.Test.YtcggcnegagogkaaMoneySum
import Derived.Test.YtcggcnegagogkaaParL
import Derived.Test.YtcggcnegagogkaaSeq
import Derived.Test.YtcggcnegagogkaaCheck
namespace Go.Proofs.Ytcggcnegagogkaa
open Go.RowKit
set_option linter.unusedVariables false
set_option linter.unusedSimpArgs false

section
variable {ops : Array Oper} {rest : List Oper} {o : Oper} {a : Act} {w : World} {Q : Exit → Act → World → Prop}
end


end Go.Proofs.Ytcggcnegagogkaa
namespace Go.Proofs.Ytcggcnegagogkaa
open Go.RowKit
set_option linter.unusedVariables false
set_option linter.unusedSimpArgs false

end Go.Proofs.Ytcggcnegagogkaa
