/- Check of the example's parameters. -/
import Derived.Test.YtijenmkhbkbnfaaCheck
import Derived.Test.YtijenmkhbkbnfaaParNew
import Derived.Test.YtijenmkhbkbnfaaAwake7
namespace Go.Proofs.Ytijenmkhbkbnfaa
theorem simple_checks : CheckIs Par.simple 0 := fun w => check_ok Par.simple 12 w simple_right
end Go.Proofs.Ytijenmkhbkbnfaa
