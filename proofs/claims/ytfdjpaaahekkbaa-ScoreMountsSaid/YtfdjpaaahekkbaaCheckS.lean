/- Check of the example's parameters. -/
import Derived.Test.YtfdjpaaahekkbaaCheck
import Derived.Test.YtfdjpaaahekkbaaParNew
import Derived.Test.YtfdjpaaahekkbaaAwake7
namespace Go.Proofs.Ytfdjpaaahekkbaa
theorem simple_checks : CheckIs Par.simple 0 := fun w => check_ok Par.simple 12 w simple_right
end Go.Proofs.Ytfdjpaaahekkbaa
