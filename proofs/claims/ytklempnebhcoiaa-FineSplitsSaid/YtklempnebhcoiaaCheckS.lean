/- Check of the example's parameters. -/
import Derived.Test.YtklempnebhcoiaaCheck
import Derived.Test.YtklempnebhcoiaaParL
import Derived.Test.YtklempnebhcoiaaAwake7
namespace Go.Proofs.Ytklempnebhcoiaa
theorem simple_checks : CheckIs Par.simple 0 := fun w => check_ok Par.simple 12 w simple_right
end Go.Proofs.Ytklempnebhcoiaa
