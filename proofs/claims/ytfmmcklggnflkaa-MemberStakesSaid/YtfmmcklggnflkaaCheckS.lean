/- Check of the example's parameters. -/
import Derived.Test.YtfmmcklggnflkaaCheck
import Derived.Test.YtfmmcklggnflkaaParL
import Derived.Test.YtfmmcklggnflkaaAwake7
namespace Go.Proofs.Ytfmmcklggnflkaa
theorem simple_checks : CheckIs Par.simple 0 := fun w => check_ok Par.simple 12 w simple_right
end Go.Proofs.Ytfmmcklggnflkaa
