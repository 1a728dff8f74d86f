/- Check of the example's parameters. -/
import Derived.Test.YtkimgkpjbfijmaaCheck
import Derived.Test.YtkimgkpjbfijmaaParNew
import Derived.Test.YtkimgkpjbfijmaaAwake7
namespace Go.Proofs.Ytkimgkpjbfijmaa
theorem simple_checks : CheckIs Par.simple 0 := fun w => check_ok Par.simple 12 w simple_right
end Go.Proofs.Ytkimgkpjbfijmaa
