/- The chapter's example, which every law of layer 7 asks for first. · Check of the example's parameters. -/
import Derived.Test.YtcggcnegagogkaaParE
import Derived.Test.YtcggcnegagogkaaParL
import Derived.Test.YtcggcnegagogkaaCheck
namespace Go.Proofs.Ytcggcnegagogkaa
open Go.RowKit
set_option linter.unusedVariables false

/-- The example's parameters. -/
def Par.simple : Par := ⟨10, 30, 10, 40, 10, 5, 4, 100, 8, 50, 2, 100, 1048576, 1, 2, 4, 100, 100, 5000, 2, 2, 2, 1, 3000⟩

theorem simple_right : Par.Right Par.simple 12 where
  spans := by constructor <;> decide
  halt := ⟨by decide, by decide, .inr (by decide), by decide⟩
  most := by decide
  score := by decide
theorem none_not : ¬ ∃ T, Par.Right Par.none T := fun ⟨T, h⟩ => absurd h.spans.inc0 (by decide)
theorem none_fits : Par.none.Fits := ⟨by decide, by decide⟩

set_option maxRecDepth 100000 in
set_option maxHeartbeats 1000000 in
theorem simple_is (w : World) :
    Calls Try.prog 15 #[] w fun e w' => e = .returned (.agg Par.simple.vals) ∧ Below w.heap.size w w' := by
  have hP0 := ParAt.new w Par.none 46
  go_enter Try.func15, Try.ntmps15
  go_wp2_with (first
    | (refine build_par _ rfl rfl Par.simple (by kernel_rfl) ?_)
    | (refine store_par _ _ rfl rfl w.heap.size Par.simple Par.none 46 rfl rfl hP0 ?_))
  exact bodyPost_ret (res_par1 Try.results15 rfl (ParAt.set hP0)) rfl ⟨rfl, below_setRow ((Below.refl _ _).alloc (Nat.le_refl _) _) (Nat.le_refl _) _⟩

end Go.Proofs.Ytcggcnegagogkaa
namespace Go.Proofs.Ytcggcnegagogkaa
end Go.Proofs.Ytcggcnegagogkaa
