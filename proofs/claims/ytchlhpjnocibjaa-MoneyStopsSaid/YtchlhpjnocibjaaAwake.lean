/- The chapter's examples (layer 1): they are what the calls answer. -/
import Derived.Test.YtchlhpjnocibjaaMoneySum
namespace Go.Proofs.Ytchlhpjnocibjaa
open Go.RowKit
set_option linter.unusedVariables false

theorem money_awake (w : World) : Calls Try.prog 7 #[] w fun e w' => e = .returned (.bool true) ∧ w = w' := by
  go_enter Try.func7, Try.ntmps7
  go_wp2_with (first
    | (go_at_call 18; refine (sum_none _).mono ?_; rintro e w' ⟨rfl, rfl⟩)
    | (go_at_call 23; refine (money_take_le 10 4 _ (by omega) (by omega) (by omega) (by omega)).mono ?_; rintro e w' ⟨rfl, rfl⟩)
    | (go_at_call 21; refine (money_rise_most 7 5 10 _ (by omega) (by omega) (by omega) (by omega)).mono ?_; rintro e w' ⟨rfl, rfl⟩)
    | (go_at_call 22; refine (money_fall_gt 3 5 _ (by omega) (by omega) (by omega)).mono ?_; rintro e w' ⟨rfl, rfl⟩))
  go_ret
  exact ⟨rfl, rfl⟩
end Go.Proofs.Ytchlhpjnocibjaa
