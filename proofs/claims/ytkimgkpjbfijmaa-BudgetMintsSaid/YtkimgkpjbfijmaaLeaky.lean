/- Does a mode leak? Layer 11's answer and the document's. By contracts. -/
import Derived.Test.YtkimgkpjbfijmaaScoM
import Derived.Test.YtkimgkpjbfijmaaCore
import Derived.Test.YtkimgkpjbfijmaaProg
namespace Go.Proofs.Ytkimgkpjbfijmaa
open Go.RowKit
set_option linter.unusedVariables false
set_option linter.unusedSimpArgs false

theorem leaks11_is (m : Int) (w : World) :
    Calls Try.prog 20 #[.int .i64 m] w fun e w' => e = .returned (.bool (Std.leaky m)) ∧ w = w' := by
  by_cases h3 : m = 3
  · subst h3
    go_enter Try.func20, Try.ntmps20
    go_wp2
    go_ret
    exact ⟨rfl, rfl⟩
  · have e1 : (m == 3) = false := by simpa using h3
    have e2 : Std.leaky m = (m == 4) := by unfold Std.leaky; rw [e1]; rfl
    rw [e2]
    clear e2
    go_enter Try.func20, Try.ntmps20
    go_wp2
    go_ret
    exact ⟨by first | rfl | simp [e1], rfl⟩
theorem refleaks_is (m : Int) (w : World) :
    Calls Try.prog 13 #[.int .i64 m] w fun e w' => e = .returned (.bool (Std.leaky m)) ∧ w = w' := by
  by_cases h3 : m = 3
  · subst h3
    go_enter Try.func13, Try.ntmps13
    go_wp2
    go_ret
    exact ⟨rfl, rfl⟩
  · have e1 : (m == 3) = false := by simpa using h3
    have e2 : Std.leaky m = (m == 4) := by unfold Std.leaky; rw [e1]; rfl
    rw [e2]
    clear e2
    go_enter Try.func13, Try.ntmps13
    go_wp2
    go_ret
    exact ⟨by first | rfl | simp [e1], rfl⟩
end Go.Proofs.Ytkimgkpjbfijmaa
