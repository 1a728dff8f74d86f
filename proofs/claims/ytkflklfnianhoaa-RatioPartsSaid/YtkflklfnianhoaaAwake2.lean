/- The chapter's examples of layer 2 hold, as every law of the layer asks first. -/
import Derived.Test.YtkflklfnianhoaaRatioB
namespace Go.Proofs.Ytkflklfnianhoaa
open Go.RowKit
set_option linter.unusedVariables false

theorem ratio_awake (w : World) : Calls Try.prog 7 #[] w fun e w' => e = .returned (.bool true) ∧ Below w.heap.size w w' := by
  have k1 : ∀ w, Calls Try.prog 8 #[.int .u64 7, .int .u64 1, .int .u64 2] w fun e w' => e = .returned (.tuple #[.int .u64 3, .int .i64 0]) ∧ Below w.heap.size w w' :=
    fun w => ratio_down_ok 7 1 2 3 1 w (by omega) (by omega) (by omega) (Lib.hid rfl) (by omega) (by omega)
  have k2 : ∀ w, Calls Try.prog 9 #[.int .u64 7, .int .u64 1, .int .u64 2] w fun e w' => e = .returned (.tuple #[.int .u64 4, .int .i64 0]) ∧ Below w.heap.size w w' :=
    fun w => ratio_up_next 7 1 2 3 1 w (by omega) (by omega) (by omega) (Lib.hid rfl) (by omega) (by omega) (by omega)
  have k3 : ∀ w, Calls Try.prog 16 #[.int .u64 3, .int .u64 4] w fun e w' => e = .returned (.bool true) ∧ Below w.heap.size w w' :=
    fun w => ratio_two 3 4 w (by omega) (by omega)
  have k4 : ∀ w, Calls Try.prog 16 #[.int .u64 2, .int .u64 3] w fun e w' => e = .returned (.bool false) ∧ Below w.heap.size w w' :=
    fun w => ratio_two 2 3 w (by omega) (by omega)
  go_enter Try.func7, Try.ntmps7
  go_wp2_with (first
    | (go_at_call 8; refine (k1 _).mono ?_; clear k1; rintro e w1 ⟨rfl, hb1⟩)
    | (go_at_call 9; refine (k2 _).mono ?_; clear k2; rintro e w2 ⟨rfl, hb2⟩)
    | (go_at_call 16; refine (k3 _).mono ?_; clear k3; rintro e w3 ⟨rfl, hb3⟩)
    | (go_at_call 16; refine (k4 _).mono ?_; clear k4; rintro e w4 ⟨rfl, hb4⟩))
  go_ret
  exact ⟨rfl, Below.then (Below.then (Below.then hb1 hb2) hb3) hb4⟩
end Go.Proofs.Ytkflklfnianhoaa
