/- Layer 11 (score): the chapter's examples, which every law of the layer asks for first. -/
import Derived.Test.YtfdjpaaahekkbaaScoC
import Derived.Test.YtfdjpaaahekkbaaCheckS
namespace Go.Proofs.Ytfdjpaaahekkbaa
open Go.RowKit
set_option linter.unusedVariables false

set_option maxRecDepth 100000 in
set_option maxHeartbeats 1000000 in
theorem score_awake (w : World) :
    Calls Try.prog 6 #[] w fun e w' => e = .returned (.bool true) ∧ Below w.heap.size w w' := by
  have k1 := fun w => after_ok ⟨0, 0, 98, 0⟩ Par.simple false 3 w simple_checks simple_right.spans ⟨by decide, by decide, by decide, by decide, by decide⟩
  have k2 := fun w => after_ok ⟨0, 0, 1, 0⟩ Par.simple true 3 w simple_checks simple_right.spans ⟨by decide, by decide, by decide, by decide, by decide⟩
  rw [show Std.after Par.simple (false, 3) ⟨0, 0, 98, 0⟩ = ⟨0, 0, 100, 0⟩ from rfl] at k1
  rw [show Std.after Par.simple (true, 3) ⟨0, 0, 1, 0⟩ = ⟨0, 0, 0, 1⟩ from rfl] at k2
  go_enter Try.func6, Try.ntmps6
  go_wp2_with (first
    | (refine load_par _ rfl rfl _ Par.simple _ rfl (by assumption) ?_)
    | (refine store_par_new _ _ rfl rfl _ Par.simple Par.none 24 rfl rfl (ParAt.new _ Par.none _) ?_; intro w2 hS hb2; have hB := below_made hb1 hb2; clear hb2)
    | (go_at_call 16; refine (simple_is _).mono ?_; rintro e w1 ⟨rfl, hb1⟩)
    | (go_at_call 7; refine (k1 _).mono ?_; clear k1; rintro e w1 ⟨rfl, hb1⟩; have hS := hS.up hb1; have hB := Below.then hB hb1; clear hb1)
    | (go_at_call 7; refine (k2 _).mono ?_; clear k2; rintro e w1 ⟨rfl, hb1⟩; have hS := hS.up hb1; have hB := Below.then hB hb1; clear hb1)
    | (refine build_std #[(2, .const (.int .u64 98))] rfl rfl ⟨0, 0, 98, 0⟩ (by kernel_rfl) ?_)
    | (refine build_std #[(2, .const (.int .u64 1))] rfl rfl ⟨0, 0, 1, 0⟩ (by kernel_rfl) ?_)
    | (refine build_std #[(3, .const (.int .i64 1))] rfl rfl ⟨0, 0, 0, 1⟩ (by kernel_rfl) ?_)
    | (refine field_std _ rfl rfl ⟨0, 0, 100, 0⟩ 100 rfl rfl ?_)
    | (refine op_eql_std _ _ _ rfl rfl ⟨0, 0, 0, 1⟩ rfl rfl ?_))
  go_ret
  exact ⟨rfl, hB⟩
end Go.Proofs.Ytfdjpaaahekkbaa
