/- Layer 12 (mode): the chapter's example, which every law of the layer asks for first. -/
import Derived.Test.YtioghkkpdkkedaaDoorModeA
import Derived.Test.YtioghkkpdkkedaaDoorAwake7
namespace Go.Proofs.YtioghkkpdkkedaaDoor
open Go.RowKit
set_option linter.unusedVariables false

set_option maxRecDepth 100000 in
set_option maxHeartbeats 1000000 in
theorem mode_awake (w : World) :
    Calls Tryd.prog 4 #[] w fun e w' => e = .returned (.bool true) ∧ Below w.heap.size w w' := by
  have ks := fun w => mode_step_no Par.simple 2 3 2 3 w (by decide) (by decide) (Lib.hid (by decide)) (Lib.hid (by decide))
  rw [show ((2 : Nat) : Int) = 2 from rfl, show ((3 : Nat) : Int) = 3 from rfl] at ks
  have k0 := fun w => mode_of Par.simple 0 1 false w (Lib.hid (by decide))
  have k2 := fun w => mode_of Par.simple 2 2 false w (Lib.hid (by decide))
  have k3 := fun w => mode_of Par.simple 3 3 false w (Lib.hid (by decide))
  go_enter Tryd.func4, Tryd.ntmps4
  go_wp2_with (first
    | (refine load_par _ rfl rfl _ Par.simple _ rfl (by assumption) ?_)
    | (refine store_par_new _ _ rfl rfl _ Par.simple Par.none 24 rfl rfl (ParAt.new _ Par.none _) ?_; intro w2 hS hb2; have hB := below_made hb1 hb2; clear hb2)
    | (go_at_call 11; refine (simple_is _).mono ?_; rintro e w1 ⟨rfl, hb1⟩)
    | (go_at_call 5; refine (ks _).mono ?_; clear ks; rintro e w1 ⟨rfl, hb1⟩; have hS := hS.up hb1; have hB := Below.then hB hb1; clear hb1)
    | (go_at_call 7; refine (k0 _).mono ?_; clear k0; rintro e w1 ⟨rfl, hb1⟩; have hS := hS.up hb1; have hB := Below.then hB hb1; clear hb1)
    | (go_at_call 7; refine (k2 _).mono ?_; clear k2; rintro e w1 ⟨rfl, hb1⟩; have hS := hS.up hb1; have hB := Below.then hB hb1; clear hb1)
    | (go_at_call 7; refine (k3 _).mono ?_; clear k3; rintro e w1 ⟨rfl, hb1⟩; have hS := hS.up hb1; have hB := Below.then hB hb1; clear hb1))
  go_ret
  exact ⟨rfl, hB⟩
end Go.Proofs.YtioghkkpdkkedaaDoor
