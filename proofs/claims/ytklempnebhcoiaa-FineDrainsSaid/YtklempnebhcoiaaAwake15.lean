/- Layer 15 (fine): the chapter's examples, which every law of the layer asks for first. -/
import Derived.Test.YtklempnebhcoiaaFinA
import Derived.Test.YtklempnebhcoiaaCheckS
import Derived.Test.YtklempnebhcoiaaParL
namespace Go.Proofs.Ytklempnebhcoiaa
open Go.RowKit
set_option linter.unusedVariables false
set_option linter.unusedSimpArgs false

theorem exf : Std.fine Par.simple 3 ⟨25, 20, 8, 0⟩ = 2 := by decide
theorem exb : burned Par.simple 3 = 1 := by decide
theorem ex_fits : (⟨25, 20, 8, 0⟩ : Std).Fits := ⟨by decide, by decide, by decide, by decide, by decide⟩

set_option maxRecDepth 100000 in
set_option maxHeartbeats 1000000 in
theorem fine_awake (w : World) :
    Calls Try.prog 7 #[] w fun e w' => e = .returned (.bool true) ∧ Below w.heap.size w w' := by
  have kf := of_ok Par.simple ⟨25, 20, 8, 0⟩ 3 simple_checks simple_right.spans ex_fits
  have ks := split_ok Par.simple 3 simple_checks simple_right.spans (by decide)
  unfold FineIs at kf
  unfold SplitIs at ks
  rw [exf] at kf
  rw [exb] at ks
  rw [show ((2 : Nat) : Int) = 2 from rfl] at kf
  rw [show ((3 : Nat) : Int) = 3 from rfl, show ((1 : Nat) : Int) = 1 from rfl, show (((3 : Nat) - 1 : Nat) : Int) = 2 from rfl] at ks
  go_enter Try.func7, Try.ntmps7
  go_wp2_with (first
    | (refine load_par _ rfl rfl _ Par.simple _ rfl (by assumption) ?_)
    | (refine store_par_new _ _ rfl rfl _ Par.simple Par.none 24 rfl rfl (ParAt.new _ Par.none _) ?_; intro w2 hP hb2; have hB := below_made hb1 hb2; clear hb2)
    | (go_at_call 17; refine (simple_is _).mono ?_; rintro e w1 ⟨rfl, hb1⟩)
    | (refine build_std #[(0, .const (.int .u64 25)), (1, .const (.int .u64 20)), (2, .const (.int .u64 8))] rfl rfl (⟨25, 20, 8, 0⟩ : Std) ?_ ?_; · kernel_rfl)
    | (go_at_call 14; refine (ks _).mono ?_; clear ks; rintro e w3 ⟨rfl, hb3⟩; have hP := hP.up hb3; have hB := Below.then hB hb3; clear hb3)
    | (go_at_call 8; refine (kf _).mono ?_; clear kf; rintro e w3 ⟨rfl, hb3⟩; have hP := hP.up hb3; have hB := Below.then hB hb3; clear hb3))
  go_ret
  exact ⟨by first | rfl | simp, hB⟩
end Go.Proofs.Ytklempnebhcoiaa
