/- Layer 1 (money) over natural numbers: Fall, Take, Rise whatever comes out. By contracts. -/
import Derived.Test.YtfdjpaaahekkbaaMoney
namespace Go.Proofs.Ytfdjpaaahekkbaa
set_option linter.unusedVariables false
theorem fall_is (a b : Nat) (w : World) (ha : a < 18446744073709551616) (hb : b < 18446744073709551616) :
    Calls Try.prog 31 #[.int .u64 (a : Int), .int .u64 (b : Int)] w fun e w' => e = .returned (.int .u64 ((a - b : Nat) : Int)) ∧ w = w' := by
  rcases Nat.lt_or_ge a b with h | h
  · rw [show ((a - b : Nat) : Int) = 0 by omega]
    exact money_fall_gt _ _ w (by omega) (by omega) (by omega)
  · rw [show ((a - b : Nat) : Int) = (a : Int) - (b : Int) by omega]
    exact money_fall_le _ _ w (by omega) (by omega) (by omega) (by omega)
theorem rise_is (a b m : Nat) (w : World) (ha : a < 18446744073709551616) (hb : b < 18446744073709551616) (hm : m < 18446744073709551616) :
    Calls Try.prog 32 #[.int .u64 (a : Int), .int .u64 (b : Int), .int .u64 (m : Int)] w fun e w' => e = .returned (.int .u64 ((min (a + b) m : Nat) : Int)) ∧ w = w' := by
  rcases Nat.lt_or_ge m (a + b) with h | h
  · rw [show ((min (a + b) m : Nat) : Int) = (m : Int) by omega]
    rcases Nat.lt_or_ge (a + b) 18446744073709551616 with h2 | h2
    · exact money_rise_most _ _ _ w (by omega) (by omega) (by omega) (by omega)
    · exact money_rise_over _ _ _ w (by omega) (by omega) (by omega) (by omega) (by omega)
  · rw [show ((min (a + b) m : Nat) : Int) = (a : Int) + (b : Int) by omega]
    exact money_rise_to _ _ _ w (by omega) (by omega) (by omega) (by omega)

end Go.Proofs.Ytfdjpaaahekkbaa
