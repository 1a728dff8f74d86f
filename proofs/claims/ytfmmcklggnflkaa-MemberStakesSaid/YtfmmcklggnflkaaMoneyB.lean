/- Layer 1 (money) over natural numbers: Fall, Take, Rise whatever comes out. By contracts. -/
import Derived.Test.YtfmmcklggnflkaaMoney
namespace Go.Proofs.Ytfmmcklggnflkaa
set_option linter.unusedVariables false
theorem fall_is (a b : Nat) (w : World) (ha : a < 18446744073709551616) (hb : b < 18446744073709551616) :
    Calls Try.prog 33 #[.int .u64 (a : Int), .int .u64 (b : Int)] w fun e w' => e = .returned (.int .u64 ((a - b : Nat) : Int)) ∧ w = w' := by
  rcases Nat.lt_or_ge a b with h | h
  · rw [show ((a - b : Nat) : Int) = 0 by omega]
    exact money_fall_gt _ _ w (by omega) (by omega) (by omega)
  · rw [show ((a - b : Nat) : Int) = (a : Int) - (b : Int) by omega]
    exact money_fall_le _ _ w (by omega) (by omega) (by omega) (by omega)
theorem take_is (a b : Nat) (w : World) (ha : a < 18446744073709551616) (hb : b < 18446744073709551616) :
    Calls Try.prog 32 #[.int .u64 (a : Int), .int .u64 (b : Int)] w fun e w' => e = .returned (.tuple #[.int .u64 ((min a b : Nat) : Int), .int .u64 ((a - b : Nat) : Int)]) ∧ w = w' := by
  rcases Nat.lt_or_ge b a with h | h
  · rw [show ((a - b : Nat) : Int) = (a : Int) - (b : Int) by omega, show ((min a b : Nat) : Int) = (b : Int) by omega]
    exact money_take_le _ _ w (by omega) (by omega) (by omega) (by omega)
  · rw [show ((a - b : Nat) : Int) = 0 by omega, show ((min a b : Nat) : Int) = (a : Int) by omega]
    exact money_take_ge _ _ w (by omega) (by omega) (by omega)
end Go.Proofs.Ytfmmcklggnflkaa
