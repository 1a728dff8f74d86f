/- What the reference tells of a whole number, under one name each: a number of 64 bits, or the error. -/
import Derived.Test.YtioghkkpdkkedaaDoorRefNumB
namespace Go.Proofs.YtioghkkpdkkedaaDoor
open Go.RowKit
set_option linter.unusedVariables false

/-- The number, if it is one of 64 bits. -/
def tx (N : Nat) : Nat := if N ≤ 18446744073709551615 then N else 0
/-- The error's number, if it is none. -/
def te (N : Nat) : Nat := if N ≤ 18446744073709551615 then 0 else 10
theorem tx_in {N : Nat} (h : N ≤ 18446744073709551615) : tx N = N := by unfold tx; rw [if_pos h]
theorem te_in {N : Nat} (h : N ≤ 18446744073709551615) : te N = 0 := by unfold te; rw [if_pos h]
theorem tx_out {N : Nat} (h : 18446744073709551615 < N) : tx N = 0 := by unfold tx; rw [if_neg (Nat.not_le_of_lt h)]
theorem te_out {N : Nat} (h : 18446744073709551615 < N) : te N = 10 := by unfold te; rw [if_neg (Nat.not_le_of_lt h)]

end Go.Proofs.YtioghkkpdkkedaaDoor
