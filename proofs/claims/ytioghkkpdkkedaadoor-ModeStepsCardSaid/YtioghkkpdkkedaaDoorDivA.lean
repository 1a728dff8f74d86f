/- math/bits.Div64: a product in two words, divided. Over the library's own text. -/
import Derived.Test.YtioghkkpdkkedaaDoorBits
import Derived.Test.YtioghkkpdkkedaaDoorMathC
import Derived.Deep.CutBlock
import Derived.Lib.Hide
import Derived.Test.YtioghkkpdkkedaaDoorCore
namespace Go.Proofs.YtioghkkpdkkedaaDoor
open Go.RowKit
set_option linter.unusedVariables false

/-- A digit and what is left behind it, under names. -/
structure Digit (U C Y Q V : Nat) : Prop where
  q : (U * 4294967296 + C) / Y = Q
  v : (U * 4294967296 + C) % Y = V
theorem digit (U C Y : Nat) (hY : 0 < Y) (hY' : Y < 18446744073709551616) (hU : U < Y) (hC : C < 4294967296) :
    ∃ Q V : Nat, Digit U C Y Q V ∧ Q < 4294967296 ∧ V < Y ∧ IntKind.u64.wrap (IntKind.u64.wrap (IntKind.u64.wrap ((U : Int) * 4294967296) + (C : Int)) - IntKind.u64.wrap ((Q : Int) * (Y : Int))) = (V : Int) := by
  refine ⟨_, _, ⟨rfl, rfl⟩, ?_, Nat.mod_lt _ hY, left_word hY hY'⟩
  refine Nat.div_lt_of_lt_mul ?_
  have := Nat.mul_le_mul_right 4294967296 (Nat.succ_le_of_lt hU)
  omega
/-- A product of half words, under a name. -/
theorem half_prod (a b : Nat) (ha : a < 4294967296) (hb : b < 4294967296) : ∃ p : Nat, Hid (a * b = p) ∧ (a : Int) * (b : Int) = (p : Int) ∧ p < 18446744073709551616 := by
  refine ⟨_, rfl, (Int.natCast_mul a b).symm, ?_⟩
  exact Nat.lt_of_lt_of_le (Nat.mul_lt_mul'' ha hb) (by omega)
theorem one_less (a : Nat) (h : 0 < a) : ∃ a' : Nat, a' + 1 = a ∧ (a : Int) - 1 = (a' : Int) := ⟨a - 1, by omega, by omega⟩
/-- One less of the guess is the upper half more of what is left. -/
theorem guess_down {a a' b D U : Nat} (h : a' + 1 = a) (e : a * D + b = U) : a' * D + (b + D) = U := by
  subst h
  rw [Nat.succ_mul] at e
  omega

theorem same_slot {a b : Nat} (h : a = b) : Value.int .u64 (a : Int) = Value.int .u64 (b : Int) := by rw [h]

end Go.Proofs.YtioghkkpdkkedaaDoor
