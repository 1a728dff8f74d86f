/- What the reference tells of a whole number, under one name each: a number of 64 bits, or the error. · The reference of layer 2 (ratio): down, up, what is left; products held against each other. By contracts. -/
import Derived.Test.YtcggcnegagogkaaRefNumB
import Derived.Test.YtcggcnegagogkaaRefNumC
namespace Go.Proofs.Ytcggcnegagogkaa
open Go.RowKit
set_option linter.unusedVariables false

theorem told_big (a : Nat) (va : Value) (B : Nat) (w : World) (ha : NatV w B va a) (hB : B ≤ w.heap.size) (h : 18446744073709551615 < a) :
    Calls Try.prog 8 #[va] w fun e w' => e = .returned (.tuple #[.int .u64 0, .int .i64 10]) ∧ Below w.heap.size w w' := by
  have ha0 := ha
  obtain ⟨A, c, rfl, hlc, hcm, hra⟩ := ha
  go_enter Try.func8, Try.ntmps8
  go_wp2_with (go_at_call 12; refine (uint_big a _ B _ (ha0.below ((Below.refl _ _).alloc hB _)) (Nat.le_trans hB (by simp)) h).mono ?_; rintro e w' ⟨rfl, hbt⟩)
  go_ret2
  exact ⟨rfl, ((Below.refl _ _).alloc (Nat.le_refl _) _).trans (hbt.mono (by simp))⟩

theorem told_fits (a : Nat) (va : Value) (B : Nat) (w : World) (ha : NatV w B va a) (hB : B ≤ w.heap.size) (h : a ≤ 18446744073709551615) :
    Calls Try.prog 8 #[va] w fun e w' => e = .returned (.tuple #[.int .u64 (a : Int), .int .i64 0]) ∧ Below w.heap.size w w' := by
  have ha0 := ha
  obtain ⟨A, c, rfl, hlc, hcm, hra⟩ := ha
  go_enter Try.func8, Try.ntmps8
  go_wp2_with (go_at_call 12; refine (uint_fits a _ B _ (ha0.below ((Below.refl _ _).alloc hB _)) (Nat.le_trans hB (by simp)) h).mono ?_; rintro e w' ⟨rfl, hbt⟩)
  go_ret2
  exact ⟨rfl, ((Below.refl _ _).alloc (Nat.le_refl _) _).trans (hbt.mono (by simp))⟩
/-- The number, if it is one of 64 bits. -/
def tx (N : Nat) : Nat := if N ≤ 18446744073709551615 then N else 0
/-- The error's number, if it is none. -/
def te (N : Nat) : Nat := if N ≤ 18446744073709551615 then 0 else 10
theorem tx_in {N : Nat} (h : N ≤ 18446744073709551615) : tx N = N := by unfold tx; rw [if_pos h]
theorem te_in {N : Nat} (h : N ≤ 18446744073709551615) : te N = 0 := by unfold te; rw [if_pos h]
theorem tx_out {N : Nat} (h : 18446744073709551615 < N) : tx N = 0 := by unfold tx; rw [if_neg (Nat.not_le_of_lt h)]
theorem te_out {N : Nat} (h : 18446744073709551615 < N) : te N = 10 := by unfold te; rw [if_neg (Nat.not_le_of_lt h)]

theorem told_num (a : Nat) (va : Value) (B : Nat) (w : World) (ha : NatV w B va a) (hB : B ≤ w.heap.size) :
    Calls Try.prog 8 #[va] w fun e w' => e = .returned (.tuple #[.int .u64 (tx a : Nat), .int .i64 (te a : Nat)]) ∧ Below w.heap.size w w' := by
  by_cases h : a ≤ 18446744073709551615
  · rw [tx_in h, te_in h]
    exact told_fits a va B w ha hB h
  · rw [tx_out (by omega), te_out (by omega)]
    exact told_big a va B w ha hB (by omega)
end Go.Proofs.Ytcggcnegagogkaa
namespace Go.Proofs.Ytcggcnegagogkaa
open Go.RowKit
set_option linter.unusedVariables false

theorem of_one (w : World) :
    Calls Try.prog 22 #[.int .u64 1] w fun e w' => ∃ v, e = .returned v ∧ NatV w' w'.heap.size v 1 ∧ Fresh w.heap.size v ∧ Below w.heap.size w w' := of_any 1 w (by omega)

end Go.Proofs.Ytcggcnegagogkaa
