/- What the calls of layer 1 answer and what the reference tells, under one name each: a number of 64 bits, or the error. -/
import Derived.Test.YtchlhpjnocibjaaNatG
import Derived.Test.YtchlhpjnocibjaaNatH
import Derived.Test.YtchlhpjnocibjaaAwake
namespace Go.Proofs.Ytchlhpjnocibjaa
open Go.RowKit
set_option linter.unusedVariables false

/-- The number, if it is one of 64 bits. -/
def tx (N : Nat) : Nat := if N ≤ 18446744073709551615 then N else 0
/-- The error's number, if it is none. -/
def te (N : Nat) : Nat := if N ≤ 18446744073709551615 then 0 else 10
theorem tx_in {N : Nat} (h : N ≤ 18446744073709551615) : tx N = N := by unfold tx; rw [if_pos h]
theorem te_in {N : Nat} (h : N ≤ 18446744073709551615) : te N = 0 := by unfold te; rw [if_pos h]
theorem tx_out {N : Nat} (h : 18446744073709551615 < N) : tx N = 0 := by unfold tx; rw [if_neg (Nat.not_le_of_lt h)]
theorem te_out {N : Nat} (h : 18446744073709551615 < N) : te N = 10 := by unfold te; rw [if_neg (Nat.not_le_of_lt h)]

theorem money_add_told (a b : Nat) (w : World) (ha : a ≤ 18446744073709551615) (hb : b ≤ 18446744073709551615) :
    Calls Try.prog 9 #[.int .u64 (a : Int), .int .u64 (b : Int)] w fun e w' => e = .returned (.tuple #[.int .u64 (tx (a + b) : Nat), .int .i64 (te (a + b) : Nat)]) ∧ w = w' := by
  by_cases h : a + b ≤ 18446744073709551615
  · rw [tx_in h, te_in h]
    exact money_add_ok a b w (by omega) (by omega) (by omega)
  · rw [tx_out (by omega), te_out (by omega)]
    exact money_add_over a b w (by omega) (by omega) (by omega) (by omega) (by omega)

theorem sum_told (ns : List Nat) (A : Option Addr) (c B : Nat) (w : World) (hr : Row w B A (u64s ns)) (hlen : ns.length ≤ maxLen) (hn : ∀ n ∈ ns, n ≤ 18446744073709551615) :
    Calls Try.prog 18 #[.slice A ns.length c] w fun e w' => e = .returned (.tuple #[.int .u64 (tx (tot ns) : Nat), .int .i64 (te (tot ns) : Nat)]) ∧ w = w' := by
  by_cases h : tot ns ≤ 18446744073709551615
  · rw [tx_in h, te_in h]
    exact sum_ok ns A c B w hr hlen h
  · rw [tx_out (by omega), te_out (by omega)]
    exact sum_over ns A c B w hr hlen hn (by omega)

theorem mul_fits_div {a b : Nat} (h0 : a ≠ 0) : b ≤ 18446744073709551615 / a ↔ a * b ≤ 18446744073709551615 := by
  rw [Nat.le_div_iff_mul_le (Nat.pos_of_ne_zero h0), Nat.mul_comm]

theorem div_cast (M a b : Nat) : (b : Int) ≤ (M : Int) / (a : Int) ↔ b ≤ M / a := by
  rw [← Int.natCast_ediv]; omega
theorem prod_cast (M a b : Nat) (h : a * b ≤ M) : (a : Int) * b ≤ (M : Int) ∧ (0 : Int) ≤ (a : Int) * b := by
  rw [← Int.natCast_mul]; omega

set_option maxRecDepth 100000 in
theorem money_mul_told (a b : Nat) (w : World) (ha : a ≤ 18446744073709551615) (hb : b ≤ 18446744073709551615) :
    Calls Try.prog 12 #[.int .u64 (a : Int), .int .u64 (b : Int)] w fun e w' => e = .returned (.tuple #[.int .u64 (tx (a * b) : Nat), .int .i64 (te (a * b) : Nat)]) ∧ w = w' := by
  by_cases h0 : a = 0
  · subst h0
    rw [Nat.zero_mul, tx_in (by omega), te_in (by omega)]
    have e0 : ((0 : Nat) : Int) = 0 := rfl
    rw [e0]
    go_enter Try.func12, Try.ntmps12
    go_wp2
    go_ret2
    exact ⟨by simp, rfl⟩
  · have hd := mul_fits_div (b := b) h0
    by_cases h : a * b ≤ 18446744073709551615
    · rw [tx_in h, te_in h]
      have h1 : (b : Int) ≤ 18446744073709551615 / (a : Int) := (div_cast 18446744073709551615 a b).2 (hd.2 h)
      have h2 : (a : Int) * b ≤ 18446744073709551615 := (prod_cast 18446744073709551615 a b h).1
      have h3 : (0 : Int) ≤ (a : Int) * b := (prod_cast 18446744073709551615 a b h).2
      have h4 : ((a : Int) == 0) = false := by simp; omega
      have h5 : ((a : Int) != 0) = true := by simp; omega
      clear hd h
      go_enter Try.func12, Try.ntmps12
      go_wp2
      go_ret2
      exact ⟨by simp, rfl⟩
    · rw [tx_out (by omega), te_out (by omega)]
      have h1 : ¬ (b : Int) ≤ 18446744073709551615 / (a : Int) := fun h' => h (hd.1 ((div_cast 18446744073709551615 a b).1 h'))
      have h4 : ((a : Int) == 0) = false := by simp; omega
      have h5 : ((a : Int) != 0) = true := by simp; omega
      clear hd h
      go_enter Try.func12, Try.ntmps12
      go_wp2
      go_ret2
      exact ⟨rfl, rfl⟩

theorem told_num (a : Nat) (va : Value) (B : Nat) (w : World) (ha : NatV w B va a) (hB : B ≤ w.heap.size) :
    Calls Try.prog 10 #[va] w fun e w' => e = .returned (.tuple #[.int .u64 (tx a : Nat), .int .i64 (te a : Nat)]) ∧ Below w.heap.size w w' := by
  by_cases h : a ≤ 18446744073709551615
  · rw [tx_in h, te_in h]
    exact told_fits a va B w ha hB h
  · rw [tx_out (by omega), te_out (by omega)]
    exact told_big a va B w ha hB (by omega)

theorem told_same (x e : Int) (w : World) :
    Calls Try.prog 15 #[.int .u64 x, .int .i64 e, .int .u64 x, .int .i64 e] w fun r w' => r = .returned (.bool true) ∧ w = w' := by
  go_enter Try.func15, Try.ntmps15
  go_wp2
  go_ret
  exact ⟨rfl, rfl⟩
end Go.Proofs.Ytchlhpjnocibjaa
