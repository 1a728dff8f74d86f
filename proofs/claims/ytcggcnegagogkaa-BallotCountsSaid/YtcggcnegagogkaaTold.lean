/- What the calls of layer 1 answer and what the reference tells, under one name each: a number of 64 bits, or the error. -/
import Derived.Test.YtcggcnegagogkaaNatG
import Derived.Test.YtcggcnegagogkaaRefNumB
import Derived.Test.YtcggcnegagogkaaRef2B
import Derived.Test.YtcggcnegagogkaaAwake
namespace Go.Proofs.Ytcggcnegagogkaa
open Go.RowKit
set_option linter.unusedVariables false

theorem money_add_told (a b : Nat) (w : World) (ha : a ≤ 18446744073709551615) (hb : b ≤ 18446744073709551615) :
    Calls Try.prog 30 #[.int .u64 (a : Int), .int .u64 (b : Int)] w fun e w' => e = .returned (.tuple #[.int .u64 (tx (a + b) : Nat), .int .i64 (te (a + b) : Nat)]) ∧ w = w' := by
  by_cases h : a + b ≤ 18446744073709551615
  · rw [tx_in h, te_in h]
    exact money_add_ok a b w (by omega) (by omega) (by omega)
  · rw [tx_out (by omega), te_out (by omega)]
    exact money_add_over a b w (by omega) (by omega) (by omega) (by omega) (by omega)

theorem sum_told (ns : List Nat) (A : Option Addr) (c B : Nat) (w : World) (hr : Row w B A (u64s ns)) (hlen : ns.length ≤ maxLen) (hn : ∀ n ∈ ns, n ≤ 18446744073709551615) :
    Calls Try.prog 18 #[.slice A ns.length c] w fun e w' => e = .returned (.tuple #[.int .u64 (tx (tot ns) : Nat), .int .i64 (te (tot ns) : Nat)]) ∧ w = w' := by
  by_cases h : tot ns ≤ 18446744073709551615
  · rw [tx_in h, te_in h]
    exact sum_ok ns A c B w hr hlen h
  · rw [tx_out (by omega), te_out (by omega)]
    exact sum_over ns A c B w hr hlen hn (by omega)





end Go.Proofs.Ytcggcnegagogkaa
