/- Layer 7 (param), the document's: what is lost at least, and the bound. By contracts. -/
import Derived.Test.YtklempnebhcoiaaParE
import Derived.Test.YtklempnebhcoiaaParL
import Derived.Test.YtklempnebhcoiaaRef2B
import Derived.Deep.RegionHeld3
namespace Go.Proofs.Ytklempnebhcoiaa
open Go.RowKit
set_option linter.unusedVariables false
set_option linter.unusedSimpArgs false

theorem tell_fits {n : Nat} (h : n < 18446744073709551616) : tx n = n ∧ te n = 0 := by
  unfold tx te
  constructor
  · rw [if_pos (by omega)]
  · rw [if_pos (by omega)]
theorem refup_is (a b c n : Nat) (w : World) (ha : a < 18446744073709551616) (hb : b < 18446744073709551616) (hc : c < 18446744073709551616) (h0 : 0 < c) (h : Ceil (a * b) c n) (hn : n < 18446744073709551616) :
    Calls Try.prog 24 #[.int .u64 a, .int .u64 b, .int .u64 c] w fun e w' => e = .returned (.tuple #[.int .u64 n, .int .i64 0]) ∧ Below w.heap.size w w' := by
  rcases h.parts h0 with e | ⟨q, r, rfl, e, hr, hr0⟩
  · have k := ref_up_whole a b c n w ha hb hc e h0
    rw [(tell_fits hn).1, (tell_fits hn).2] at k
    exact k
  · have k := ref_up_next a b c q r w ha hb hc e hr hr0
    rw [(tell_fits hn).1, (tell_fits hn).2] at k
    exact k

end Go.Proofs.Ytklempnebhcoiaa
