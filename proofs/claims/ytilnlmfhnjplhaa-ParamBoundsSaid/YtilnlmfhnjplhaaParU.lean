/- Layer 7 (param), the document's: what is lost at least, and the bound. By contracts. -/
import Derived.Test.YtilnlmfhnjplhaaParE
import Derived.Test.YtilnlmfhnjplhaaParL
import Derived.Test.YtilnlmfhnjplhaaParR
import Derived.Test.YtilnlmfhnjplhaaRef2B
import Derived.Deep.RegionHeld3
namespace Go.Proofs.Ytilnlmfhnjplhaa
open Go.RowKit
set_option linter.unusedVariables false
set_option linter.unusedSimpArgs false

theorem tell_fits {n : Nat} (h : n < 18446744073709551616) : tx n = n ∧ te n = 0 := by
  unfold tx te
  constructor
  · rw [if_pos (by omega)]
  · rw [if_pos (by omega)]
theorem refup_is (a b c n : Nat) (w : World) (ha : a < 18446744073709551616) (hb : b < 18446744073709551616) (hc : c < 18446744073709551616) (h0 : 0 < c) (h : Ceil (a * b) c n) (hn : n < 18446744073709551616) :
    Calls Try.prog 42 #[.int .u64 a, .int .u64 b, .int .u64 c] w fun e w' => e = .returned (.tuple #[.int .u64 n, .int .i64 0]) ∧ Below w.heap.size w w' := by
  rcases h.parts h0 with e | ⟨q, r, rfl, e, hr, hr0⟩
  · have k := ref_up_whole a b c n w ha hb hc e h0
    rw [(tell_fits hn).1, (tell_fits hn).2] at k
    exact k
  · have k := ref_up_next a b c q r w ha hb hc e hr hr0
    rw [(tell_fits hn).1, (tell_fits hn).2] at k
    exact k

set_option maxRecDepth 100000 in
theorem refleast_is (p : Par) (T L : Nat) (w : World) (h : Par.Right p T) (hL : Ceil (p.inc * p.bias) p.quot L) :
    Calls Try.prog 17 #[.agg p.vals] w fun e w' => e = .returned (.int .u64 (L : Int)) ∧ Below w.heap.size w w' := by
  have s := h.spans
  have i1 := s.inc1
  have b1 := s.bias1
  have q0 := s.quot0
  have q1 := s.quot1
  have hl : L ≤ 9223372036854775808 := hL.le (Nat.le_trans (Nat.mul_le_mul i1 b1) (by have := Nat.mul_le_mul_left 9223372036854775808 q0; omega))
  have ku := fun w => refup_is p.inc p.bias p.quot L w (by omega) (by omega) (by omega) q0 hL (by omega)
  have v0 : p.vals[0]? = some (.int .u64 (p.inc : Int)) := rfl
  have v6 : p.vals[6]? = some (.int .u64 (p.bias : Int)) := rfl
  have v7 : p.vals[7]? = some (.int .u64 (p.quot : Int)) := rfl
  have hB : Below w.heap.size w (w.alloc (.cells p.vals 30)) := (Below.refl _ _).alloc (Nat.le_refl _) _
  clear h hL hl i1 b1 q0 q1 s
  go_enter Try.func17, Try.ntmps17
  go_wp2_with (go_at_call 42; refine (ku _).mono ?_; clear ku; rintro e w2 ⟨rfl, hb2⟩)
  go_ret
  exact ⟨rfl, hB.trans (hb2.mono (by simp))⟩
end Go.Proofs.Ytilnlmfhnjplhaa
