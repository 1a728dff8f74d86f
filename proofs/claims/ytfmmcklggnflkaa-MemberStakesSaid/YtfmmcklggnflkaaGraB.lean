/- Layer 10 (grain): Whole, Next, Fits, Clamp. By contracts. -/
import Derived.Test.YtfmmcklggnflkaaGraA
import Derived.Test.YtfmmcklggnflkaaCheck
namespace Go.Proofs.Ytfmmcklggnflkaa
open Go.RowKit
set_option linter.unusedVariables false
set_option linter.unusedSimpArgs false

set_option maxRecDepth 100000 in
set_option maxHeartbeats 1000000 in
theorem gwhole_ok (p : Par) (b n : Nat) (w : World) (hc : CheckIs p 0) (h0 : 1 ≤ p.inc) (hb : b < 18446744073709551616) (hn : Hid (p.whole b = n)) :
    Calls Try.prog 31 #[.agg p.vals, .int .u64 (b : Int)] w fun e w' => e = .returned (.int .u64 (n : Int)) ∧ Below w.heap.size w w' := by
  have kc := hc
  clear hc
  have hP := ParAt.new w p 42
  have hB : Below w.heap.size w (w.alloc (.cells p.vals 42)) := (Below.refl _ _).alloc (Nat.le_refl _) _
  have kw := fun w => whole_is p b w h0 hb
  rw [hn.out] at kw
  clear hn hb h0
  go_enter Try.func31, Try.ntmps31
  go_wp2_with (first
    | (refine load_par _ rfl rfl _ p _ rfl (by assumption) ?_)
    | (refine build_scale _ rfl rfl p rfl ?_)
    | (go_at_call 26; refine (kc _).mono ?_; rintro e w1 ⟨rfl, hb1⟩; have hP := hP.up hb1; have hB := Below.then hB hb1)
    | (go_at_call 50; refine (kw _).mono ?_; rintro e w1 ⟨rfl, hb1⟩; have hP := hP.up hb1; have hB := Below.then hB hb1))
  go_ret
  exact ⟨by first | rfl | simp, hB⟩

set_option maxRecDepth 100000 in
set_option maxHeartbeats 1000000 in
theorem gwhole_no (p : Par) (b : Nat) (w : World) (hc : CheckIs p 70) :
    Calls Try.prog 31 #[.agg p.vals, .int .u64 (b : Int)] w fun e w' => e = .returned (.int .u64 0) ∧ Below w.heap.size w w' := by
  have kc := hc
  clear hc
  have hP := ParAt.new w p 42
  have hB : Below w.heap.size w (w.alloc (.cells p.vals 42)) := (Below.refl _ _).alloc (Nat.le_refl _) _
  go_enter Try.func31, Try.ntmps31
  go_wp2_with (first
    | (refine load_par _ rfl rfl _ p _ rfl (by assumption) ?_)
    | (go_at_call 26; refine (kc _).mono ?_; rintro e w1 ⟨rfl, hb1⟩; have hP := hP.up hb1; have hB := Below.then hB hb1))
  go_ret
  exact ⟨by first | rfl | simp, hB⟩

set_option maxRecDepth 100000 in
set_option maxHeartbeats 1000000 in
theorem gfits_no (p : Par) (e b : Nat) (w : World) (hc : CheckIs p 70) :
    Calls Try.prog 49 #[.agg p.vals, .int .u64 (e : Int), .int .u64 (b : Int)] w fun e w' => e = .returned (.bool false) ∧ Below w.heap.size w w' := by
  have kc := hc
  clear hc
  have hP := ParAt.new w p 42
  have hB : Below w.heap.size w (w.alloc (.cells p.vals 42)) := (Below.refl _ _).alloc (Nat.le_refl _) _
  go_enter Try.func49, Try.ntmps49
  go_wp2_with (first
    | (refine load_par _ rfl rfl _ p _ rfl (by assumption) ?_)
    | (go_at_call 26; refine (kc _).mono ?_; rintro e w1 ⟨rfl, hb1⟩; have hP := hP.up hb1; have hB := Below.then hB hb1))
  go_ret
  exact ⟨by first | rfl | simp, hB⟩

set_option maxRecDepth 100000 in
set_option maxHeartbeats 1000000 in
theorem gfits_ok (p : Par) (e b : Nat) (r : Bool) (w : World) (hc : CheckIs p 0) (h0 : 1 ≤ p.inc) (he : e < 18446744073709551616) (hb : b < 18446744073709551616) (hr : Hid (p.fit e b = r)) :
    Calls Try.prog 49 #[.agg p.vals, .int .u64 (e : Int), .int .u64 (b : Int)] w fun e w' => e = .returned (.bool r) ∧ Below w.heap.size w w' := by
  have kc := hc
  clear hc
  have hP := ParAt.new w p 42
  have hB : Below w.heap.size w (w.alloc (.cells p.vals 42)) := (Below.refl _ _).alloc (Nat.le_refl _) _
  have hr' := hr.out
  unfold Par.fit at hr'
  clear hr
  cases hs : p.isStep e with
  | false =>
    have ks := fun w => step_is p e false w h0 he (Lib.hid hs)
    obtain rfl : false = r := by rw [← hr', hs]; simp
    clear hr' hs h0 he hb
    go_enter Try.func49, Try.ntmps49
    go_wp2_with (first
      | (refine load_par _ rfl rfl _ p _ rfl (by assumption) ?_)
      | (refine build_scale _ rfl rfl p rfl ?_)
      | (refine load_scale _ rfl rfl _ p _ rfl (by assumption) ?_)
      | (refine store_scale _ _ rfl rfl _ p Par.none 92 rfl rfl (ParAt.new _ Par.none _) ?_; intro w2 hS hb2; have hB := hB.trans ((((Below.refl _ _).alloc (Nat.le_refl _) _).trans hb2).mono hB.size); clear hb2)
      | (go_at_call 26; refine (kc _).mono ?_; rintro e w1 ⟨rfl, hb1⟩; have hP := hP.up hb1; have hB := Below.then hB hb1)
      | (go_at_call 58; refine (ks _).mono ?_; rintro e w1 ⟨rfl, hb1⟩; have hS := hS.up hb1; have hB := Below.then hB hb1))
    go_ret
    exact ⟨by first | rfl | simp, hB⟩
  | true =>
    have ks := fun w => step_is p e true w h0 he (Lib.hid hs)
    by_cases hn : p.next e b = e
    · have kn := fun w => next_is p e b e w h0 he hb (Lib.hid hn)
      obtain rfl : true = r := by rw [← hr', hs, hn]; simp
      clear hr' hs h0 he hb hn
      go_enter Try.func49, Try.ntmps49
      go_wp2_with (first
        | (refine load_par _ rfl rfl _ p _ rfl (by assumption) ?_)
        | (refine build_scale _ rfl rfl p rfl ?_)
        | (refine load_scale _ rfl rfl _ p _ rfl (by assumption) ?_)
        | (refine store_scale _ _ rfl rfl _ p Par.none 92 rfl rfl (ParAt.new _ Par.none _) ?_; intro w2 hS hb2; have hB := hB.trans ((((Below.refl _ _).alloc (Nat.le_refl _) _).trans hb2).mono hB.size); clear hb2)
        | (go_at_call 26; refine (kc _).mono ?_; rintro e w1 ⟨rfl, hb1⟩; have hP := hP.up hb1; have hB := Below.then hB hb1)
        | (go_at_call 58; refine (ks _).mono ?_; rintro e w1 ⟨rfl, hb1⟩; have hS := hS.up hb1; have hB := Below.then hB hb1)
        | (go_at_call 59; refine (kn _).mono ?_; rintro e w1 ⟨rfl, hb1⟩; have hS := hS.up hb1; have hB := Below.then hB hb1))
      go_ret
      exact ⟨by first | rfl | simp, hB⟩
    · have kn := fun w => next_is p e b _ w h0 he hb (Lib.hid rfl)
      obtain rfl : false = r := by rw [← hr', hs]; simp [hn]
      clear hr' hs h0 he hb
      generalize p.next e b = n at *
      have n1 : ((n : Int) == (e : Int)) = false := by simp; omega
      have n2 : decide ((n : Int) = (e : Int)) = false := by simp; omega
      have n3 : decide (n = e) = false := by simp; omega
      have n4 : (n == e) = false := by simp; omega
      clear hn
      go_enter Try.func49, Try.ntmps49
      go_wp2_with (first
        | (refine load_par _ rfl rfl _ p _ rfl (by assumption) ?_)
        | (refine build_scale _ rfl rfl p rfl ?_)
        | (refine load_scale _ rfl rfl _ p _ rfl (by assumption) ?_)
        | (refine store_scale _ _ rfl rfl _ p Par.none 92 rfl rfl (ParAt.new _ Par.none _) ?_; intro w2 hS hb2; have hB := hB.trans ((((Below.refl _ _).alloc (Nat.le_refl _) _).trans hb2).mono hB.size); clear hb2)
        | (go_at_call 26; refine (kc _).mono ?_; rintro e w1 ⟨rfl, hb1⟩; have hP := hP.up hb1; have hB := Below.then hB hb1)
        | (go_at_call 58; refine (ks _).mono ?_; rintro e w1 ⟨rfl, hb1⟩; have hS := hS.up hb1; have hB := Below.then hB hb1)
        | (go_at_call 59; refine (kn _).mono ?_; rintro e w1 ⟨rfl, hb1⟩; have hS := hS.up hb1; have hB := Below.then hB hb1))
      go_ret
      exact ⟨by first | rfl | simp, hB⟩
end Go.Proofs.Ytfmmcklggnflkaa
