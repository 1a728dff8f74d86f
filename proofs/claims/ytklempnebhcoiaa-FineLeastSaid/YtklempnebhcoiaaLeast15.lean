/- Law FineLeast (P15.3): what is taken is what is burned and what goes to the treasury, never more than there is; in a leak, with a score of the bias and one step at stake, it is at least the parameters' least, or all. No condition. -/
import Derived.Test.YtklempnebhcoiaaAwake15
import Derived.Test.YtklempnebhcoiaaLawP
import Derived.Test.YtklempnebhcoiaaLawS
import Derived.Test.YtklempnebhcoiaaRows
namespace Go.Proofs.Ytklempnebhcoiaa.FineLeast
open Go.RowKit Go.ChangeShapes Go.WideShapes Go.ChangeAt
set_option linter.unusedVariables false
set_option linter.unusedSimpArgs false


set_option maxRecDepth 100000 in
set_option maxHeartbeats 2000000 in
theorem walk_err (p : Par) (s : Std) (m : Int) (n v x y : Nat) (w : World) (kt : TakeIs p s m ⟨v, s.eff, s.score, s.streak⟩ x y) (kl : ∀ w, Calls Try.prog 15 #[.agg p.vals] w fun e w' => e = .returned (.tuple #[.int .u64 0, .int .i64 70]) ∧ Below w.heap.size w w') (hv : v + n = s.bal) (hy : x + y = n) (hb : s.bal < 18446744073709551616) : Calls Try.prog 5 #[.agg p.vals, .agg s.vals, .int .i64 m] w fun ev w' => ev = .returned (.bool true) ∧ Below w.heap.size w w' := by
  have hP := (ParAt.new w p 24).up ((Below.refl _ _).alloc (Nat.le_refl _) (.cells s.vals 26))
  have hS : StdAt ((w.alloc (.cells p.vals 24)).alloc (.cells s.vals 26)) (w.heap.size + 1) s 26 := StdAt.new _ s _ (by simp)
  have hB : Below w.heap.size w ((w.alloc (.cells p.vals 24)).alloc (.cells s.vals 26)) := ((Below.refl _ _).alloc (Nat.le_refl _) _).alloc (by simp) _
  unfold TakeIs at kt
  have v0 := p.v0
  have v6 := p.v6
  have e1 : IntKind.u64.wrap ((n : Int) - (x : Int)) = (y : Int) := by rw [show (n : Int) - (x : Int) = (y : Int) by omega]; exact IntWalk.u64_in _ (by omega)
  have e2 : IntKind.u64.wrap ((s.bal : Int) - (v : Int)) = (n : Int) := by rw [show (s.bal : Int) - (v : Int) = (n : Int) by omega]; exact IntWalk.u64_in _ (by omega)
  have d1 : decide ((s.bal : Int) < (v : Int)) = false := decide_eq_false (by omega)
  have d2 : decide (s.bal < v) = false := decide_eq_false (by omega)
  have d3 : decide ((n : Int) < (x : Int)) = false := decide_eq_false (by omega)
  have d4 : decide (n < x) = false := decide_eq_false (by omega)
  clear hy hv hb 
  go_enter Try.func5, Try.ntmps5
  go_upto_region 4 with (first
    | (refine load_par _ rfl rfl _ p _ rfl (by assumption) ?_)
    | (refine load_std _ rfl rfl _ s _ rfl (by assumption) ?_)
    | (go_at_call 7; refine (fine_awake _).mono ?_; rintro e w1 ⟨rfl, hb1⟩; have hP := hP.up hb1; have hS := hS.up hb1; have hB := Below.then hB hb1; clear hb1)
    | (go_at_call 9; refine (kt _).mono ?_; clear kt; rintro e w1 ⟨rfl, hb1⟩; have hP := hP.up hb1; have hS := hS.up hb1; have hB := Below.then hB hb1; clear hb1)
    | (refine store_std _ _ rfl rfl _ (⟨v, s.eff, s.score, s.streak⟩ : Std) Std.none 26 rfl rfl (std_zero_new _ _) ?_; intro w2 hR hb2; have hb1 := below_made (Below.refl _ _) hb2; clear hb2; have hP := hP.up hb1; have hS := hS.up hb1; have hB := Below.then hB hb1; clear hb1; have s0 := hS.c0; have s1 := hS.c1; have s2 := hS.c2; have r0 := hR.c0; have p0 := (hP.cell 0).trans v0; have p6 := (hP.cell 6).trans v6)
    )
  go_upto_region 6 with fail
  go_upto_region 7 with (first
    | (refine load_par _ rfl rfl _ p _ rfl (by assumption) ?_)
    | (go_at_call 15; refine (kl _).mono ?_; clear kl; rintro e w1 ⟨rfl, hb1⟩; have hP := hP.up hb1; have hS := hS.up hb1; have hR := hR.up hb1; have hB := Below.then hB hb1; clear hb1; have s0 := hS.c0; have s1 := hS.c1; have s2 := hS.c2; have r0 := hR.c0; have p0 := (hP.cell 0).trans v0; have p6 := (hP.cell 6).trans v6)
    )
  go_wp2
  go_ret
  exact ⟨by first | rfl | simp, hB⟩


set_option maxRecDepth 100000 in
set_option maxHeartbeats 2000000 in
theorem walk_calm (p : Par) (s : Std) (m : Int) (n v x y l : Nat) (w : World) (kt : TakeIs p s m ⟨v, s.eff, s.score, s.streak⟩ x y) (kl : ∀ w, Calls Try.prog 15 #[.agg p.vals] w fun e w' => e = .returned (.tuple #[.int .u64 (l : Int), .int .i64 0]) ∧ Below w.heap.size w w') (hv : v + n = s.bal) (hy : x + y = n) (hb : s.bal < 18446744073709551616) (h3 : ¬ m = 3) (h4 : ¬ m = 4) : Calls Try.prog 5 #[.agg p.vals, .agg s.vals, .int .i64 m] w fun ev w' => ev = .returned (.bool true) ∧ Below w.heap.size w w' := by
  have hP := (ParAt.new w p 24).up ((Below.refl _ _).alloc (Nat.le_refl _) (.cells s.vals 26))
  have hS : StdAt ((w.alloc (.cells p.vals 24)).alloc (.cells s.vals 26)) (w.heap.size + 1) s 26 := StdAt.new _ s _ (by simp)
  have hB : Below w.heap.size w ((w.alloc (.cells p.vals 24)).alloc (.cells s.vals 26)) := ((Below.refl _ _).alloc (Nat.le_refl _) _).alloc (by simp) _
  unfold TakeIs at kt
  have v0 := p.v0
  have v6 := p.v6
  have e1 : IntKind.u64.wrap ((n : Int) - (x : Int)) = (y : Int) := by rw [show (n : Int) - (x : Int) = (y : Int) by omega]; exact IntWalk.u64_in _ (by omega)
  have e2 : IntKind.u64.wrap ((s.bal : Int) - (v : Int)) = (n : Int) := by rw [show (s.bal : Int) - (v : Int) = (n : Int) by omega]; exact IntWalk.u64_in _ (by omega)
  have d1 : decide ((s.bal : Int) < (v : Int)) = false := decide_eq_false (by omega)
  have d2 : decide (s.bal < v) = false := decide_eq_false (by omega)
  have d3 : decide ((n : Int) < (x : Int)) = false := decide_eq_false (by omega)
  have d4 : decide (n < x) = false := decide_eq_false (by omega)
  have z3 : (m == 3) = false := by simpa using h3
  have z4 : (m == 4) = false := by simpa using h4
  clear hy hv hb 
  go_enter Try.func5, Try.ntmps5
  go_upto_region 4 with (first
    | (refine load_par _ rfl rfl _ p _ rfl (by assumption) ?_)
    | (refine load_std _ rfl rfl _ s _ rfl (by assumption) ?_)
    | (go_at_call 7; refine (fine_awake _).mono ?_; rintro e w1 ⟨rfl, hb1⟩; have hP := hP.up hb1; have hS := hS.up hb1; have hB := Below.then hB hb1; clear hb1)
    | (go_at_call 9; refine (kt _).mono ?_; clear kt; rintro e w1 ⟨rfl, hb1⟩; have hP := hP.up hb1; have hS := hS.up hb1; have hB := Below.then hB hb1; clear hb1)
    | (refine store_std _ _ rfl rfl _ (⟨v, s.eff, s.score, s.streak⟩ : Std) Std.none 26 rfl rfl (std_zero_new _ _) ?_; intro w2 hR hb2; have hb1 := below_made (Below.refl _ _) hb2; clear hb2; have hP := hP.up hb1; have hS := hS.up hb1; have hB := Below.then hB hb1; clear hb1; have s0 := hS.c0; have s1 := hS.c1; have s2 := hS.c2; have r0 := hR.c0; have p0 := (hP.cell 0).trans v0; have p6 := (hP.cell 6).trans v6)
    )
  go_upto_region 6 with fail
  go_upto_region 7 with (first
    | (refine load_par _ rfl rfl _ p _ rfl (by assumption) ?_)
    | (go_at_call 15; refine (kl _).mono ?_; clear kl; rintro e w1 ⟨rfl, hb1⟩; have hP := hP.up hb1; have hS := hS.up hb1; have hR := hR.up hb1; have hB := Below.then hB hb1; clear hb1; have s0 := hS.c0; have s1 := hS.c1; have s2 := hS.c2; have r0 := hR.c0; have p0 := (hP.cell 0).trans v0; have p6 := (hP.cell 6).trans v6)
    )
  go_wp2
  go_ret
  exact ⟨by first | rfl | simp, hB⟩


set_option maxRecDepth 100000 in
set_option maxHeartbeats 2000000 in
theorem walk_score3 (p : Par) (s : Std) (n v x y l : Nat) (w : World) (kt : TakeIs p s 3 ⟨v, s.eff, s.score, s.streak⟩ x y) (kl : ∀ w, Calls Try.prog 15 #[.agg p.vals] w fun e w' => e = .returned (.tuple #[.int .u64 (l : Int), .int .i64 0]) ∧ Below w.heap.size w w') (hv : v + n = s.bal) (hy : x + y = n) (hb : s.bal < 18446744073709551616) (h : s.score < p.bias) : Calls Try.prog 5 #[.agg p.vals, .agg s.vals, .int .i64 3] w fun ev w' => ev = .returned (.bool true) ∧ Below w.heap.size w w' := by
  have hP := (ParAt.new w p 24).up ((Below.refl _ _).alloc (Nat.le_refl _) (.cells s.vals 26))
  have hS : StdAt ((w.alloc (.cells p.vals 24)).alloc (.cells s.vals 26)) (w.heap.size + 1) s 26 := StdAt.new _ s _ (by simp)
  have hB : Below w.heap.size w ((w.alloc (.cells p.vals 24)).alloc (.cells s.vals 26)) := ((Below.refl _ _).alloc (Nat.le_refl _) _).alloc (by simp) _
  unfold TakeIs at kt
  have v0 := p.v0
  have v6 := p.v6
  have e1 : IntKind.u64.wrap ((n : Int) - (x : Int)) = (y : Int) := by rw [show (n : Int) - (x : Int) = (y : Int) by omega]; exact IntWalk.u64_in _ (by omega)
  have e2 : IntKind.u64.wrap ((s.bal : Int) - (v : Int)) = (n : Int) := by rw [show (s.bal : Int) - (v : Int) = (n : Int) by omega]; exact IntWalk.u64_in _ (by omega)
  have d1 : decide ((s.bal : Int) < (v : Int)) = false := decide_eq_false (by omega)
  have d2 : decide (s.bal < v) = false := decide_eq_false (by omega)
  have d3 : decide ((n : Int) < (x : Int)) = false := decide_eq_false (by omega)
  have d4 : decide (n < x) = false := decide_eq_false (by omega)
  have g1 : decide ((s.score : Int) < (p.bias : Int)) = true := decide_eq_true (by omega)
  have g1' : decide (s.score < p.bias) = true := decide_eq_true (by omega)
  clear hy hv hb h
  go_enter Try.func5, Try.ntmps5
  go_upto_region 4 with (first
    | (refine load_par _ rfl rfl _ p _ rfl (by assumption) ?_)
    | (refine load_std _ rfl rfl _ s _ rfl (by assumption) ?_)
    | (go_at_call 7; refine (fine_awake _).mono ?_; rintro e w1 ⟨rfl, hb1⟩; have hP := hP.up hb1; have hS := hS.up hb1; have hB := Below.then hB hb1; clear hb1)
    | (go_at_call 9; refine (kt _).mono ?_; clear kt; rintro e w1 ⟨rfl, hb1⟩; have hP := hP.up hb1; have hS := hS.up hb1; have hB := Below.then hB hb1; clear hb1)
    | (refine store_std _ _ rfl rfl _ (⟨v, s.eff, s.score, s.streak⟩ : Std) Std.none 26 rfl rfl (std_zero_new _ _) ?_; intro w2 hR hb2; have hb1 := below_made (Below.refl _ _) hb2; clear hb2; have hP := hP.up hb1; have hS := hS.up hb1; have hB := Below.then hB hb1; clear hb1; have s0 := hS.c0; have s1 := hS.c1; have s2 := hS.c2; have r0 := hR.c0; have p0 := (hP.cell 0).trans v0; have p6 := (hP.cell 6).trans v6)
    )
  go_upto_region 6 with fail
  go_upto_region 7 with (first
    | (refine load_par _ rfl rfl _ p _ rfl (by assumption) ?_)
    | (go_at_call 15; refine (kl _).mono ?_; clear kl; rintro e w1 ⟨rfl, hb1⟩; have hP := hP.up hb1; have hS := hS.up hb1; have hR := hR.up hb1; have hB := Below.then hB hb1; clear hb1; have s0 := hS.c0; have s1 := hS.c1; have s2 := hS.c2; have r0 := hR.c0; have p0 := (hP.cell 0).trans v0; have p6 := (hP.cell 6).trans v6)
    )
  go_wp2
  go_ret
  exact ⟨by first | rfl | simp, hB⟩


set_option maxRecDepth 100000 in
set_option maxHeartbeats 2000000 in
theorem walk_eff3 (p : Par) (s : Std) (n v x y l : Nat) (w : World) (kt : TakeIs p s 3 ⟨v, s.eff, s.score, s.streak⟩ x y) (kl : ∀ w, Calls Try.prog 15 #[.agg p.vals] w fun e w' => e = .returned (.tuple #[.int .u64 (l : Int), .int .i64 0]) ∧ Below w.heap.size w w') (hv : v + n = s.bal) (hy : x + y = n) (hb : s.bal < 18446744073709551616) (h : p.bias ≤ s.score) (g : s.eff < p.inc) : Calls Try.prog 5 #[.agg p.vals, .agg s.vals, .int .i64 3] w fun ev w' => ev = .returned (.bool true) ∧ Below w.heap.size w w' := by
  have hP := (ParAt.new w p 24).up ((Below.refl _ _).alloc (Nat.le_refl _) (.cells s.vals 26))
  have hS : StdAt ((w.alloc (.cells p.vals 24)).alloc (.cells s.vals 26)) (w.heap.size + 1) s 26 := StdAt.new _ s _ (by simp)
  have hB : Below w.heap.size w ((w.alloc (.cells p.vals 24)).alloc (.cells s.vals 26)) := ((Below.refl _ _).alloc (Nat.le_refl _) _).alloc (by simp) _
  unfold TakeIs at kt
  have v0 := p.v0
  have v6 := p.v6
  have e1 : IntKind.u64.wrap ((n : Int) - (x : Int)) = (y : Int) := by rw [show (n : Int) - (x : Int) = (y : Int) by omega]; exact IntWalk.u64_in _ (by omega)
  have e2 : IntKind.u64.wrap ((s.bal : Int) - (v : Int)) = (n : Int) := by rw [show (s.bal : Int) - (v : Int) = (n : Int) by omega]; exact IntWalk.u64_in _ (by omega)
  have d1 : decide ((s.bal : Int) < (v : Int)) = false := decide_eq_false (by omega)
  have d2 : decide (s.bal < v) = false := decide_eq_false (by omega)
  have d3 : decide ((n : Int) < (x : Int)) = false := decide_eq_false (by omega)
  have d4 : decide (n < x) = false := decide_eq_false (by omega)
  have g1 : decide ((s.score : Int) < (p.bias : Int)) = false := decide_eq_false (by omega)
  have g1' : decide (s.score < p.bias) = false := decide_eq_false (by omega)
  have g2 : decide ((s.eff : Int) < (p.inc : Int)) = true := decide_eq_true (by omega)
  have g2' : decide (s.eff < p.inc) = true := decide_eq_true (by omega)
  clear hy hv hb h g
  go_enter Try.func5, Try.ntmps5
  go_upto_region 4 with (first
    | (refine load_par _ rfl rfl _ p _ rfl (by assumption) ?_)
    | (refine load_std _ rfl rfl _ s _ rfl (by assumption) ?_)
    | (go_at_call 7; refine (fine_awake _).mono ?_; rintro e w1 ⟨rfl, hb1⟩; have hP := hP.up hb1; have hS := hS.up hb1; have hB := Below.then hB hb1; clear hb1)
    | (go_at_call 9; refine (kt _).mono ?_; clear kt; rintro e w1 ⟨rfl, hb1⟩; have hP := hP.up hb1; have hS := hS.up hb1; have hB := Below.then hB hb1; clear hb1)
    | (refine store_std _ _ rfl rfl _ (⟨v, s.eff, s.score, s.streak⟩ : Std) Std.none 26 rfl rfl (std_zero_new _ _) ?_; intro w2 hR hb2; have hb1 := below_made (Below.refl _ _) hb2; clear hb2; have hP := hP.up hb1; have hS := hS.up hb1; have hB := Below.then hB hb1; clear hb1; have s0 := hS.c0; have s1 := hS.c1; have s2 := hS.c2; have r0 := hR.c0; have p0 := (hP.cell 0).trans v0; have p6 := (hP.cell 6).trans v6)
    )
  go_upto_region 6 with fail
  go_upto_region 7 with (first
    | (refine load_par _ rfl rfl _ p _ rfl (by assumption) ?_)
    | (go_at_call 15; refine (kl _).mono ?_; clear kl; rintro e w1 ⟨rfl, hb1⟩; have hP := hP.up hb1; have hS := hS.up hb1; have hR := hR.up hb1; have hB := Below.then hB hb1; clear hb1; have s0 := hS.c0; have s1 := hS.c1; have s2 := hS.c2; have r0 := hR.c0; have p0 := (hP.cell 0).trans v0; have p6 := (hP.cell 6).trans v6)
    )
  go_wp2
  go_ret
  exact ⟨by first | rfl | simp, hB⟩


set_option maxRecDepth 100000 in
set_option maxHeartbeats 2000000 in
theorem walk_all3 (p : Par) (s : Std) (x y l : Nat) (w : World) (kt : TakeIs p s 3 ⟨0, s.eff, s.score, s.streak⟩ x y) (kl : ∀ w, Calls Try.prog 15 #[.agg p.vals] w fun e w' => e = .returned (.tuple #[.int .u64 (l : Int), .int .i64 0]) ∧ Below w.heap.size w w') (hy : x + y = s.bal) (hb : s.bal < 18446744073709551616) (h : p.bias ≤ s.score) (g : p.inc ≤ s.eff) : Calls Try.prog 5 #[.agg p.vals, .agg s.vals, .int .i64 3] w fun ev w' => ev = .returned (.bool true) ∧ Below w.heap.size w w' := by
  have hP := (ParAt.new w p 24).up ((Below.refl _ _).alloc (Nat.le_refl _) (.cells s.vals 26))
  have hS : StdAt ((w.alloc (.cells p.vals 24)).alloc (.cells s.vals 26)) (w.heap.size + 1) s 26 := StdAt.new _ s _ (by simp)
  have hB : Below w.heap.size w ((w.alloc (.cells p.vals 24)).alloc (.cells s.vals 26)) := ((Below.refl _ _).alloc (Nat.le_refl _) _).alloc (by simp) _
  unfold TakeIs at kt
  have v0 := p.v0
  have v6 := p.v6
  have e1 : IntKind.u64.wrap ((s.bal : Int) - (x : Int)) = (y : Int) := by rw [show (s.bal : Int) - (x : Int) = (y : Int) by omega]; exact IntWalk.u64_in _ (by omega)
  have e2 : IntKind.u64.wrap ((s.bal : Int) - 0) = (s.bal : Int) := by rw [show (s.bal : Int) - 0 = (s.bal : Int) by omega]; exact IntWalk.u64_in _ (by omega)
  have d1 : decide ((s.bal : Int) < 0) = false := decide_eq_false (by omega)
  have d2 : decide (s.bal < 0) = false := decide_eq_false (by omega)
  have d3 : decide ((s.bal : Int) < (x : Int)) = false := decide_eq_false (by omega)
  have d4 : decide (s.bal < x) = false := decide_eq_false (by omega)
  have g1 : decide ((s.score : Int) < (p.bias : Int)) = false := decide_eq_false (by omega)
  have g1' : decide (s.score < p.bias) = false := decide_eq_false (by omega)
  have g2 : decide ((s.eff : Int) < (p.inc : Int)) = false := decide_eq_false (by omega)
  have g2' : decide (s.eff < p.inc) = false := decide_eq_false (by omega)
  have e4 : IntKind.u64.wrap (s.bal : Int) = (s.bal : Int) := IntWalk.u64_in _ (by omega)
  have d5 : decide ((s.bal : Int) < 0) = false := decide_eq_false (by omega)
  clear hy hb h g
  go_enter Try.func5, Try.ntmps5
  go_upto_region 4 with (first
    | (refine load_par _ rfl rfl _ p _ rfl (by assumption) ?_)
    | (refine load_std _ rfl rfl _ s _ rfl (by assumption) ?_)
    | (go_at_call 7; refine (fine_awake _).mono ?_; rintro e w1 ⟨rfl, hb1⟩; have hP := hP.up hb1; have hS := hS.up hb1; have hB := Below.then hB hb1; clear hb1)
    | (go_at_call 9; refine (kt _).mono ?_; clear kt; rintro e w1 ⟨rfl, hb1⟩; have hP := hP.up hb1; have hS := hS.up hb1; have hB := Below.then hB hb1; clear hb1)
    | (refine store_std _ _ rfl rfl _ (⟨0, s.eff, s.score, s.streak⟩ : Std) Std.none 26 rfl rfl (std_zero_new _ _) ?_; intro w2 hR hb2; have hb1 := below_made (Below.refl _ _) hb2; clear hb2; have hP := hP.up hb1; have hS := hS.up hb1; have hB := Below.then hB hb1; clear hb1; have s0 := hS.c0; have s1 := hS.c1; have s2 := hS.c2; have r0 : _ = some (Value.int IntKind.u64 0) := hR.c0; have p0 := (hP.cell 0).trans v0; have p6 := (hP.cell 6).trans v6)
    )
  go_upto_region 6 with fail
  go_upto_region 7 with (first
    | (refine load_par _ rfl rfl _ p _ rfl (by assumption) ?_)
    | (go_at_call 15; refine (kl _).mono ?_; clear kl; rintro e w1 ⟨rfl, hb1⟩; have hP := hP.up hb1; have hS := hS.up hb1; have hR := hR.up hb1; have hB := Below.then hB hb1; clear hb1; have s0 := hS.c0; have s1 := hS.c1; have s2 := hS.c2; have r0 : _ = some (Value.int IntKind.u64 0) := hR.c0; have p0 := (hP.cell 0).trans v0; have p6 := (hP.cell 6).trans v6)
    )
  go_wp2
  go_ret
  exact ⟨by first | rfl | simp, hB⟩


set_option maxRecDepth 100000 in
set_option maxHeartbeats 2000000 in
theorem walk_more3 (p : Par) (s : Std) (n v x y l : Nat) (w : World) (kt : TakeIs p s 3 ⟨v, s.eff, s.score, s.streak⟩ x y) (kl : ∀ w, Calls Try.prog 15 #[.agg p.vals] w fun e w' => e = .returned (.tuple #[.int .u64 (l : Int), .int .i64 0]) ∧ Below w.heap.size w w') (hv : v + n = s.bal) (hy : x + y = n) (hb : s.bal < 18446744073709551616) (h : p.bias ≤ s.score) (g : p.inc ≤ s.eff) (hz : ¬ v = 0) (hl : l ≤ n) : Calls Try.prog 5 #[.agg p.vals, .agg s.vals, .int .i64 3] w fun ev w' => ev = .returned (.bool true) ∧ Below w.heap.size w w' := by
  have hP := (ParAt.new w p 24).up ((Below.refl _ _).alloc (Nat.le_refl _) (.cells s.vals 26))
  have hS : StdAt ((w.alloc (.cells p.vals 24)).alloc (.cells s.vals 26)) (w.heap.size + 1) s 26 := StdAt.new _ s _ (by simp)
  have hB : Below w.heap.size w ((w.alloc (.cells p.vals 24)).alloc (.cells s.vals 26)) := ((Below.refl _ _).alloc (Nat.le_refl _) _).alloc (by simp) _
  unfold TakeIs at kt
  have v0 := p.v0
  have v6 := p.v6
  have e1 : IntKind.u64.wrap ((n : Int) - (x : Int)) = (y : Int) := by rw [show (n : Int) - (x : Int) = (y : Int) by omega]; exact IntWalk.u64_in _ (by omega)
  have e2 : IntKind.u64.wrap ((s.bal : Int) - (v : Int)) = (n : Int) := by rw [show (s.bal : Int) - (v : Int) = (n : Int) by omega]; exact IntWalk.u64_in _ (by omega)
  have d1 : decide ((s.bal : Int) < (v : Int)) = false := decide_eq_false (by omega)
  have d2 : decide (s.bal < v) = false := decide_eq_false (by omega)
  have d3 : decide ((n : Int) < (x : Int)) = false := decide_eq_false (by omega)
  have d4 : decide (n < x) = false := decide_eq_false (by omega)
  have g1 : decide ((s.score : Int) < (p.bias : Int)) = false := decide_eq_false (by omega)
  have g1' : decide (s.score < p.bias) = false := decide_eq_false (by omega)
  have g2 : decide ((s.eff : Int) < (p.inc : Int)) = false := decide_eq_false (by omega)
  have g2' : decide (s.eff < p.inc) = false := decide_eq_false (by omega)
  have z1 : ((v : Int) == 0) = false := by simp; omega
  have z2 : (v == 0) = false := by simp; omega
  have g3 : decide ((l : Int) ≤ (n : Int)) = true := decide_eq_true (by omega)
  have g3' : decide (l ≤ n) = true := decide_eq_true (by omega)
  clear hy hv hb h g hz hl
  go_enter Try.func5, Try.ntmps5
  go_upto_region 4 with (first
    | (refine load_par _ rfl rfl _ p _ rfl (by assumption) ?_)
    | (refine load_std _ rfl rfl _ s _ rfl (by assumption) ?_)
    | (go_at_call 7; refine (fine_awake _).mono ?_; rintro e w1 ⟨rfl, hb1⟩; have hP := hP.up hb1; have hS := hS.up hb1; have hB := Below.then hB hb1; clear hb1)
    | (go_at_call 9; refine (kt _).mono ?_; clear kt; rintro e w1 ⟨rfl, hb1⟩; have hP := hP.up hb1; have hS := hS.up hb1; have hB := Below.then hB hb1; clear hb1)
    | (refine store_std _ _ rfl rfl _ (⟨v, s.eff, s.score, s.streak⟩ : Std) Std.none 26 rfl rfl (std_zero_new _ _) ?_; intro w2 hR hb2; have hb1 := below_made (Below.refl _ _) hb2; clear hb2; have hP := hP.up hb1; have hS := hS.up hb1; have hB := Below.then hB hb1; clear hb1; have s0 := hS.c0; have s1 := hS.c1; have s2 := hS.c2; have r0 := hR.c0; have p0 := (hP.cell 0).trans v0; have p6 := (hP.cell 6).trans v6)
    )
  go_upto_region 6 with fail
  go_upto_region 7 with (first
    | (refine load_par _ rfl rfl _ p _ rfl (by assumption) ?_)
    | (go_at_call 15; refine (kl _).mono ?_; clear kl; rintro e w1 ⟨rfl, hb1⟩; have hP := hP.up hb1; have hS := hS.up hb1; have hR := hR.up hb1; have hB := Below.then hB hb1; clear hb1; have s0 := hS.c0; have s1 := hS.c1; have s2 := hS.c2; have r0 := hR.c0; have p0 := (hP.cell 0).trans v0; have p6 := (hP.cell 6).trans v6)
    )
  go_wp2
  go_ret
  exact ⟨by first | rfl | simp, hB⟩


set_option maxRecDepth 100000 in
set_option maxHeartbeats 2000000 in
theorem walk_score4 (p : Par) (s : Std) (n v x y l : Nat) (w : World) (kt : TakeIs p s 4 ⟨v, s.eff, s.score, s.streak⟩ x y) (kl : ∀ w, Calls Try.prog 15 #[.agg p.vals] w fun e w' => e = .returned (.tuple #[.int .u64 (l : Int), .int .i64 0]) ∧ Below w.heap.size w w') (hv : v + n = s.bal) (hy : x + y = n) (hb : s.bal < 18446744073709551616) (h : s.score < p.bias) : Calls Try.prog 5 #[.agg p.vals, .agg s.vals, .int .i64 4] w fun ev w' => ev = .returned (.bool true) ∧ Below w.heap.size w w' := by
  have hP := (ParAt.new w p 24).up ((Below.refl _ _).alloc (Nat.le_refl _) (.cells s.vals 26))
  have hS : StdAt ((w.alloc (.cells p.vals 24)).alloc (.cells s.vals 26)) (w.heap.size + 1) s 26 := StdAt.new _ s _ (by simp)
  have hB : Below w.heap.size w ((w.alloc (.cells p.vals 24)).alloc (.cells s.vals 26)) := ((Below.refl _ _).alloc (Nat.le_refl _) _).alloc (by simp) _
  unfold TakeIs at kt
  have v0 := p.v0
  have v6 := p.v6
  have e1 : IntKind.u64.wrap ((n : Int) - (x : Int)) = (y : Int) := by rw [show (n : Int) - (x : Int) = (y : Int) by omega]; exact IntWalk.u64_in _ (by omega)
  have e2 : IntKind.u64.wrap ((s.bal : Int) - (v : Int)) = (n : Int) := by rw [show (s.bal : Int) - (v : Int) = (n : Int) by omega]; exact IntWalk.u64_in _ (by omega)
  have d1 : decide ((s.bal : Int) < (v : Int)) = false := decide_eq_false (by omega)
  have d2 : decide (s.bal < v) = false := decide_eq_false (by omega)
  have d3 : decide ((n : Int) < (x : Int)) = false := decide_eq_false (by omega)
  have d4 : decide (n < x) = false := decide_eq_false (by omega)
  have g1 : decide ((s.score : Int) < (p.bias : Int)) = true := decide_eq_true (by omega)
  have g1' : decide (s.score < p.bias) = true := decide_eq_true (by omega)
  clear hy hv hb h
  go_enter Try.func5, Try.ntmps5
  go_upto_region 4 with (first
    | (refine load_par _ rfl rfl _ p _ rfl (by assumption) ?_)
    | (refine load_std _ rfl rfl _ s _ rfl (by assumption) ?_)
    | (go_at_call 7; refine (fine_awake _).mono ?_; rintro e w1 ⟨rfl, hb1⟩; have hP := hP.up hb1; have hS := hS.up hb1; have hB := Below.then hB hb1; clear hb1)
    | (go_at_call 9; refine (kt _).mono ?_; clear kt; rintro e w1 ⟨rfl, hb1⟩; have hP := hP.up hb1; have hS := hS.up hb1; have hB := Below.then hB hb1; clear hb1)
    | (refine store_std _ _ rfl rfl _ (⟨v, s.eff, s.score, s.streak⟩ : Std) Std.none 26 rfl rfl (std_zero_new _ _) ?_; intro w2 hR hb2; have hb1 := below_made (Below.refl _ _) hb2; clear hb2; have hP := hP.up hb1; have hS := hS.up hb1; have hB := Below.then hB hb1; clear hb1; have s0 := hS.c0; have s1 := hS.c1; have s2 := hS.c2; have r0 := hR.c0; have p0 := (hP.cell 0).trans v0; have p6 := (hP.cell 6).trans v6)
    )
  go_upto_region 6 with fail
  go_upto_region 7 with (first
    | (refine load_par _ rfl rfl _ p _ rfl (by assumption) ?_)
    | (go_at_call 15; refine (kl _).mono ?_; clear kl; rintro e w1 ⟨rfl, hb1⟩; have hP := hP.up hb1; have hS := hS.up hb1; have hR := hR.up hb1; have hB := Below.then hB hb1; clear hb1; have s0 := hS.c0; have s1 := hS.c1; have s2 := hS.c2; have r0 := hR.c0; have p0 := (hP.cell 0).trans v0; have p6 := (hP.cell 6).trans v6)
    )
  go_wp2
  go_ret
  exact ⟨by first | rfl | simp, hB⟩


set_option maxRecDepth 100000 in
set_option maxHeartbeats 2000000 in
theorem walk_eff4 (p : Par) (s : Std) (n v x y l : Nat) (w : World) (kt : TakeIs p s 4 ⟨v, s.eff, s.score, s.streak⟩ x y) (kl : ∀ w, Calls Try.prog 15 #[.agg p.vals] w fun e w' => e = .returned (.tuple #[.int .u64 (l : Int), .int .i64 0]) ∧ Below w.heap.size w w') (hv : v + n = s.bal) (hy : x + y = n) (hb : s.bal < 18446744073709551616) (h : p.bias ≤ s.score) (g : s.eff < p.inc) : Calls Try.prog 5 #[.agg p.vals, .agg s.vals, .int .i64 4] w fun ev w' => ev = .returned (.bool true) ∧ Below w.heap.size w w' := by
  have hP := (ParAt.new w p 24).up ((Below.refl _ _).alloc (Nat.le_refl _) (.cells s.vals 26))
  have hS : StdAt ((w.alloc (.cells p.vals 24)).alloc (.cells s.vals 26)) (w.heap.size + 1) s 26 := StdAt.new _ s _ (by simp)
  have hB : Below w.heap.size w ((w.alloc (.cells p.vals 24)).alloc (.cells s.vals 26)) := ((Below.refl _ _).alloc (Nat.le_refl _) _).alloc (by simp) _
  unfold TakeIs at kt
  have v0 := p.v0
  have v6 := p.v6
  have e1 : IntKind.u64.wrap ((n : Int) - (x : Int)) = (y : Int) := by rw [show (n : Int) - (x : Int) = (y : Int) by omega]; exact IntWalk.u64_in _ (by omega)
  have e2 : IntKind.u64.wrap ((s.bal : Int) - (v : Int)) = (n : Int) := by rw [show (s.bal : Int) - (v : Int) = (n : Int) by omega]; exact IntWalk.u64_in _ (by omega)
  have d1 : decide ((s.bal : Int) < (v : Int)) = false := decide_eq_false (by omega)
  have d2 : decide (s.bal < v) = false := decide_eq_false (by omega)
  have d3 : decide ((n : Int) < (x : Int)) = false := decide_eq_false (by omega)
  have d4 : decide (n < x) = false := decide_eq_false (by omega)
  have g1 : decide ((s.score : Int) < (p.bias : Int)) = false := decide_eq_false (by omega)
  have g1' : decide (s.score < p.bias) = false := decide_eq_false (by omega)
  have g2 : decide ((s.eff : Int) < (p.inc : Int)) = true := decide_eq_true (by omega)
  have g2' : decide (s.eff < p.inc) = true := decide_eq_true (by omega)
  clear hy hv hb h g
  go_enter Try.func5, Try.ntmps5
  go_upto_region 4 with (first
    | (refine load_par _ rfl rfl _ p _ rfl (by assumption) ?_)
    | (refine load_std _ rfl rfl _ s _ rfl (by assumption) ?_)
    | (go_at_call 7; refine (fine_awake _).mono ?_; rintro e w1 ⟨rfl, hb1⟩; have hP := hP.up hb1; have hS := hS.up hb1; have hB := Below.then hB hb1; clear hb1)
    | (go_at_call 9; refine (kt _).mono ?_; clear kt; rintro e w1 ⟨rfl, hb1⟩; have hP := hP.up hb1; have hS := hS.up hb1; have hB := Below.then hB hb1; clear hb1)
    | (refine store_std _ _ rfl rfl _ (⟨v, s.eff, s.score, s.streak⟩ : Std) Std.none 26 rfl rfl (std_zero_new _ _) ?_; intro w2 hR hb2; have hb1 := below_made (Below.refl _ _) hb2; clear hb2; have hP := hP.up hb1; have hS := hS.up hb1; have hB := Below.then hB hb1; clear hb1; have s0 := hS.c0; have s1 := hS.c1; have s2 := hS.c2; have r0 := hR.c0; have p0 := (hP.cell 0).trans v0; have p6 := (hP.cell 6).trans v6)
    )
  go_upto_region 6 with fail
  go_upto_region 7 with (first
    | (refine load_par _ rfl rfl _ p _ rfl (by assumption) ?_)
    | (go_at_call 15; refine (kl _).mono ?_; clear kl; rintro e w1 ⟨rfl, hb1⟩; have hP := hP.up hb1; have hS := hS.up hb1; have hR := hR.up hb1; have hB := Below.then hB hb1; clear hb1; have s0 := hS.c0; have s1 := hS.c1; have s2 := hS.c2; have r0 := hR.c0; have p0 := (hP.cell 0).trans v0; have p6 := (hP.cell 6).trans v6)
    )
  go_wp2
  go_ret
  exact ⟨by first | rfl | simp, hB⟩


set_option maxRecDepth 100000 in
set_option maxHeartbeats 2000000 in
theorem walk_all4 (p : Par) (s : Std) (x y l : Nat) (w : World) (kt : TakeIs p s 4 ⟨0, s.eff, s.score, s.streak⟩ x y) (kl : ∀ w, Calls Try.prog 15 #[.agg p.vals] w fun e w' => e = .returned (.tuple #[.int .u64 (l : Int), .int .i64 0]) ∧ Below w.heap.size w w') (hy : x + y = s.bal) (hb : s.bal < 18446744073709551616) (h : p.bias ≤ s.score) (g : p.inc ≤ s.eff) : Calls Try.prog 5 #[.agg p.vals, .agg s.vals, .int .i64 4] w fun ev w' => ev = .returned (.bool true) ∧ Below w.heap.size w w' := by
  have hP := (ParAt.new w p 24).up ((Below.refl _ _).alloc (Nat.le_refl _) (.cells s.vals 26))
  have hS : StdAt ((w.alloc (.cells p.vals 24)).alloc (.cells s.vals 26)) (w.heap.size + 1) s 26 := StdAt.new _ s _ (by simp)
  have hB : Below w.heap.size w ((w.alloc (.cells p.vals 24)).alloc (.cells s.vals 26)) := ((Below.refl _ _).alloc (Nat.le_refl _) _).alloc (by simp) _
  unfold TakeIs at kt
  have v0 := p.v0
  have v6 := p.v6
  have e1 : IntKind.u64.wrap ((s.bal : Int) - (x : Int)) = (y : Int) := by rw [show (s.bal : Int) - (x : Int) = (y : Int) by omega]; exact IntWalk.u64_in _ (by omega)
  have e2 : IntKind.u64.wrap ((s.bal : Int) - 0) = (s.bal : Int) := by rw [show (s.bal : Int) - 0 = (s.bal : Int) by omega]; exact IntWalk.u64_in _ (by omega)
  have d1 : decide ((s.bal : Int) < 0) = false := decide_eq_false (by omega)
  have d2 : decide (s.bal < 0) = false := decide_eq_false (by omega)
  have d3 : decide ((s.bal : Int) < (x : Int)) = false := decide_eq_false (by omega)
  have d4 : decide (s.bal < x) = false := decide_eq_false (by omega)
  have g1 : decide ((s.score : Int) < (p.bias : Int)) = false := decide_eq_false (by omega)
  have g1' : decide (s.score < p.bias) = false := decide_eq_false (by omega)
  have g2 : decide ((s.eff : Int) < (p.inc : Int)) = false := decide_eq_false (by omega)
  have g2' : decide (s.eff < p.inc) = false := decide_eq_false (by omega)
  have e4 : IntKind.u64.wrap (s.bal : Int) = (s.bal : Int) := IntWalk.u64_in _ (by omega)
  have d5 : decide ((s.bal : Int) < 0) = false := decide_eq_false (by omega)
  clear hy hb h g
  go_enter Try.func5, Try.ntmps5
  go_upto_region 4 with (first
    | (refine load_par _ rfl rfl _ p _ rfl (by assumption) ?_)
    | (refine load_std _ rfl rfl _ s _ rfl (by assumption) ?_)
    | (go_at_call 7; refine (fine_awake _).mono ?_; rintro e w1 ⟨rfl, hb1⟩; have hP := hP.up hb1; have hS := hS.up hb1; have hB := Below.then hB hb1; clear hb1)
    | (go_at_call 9; refine (kt _).mono ?_; clear kt; rintro e w1 ⟨rfl, hb1⟩; have hP := hP.up hb1; have hS := hS.up hb1; have hB := Below.then hB hb1; clear hb1)
    | (refine store_std _ _ rfl rfl _ (⟨0, s.eff, s.score, s.streak⟩ : Std) Std.none 26 rfl rfl (std_zero_new _ _) ?_; intro w2 hR hb2; have hb1 := below_made (Below.refl _ _) hb2; clear hb2; have hP := hP.up hb1; have hS := hS.up hb1; have hB := Below.then hB hb1; clear hb1; have s0 := hS.c0; have s1 := hS.c1; have s2 := hS.c2; have r0 : _ = some (Value.int IntKind.u64 0) := hR.c0; have p0 := (hP.cell 0).trans v0; have p6 := (hP.cell 6).trans v6)
    )
  go_upto_region 6 with fail
  go_upto_region 7 with (first
    | (refine load_par _ rfl rfl _ p _ rfl (by assumption) ?_)
    | (go_at_call 15; refine (kl _).mono ?_; clear kl; rintro e w1 ⟨rfl, hb1⟩; have hP := hP.up hb1; have hS := hS.up hb1; have hR := hR.up hb1; have hB := Below.then hB hb1; clear hb1; have s0 := hS.c0; have s1 := hS.c1; have s2 := hS.c2; have r0 : _ = some (Value.int IntKind.u64 0) := hR.c0; have p0 := (hP.cell 0).trans v0; have p6 := (hP.cell 6).trans v6)
    )
  go_wp2
  go_ret
  exact ⟨by first | rfl | simp, hB⟩


set_option maxRecDepth 100000 in
set_option maxHeartbeats 2000000 in
theorem walk_more4 (p : Par) (s : Std) (n v x y l : Nat) (w : World) (kt : TakeIs p s 4 ⟨v, s.eff, s.score, s.streak⟩ x y) (kl : ∀ w, Calls Try.prog 15 #[.agg p.vals] w fun e w' => e = .returned (.tuple #[.int .u64 (l : Int), .int .i64 0]) ∧ Below w.heap.size w w') (hv : v + n = s.bal) (hy : x + y = n) (hb : s.bal < 18446744073709551616) (h : p.bias ≤ s.score) (g : p.inc ≤ s.eff) (hz : ¬ v = 0) (hl : l ≤ n) : Calls Try.prog 5 #[.agg p.vals, .agg s.vals, .int .i64 4] w fun ev w' => ev = .returned (.bool true) ∧ Below w.heap.size w w' := by
  have hP := (ParAt.new w p 24).up ((Below.refl _ _).alloc (Nat.le_refl _) (.cells s.vals 26))
  have hS : StdAt ((w.alloc (.cells p.vals 24)).alloc (.cells s.vals 26)) (w.heap.size + 1) s 26 := StdAt.new _ s _ (by simp)
  have hB : Below w.heap.size w ((w.alloc (.cells p.vals 24)).alloc (.cells s.vals 26)) := ((Below.refl _ _).alloc (Nat.le_refl _) _).alloc (by simp) _
  unfold TakeIs at kt
  have v0 := p.v0
  have v6 := p.v6
  have e1 : IntKind.u64.wrap ((n : Int) - (x : Int)) = (y : Int) := by rw [show (n : Int) - (x : Int) = (y : Int) by omega]; exact IntWalk.u64_in _ (by omega)
  have e2 : IntKind.u64.wrap ((s.bal : Int) - (v : Int)) = (n : Int) := by rw [show (s.bal : Int) - (v : Int) = (n : Int) by omega]; exact IntWalk.u64_in _ (by omega)
  have d1 : decide ((s.bal : Int) < (v : Int)) = false := decide_eq_false (by omega)
  have d2 : decide (s.bal < v) = false := decide_eq_false (by omega)
  have d3 : decide ((n : Int) < (x : Int)) = false := decide_eq_false (by omega)
  have d4 : decide (n < x) = false := decide_eq_false (by omega)
  have g1 : decide ((s.score : Int) < (p.bias : Int)) = false := decide_eq_false (by omega)
  have g1' : decide (s.score < p.bias) = false := decide_eq_false (by omega)
  have g2 : decide ((s.eff : Int) < (p.inc : Int)) = false := decide_eq_false (by omega)
  have g2' : decide (s.eff < p.inc) = false := decide_eq_false (by omega)
  have z1 : ((v : Int) == 0) = false := by simp; omega
  have z2 : (v == 0) = false := by simp; omega
  have g3 : decide ((l : Int) ≤ (n : Int)) = true := decide_eq_true (by omega)
  have g3' : decide (l ≤ n) = true := decide_eq_true (by omega)
  clear hy hv hb h g hz hl
  go_enter Try.func5, Try.ntmps5
  go_upto_region 4 with (first
    | (refine load_par _ rfl rfl _ p _ rfl (by assumption) ?_)
    | (refine load_std _ rfl rfl _ s _ rfl (by assumption) ?_)
    | (go_at_call 7; refine (fine_awake _).mono ?_; rintro e w1 ⟨rfl, hb1⟩; have hP := hP.up hb1; have hS := hS.up hb1; have hB := Below.then hB hb1; clear hb1)
    | (go_at_call 9; refine (kt _).mono ?_; clear kt; rintro e w1 ⟨rfl, hb1⟩; have hP := hP.up hb1; have hS := hS.up hb1; have hB := Below.then hB hb1; clear hb1)
    | (refine store_std _ _ rfl rfl _ (⟨v, s.eff, s.score, s.streak⟩ : Std) Std.none 26 rfl rfl (std_zero_new _ _) ?_; intro w2 hR hb2; have hb1 := below_made (Below.refl _ _) hb2; clear hb2; have hP := hP.up hb1; have hS := hS.up hb1; have hB := Below.then hB hb1; clear hb1; have s0 := hS.c0; have s1 := hS.c1; have s2 := hS.c2; have r0 := hR.c0; have p0 := (hP.cell 0).trans v0; have p6 := (hP.cell 6).trans v6)
    )
  go_upto_region 6 with fail
  go_upto_region 7 with (first
    | (refine load_par _ rfl rfl _ p _ rfl (by assumption) ?_)
    | (go_at_call 15; refine (kl _).mono ?_; clear kl; rintro e w1 ⟨rfl, hb1⟩; have hP := hP.up hb1; have hS := hS.up hb1; have hR := hR.up hb1; have hB := Below.then hB hb1; clear hb1; have s0 := hS.c0; have s1 := hS.c1; have s2 := hS.c2; have r0 := hR.c0; have p0 := (hP.cell 0).trans v0; have p6 := (hP.cell 6).trans v6)
    )
  go_wp2
  go_ret
  exact ⟨by first | rfl | simp, hB⟩

theorem walk (p : Par) (s : Std) (m : Int) (w : World) (hf : p.Fits) (hs : s.Fits) : Calls Try.prog 5 #[.agg p.vals, .agg s.vals, .int .i64 m] w fun ev w' => ev = .returned (.bool true) ∧ Below w.heap.size w w' := by
  have hb := hs.bal
  by_cases hR : ∃ N, Par.Right p N
  · obtain ⟨N, hN⟩ := hR
    have kc : CheckIs p 0 := fun w => check_ok p N w hN
    have hle := Std.fine_le p m s
    have hle2 := burned_le hN.spans (Std.fine p m s)
    have kt := take_ok p s m kc hN.spans hs
    have kl := fun w => least_ok p N _ w hN (ceil_over _ p.quot hN.spans.quot0)
    unfold Std.less at kt
    by_cases h3 : m = 3
    · subst h3
      rcases Nat.lt_or_ge s.score p.bias with h | h
      · exact walk_score3 p s (Std.fine p 3 s) (s.bal - Std.fine p 3 s) (burned p (Std.fine p 3 s)) (Std.fine p 3 s - burned p (Std.fine p 3 s)) _ w kt kl (by omega) (by omega) hb h
      · rcases Nat.lt_or_ge s.eff p.inc with g | g
        · exact walk_eff3 p s (Std.fine p 3 s) (s.bal - Std.fine p 3 s) (burned p (Std.fine p 3 s)) (Std.fine p 3 s - burned p (Std.fine p 3 s)) _ w kt kl (by omega) (by omega) hb h g
        · have hmore := Std.fine_least hN.spans (m := 3) rfl h g
          by_cases hz : s.bal - Std.fine p 3 s = 0
          · rw [hz] at kt
            exact walk_all3 p s (burned p (Std.fine p 3 s)) (Std.fine p 3 s - burned p (Std.fine p 3 s)) _ w kt kl (by omega) hb h g
          · exact walk_more3 p s (Std.fine p 3 s) (s.bal - Std.fine p 3 s) (burned p (Std.fine p 3 s)) (Std.fine p 3 s - burned p (Std.fine p 3 s)) _ w kt kl (by omega) (by omega) hb h g hz (by omega)
    · by_cases h4 : m = 4
      · subst h4
        rcases Nat.lt_or_ge s.score p.bias with h | h
        · exact walk_score4 p s (Std.fine p 4 s) (s.bal - Std.fine p 4 s) (burned p (Std.fine p 4 s)) (Std.fine p 4 s - burned p (Std.fine p 4 s)) _ w kt kl (by omega) (by omega) hb h
        · rcases Nat.lt_or_ge s.eff p.inc with g | g
          · exact walk_eff4 p s (Std.fine p 4 s) (s.bal - Std.fine p 4 s) (burned p (Std.fine p 4 s)) (Std.fine p 4 s - burned p (Std.fine p 4 s)) _ w kt kl (by omega) (by omega) hb h g
          · have hmore := Std.fine_least hN.spans (m := 4) rfl h g
            by_cases hz : s.bal - Std.fine p 4 s = 0
            · rw [hz] at kt
              exact walk_all4 p s (burned p (Std.fine p 4 s)) (Std.fine p 4 s - burned p (Std.fine p 4 s)) _ w kt kl (by omega) hb h g
            · exact walk_more4 p s (Std.fine p 4 s) (s.bal - Std.fine p 4 s) (burned p (Std.fine p 4 s)) (Std.fine p 4 s - burned p (Std.fine p 4 s)) _ w kt kl (by omega) (by omega) hb h g hz (by omega)

      · exact walk_calm p s m (Std.fine p m s) (s.bal - Std.fine p m s) (burned p (Std.fine p m s)) (Std.fine p m s - burned p (Std.fine p m s)) _ w kt kl (by omega) (by omega) hb h3 h4
  · have kc : CheckIs p 70 := fun w => check_no p w hf hR
    exact walk_err p s m 0 s.bal 0 0 w (take_no p s m kc hs) (fun w => least_no p w hf hR) (by omega) rfl hb


theorem own : ownKnob Try.prog.godebug = none := by kernel_rfl
theorem laidOut : laidOutB Try.prog = true := by kernel_rfl

set_option maxRecDepth 100000 in
theorem lifted (os : Os) (started : os.Started) (H : Type) (enc : TypeId × Value → H) :
    ReturnsInHanded {} Try.checked os 5 .any (Rows.fineLeastSpec.pre6 enc Try.prog Try.f5 Rows.fineLeastRow.domain false) (Rows.fineLeastSpec.post enc Try.prog Try.f5 false true false false) := by
  refine returnsInHanded_of_change (C := Try.checked) own started (by kernel_rfl) Try.func5
    (ChangeSpec.witness6 (enc := enc) (C := Try.checked) false ⟨#[], #[.agg #[.int .u64 0, .int .u64 0, .int .u64 0, .int .u64 0, .int .u64 0, .int .u64 0, .int .u64 0, .int .u64 0, .int .u64 0, .int .u64 0, .int .u64 0, .int .u64 0, .int .u64 0, .int .u64 0, .int .i64 0, .int .i64 0, .int .i64 0, .int .i64 0, .int .i64 0, .int .i64 0, .int .i64 0, .int .i64 0, .int .i64 0, .int .i64 0], .agg #[.int .u64 0, .int .u64 0, .int .u64 0, .int .i64 0], .int .i64 0], []⟩ 8 (by kernel_rfl) (by kernel_rfl) (by kernel_rfl) (by kernel_rfl)) ?_
  intro W base args ds gs before hval0 hW hcnd _
  have hval : ∀ (j : Nat) t v, Try.f5.params[j]? = some t → args[j]? = some v → Value.okWide Try.prog W .any base t v := hval0
  have hW' := hW
  obtain ⟨p, q, hA0, hV, rfl, hfz, hnd⟩ := hW
  have hlt : ∀ x ∈ p ++ q, x.block < W.heap.size := fun x hx => hW'.lt x hx
  have hA : DataW.TrodAll enc Try.prog W 0 (fun _ => true) true Try.f5.params.toList args.toList ds p := hA0
  rw [Try.params5] at hA hval
  obtain ⟨v0, vs0, d0, ds0, p0, q0, hargs, rfl, rfl, h0, r0⟩ := trodAll_cons hA
  obtain ⟨v1, vs1, d1, ds1, p1, q1, rfl, rfl, rfl, h1, r1⟩ := trodAll_cons r0
  obtain ⟨v2, vs2, d2, ds2, p2, q2, rfl, rfl, rfl, h2, r2⟩ := trodAll_cons r1
  obtain ⟨rfl, rfl, rfl⟩ := trodAll_nil r2
  obtain rfl : args = #[v0, v1, v2] := by cases args; simp_all
  obtain ⟨rfl, rfl⟩ := trodVars_none hV
  obtain ⟨a0, rfl, f0⟩ := open_par (hval 0 24 v0 rfl rfl) h0
  obtain ⟨a1, rfl, f1⟩ := open_std (hval 1 26 v1 rfl rfl) h1
  obtain ⟨a2, rfl, rfl, rfl, w2⟩ := open_int Try.underlying3 (hval 2 3 v2 rfl rfl) h2
  clear hA0 hval0
  refine (walk a0 a1 a2 W f0 f1).mono fun e W' ⟨he, hg⟩ => ?_
  subst he
  exact ⟨_, rfl, law_post laidOut (by kernel_rfl) rfl rfl Try.underlying4 rfl hW' hg⟩

theorem over : Rows.fineLeastRow.holds Try.pinned (OpenSpec.ofChange Rows.fineLeastSpec) :=
  OpenClaim.holds_of_wide 5 Try.f5 rfl rfl rfl rfl rfl rfl rfl ⟨rfl, rfl, rfl, rfl, rfl⟩ rfl rfl rfl rfl rfl (by kernel_rfl) Try.func5 (by kernel_rfl)
    (of_decide_eq_true (by kernel_rfl)) (by unfold Func.isWrapper; first | (rw [if_pos (by decide +kernel)]; kernel_rfl) | (rw [if_neg (by decide +kernel)]; exact ⟨rfl, rfl⟩))
    (fun os started H enc _ => lifted os started H enc)

/-- The statement. -/
theorem proved : Rows.FineLeastSaid := over
#print axioms proved

end Go.Proofs.Ytklempnebhcoiaa.FineLeast
