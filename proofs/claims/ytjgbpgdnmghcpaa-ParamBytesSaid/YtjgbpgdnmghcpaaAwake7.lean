/- The chapter's example, which every law of layer 7 asks for first. · Layer 7 (param): parameters as the document's reckoning takes them. By contracts. -/
import Derived.Test.YtjgbpgdnmghcpaaParE
import Derived.Test.YtjgbpgdnmghcpaaParL
import Derived.Test.YtjgbpgdnmghcpaaParC
namespace Go.Proofs.Ytjgbpgdnmghcpaa
open Go.RowKit
set_option linter.unusedVariables false

/-- The example's parameters. -/
def Par.simple : Par := ⟨10, 30, 10, 40, 10, 5, 4, 100, 8, 50, 2, 100, 1048576, 1, 2, 4, 100, 100, 5000, 2, 2, 2, 1, 3000⟩

theorem simple_right : Par.Right Par.simple 12 where
  spans := by constructor <;> decide
  halt := ⟨by decide, by decide, .inr (by decide), by decide⟩
  most := by decide
  score := by decide
theorem none_not : ¬ ∃ T, Par.Right Par.none T := fun ⟨T, h⟩ => absurd h.spans.inc0 (by decide)
theorem none_fits : Par.none.Fits := ⟨by decide, by decide⟩

set_option maxRecDepth 100000 in
set_option maxHeartbeats 1000000 in
theorem simple_is (w : World) :
    Calls Try.prog 26 #[] w fun e w' => e = .returned (.agg Par.simple.vals) ∧ Below w.heap.size w w' := by
  have hP0 := ParAt.new w Par.none 24
  go_enter Try.func26, Try.ntmps26
  go_wp2_with (first
    | (refine build_par _ rfl rfl Par.simple (by kernel_rfl) ?_)
    | (refine store_par _ _ rfl rfl w.heap.size Par.simple Par.none 24 rfl rfl hP0 ?_))
  exact bodyPost_ret (res_par1 Try.results26 rfl (ParAt.set hP0)) rfl ⟨rfl, below_setRow ((Below.refl _ _).alloc (Nat.le_refl _) _) (Nat.le_refl _) _⟩

set_option maxRecDepth 100000 in
set_option maxHeartbeats 1000000 in
theorem param_awake (w : World) :
    Calls Try.prog 8 #[] w fun e w' => e = .returned (.bool true) ∧ Below w.heap.size w w' := by
  have kl := fun w => leak_ok Par.simple 11 w simple_right
  have ke := fun w => least_ok Par.simple 12 1 w simple_right ⟨by decide, by decide⟩
  have kn := fun w => check_no Par.none w none_fits none_not
  rw [show ((11 : Nat) : Int) + 1 = 12 from rfl] at kl
  rw [show ((1 : Nat) : Int) = 1 from rfl] at ke
  go_enter Try.func8, Try.ntmps8
  go_wp2_with (first
    | (refine build_par _ rfl rfl Par.none (by kernel_rfl) ?_)
    | (go_at_call 26; refine (simple_is _).mono ?_; rintro e w1 ⟨rfl, hb1⟩)
    | (go_at_call 9; refine (kl _).mono ?_; clear kl; rintro e w2 ⟨rfl, hb2⟩; have hB := Below.then hb1 hb2; clear hb1 hb2)
    | (go_at_call 14; refine (ke _).mono ?_; clear ke; rintro e w3 ⟨rfl, hb3⟩; have hB := Below.then hB (Below.then hb1 hb3))
    | (go_at_call 12; refine (kn _).mono ?_; rintro e w4 ⟨rfl, hb4⟩; have hB := Below.then hB hb4))
  go_ret
  exact ⟨rfl, hB⟩
end Go.Proofs.Ytjgbpgdnmghcpaa
namespace Go.Proofs.Ytjgbpgdnmghcpaa
open Go.RowKit
set_option linter.unusedVariables false
set_option linter.unusedSimpArgs false

set_option maxRecDepth 100000 in
theorem plain_is (p : Par) (w : World) :
    Calls Try.prog 11 #[.agg p.vals] w fun e w' => e = .returned (.agg p.vals) ∧ Below w.heap.size w w' := by
  have hP := (ParAt.new w p 24).up ((Below.refl _ _).alloc (Nat.le_refl _) (.cells Par.none.vals 30))
  have hQ := ParAt.new (w.alloc (.cells p.vals 24)) Par.none 30
  have hs : (w.alloc (.cells p.vals 24)).heap.size = w.heap.size + 1 := by simp
  rw [hs] at hQ
  go_enter Try.func11, Try.ntmps11
  go_wp2_with (first
    | (refine load_par _ rfl rfl _ p _ rfl (by assumption) ?_)
    | (refine store_ref _ _ rfl rfl (w.heap.size + 1) p Par.none 30 rfl rfl hQ ?_))
  exact bodyPost_ret (res_ref1 Try.results11 rfl (ParAt.set hQ)) rfl ⟨rfl, below_setRow (((Below.refl _ _).alloc (Nat.le_refl _) _).alloc (by simp) _) (by omega) _⟩
end Go.Proofs.Ytjgbpgdnmghcpaa
