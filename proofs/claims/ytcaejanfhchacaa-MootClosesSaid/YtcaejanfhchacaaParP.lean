/- Layer 7 (param): parameters as the document's reckoning takes them. By contracts. -/
import Derived.Test.YtcaejanfhchacaaParL
namespace Go.Proofs.Ytcaejanfhchacaa
open Go.RowKit
set_option linter.unusedVariables false
set_option linter.unusedSimpArgs false

set_option maxRecDepth 100000 in
theorem plain_is (p : Par) (w : World) :
    Calls Try.prog 17 #[.agg p.vals] w fun e w' => e = .returned (.agg p.vals) ∧ Below w.heap.size w w' := by
  have hP := (ParAt.new w p 37).up ((Below.refl _ _).alloc (Nat.le_refl _) (.cells Par.none.vals 43))
  have hQ := ParAt.new (w.alloc (.cells p.vals 37)) Par.none 43
  have hs : (w.alloc (.cells p.vals 37)).heap.size = w.heap.size + 1 := by simp
  rw [hs] at hQ
  go_enter Try.func17, Try.ntmps17
  go_wp2_with (first
    | (refine load_par _ rfl rfl _ p _ rfl (by assumption) ?_)
    | (refine store_ref _ _ rfl rfl (w.heap.size + 1) p Par.none 43 rfl rfl hQ ?_))
  exact bodyPost_ret (res_ref1 Try.results17 rfl (ParAt.set hQ)) rfl ⟨rfl, below_setRow (((Below.refl _ _).alloc (Nat.le_refl _) _).alloc (by simp) _) (by omega) _⟩
end Go.Proofs.Ytcaejanfhchacaa
