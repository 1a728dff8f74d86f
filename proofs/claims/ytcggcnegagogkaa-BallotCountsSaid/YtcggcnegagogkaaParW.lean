/- Layer 7 (param): the list of the words' fields. By contracts. -/
import Derived.Test.YtcggcnegagogkaaParA
import Derived.Deep.RegionHeld3
namespace Go.Proofs.Ytcggcnegagogkaa
open Go.RowKit
set_option linter.unusedVariables false

theorem four_here {w : World} {b : Nat} {p : Par} {T : TypeId} (h : ParAt w b p T) : (w.drew.cell? ⟨b, 0, none⟩ = some (.int .u64 (p.inc : Int)) ∧ w.drew.cell? ⟨b, 1, none⟩ = some (.int .u64 (p.maxEff : Int)) ∧ w.drew.cell? ⟨b, 6, none⟩ = some (.int .u64 (p.bias : Int)) ∧ w.drew.cell? ⟨b, 7, none⟩ = some (.int .u64 (p.quot : Int))) ∧ Below w.heap.size w w.drew :=
  ⟨⟨h.cell 0, h.cell 1, h.cell 6, h.cell 7⟩, (Below.refl _ _).drew⟩
theorem four_next {w w1 w2 : World} {b : Nat} {p : Par} (hb : b < w.heap.size) (h : (w1.cell? ⟨b, 0, none⟩ = some (.int .u64 (p.inc : Int)) ∧ w1.cell? ⟨b, 1, none⟩ = some (.int .u64 (p.maxEff : Int)) ∧ w1.cell? ⟨b, 6, none⟩ = some (.int .u64 (p.bias : Int)) ∧ w1.cell? ⟨b, 7, none⟩ = some (.int .u64 (p.quot : Int))) ∧ Below w.heap.size w w1) (h2 : Below w1.heap.size w1 w2) : (w2.cell? ⟨b, 0, none⟩ = some (.int .u64 (p.inc : Int)) ∧ w2.cell? ⟨b, 1, none⟩ = some (.int .u64 (p.maxEff : Int)) ∧ w2.cell? ⟨b, 6, none⟩ = some (.int .u64 (p.bias : Int)) ∧ w2.cell? ⟨b, 7, none⟩ = some (.int .u64 (p.quot : Int))) ∧ Below w.heap.size w w2 := by
  have hl := h.2.size
  have e : ∀ k, w2.cell? ⟨b, k, none⟩ = w1.cell? ⟨b, k, none⟩ := fun k => h2.cell (show b < _ by omega)
  refine ⟨?_, Below.then h.2 h2⟩
  rw [e, e, e, e]
  exact h.1

end Go.Proofs.Ytcggcnegagogkaa
