/- Layer 7 (param): the list of the words' fields. By contracts. -/
import Derived.Test.YtfmmcklggnflkaaParA
import Derived.Deep.RegionHeld3
namespace Go.Proofs.Ytfmmcklggnflkaa
open Go.RowKit
set_option linter.unusedVariables false

theorem four_here {w : World} {b : Nat} {p : Par} {T : TypeId} (h : ParAt w b p T) : (w.drew.cell? ⟨b, 0, none⟩ = some (.int .u64 (p.inc : Int)) ∧ w.drew.cell? ⟨b, 1, none⟩ = some (.int .u64 (p.maxEff : Int)) ∧ w.drew.cell? ⟨b, 6, none⟩ = some (.int .u64 (p.bias : Int)) ∧ w.drew.cell? ⟨b, 7, none⟩ = some (.int .u64 (p.quot : Int))) ∧ Below w.heap.size w w.drew :=
  ⟨⟨h.cell 0, h.cell 1, h.cell 6, h.cell 7⟩, (Below.refl _ _).drew⟩
theorem four_next {w w1 w2 : World} {b : Nat} {p : Par} (hb : b < w.heap.size) (h : (w1.cell? ⟨b, 0, none⟩ = some (.int .u64 (p.inc : Int)) ∧ w1.cell? ⟨b, 1, none⟩ = some (.int .u64 (p.maxEff : Int)) ∧ w1.cell? ⟨b, 6, none⟩ = some (.int .u64 (p.bias : Int)) ∧ w1.cell? ⟨b, 7, none⟩ = some (.int .u64 (p.quot : Int))) ∧ Below w.heap.size w w1) (h2 : Below w1.heap.size w1 w2) : (w2.cell? ⟨b, 0, none⟩ = some (.int .u64 (p.inc : Int)) ∧ w2.cell? ⟨b, 1, none⟩ = some (.int .u64 (p.maxEff : Int)) ∧ w2.cell? ⟨b, 6, none⟩ = some (.int .u64 (p.bias : Int)) ∧ w2.cell? ⟨b, 7, none⟩ = some (.int .u64 (p.quot : Int))) ∧ Below w.heap.size w w2 := by
  have hl := h.2.size
  have e : ∀ k, w2.cell? ⟨b, k, none⟩ = w1.cell? ⟨b, k, none⟩ := fun k => h2.cell (show b < _ by omega)
  refine ⟨?_, Below.then h.2 h2⟩
  rw [e, e, e, e]
  exact h.1

set_option maxRecDepth 100000 in
set_option maxHeartbeats 4000000 in
theorem words_is (b : Nat) (p : Par) (T : TypeId) (w : World) (hP : ParAt w b p T) :
    Calls Try.prog 43 #[.pointer (some ⟨b, 0, none⟩)] w fun e w' => ∃ g, e = .returned (.slice (some ⟨g, 0, none⟩) 14 14) ∧ FieldsW w' g b p.wspan ∧ w.heap.size ≤ g ∧ Below w.heap.size w w' := by
  have hlt := hP.lt
  have hh := four_here hP
  have hsz : w.heap.size ≤ w.drew.heap.size := Nat.le_refl _
  go_enter Try.func43, Try.ntmps43
  go_wp2
  dsimp only [List.append_eq, List.cons_append, List.nil_append]
  go_region_held3 (fun w' => (w'.cell? ⟨b, 0, none⟩ = some (.int .u64 (p.inc : Int)) ∧ w'.cell? ⟨b, 1, none⟩ = some (.int .u64 (p.maxEff : Int)) ∧ w'.cell? ⟨b, 6, none⟩ = some (.int .u64 (p.bias : Int)) ∧ w'.cell? ⟨b, 7, none⟩ = some (.int .u64 (p.quot : Int))) ∧ Below w.heap.size w w')
    (first | exact hh | exact four_next hlt (by assumption) hb1 | exact four_next hlt (by assumption) ((Below.refl _ _).alloc (Nat.le_refl _) _) | assumption)
    (first
      | (go_at_call 54; refine (span_w _ _ _ _).mono ?_; rintro e w1 ⟨rfl, hb1⟩; have hsz := Nat.le_trans hsz hb1.size)
      | (go_at_call 53; refine (list_w _ _ _ _).mono ?_; rintro e w2 ⟨rfl, rfl⟩))
  have hB := (‹_ ∧ Below w.heap.size w (w1.alloc _)›).2
  go_wp2
  go_ret
  exact ⟨w1.heap.size, rfl, wrow_fields w1 b p _, hsz, hB⟩
end Go.Proofs.Ytfmmcklggnflkaa
