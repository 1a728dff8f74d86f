/- Layer 7 (param): the list of the ints' fields. By contracts. -/
import Derived.Test.YtijenmkhbkbnfaaParA
import Derived.Deep.RegionHeld3
namespace Go.Proofs.Ytijenmkhbkbnfaa
open Go.RowKit
set_option linter.unusedVariables false

theorem size_next {w w1 w2 : World} (h : w.heap.size ≤ w1.heap.size ∧ Below w.heap.size w w1) (h2 : Below w1.heap.size w1 w2) : w.heap.size ≤ w2.heap.size ∧ Below w.heap.size w w2 := ⟨Nat.le_trans h.1 h2.size, Below.then h.2 h2⟩
set_option maxRecDepth 100000 in
set_option maxHeartbeats 4000000 in
theorem ints_is (b : Nat) (p : Par) (T : TypeId) (w : World) (hP : ParAt w b p T) :
    Calls Try.prog 31 #[.pointer (some ⟨b, 0, none⟩)] w fun e w' => ∃ g, e = .returned (.slice (some ⟨g, 0, none⟩) 10 10) ∧ FieldsI w' g b p.ispan ∧ w.heap.size ≤ g ∧ Below w.heap.size w w' := by
  have hh : w.heap.size ≤ w.drew.heap.size ∧ Below w.heap.size w w.drew := ⟨Nat.le_refl _, (Below.refl _ _).drew⟩
  have hsz : w.heap.size ≤ w.drew.heap.size := Nat.le_refl _
  go_enter Try.func31, Try.ntmps31
  go_wp2
  go_region_held3 (fun w' => w.heap.size ≤ w'.heap.size ∧ Below w.heap.size w w')
    (first | exact hh | exact size_next (by assumption) hb1 | exact size_next (by assumption) ((Below.refl _ _).alloc (Nat.le_refl _) _) | assumption)
    (first
      | (go_at_call 45; refine (span_i _ _ _ _).mono ?_; rintro e w1 ⟨rfl, hb1⟩; have hsz := Nat.le_trans hsz hb1.size)
      | (go_at_call 44; refine (list_i _ _ _ _).mono ?_; rintro e w2 ⟨rfl, rfl⟩))
  have hB := (‹_ ∧ Below w.heap.size w (w1.alloc _)›).2
  go_wp2
  go_ret
  exact ⟨w1.heap.size, rfl, irow_fields w1 b p _, hsz, hB⟩
end Go.Proofs.Ytijenmkhbkbnfaa
