/- Layer 7 (param): Check, by a contract for each way that it ends. -/
import Derived.Test.YtioghkkpdkkedaaDoorParB
import Derived.Test.YtioghkkpdkkedaaDoorParC
import Derived.Test.YtioghkkpdkkedaaDoorParW
import Derived.Test.YtioghkkpdkkedaaDoorParI
namespace Go.Proofs.YtioghkkpdkkedaaDoor
open Go.RowKit
set_option linter.unusedVariables false

theorem ParAt.words {w : World} {b : Nat} {p : Par} {T : TypeId} (h : ParAt w b p T) : WordsAt w b p.wspan := by
  intro k x hx
  rw [h.cell]
  match k, hx with
  | 0, hx => cases hx; rfl
  | 1, hx => cases hx; rfl
  | 2, hx => cases hx; rfl
  | 3, hx => cases hx; rfl
  | 4, hx => cases hx; rfl
  | 5, hx => cases hx; rfl
  | 6, hx => cases hx; rfl
  | 7, hx => cases hx; rfl
  | 8, hx => cases hx; rfl
  | 9, hx => cases hx; rfl
  | 10, hx => cases hx; rfl
  | 11, hx => cases hx; rfl
  | 12, hx => cases hx; rfl
  | 13, hx => cases hx; rfl
  | k + 14, hx => simp [Par.wspan] at hx
theorem ParAt.ints {w : World} {b : Nat} {p : Par} {T : TypeId} (h : ParAt w b p T) : IntsAt w b p.ispan := by
  intro k x hx
  rw [h.cell]
  match k, hx with
  | 0, hx => cases hx; rfl
  | 1, hx => cases hx; rfl
  | 2, hx => cases hx; rfl
  | 3, hx => cases hx; rfl
  | 4, hx => cases hx; rfl
  | 5, hx => cases hx; rfl
  | 6, hx => cases hx; rfl
  | 7, hx => cases hx; rfl
  | 8, hx => cases hx; rfl
  | 9, hx => cases hx; rfl
  | k + 10, hx => simp [Par.ispan] at hx

theorem FieldsW.lt {w : World} {g b : Nat} {p : Par} (h : FieldsW w g b p.wspan) : g < w.heap.size := World.block_lt_of_cell? w ⟨g, 0 * 3, none⟩ (h 0 _ rfl).1
theorem FieldsI.lt {w : World} {g b : Nat} {p : Par} (h : FieldsI w g b p.ispan) : g < w.heap.size := World.block_lt_of_cell? w ⟨g, 0 * 3, none⟩ (h 0 _ rfl).1
end Go.Proofs.YtioghkkpdkkedaaDoor
