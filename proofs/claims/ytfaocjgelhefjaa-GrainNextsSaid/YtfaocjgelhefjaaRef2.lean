/- The reference of layer 2 (ratio): a product by a number, in its parts. By contracts. -/
import Derived.Test.YtfaocjgelhefjaaNatJ
import Derived.Test.YtfaocjgelhefjaaRatioB
namespace Go.Proofs.Ytfaocjgelhefjaa
open Go.RowKit
set_option linter.unusedVariables false

/-- Two cells that a call lays first: what lies there, behind all that was laid since. -/
theorem boxed2 {w wr : World} {x y : Value} {t : TypeId} (hb : Below ((w.alloc (.cells #[x] t)).alloc (.cells #[y] t)).heap.size ((w.alloc (.cells #[x] t)).alloc (.cells #[y] t)) wr) :
    (wr.cell? ⟨w.heap.size, 0, none⟩ = some x ∧ wr.frozen? ⟨w.heap.size, 0, none⟩ = false) ∧ (wr.cell? ⟨w.heap.size + 1, 0, none⟩ = some y ∧ wr.frozen? ⟨w.heap.size + 1, 0, none⟩ = false) ∧
      Below w.heap.size w wr ∧ w.heap.size + 2 ≤ wr.heap.size := by
  have hs : ((w.alloc (.cells #[x] t)).alloc (.cells #[y] t)).heap.size = w.heap.size + 2 := by simp
  rw [hs] at hb
  refine ⟨⟨(hb.cell (p := ⟨w.heap.size, 0, none⟩) (by show w.heap.size < _; omega)).trans ?_, (hb.frozen (p := ⟨w.heap.size, 0, none⟩) (by show w.heap.size < _; omega)).trans ?_⟩,
    ⟨(hb.cell (p := ⟨w.heap.size + 1, 0, none⟩) (by show w.heap.size + 1 < _; omega)).trans ?_, (hb.frozen (p := ⟨w.heap.size + 1, 0, none⟩) (by show w.heap.size + 1 < _; omega)).trans ?_⟩, ?_, by have := hb.size; omega⟩
  · rw [World.cell?_alloc_past _ _ _ (by simp), World.cell?_alloc_at _ _ _ _ rfl]; rfl
  · rw [World.frozen?_alloc_past _ _ _ (by simp)]; exact World.frozen?_alloc_at _ _ _ _ rfl
  · rw [World.cell?_alloc_at _ _ _ _ (by simp)]; rfl
  · exact World.frozen?_alloc_at _ _ _ _ (by simp)
  · exact (((Below.refl _ _).alloc (Nat.le_refl _) _).alloc (by simp) _).trans (hb.mono (by omega))

end Go.Proofs.Ytfaocjgelhefjaa
