/- Layer 7 (param): the list of the ints' fields. By contracts. -/
import Derived.Test.YtioghkkpdkkedaaDoorParA
import Derived.Deep.RegionHeld3
namespace Go.Proofs.YtioghkkpdkkedaaDoor
open Go.RowKit
set_option linter.unusedVariables false

theorem size_next {w w1 w2 : World} (h : w.heap.size ≤ w1.heap.size ∧ Below w.heap.size w w1) (h2 : Below w1.heap.size w1 w2) : w.heap.size ≤ w2.heap.size ∧ Below w.heap.size w w2 := ⟨Nat.le_trans h.1 h2.size, Below.then h.2 h2⟩
end Go.Proofs.YtioghkkpdkkedaaDoor
