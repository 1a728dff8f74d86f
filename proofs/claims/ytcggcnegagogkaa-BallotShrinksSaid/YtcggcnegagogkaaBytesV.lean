/- A copy of bytes; two texts of bytes held against each other. By contracts. -/
import Derived.Test.YtcggcnegagogkaaBytes
import Derived.Laws.AppendOwnNone
import Derived.Lib.SliceRun
namespace Go.Proofs.Ytcggcnegagogkaa
open Go.RowKit
set_option linter.unusedVariables false
set_option linter.unusedSimpArgs false

/-- A row of bytes that was laid just now. -/
theorem lies_new (w : World) (xs : List Nat) : Lies (w.alloc (.cells (u8s xs).toArray 5)) (· = w.heap.size) (some ⟨w.heap.size, 0, none⟩) xs := fun k x hx => by
  have hk : k < xs.length := (List.getElem?_eq_some_iff.1 hx).1
  have e : xs[k] = x := (List.getElem?_eq_some_iff.1 hx).2
  refine ⟨_, rfl, rfl, ?_⟩
  rw [Addr.add_mid, Nat.zero_add]
  refine new_row w _ _ k _ ?_
  rw [← e]
  simpa using u8s_get hk
end Go.Proofs.Ytcggcnegagogkaa
