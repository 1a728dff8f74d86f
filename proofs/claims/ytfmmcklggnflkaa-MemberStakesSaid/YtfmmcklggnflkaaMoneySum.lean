/- The sum of a list (layer 1), by a contract: the sum of all where it is a number of 64 bits, else the error. -/
import Derived.Test.YtfmmcklggnflkaaMoney
import Derived.Test.YtfmmcklggnflkaaCore
import Derived.Laws.Rows
namespace Go.Proofs.Ytfmmcklggnflkaa
open Go.RowKit
set_option linter.unusedVariables false

/-- The sum of a list of whole numbers. -/
def tot : List Nat → Nat
  | [] => 0
  | n :: r => n + tot r
theorem tot_append (a b : List Nat) : tot (a ++ b) = tot a + tot b := by
  induction a with
  | nil => simp [tot]
  | cons x a ih => show x + tot (a ++ b) = x + tot a + tot b; rw [ih]; omega
theorem tot_take_succ (l : List Nat) (k : Nat) (h : k < l.length) : tot (l.take (k + 1)) = tot (l.take k) + l[k] := by
  rw [List.take_succ_eq_append_getElem h, tot_append]; simp [tot]
theorem tot_take_le (l : List Nat) (k : Nat) : tot (l.take k) ≤ tot l := by
  have h := tot_append (l.take k) (l.drop k)
  rw [List.take_append_drop] at h
  omega
/-- A list of numbers of 64 bits, as values. -/
def u64s (ns : List Nat) : List Value := ns.map fun (n : Nat) => Value.int .u64 (n : Int)
theorem u64s_len (ns : List Nat) : (u64s ns).length = ns.length := by simp [u64s]

/-- Numbers made at once. -/
theorem row_new (w : World) (ns : List Nat) (T : TypeId) : Row (w.alloc (.cells (u64s ns).toArray T)) (w.heap.size + 1) (some ⟨w.heap.size, 0, none⟩) (u64s ns) := fun k v hk => by
  refine ⟨_, rfl, by show w.heap.size < _; omega, ?_⟩
  rw [show (⟨w.heap.size, 0, none⟩ : Addr).add k = ⟨w.heap.size, k, none⟩ by unfold Addr.add; by_cases h : k = 0 <;> simp [h], cell_of_row _ _ _ _ _ _ (heap_alloc_new w _)]
  simpa using hk
end Go.Proofs.Ytfmmcklggnflkaa
