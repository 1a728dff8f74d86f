/- A new writer. -/
import Derived.Test.YtokaclacejhppaaCoderQ
namespace Go.Proofs.Ytokaclacejhppaa
open Go.RowKit
set_option linter.unusedVariables false
set_option linter.unusedSimpArgs false

theorem writer_zero : (Try.prog.info? 51).map (fun i => i.zero) = some (some (.agg (wcells 0 0 (.pointer none) (List.replicate 64 0)).toArray)) := by kernel_rfl
theorem run_writer_zero (V : World) : (zeroValue 51).run Try.prog V = .ok (.agg (wcells 0 0 (.pointer none) (List.replicate 64 0)).toArray) V := by
  have hi := writer_zero
  cases hit : Try.prog.info? 51 with
  | none => rw [hit] at hi; simp at hi
  | some it =>
    rw [hit] at hi
    have hz : it.zero = some (.agg (wcells 0 0 (.pointer none) (List.replicate 64 0)).toArray) := by simpa using hi
    simp [zeroValue, typeInfo, hit, hz]
/-- A writer's zero value, under a name. -/
def zeroWriter : Array Value := (wcells 0 0 (.pointer none) (List.replicate 64 0)).toArray
theorem run_zero (V : World) : (zeroValue 51).run Try.prog V = .ok (.agg zeroWriter) V := run_writer_zero V

/-- A new writer. -/
theorem writer_new (w : World) : Writes (w.alloc (.cells zeroWriter 51)) w.heap.size (fun _ => False) ([], 0) :=
  ⟨0, .pointer none, [], [], List.replicate 64 0, rfl, by simp, by simp, rfl, by simp, by simp, ⟨rfl, rfl⟩, fun _ h => h.elim, heap_alloc_new w _⟩

end Go.Proofs.Ytokaclacejhppaa
