/- Layer 7 (param): parameters as bytes. By contracts. -/
import Derived.Test.YtokaclacejhppaaParF
import Derived.Test.YtokaclacejhppaaParL
namespace Go.Proofs.Ytokaclacejhppaa
open Go.RowKit
set_option linter.unusedVariables false
set_option linter.unusedSimpArgs false

set_option maxRecDepth 100000 in
theorem pwrite_no (A : Option Addr) (p : Par) (w : World) (hf : p.Fits) (h : ¬ ∃ T, Par.Right p T) :
    Calls Try.prog 51 #[.pointer A, .agg p.vals] w fun e w' => e = .returned (.int .i64 70) ∧ Below w.heap.size w w' := by
  have hP := ParAt.new w p 37
  have hB : Below w.heap.size w (w.alloc (.cells p.vals 37)) := (Below.refl _ _).alloc (Nat.le_refl _) _
  have kc := fun w => check_no p w hf h
  clear h hf
  go_enter Try.func51, Try.ntmps51
  go_wp2_with (first
    | (refine load_par _ rfl rfl _ p _ rfl (by assumption) ?_)
    | (go_at_call 67; refine (kc _).mono ?_; rintro e w1 ⟨rfl, hb1⟩; have hB := Below.then hB hb1))
  go_ret
  exact ⟨rfl, hB⟩

theorem nums_fit {p : Par} (hf : p.Fits) : ∀ n ∈ p.nums, n < 18446744073709551616 := by
  intro n hn
  rcases List.mem_append.1 hn with h | h
  · exact hf.us n h
  · obtain ⟨x, hx, rfl⟩ := List.mem_map.1 h
    have := hf.is x hx
    omega
theorem nums_len (p : Par) : p.nums.length = 24 := by simp [Par.nums, Par.us, Par.is]
theorem bytes_is {p : Par} (hf : p.Fits) (pre : List Nat) (hl : pre.length ≤ 1000) : wall (pre, 0) p.nums = (pre ++ p.bytes, 0) ∧ p.bytes.length ≤ 240 := by
  have h := wall_ok pre p.nums (nums_fit hf) (by rw [nums_len]; omega)
  have h2 := h.2
  rw [nums_len] at h2
  exact ⟨h.1, h2⟩

end Go.Proofs.Ytokaclacejhppaa
