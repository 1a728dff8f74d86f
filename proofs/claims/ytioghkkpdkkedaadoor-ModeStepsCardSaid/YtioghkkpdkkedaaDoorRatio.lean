/- The calls of layer 2 (ratio), each by a contract: what they answer, and that what was there stays. -/
import Derived.Test.YtioghkkpdkkedaaDoorDivA
namespace Go.Proofs.YtioghkkpdkkedaaDoor
open Go.RowKit
set_option linter.unusedVariables false

/-- A product, in its two words. -/
theorem ratio_times (a b hi lo : Nat) (w : World) (ha : a < 18446744073709551616) (hb : b < 18446744073709551616) (h : Hid (a * b = hi * 18446744073709551616 + lo)) (hlo : lo < 18446744073709551616) :
    Calls Tryd.prog 16 #[.int .u64 a, .int .u64 b] w fun e w' =>
      e = .returned (.agg #[.int .u64 hi, .int .u64 lo]) ∧ Below w.heap.size w w' := by
  have e1 : a * b / 18446744073709551616 = hi := by rw [h.out]; omega
  have e2 : a * b % 18446744073709551616 = lo := by rw [h.out]; omega
  have c := fun w => mul64_any a b ha hb w
  rw [e1, e2] at c
  clear e1 e2
  go_enter Tryd.func16, Tryd.ntmps16
  go_wp2_with (go_at_call 21; refine (c _).mono ?_; rintro e w' ⟨rfl, rfl⟩)
  refine bodyPost_ret (v := .agg #[.int .u64 hi, .int .u64 lo]) (by simp [results, Tryd.results16, go_sem]) rfl ⟨rfl, (Below.refl _ _).alloc (Nat.le_refl _) _⟩

theorem ratio_below (h l h' l' : Int) (w : World) :
    Calls Tryd.prog 17 #[.agg #[.int .u64 h, .int .u64 l], .agg #[.int .u64 h', .int .u64 l']] w fun e w' =>
      e = .returned (.bool (decide (h < h' ∨ h = h' ∧ l < l'))) ∧ Below w.heap.size w w' := by
  by_cases h1 : h < h'
  · rw [decide_eq_true (p := h < h' ∨ h = h' ∧ l < l') (.inl h1)]
    go_enter Tryd.func17, Tryd.ntmps17
    go_wp2
    go_ret
    exact ⟨rfl, ((Below.refl _ _).alloc (Nat.le_refl _) _).alloc (by simp) _⟩
  · by_cases h2 : h = h'
    · subst h2
      rw [show decide (h < h ∨ h = h ∧ l < l') = decide (l < l') by simp]
      go_enter Tryd.func17, Tryd.ntmps17
      go_wp2
      go_ret
      exact ⟨by simp, ((Below.refl _ _).alloc (Nat.le_refl _) _).alloc (by simp) _⟩
    · rw [decide_eq_false (p := h < h' ∨ h = h' ∧ l < l') (by omega)]
      have h3 : (h == h') = false := by simp [h2]
      have h4 : h' < h := by omega
      go_enter Tryd.func17, Tryd.ntmps17
      go_wp2
      go_ret
      exact ⟨by simp, ((Below.refl _ _).alloc (Nat.le_refl _) _).alloc (by simp) _⟩

/-- What a call that keeps all below leaves of three cells that lie ahead of it. -/
theorem three_cells {w w1 : World} {x y z : Value} {t : TypeId} (hb : Below (w.alloc (.cells #[x, y, z] t)).heap.size (w.alloc (.cells #[x, y, z] t)) w1) :
    w1.cell? ⟨w.heap.size, 0, none⟩ = some x ∧ w1.cell? ⟨w.heap.size, 1, none⟩ = some y ∧ w1.cell? ⟨w.heap.size, 2, none⟩ = some z ∧ Below w.heap.size w w1 := by
  have hs : w.heap.size < (w.alloc (.cells #[x, y, z] t)).heap.size := by simp
  refine ⟨(hb.cell (p := ⟨w.heap.size, 0, none⟩) hs).trans ?_, (hb.cell (p := ⟨w.heap.size, 1, none⟩) hs).trans ?_, (hb.cell (p := ⟨w.heap.size, 2, none⟩) hs).trans ?_, ((Below.refl _ _).alloc (Nat.le_refl _) _).trans (hb.mono (Nat.le_of_lt hs))⟩
  all_goals (rw [World.cell?_alloc_at _ _ _ _ rfl]; rfl)

end Go.Proofs.YtioghkkpdkkedaaDoor
