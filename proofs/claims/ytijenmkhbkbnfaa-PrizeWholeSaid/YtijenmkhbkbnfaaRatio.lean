/- The calls of layer 2 (ratio), each by a contract: what they answer, and that what was there stays. -/
import Derived.Test.YtijenmkhbkbnfaaDivA
namespace Go.Proofs.Ytijenmkhbkbnfaa
open Go.RowKit
set_option linter.unusedVariables false

/-- A product, in its two words. -/
theorem ratio_times (a b hi lo : Nat) (w : World) (ha : a < 18446744073709551616) (hb : b < 18446744073709551616) (h : Hid (a * b = hi * 18446744073709551616 + lo)) (hlo : lo < 18446744073709551616) :
    Calls Try.prog 62 #[.int .u64 a, .int .u64 b] w fun e w' =>
      e = .returned (.agg #[.int .u64 hi, .int .u64 lo]) ∧ Below w.heap.size w w' := by
  have e1 : a * b / 18446744073709551616 = hi := by rw [h.out]; omega
  have e2 : a * b % 18446744073709551616 = lo := by rw [h.out]; omega
  have c := fun w => mul64_any a b ha hb w
  rw [e1, e2] at c
  clear e1 e2
  go_enter Try.func62, Try.ntmps62
  go_wp2_with (go_at_call 66; refine (c _).mono ?_; rintro e w' ⟨rfl, rfl⟩)
  refine bodyPost_ret (v := .agg #[.int .u64 hi, .int .u64 lo]) (by simp [results, Try.results62, go_sem]) rfl ⟨rfl, (Below.refl _ _).alloc (Nat.le_refl _) _⟩

theorem ratio_fits (h l c : Int) (w : World) :
    Calls Try.prog 67 #[.agg #[.int .u64 h, .int .u64 l], .int .u64 c] w fun e w' =>
      e = .returned (.bool (decide (h < c))) ∧ Below w.heap.size w w' := by
  go_enter Try.func67, Try.ntmps67
  go_wp2
  go_ret
  exact ⟨rfl, (Below.refl _ _).alloc (Nat.le_refl _) _⟩

theorem ratio_split (h l c n r : Nat) (w : World) (hc : h < c) (hc1 : c < 18446744073709551616) (hl : l < 18446744073709551616) (e : Hid (h * 18446744073709551616 + l = n * c + r)) (hr : r < c) :
    Calls Try.prog 68 #[.agg #[.int .u64 h, .int .u64 l], .int .u64 c] w fun e w' =>
      e = .returned (.tuple #[.int .u64 n, .int .u64 r]) ∧ Below w.heap.size w w' := by
  obtain ⟨e1, e2⟩ := div_of (X := h * 18446744073709551616 + l) (Y := c) (q := n) (r := r) (by rw [e.out, Nat.mul_comm, Nat.add_comm]) hr
  have k := fun w => div64_any h l c w hc hc1 hl
  rw [e1, e2] at k
  clear e1 e2
  go_enter Try.func68, Try.ntmps68
  go_wp2_with (go_at_call 69; refine (k _).mono ?_; rintro e w' ⟨rfl, m, rfl⟩)
  go_ret2
  exact ⟨rfl, below_drewN ((Below.refl _ _).alloc (Nat.le_refl _) _) _⟩

theorem ratio_below (h l h' l' : Int) (w : World) :
    Calls Try.prog 63 #[.agg #[.int .u64 h, .int .u64 l], .agg #[.int .u64 h', .int .u64 l']] w fun e w' =>
      e = .returned (.bool (decide (h < h' ∨ h = h' ∧ l < l'))) ∧ Below w.heap.size w w' := by
  by_cases h1 : h < h'
  · rw [decide_eq_true (p := h < h' ∨ h = h' ∧ l < l') (.inl h1)]
    go_enter Try.func63, Try.ntmps63
    go_wp2
    go_ret
    exact ⟨rfl, ((Below.refl _ _).alloc (Nat.le_refl _) _).alloc (by simp) _⟩
  · by_cases h2 : h = h'
    · subst h2
      rw [show decide (h < h ∨ h = h ∧ l < l') = decide (l < l') by simp]
      go_enter Try.func63, Try.ntmps63
      go_wp2
      go_ret
      exact ⟨by simp, ((Below.refl _ _).alloc (Nat.le_refl _) _).alloc (by simp) _⟩
    · rw [decide_eq_false (p := h < h' ∨ h = h' ∧ l < l') (by omega)]
      have h3 : (h == h') = false := by simp [h2]
      have h4 : h' < h := by omega
      go_enter Try.func63, Try.ntmps63
      go_wp2
      go_ret
      exact ⟨by simp, ((Below.refl _ _).alloc (Nat.le_refl _) _).alloc (by simp) _⟩

/-- What a call that keeps all below leaves of three cells that lie ahead of it. -/
theorem three_cells {w w1 : World} {x y z : Value} {t : TypeId} (hb : Below (w.alloc (.cells #[x, y, z] t)).heap.size (w.alloc (.cells #[x, y, z] t)) w1) :
    w1.cell? ⟨w.heap.size, 0, none⟩ = some x ∧ w1.cell? ⟨w.heap.size, 1, none⟩ = some y ∧ w1.cell? ⟨w.heap.size, 2, none⟩ = some z ∧ Below w.heap.size w w1 := by
  have hs : w.heap.size < (w.alloc (.cells #[x, y, z] t)).heap.size := by simp
  refine ⟨(hb.cell (p := ⟨w.heap.size, 0, none⟩) hs).trans ?_, (hb.cell (p := ⟨w.heap.size, 1, none⟩) hs).trans ?_, (hb.cell (p := ⟨w.heap.size, 2, none⟩) hs).trans ?_, ((Below.refl _ _).alloc (Nat.le_refl _) _).trans (hb.mono (Nat.le_of_lt hs))⟩
  all_goals (rw [World.cell?_alloc_at _ _ _ _ rfl]; rfl)

/-- A fraction, down: by nought, too great, or a number and what is left. -/
theorem frac_down_zero (h l : Nat) (w : World) :
    Calls Try.prog 64 #[.agg #[.int .u64 h, .int .u64 l, .int .u64 0]] w fun e w' =>
      e = .returned (.tuple #[.int .u64 0, .int .u64 0, .int .i64 20]) ∧ Below w.heap.size w w' := by
  go_enter Try.func64, Try.ntmps64
  go_wp2_with fail
  refine bodyPost_ret (v := .tuple #[.int .u64 0, .int .u64 0, .int .i64 20]) (by simp [results, Try.results64, go_sem]) rfl ⟨rfl, (Below.refl _ _).alloc (Nat.le_refl _) _⟩

theorem frac_down_over (h l c : Nat) (w : World) (h0 : 0 < c) (hc : c ≤ h) :
    Calls Try.prog 64 #[.agg #[.int .u64 h, .int .u64 l, .int .u64 c]] w fun e w' =>
      e = .returned (.tuple #[.int .u64 0, .int .u64 0, .int .i64 10]) ∧ Below w.heap.size w w' := by
  have k := fun w => ratio_fits h l c w
  rw [decide_eq_false (by omega)] at k
  have z : ((c : Int) == 0) = false := by simp; omega
  go_enter Try.func64, Try.ntmps64
  go_wp2_with (go_at_call 67; refine (k _).mono ?_; rintro e w1 ⟨rfl, hb⟩; obtain ⟨hc0, hc1', hc2, hb1⟩ := three_cells hb; clear hb)
  refine bodyPost_ret (v := .tuple #[.int .u64 0, .int .u64 0, .int .i64 10]) (by simp [results, Try.results64, go_sem]) rfl ⟨rfl, hb1⟩

theorem frac_down_ok (h l c n r : Nat) (w : World) (hc : h < c) (hc1 : c < 18446744073709551616) (hl : l < 18446744073709551616) (e : Hid (h * 18446744073709551616 + l = n * c + r)) (hr : r < c) :
    Calls Try.prog 64 #[.agg #[.int .u64 h, .int .u64 l, .int .u64 c]] w fun e w' =>
      e = .returned (.tuple #[.int .u64 n, .int .u64 r, .int .i64 0]) ∧ Below w.heap.size w w' := by
  have k := fun w => ratio_fits h l c w
  rw [decide_eq_true (by omega)] at k
  have z : ((c : Int) == 0) = false := by simp; omega
  go_enter Try.func64, Try.ntmps64
  go_wp2_with (first
    | (go_at_call 67; refine (k _).mono ?_; rintro e w1 ⟨rfl, hb⟩; obtain ⟨hc0, hc1', hc2, hb1⟩ := three_cells hb; clear hb)
    | (go_at_call 68; refine (ratio_split h l c n r _ hc hc1 hl e hr).mono ?_; rintro e w2 ⟨rfl, hb2⟩))
  refine bodyPost_ret (v := .tuple #[.int .u64 n, .int .u64 r, .int .i64 0]) (by simp [results, Try.results64, go_sem]) rfl ⟨rfl, hb1.trans (hb2.mono hb1.size)⟩

end Go.Proofs.Ytijenmkhbkbnfaa
