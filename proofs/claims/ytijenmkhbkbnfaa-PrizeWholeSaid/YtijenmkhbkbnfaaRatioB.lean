/- The exported calls of layer 2 (ratio), each by a contract for each way that it ends. -/
import Derived.Test.YtijenmkhbkbnfaaRatio
namespace Go.Proofs.Ytijenmkhbkbnfaa
open Go.RowKit
set_option linter.unusedVariables false

/-- A product of two words has two words. -/
theorem words (a b : Nat) : ∃ hi lo : Nat, Hid (a * b = hi * 18446744073709551616 + lo) ∧ lo < 18446744073709551616 :=
  ⟨a * b / 18446744073709551616, a * b % 18446744073709551616, (Nat.div_add_mod' _ _).symm, Nat.mod_lt _ (by omega)⟩
/-- A fraction fits where its product's upper word is below what it is divided by. -/
theorem words_fit {p hi lo c n r : Nat} (e : p = hi * 18446744073709551616 + lo) (hlo : lo < 18446744073709551616) (h : p = n * c + r) (hr : r < c) (hn : n < 18446744073709551616) : hi < c := by
  have h1 : n * c + c ≤ c * 18446744073709551616 := by rw [← Nat.succ_mul, Nat.mul_comm]; exact Nat.mul_le_mul_left _ hn
  omega
theorem words_over {p hi lo c n r : Nat} (e : p = hi * 18446744073709551616 + lo) (hlo : lo < 18446744073709551616) (h : p = n * c + r) (hn : 18446744073709551616 ≤ n) : c ≤ hi := by
  have h1 : c * 18446744073709551616 ≤ n * c := by rw [Nat.mul_comm c]; exact Nat.mul_le_mul_right _ hn
  omega

theorem ratio_down_zero (a b : Nat) (w : World) (ha : a < 18446744073709551616) (hb : b < 18446744073709551616) :
    Calls Try.prog 58 #[.int .u64 a, .int .u64 b, .int .u64 0] w fun e w' =>
      e = .returned (.tuple #[.int .u64 0, .int .i64 20]) ∧ Below w.heap.size w w' := by
  obtain ⟨hi, lo, e1, hlo⟩ := words a b
  have k1 := fun w => ratio_times a b hi lo w ha hb e1 hlo
  have k2 := fun w => frac_down_zero hi lo w
  go_enter Try.func58, Try.ntmps58
  go_wp2_with (first
    | (go_at_call 62; refine (k1 _).mono ?_; rintro e w1 ⟨rfl, hb1⟩)
    | (go_at_call 64; refine (k2 _).mono ?_; rintro e w2 ⟨rfl, hb2⟩))
  go_ret2
  exact ⟨rfl, Below.then hb1 hb2⟩

theorem ratio_down_over (a b c n r : Nat) (w : World) (ha : a < 18446744073709551616) (hb : b < 18446744073709551616) (h : Hid (a * b = n * c + r)) (hr : r < c) (hn : 18446744073709551616 ≤ n) :
    Calls Try.prog 58 #[.int .u64 a, .int .u64 b, .int .u64 c] w fun e w' =>
      e = .returned (.tuple #[.int .u64 0, .int .i64 10]) ∧ Below w.heap.size w w' := by
  obtain ⟨hi, lo, e1, hlo⟩ := words a b
  have f1 : c ≤ hi := words_over e1.out hlo h.out hn
  have f2 : 0 < c := by omega
  have k1 := fun w => ratio_times a b hi lo w ha hb e1 hlo
  have k2 := fun w => frac_down_over hi lo c w f2 f1
  go_enter Try.func58, Try.ntmps58
  go_wp2_with (first
    | (go_at_call 62; refine (k1 _).mono ?_; rintro e w1 ⟨rfl, hb1⟩)
    | (go_at_call 64; refine (k2 _).mono ?_; rintro e w2 ⟨rfl, hb2⟩))
  go_ret2
  exact ⟨rfl, Below.then hb1 hb2⟩

theorem ratio_down_ok (a b c n r : Nat) (w : World) (ha : a < 18446744073709551616) (hb : b < 18446744073709551616) (hc : c < 18446744073709551616) (h : Hid (a * b = n * c + r)) (hr : r < c) (hn : n < 18446744073709551616) :
    Calls Try.prog 58 #[.int .u64 a, .int .u64 b, .int .u64 c] w fun e w' =>
      e = .returned (.tuple #[.int .u64 n, .int .i64 0]) ∧ Below w.heap.size w w' := by
  obtain ⟨hi, lo, e1, hlo⟩ := words a b
  have f1 : hi < c := words_fit e1.out hlo h.out hr (by omega)
  have e2 : Hid (hi * 18446744073709551616 + lo = n * c + r) := e1.out.symm.trans h.out
  have k1 := fun w => ratio_times a b hi lo w ha hb e1 hlo
  have k2 := fun w => frac_down_ok hi lo c n r w f1 hc hlo e2 hr
  go_enter Try.func58, Try.ntmps58
  go_wp2_with (first
    | (go_at_call 62; refine (k1 _).mono ?_; rintro e w1 ⟨rfl, hb1⟩)
    | (go_at_call 64; refine (k2 _).mono ?_; rintro e w2 ⟨rfl, hb2⟩))
  go_ret2
  exact ⟨rfl, Below.then hb1 hb2⟩

/-- Two products, held against each other. -/
theorem ratio_less (a b c d : Nat) (w : World) (ha : a < 18446744073709551616) (hb : b < 18446744073709551616) (hc : c < 18446744073709551616) (hd : d < 18446744073709551616) :
    Calls Try.prog 56 #[.int .u64 a, .int .u64 b, .int .u64 c, .int .u64 d] w fun e w' =>
      e = .returned (.bool (decide (a * b < c * d))) ∧ Below w.heap.size w w' := by
  obtain ⟨hi, lo, e1, hlo⟩ := words a b
  obtain ⟨hi', lo', e2, hlo'⟩ := words c d
  have k1 := fun w => ratio_times a b hi lo w ha hb e1 hlo
  have k2 := fun w => ratio_times c d hi' lo' w hc hd e2 hlo'
  have k3 := fun w => ratio_below hi lo hi' lo' w
  have e3 : decide ((hi : Int) < hi' ∨ (hi : Int) = hi' ∧ (lo : Int) < lo') = decide (a * b < c * d) := by
    have x1 := e1.out
    have x2 := e2.out
    apply decide_eq_decide.2
    omega
  rw [e3] at k3
  clear e3
  obtain ⟨t, ht⟩ : ∃ t, Hid (decide (a * b < c * d) = t) := ⟨_, rfl⟩
  rw [ht.out] at k3 ⊢
  go_enter Try.func56, Try.ntmps56
  go_wp2_with (first
    | (go_at_call 62; refine (k1 _).mono ?_; clear k1; rintro e w1 ⟨rfl, hb1⟩)
    | (go_at_call 62; refine (k2 _).mono ?_; rintro e w2 ⟨rfl, hb2⟩)
    | (go_at_call 63; refine (k3 _).mono ?_; rintro e w3 ⟨rfl, hb3⟩))
  go_ret
  exact ⟨rfl, Below.then (Below.then hb1 hb2) hb3⟩

end Go.Proofs.Ytijenmkhbkbnfaa
