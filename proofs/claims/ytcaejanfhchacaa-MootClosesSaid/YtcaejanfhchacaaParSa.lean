/- Layer 7 (param), the document's Right: no, by its tests 1 to 10. By contracts. · Layer 7 (param), the document's Right: no, by its tests 11 to 17. By contracts. · Layer 7 (param), the document's Right: no, by its tests 18 to 22. By contracts. · Layer 7 (param), the document's Right: no, by its tests 23 to 26. By contracts. -/
import Derived.Test.YtcaejanfhchacaaParL
namespace Go.Proofs.Ytcaejanfhchacaa
open Go.RowKit
set_option linter.unusedVariables false

set_option maxRecDepth 100000 in
set_option maxHeartbeats 2000000 in
theorem right_no_inc (p : Par) (w : World) (h_inc : Hid (Par.okW (p.inc, 1, 2147483648) = false)) :
    Calls Try.prog 19 #[.agg p.vals] w fun e w' => e = .returned (.bool false) ∧ Below w.heap.size w w' := by
  have k_inc := fun w => wide_is p.inc 1 2147483648 false w h_inc
  rw [show ((1 : Nat) : Int) = 1 from rfl, show ((2147483648 : Nat) : Int) = 2147483648 from rfl] at k_inc
  have v0 : p.vals[0]? = some (.int .u64 (p.inc : Int)) := rfl
  have v1 : p.vals[1]? = some (.int .u64 (p.maxEff : Int)) := rfl
  have v2 : p.vals[2]? = some (.int .u64 (p.floor : Int)) := rfl
  have v3 : p.vals[3]? = some (.int .u64 (p.cap : Int)) := rfl
  have v4 : p.vals[4]? = some (.int .u64 (p.up : Int)) := rfl
  have v5 : p.vals[5]? = some (.int .u64 (p.down : Int)) := rfl
  have v6 : p.vals[6]? = some (.int .u64 (p.bias : Int)) := rfl
  have v7 : p.vals[7]? = some (.int .u64 (p.quot : Int)) := rfl
  have v8 : p.vals[8]? = some (.int .u64 (p.biasEm : Int)) := rfl
  have v9 : p.vals[9]? = some (.int .u64 (p.quotEm : Int)) := rfl
  have v10 : p.vals[10]? = some (.int .u64 (p.recover : Int)) := rfl
  have v11 : p.vals[11]? = some (.int .u64 (p.scoreCap : Int)) := rfl
  have v12 : p.vals[12]? = some (.int .u64 (p.rate : Int)) := rfl
  have v13 : p.vals[13]? = some (.int .u64 (p.bond : Int)) := rfl
  have v14 : p.vals[14]? = some (.int .i64 p.delay) := rfl
  have v15 : p.vals[15]? = some (.int .i64 p.streak) := rfl
  have v16 : p.vals[16]? = some (.int .i64 p.boost) := rfl
  have v17 : p.vals[17]? = some (.int .i64 p.absent) := rfl
  have v18 : p.vals[18]? = some (.int .i64 p.burn) := rfl
  have v19 : p.vals[19]? = some (.int .i64 p.churn) := rfl
  have v20 : p.vals[20]? = some (.int .i64 p.wait) := rfl
  have v21 : p.vals[21]? = some (.int .i64 p.poll) := rfl
  have v22 : p.vals[22]? = some (.int .i64 p.enact) := rfl
  have v23 : p.vals[23]? = some (.int .i64 p.quorum) := rfl
  clear h_inc
  go_enter Try.func19, Try.ntmps19
  go_wp2_with (first
    | (go_at_call 51; (with_reducible refine (k_inc _).mono ?_); rintro e w1 ⟨rfl, rfl⟩; clear k_inc))
  go_ret
  exact ⟨rfl, (Below.refl _ _).alloc (Nat.le_refl _) _⟩

set_option maxRecDepth 100000 in
set_option maxHeartbeats 2000000 in
theorem right_no_eff (p : Par) (w : World) (h_inc : Hid (Par.okW (p.inc, 1, 2147483648) = true)) (h_eff : Hid (Par.okW (p.maxEff, p.inc, 1099511627776) = false)) :
    Calls Try.prog 19 #[.agg p.vals] w fun e w' => e = .returned (.bool false) ∧ Below w.heap.size w w' := by
  have inc0 : 1 ≤ p.inc := by have := (Par.okW_iff _).1 h_inc.out; exact this.1
  have k_inc := fun w => wide_is p.inc 1 2147483648 true w h_inc
  rw [show ((1 : Nat) : Int) = 1 from rfl, show ((2147483648 : Nat) : Int) = 2147483648 from rfl] at k_inc
  have k_eff := fun w => wide_is p.maxEff p.inc 1099511627776 false w h_eff
  rw [show ((1099511627776 : Nat) : Int) = 1099511627776 from rfl] at k_eff
  have v0 : p.vals[0]? = some (.int .u64 (p.inc : Int)) := rfl
  have v1 : p.vals[1]? = some (.int .u64 (p.maxEff : Int)) := rfl
  have v2 : p.vals[2]? = some (.int .u64 (p.floor : Int)) := rfl
  have v3 : p.vals[3]? = some (.int .u64 (p.cap : Int)) := rfl
  have v4 : p.vals[4]? = some (.int .u64 (p.up : Int)) := rfl
  have v5 : p.vals[5]? = some (.int .u64 (p.down : Int)) := rfl
  have v6 : p.vals[6]? = some (.int .u64 (p.bias : Int)) := rfl
  have v7 : p.vals[7]? = some (.int .u64 (p.quot : Int)) := rfl
  have v8 : p.vals[8]? = some (.int .u64 (p.biasEm : Int)) := rfl
  have v9 : p.vals[9]? = some (.int .u64 (p.quotEm : Int)) := rfl
  have v10 : p.vals[10]? = some (.int .u64 (p.recover : Int)) := rfl
  have v11 : p.vals[11]? = some (.int .u64 (p.scoreCap : Int)) := rfl
  have v12 : p.vals[12]? = some (.int .u64 (p.rate : Int)) := rfl
  have v13 : p.vals[13]? = some (.int .u64 (p.bond : Int)) := rfl
  have v14 : p.vals[14]? = some (.int .i64 p.delay) := rfl
  have v15 : p.vals[15]? = some (.int .i64 p.streak) := rfl
  have v16 : p.vals[16]? = some (.int .i64 p.boost) := rfl
  have v17 : p.vals[17]? = some (.int .i64 p.absent) := rfl
  have v18 : p.vals[18]? = some (.int .i64 p.burn) := rfl
  have v19 : p.vals[19]? = some (.int .i64 p.churn) := rfl
  have v20 : p.vals[20]? = some (.int .i64 p.wait) := rfl
  have v21 : p.vals[21]? = some (.int .i64 p.poll) := rfl
  have v22 : p.vals[22]? = some (.int .i64 p.enact) := rfl
  have v23 : p.vals[23]? = some (.int .i64 p.quorum) := rfl
  clear h_inc h_eff
  go_enter Try.func19, Try.ntmps19
  go_wp2_with (first
    | (go_at_call 51; (with_reducible refine (k_inc _).mono ?_); rintro e w1 ⟨rfl, rfl⟩; clear k_inc)
    | (go_at_call 51; (with_reducible refine (k_eff _).mono ?_); rintro e w1 ⟨rfl, rfl⟩; clear k_eff))
  go_ret
  exact ⟨rfl, (Below.refl _ _).alloc (Nat.le_refl _) _⟩

set_option maxRecDepth 100000 in
set_option maxHeartbeats 2000000 in
theorem right_no_whole (p : Par) (w : World) (h_inc : Hid (Par.okW (p.inc, 1, 2147483648) = true)) (h_eff : Hid (Par.okW (p.maxEff, p.inc, 1099511627776) = true)) (h_whole : ¬ (p.maxEff % p.inc = 0)) :
    Calls Try.prog 19 #[.agg p.vals] w fun e w' => e = .returned (.bool false) ∧ Below w.heap.size w w' := by
  have inc0 : 1 ≤ p.inc := by have := (Par.okW_iff _).1 h_inc.out; exact this.1
  have k_inc := fun w => wide_is p.inc 1 2147483648 true w h_inc
  rw [show ((1 : Nat) : Int) = 1 from rfl, show ((2147483648 : Nat) : Int) = 2147483648 from rfl] at k_inc
  have k_eff := fun w => wide_is p.maxEff p.inc 1099511627776 true w h_eff
  rw [show ((1099511627776 : Nat) : Int) = 1099511627776 from rfl] at k_eff
  have d_whole : (((p.maxEff : Int) % (p.inc : Int)) != 0) = true := by simp; omega
  have d_whole2 : ¬ (p.maxEff : Int) % (p.inc : Int) = 0 := by omega
  have v0 : p.vals[0]? = some (.int .u64 (p.inc : Int)) := rfl
  have v1 : p.vals[1]? = some (.int .u64 (p.maxEff : Int)) := rfl
  have v2 : p.vals[2]? = some (.int .u64 (p.floor : Int)) := rfl
  have v3 : p.vals[3]? = some (.int .u64 (p.cap : Int)) := rfl
  have v4 : p.vals[4]? = some (.int .u64 (p.up : Int)) := rfl
  have v5 : p.vals[5]? = some (.int .u64 (p.down : Int)) := rfl
  have v6 : p.vals[6]? = some (.int .u64 (p.bias : Int)) := rfl
  have v7 : p.vals[7]? = some (.int .u64 (p.quot : Int)) := rfl
  have v8 : p.vals[8]? = some (.int .u64 (p.biasEm : Int)) := rfl
  have v9 : p.vals[9]? = some (.int .u64 (p.quotEm : Int)) := rfl
  have v10 : p.vals[10]? = some (.int .u64 (p.recover : Int)) := rfl
  have v11 : p.vals[11]? = some (.int .u64 (p.scoreCap : Int)) := rfl
  have v12 : p.vals[12]? = some (.int .u64 (p.rate : Int)) := rfl
  have v13 : p.vals[13]? = some (.int .u64 (p.bond : Int)) := rfl
  have v14 : p.vals[14]? = some (.int .i64 p.delay) := rfl
  have v15 : p.vals[15]? = some (.int .i64 p.streak) := rfl
  have v16 : p.vals[16]? = some (.int .i64 p.boost) := rfl
  have v17 : p.vals[17]? = some (.int .i64 p.absent) := rfl
  have v18 : p.vals[18]? = some (.int .i64 p.burn) := rfl
  have v19 : p.vals[19]? = some (.int .i64 p.churn) := rfl
  have v20 : p.vals[20]? = some (.int .i64 p.wait) := rfl
  have v21 : p.vals[21]? = some (.int .i64 p.poll) := rfl
  have v22 : p.vals[22]? = some (.int .i64 p.enact) := rfl
  have v23 : p.vals[23]? = some (.int .i64 p.quorum) := rfl
  clear h_inc h_eff h_whole
  go_enter Try.func19, Try.ntmps19
  go_wp2_with (first
    | (go_at_call 51; (with_reducible refine (k_inc _).mono ?_); rintro e w1 ⟨rfl, rfl⟩; clear k_inc)
    | (go_at_call 51; (with_reducible refine (k_eff _).mono ?_); rintro e w1 ⟨rfl, rfl⟩; clear k_eff))
  go_ret
  exact ⟨rfl, (Below.refl _ _).alloc (Nat.le_refl _) _⟩

set_option maxRecDepth 100000 in
set_option maxHeartbeats 2000000 in
theorem right_no_floor (p : Par) (w : World) (h_inc : Hid (Par.okW (p.inc, 1, 2147483648) = true)) (h_eff : Hid (Par.okW (p.maxEff, p.inc, 1099511627776) = true)) (h_whole : p.maxEff % p.inc = 0) (h_floor : ¬ (p.inc ≤ p.floor)) :
    Calls Try.prog 19 #[.agg p.vals] w fun e w' => e = .returned (.bool false) ∧ Below w.heap.size w w' := by
  have inc0 : 1 ≤ p.inc := by have := (Par.okW_iff _).1 h_inc.out; exact this.1
  have k_inc := fun w => wide_is p.inc 1 2147483648 true w h_inc
  rw [show ((1 : Nat) : Int) = 1 from rfl, show ((2147483648 : Nat) : Int) = 2147483648 from rfl] at k_inc
  have k_eff := fun w => wide_is p.maxEff p.inc 1099511627776 true w h_eff
  rw [show ((1099511627776 : Nat) : Int) = 1099511627776 from rfl] at k_eff
  have d_whole : (((p.maxEff : Int) % (p.inc : Int)) != 0) = false := by simp; omega
  have d_whole2 : (p.maxEff : Int) % (p.inc : Int) = 0 := by omega
  have d_floor : decide (p.floor < p.inc) = true := by simp; omega
  have v0 : p.vals[0]? = some (.int .u64 (p.inc : Int)) := rfl
  have v1 : p.vals[1]? = some (.int .u64 (p.maxEff : Int)) := rfl
  have v2 : p.vals[2]? = some (.int .u64 (p.floor : Int)) := rfl
  have v3 : p.vals[3]? = some (.int .u64 (p.cap : Int)) := rfl
  have v4 : p.vals[4]? = some (.int .u64 (p.up : Int)) := rfl
  have v5 : p.vals[5]? = some (.int .u64 (p.down : Int)) := rfl
  have v6 : p.vals[6]? = some (.int .u64 (p.bias : Int)) := rfl
  have v7 : p.vals[7]? = some (.int .u64 (p.quot : Int)) := rfl
  have v8 : p.vals[8]? = some (.int .u64 (p.biasEm : Int)) := rfl
  have v9 : p.vals[9]? = some (.int .u64 (p.quotEm : Int)) := rfl
  have v10 : p.vals[10]? = some (.int .u64 (p.recover : Int)) := rfl
  have v11 : p.vals[11]? = some (.int .u64 (p.scoreCap : Int)) := rfl
  have v12 : p.vals[12]? = some (.int .u64 (p.rate : Int)) := rfl
  have v13 : p.vals[13]? = some (.int .u64 (p.bond : Int)) := rfl
  have v14 : p.vals[14]? = some (.int .i64 p.delay) := rfl
  have v15 : p.vals[15]? = some (.int .i64 p.streak) := rfl
  have v16 : p.vals[16]? = some (.int .i64 p.boost) := rfl
  have v17 : p.vals[17]? = some (.int .i64 p.absent) := rfl
  have v18 : p.vals[18]? = some (.int .i64 p.burn) := rfl
  have v19 : p.vals[19]? = some (.int .i64 p.churn) := rfl
  have v20 : p.vals[20]? = some (.int .i64 p.wait) := rfl
  have v21 : p.vals[21]? = some (.int .i64 p.poll) := rfl
  have v22 : p.vals[22]? = some (.int .i64 p.enact) := rfl
  have v23 : p.vals[23]? = some (.int .i64 p.quorum) := rfl
  clear h_inc h_eff h_whole h_floor
  go_enter Try.func19, Try.ntmps19
  go_wp2_with (first
    | (go_at_call 51; (with_reducible refine (k_inc _).mono ?_); rintro e w1 ⟨rfl, rfl⟩; clear k_inc)
    | (go_at_call 51; (with_reducible refine (k_eff _).mono ?_); rintro e w1 ⟨rfl, rfl⟩; clear k_eff))
  go_ret
  exact ⟨rfl, (Below.refl _ _).alloc (Nat.le_refl _) _⟩

set_option maxRecDepth 100000 in
set_option maxHeartbeats 2000000 in
theorem right_no_over (p : Par) (w : World) (h_inc : Hid (Par.okW (p.inc, 1, 2147483648) = true)) (h_eff : Hid (Par.okW (p.maxEff, p.inc, 1099511627776) = true)) (h_whole : p.maxEff % p.inc = 0) (h_floor : p.inc ≤ p.floor) (h_over : ¬ (p.floor < p.cap)) :
    Calls Try.prog 19 #[.agg p.vals] w fun e w' => e = .returned (.bool false) ∧ Below w.heap.size w w' := by
  have inc0 : 1 ≤ p.inc := by have := (Par.okW_iff _).1 h_inc.out; exact this.1
  have k_inc := fun w => wide_is p.inc 1 2147483648 true w h_inc
  rw [show ((1 : Nat) : Int) = 1 from rfl, show ((2147483648 : Nat) : Int) = 2147483648 from rfl] at k_inc
  have k_eff := fun w => wide_is p.maxEff p.inc 1099511627776 true w h_eff
  rw [show ((1099511627776 : Nat) : Int) = 1099511627776 from rfl] at k_eff
  have d_whole : (((p.maxEff : Int) % (p.inc : Int)) != 0) = false := by simp; omega
  have d_whole2 : (p.maxEff : Int) % (p.inc : Int) = 0 := by omega
  have d_floor : decide (p.floor < p.inc) = false := by simp; omega
  have d_over : decide (p.cap ≤ p.floor) = true := by simp; omega
  have v0 : p.vals[0]? = some (.int .u64 (p.inc : Int)) := rfl
  have v1 : p.vals[1]? = some (.int .u64 (p.maxEff : Int)) := rfl
  have v2 : p.vals[2]? = some (.int .u64 (p.floor : Int)) := rfl
  have v3 : p.vals[3]? = some (.int .u64 (p.cap : Int)) := rfl
  have v4 : p.vals[4]? = some (.int .u64 (p.up : Int)) := rfl
  have v5 : p.vals[5]? = some (.int .u64 (p.down : Int)) := rfl
  have v6 : p.vals[6]? = some (.int .u64 (p.bias : Int)) := rfl
  have v7 : p.vals[7]? = some (.int .u64 (p.quot : Int)) := rfl
  have v8 : p.vals[8]? = some (.int .u64 (p.biasEm : Int)) := rfl
  have v9 : p.vals[9]? = some (.int .u64 (p.quotEm : Int)) := rfl
  have v10 : p.vals[10]? = some (.int .u64 (p.recover : Int)) := rfl
  have v11 : p.vals[11]? = some (.int .u64 (p.scoreCap : Int)) := rfl
  have v12 : p.vals[12]? = some (.int .u64 (p.rate : Int)) := rfl
  have v13 : p.vals[13]? = some (.int .u64 (p.bond : Int)) := rfl
  have v14 : p.vals[14]? = some (.int .i64 p.delay) := rfl
  have v15 : p.vals[15]? = some (.int .i64 p.streak) := rfl
  have v16 : p.vals[16]? = some (.int .i64 p.boost) := rfl
  have v17 : p.vals[17]? = some (.int .i64 p.absent) := rfl
  have v18 : p.vals[18]? = some (.int .i64 p.burn) := rfl
  have v19 : p.vals[19]? = some (.int .i64 p.churn) := rfl
  have v20 : p.vals[20]? = some (.int .i64 p.wait) := rfl
  have v21 : p.vals[21]? = some (.int .i64 p.poll) := rfl
  have v22 : p.vals[22]? = some (.int .i64 p.enact) := rfl
  have v23 : p.vals[23]? = some (.int .i64 p.quorum) := rfl
  clear h_inc h_eff h_whole h_floor h_over
  go_enter Try.func19, Try.ntmps19
  go_wp2_with (first
    | (go_at_call 51; (with_reducible refine (k_inc _).mono ?_); rintro e w1 ⟨rfl, rfl⟩; clear k_inc)
    | (go_at_call 51; (with_reducible refine (k_eff _).mono ?_); rintro e w1 ⟨rfl, rfl⟩; clear k_eff))
  go_ret
  exact ⟨rfl, (Below.refl _ _).alloc (Nat.le_refl _) _⟩

set_option maxRecDepth 100000 in
set_option maxHeartbeats 2000000 in
theorem right_no_cap (p : Par) (w : World) (h_inc : Hid (Par.okW (p.inc, 1, 2147483648) = true)) (h_eff : Hid (Par.okW (p.maxEff, p.inc, 1099511627776) = true)) (h_whole : p.maxEff % p.inc = 0) (h_floor : p.inc ≤ p.floor) (h_over : p.floor < p.cap) (h_cap : Hid (Par.okW (p.cap, p.maxEff, 1099511627776) = false)) :
    Calls Try.prog 19 #[.agg p.vals] w fun e w' => e = .returned (.bool false) ∧ Below w.heap.size w w' := by
  have inc0 : 1 ≤ p.inc := by have := (Par.okW_iff _).1 h_inc.out; exact this.1
  have k_inc := fun w => wide_is p.inc 1 2147483648 true w h_inc
  rw [show ((1 : Nat) : Int) = 1 from rfl, show ((2147483648 : Nat) : Int) = 2147483648 from rfl] at k_inc
  have k_eff := fun w => wide_is p.maxEff p.inc 1099511627776 true w h_eff
  rw [show ((1099511627776 : Nat) : Int) = 1099511627776 from rfl] at k_eff
  have d_whole : (((p.maxEff : Int) % (p.inc : Int)) != 0) = false := by simp; omega
  have d_whole2 : (p.maxEff : Int) % (p.inc : Int) = 0 := by omega
  have d_floor : decide (p.floor < p.inc) = false := by simp; omega
  have d_over : decide (p.cap ≤ p.floor) = false := by simp; omega
  have k_cap := fun w => wide_is p.cap p.maxEff 1099511627776 false w h_cap
  rw [show ((1099511627776 : Nat) : Int) = 1099511627776 from rfl] at k_cap
  have v0 : p.vals[0]? = some (.int .u64 (p.inc : Int)) := rfl
  have v1 : p.vals[1]? = some (.int .u64 (p.maxEff : Int)) := rfl
  have v2 : p.vals[2]? = some (.int .u64 (p.floor : Int)) := rfl
  have v3 : p.vals[3]? = some (.int .u64 (p.cap : Int)) := rfl
  have v4 : p.vals[4]? = some (.int .u64 (p.up : Int)) := rfl
  have v5 : p.vals[5]? = some (.int .u64 (p.down : Int)) := rfl
  have v6 : p.vals[6]? = some (.int .u64 (p.bias : Int)) := rfl
  have v7 : p.vals[7]? = some (.int .u64 (p.quot : Int)) := rfl
  have v8 : p.vals[8]? = some (.int .u64 (p.biasEm : Int)) := rfl
  have v9 : p.vals[9]? = some (.int .u64 (p.quotEm : Int)) := rfl
  have v10 : p.vals[10]? = some (.int .u64 (p.recover : Int)) := rfl
  have v11 : p.vals[11]? = some (.int .u64 (p.scoreCap : Int)) := rfl
  have v12 : p.vals[12]? = some (.int .u64 (p.rate : Int)) := rfl
  have v13 : p.vals[13]? = some (.int .u64 (p.bond : Int)) := rfl
  have v14 : p.vals[14]? = some (.int .i64 p.delay) := rfl
  have v15 : p.vals[15]? = some (.int .i64 p.streak) := rfl
  have v16 : p.vals[16]? = some (.int .i64 p.boost) := rfl
  have v17 : p.vals[17]? = some (.int .i64 p.absent) := rfl
  have v18 : p.vals[18]? = some (.int .i64 p.burn) := rfl
  have v19 : p.vals[19]? = some (.int .i64 p.churn) := rfl
  have v20 : p.vals[20]? = some (.int .i64 p.wait) := rfl
  have v21 : p.vals[21]? = some (.int .i64 p.poll) := rfl
  have v22 : p.vals[22]? = some (.int .i64 p.enact) := rfl
  have v23 : p.vals[23]? = some (.int .i64 p.quorum) := rfl
  clear h_inc h_eff h_whole h_floor h_over h_cap
  go_enter Try.func19, Try.ntmps19
  go_wp2_with (first
    | (go_at_call 51; (with_reducible refine (k_inc _).mono ?_); rintro e w1 ⟨rfl, rfl⟩; clear k_inc)
    | (go_at_call 51; (with_reducible refine (k_eff _).mono ?_); rintro e w1 ⟨rfl, rfl⟩; clear k_eff)
    | (go_at_call 51; (with_reducible refine (k_cap _).mono ?_); rintro e w1 ⟨rfl, rfl⟩; clear k_cap))
  go_ret
  exact ⟨rfl, (Below.refl _ _).alloc (Nat.le_refl _) _⟩

set_option maxRecDepth 100000 in
set_option maxHeartbeats 2000000 in
theorem right_no_up (p : Par) (w : World) (h_inc : Hid (Par.okW (p.inc, 1, 2147483648) = true)) (h_eff : Hid (Par.okW (p.maxEff, p.inc, 1099511627776) = true)) (h_whole : p.maxEff % p.inc = 0) (h_floor : p.inc ≤ p.floor) (h_over : p.floor < p.cap) (h_cap : Hid (Par.okW (p.cap, p.maxEff, 1099511627776) = true)) (h_up : Hid (Par.okW (p.up, p.inc, 1099511627776) = false)) :
    Calls Try.prog 19 #[.agg p.vals] w fun e w' => e = .returned (.bool false) ∧ Below w.heap.size w w' := by
  have inc0 : 1 ≤ p.inc := by have := (Par.okW_iff _).1 h_inc.out; exact this.1
  have k_inc := fun w => wide_is p.inc 1 2147483648 true w h_inc
  rw [show ((1 : Nat) : Int) = 1 from rfl, show ((2147483648 : Nat) : Int) = 2147483648 from rfl] at k_inc
  have k_eff := fun w => wide_is p.maxEff p.inc 1099511627776 true w h_eff
  rw [show ((1099511627776 : Nat) : Int) = 1099511627776 from rfl] at k_eff
  have d_whole : (((p.maxEff : Int) % (p.inc : Int)) != 0) = false := by simp; omega
  have d_whole2 : (p.maxEff : Int) % (p.inc : Int) = 0 := by omega
  have d_floor : decide (p.floor < p.inc) = false := by simp; omega
  have d_over : decide (p.cap ≤ p.floor) = false := by simp; omega
  have k_cap := fun w => wide_is p.cap p.maxEff 1099511627776 true w h_cap
  rw [show ((1099511627776 : Nat) : Int) = 1099511627776 from rfl] at k_cap
  have k_up := fun w => wide_is p.up p.inc 1099511627776 false w h_up
  rw [show ((1099511627776 : Nat) : Int) = 1099511627776 from rfl] at k_up
  have v0 : p.vals[0]? = some (.int .u64 (p.inc : Int)) := rfl
  have v1 : p.vals[1]? = some (.int .u64 (p.maxEff : Int)) := rfl
  have v2 : p.vals[2]? = some (.int .u64 (p.floor : Int)) := rfl
  have v3 : p.vals[3]? = some (.int .u64 (p.cap : Int)) := rfl
  have v4 : p.vals[4]? = some (.int .u64 (p.up : Int)) := rfl
  have v5 : p.vals[5]? = some (.int .u64 (p.down : Int)) := rfl
  have v6 : p.vals[6]? = some (.int .u64 (p.bias : Int)) := rfl
  have v7 : p.vals[7]? = some (.int .u64 (p.quot : Int)) := rfl
  have v8 : p.vals[8]? = some (.int .u64 (p.biasEm : Int)) := rfl
  have v9 : p.vals[9]? = some (.int .u64 (p.quotEm : Int)) := rfl
  have v10 : p.vals[10]? = some (.int .u64 (p.recover : Int)) := rfl
  have v11 : p.vals[11]? = some (.int .u64 (p.scoreCap : Int)) := rfl
  have v12 : p.vals[12]? = some (.int .u64 (p.rate : Int)) := rfl
  have v13 : p.vals[13]? = some (.int .u64 (p.bond : Int)) := rfl
  have v14 : p.vals[14]? = some (.int .i64 p.delay) := rfl
  have v15 : p.vals[15]? = some (.int .i64 p.streak) := rfl
  have v16 : p.vals[16]? = some (.int .i64 p.boost) := rfl
  have v17 : p.vals[17]? = some (.int .i64 p.absent) := rfl
  have v18 : p.vals[18]? = some (.int .i64 p.burn) := rfl
  have v19 : p.vals[19]? = some (.int .i64 p.churn) := rfl
  have v20 : p.vals[20]? = some (.int .i64 p.wait) := rfl
  have v21 : p.vals[21]? = some (.int .i64 p.poll) := rfl
  have v22 : p.vals[22]? = some (.int .i64 p.enact) := rfl
  have v23 : p.vals[23]? = some (.int .i64 p.quorum) := rfl
  clear h_inc h_eff h_whole h_floor h_over h_cap h_up
  go_enter Try.func19, Try.ntmps19
  go_wp2_with (first
    | (go_at_call 51; (with_reducible refine (k_inc _).mono ?_); rintro e w1 ⟨rfl, rfl⟩; clear k_inc)
    | (go_at_call 51; (with_reducible refine (k_eff _).mono ?_); rintro e w1 ⟨rfl, rfl⟩; clear k_eff)
    | (go_at_call 51; (with_reducible refine (k_cap _).mono ?_); rintro e w1 ⟨rfl, rfl⟩; clear k_cap)
    | (go_at_call 51; (with_reducible refine (k_up _).mono ?_); rintro e w1 ⟨rfl, rfl⟩; clear k_up))
  go_ret
  exact ⟨rfl, (Below.refl _ _).alloc (Nat.le_refl _) _⟩

set_option maxRecDepth 100000 in
set_option maxHeartbeats 2000000 in
theorem right_no_down (p : Par) (w : World) (h_inc : Hid (Par.okW (p.inc, 1, 2147483648) = true)) (h_eff : Hid (Par.okW (p.maxEff, p.inc, 1099511627776) = true)) (h_whole : p.maxEff % p.inc = 0) (h_floor : p.inc ≤ p.floor) (h_over : p.floor < p.cap) (h_cap : Hid (Par.okW (p.cap, p.maxEff, 1099511627776) = true)) (h_up : Hid (Par.okW (p.up, p.inc, 1099511627776) = true)) (h_down : ¬ (p.down ≤ 1099511627776)) :
    Calls Try.prog 19 #[.agg p.vals] w fun e w' => e = .returned (.bool false) ∧ Below w.heap.size w w' := by
  have inc0 : 1 ≤ p.inc := by have := (Par.okW_iff _).1 h_inc.out; exact this.1
  have k_inc := fun w => wide_is p.inc 1 2147483648 true w h_inc
  rw [show ((1 : Nat) : Int) = 1 from rfl, show ((2147483648 : Nat) : Int) = 2147483648 from rfl] at k_inc
  have k_eff := fun w => wide_is p.maxEff p.inc 1099511627776 true w h_eff
  rw [show ((1099511627776 : Nat) : Int) = 1099511627776 from rfl] at k_eff
  have d_whole : (((p.maxEff : Int) % (p.inc : Int)) != 0) = false := by simp; omega
  have d_whole2 : (p.maxEff : Int) % (p.inc : Int) = 0 := by omega
  have d_floor : decide (p.floor < p.inc) = false := by simp; omega
  have d_over : decide (p.cap ≤ p.floor) = false := by simp; omega
  have k_cap := fun w => wide_is p.cap p.maxEff 1099511627776 true w h_cap
  rw [show ((1099511627776 : Nat) : Int) = 1099511627776 from rfl] at k_cap
  have k_up := fun w => wide_is p.up p.inc 1099511627776 true w h_up
  rw [show ((1099511627776 : Nat) : Int) = 1099511627776 from rfl] at k_up
  have d_down : decide ((1099511627776 : Int) < (p.down : Int)) = true := by simp; omega
  have v0 : p.vals[0]? = some (.int .u64 (p.inc : Int)) := rfl
  have v1 : p.vals[1]? = some (.int .u64 (p.maxEff : Int)) := rfl
  have v2 : p.vals[2]? = some (.int .u64 (p.floor : Int)) := rfl
  have v3 : p.vals[3]? = some (.int .u64 (p.cap : Int)) := rfl
  have v4 : p.vals[4]? = some (.int .u64 (p.up : Int)) := rfl
  have v5 : p.vals[5]? = some (.int .u64 (p.down : Int)) := rfl
  have v6 : p.vals[6]? = some (.int .u64 (p.bias : Int)) := rfl
  have v7 : p.vals[7]? = some (.int .u64 (p.quot : Int)) := rfl
  have v8 : p.vals[8]? = some (.int .u64 (p.biasEm : Int)) := rfl
  have v9 : p.vals[9]? = some (.int .u64 (p.quotEm : Int)) := rfl
  have v10 : p.vals[10]? = some (.int .u64 (p.recover : Int)) := rfl
  have v11 : p.vals[11]? = some (.int .u64 (p.scoreCap : Int)) := rfl
  have v12 : p.vals[12]? = some (.int .u64 (p.rate : Int)) := rfl
  have v13 : p.vals[13]? = some (.int .u64 (p.bond : Int)) := rfl
  have v14 : p.vals[14]? = some (.int .i64 p.delay) := rfl
  have v15 : p.vals[15]? = some (.int .i64 p.streak) := rfl
  have v16 : p.vals[16]? = some (.int .i64 p.boost) := rfl
  have v17 : p.vals[17]? = some (.int .i64 p.absent) := rfl
  have v18 : p.vals[18]? = some (.int .i64 p.burn) := rfl
  have v19 : p.vals[19]? = some (.int .i64 p.churn) := rfl
  have v20 : p.vals[20]? = some (.int .i64 p.wait) := rfl
  have v21 : p.vals[21]? = some (.int .i64 p.poll) := rfl
  have v22 : p.vals[22]? = some (.int .i64 p.enact) := rfl
  have v23 : p.vals[23]? = some (.int .i64 p.quorum) := rfl
  clear h_inc h_eff h_whole h_floor h_over h_cap h_up h_down
  go_enter Try.func19, Try.ntmps19
  go_wp2_with (first
    | (go_at_call 51; (with_reducible refine (k_inc _).mono ?_); rintro e w1 ⟨rfl, rfl⟩; clear k_inc)
    | (go_at_call 51; (with_reducible refine (k_eff _).mono ?_); rintro e w1 ⟨rfl, rfl⟩; clear k_eff)
    | (go_at_call 51; (with_reducible refine (k_cap _).mono ?_); rintro e w1 ⟨rfl, rfl⟩; clear k_cap)
    | (go_at_call 51; (with_reducible refine (k_up _).mono ?_); rintro e w1 ⟨rfl, rfl⟩; clear k_up))
  go_ret
  exact ⟨rfl, (Below.refl _ _).alloc (Nat.le_refl _) _⟩

set_option maxRecDepth 100000 in
set_option maxHeartbeats 2000000 in
theorem right_no_bias (p : Par) (w : World) (h_inc : Hid (Par.okW (p.inc, 1, 2147483648) = true)) (h_eff : Hid (Par.okW (p.maxEff, p.inc, 1099511627776) = true)) (h_whole : p.maxEff % p.inc = 0) (h_floor : p.inc ≤ p.floor) (h_over : p.floor < p.cap) (h_cap : Hid (Par.okW (p.cap, p.maxEff, 1099511627776) = true)) (h_up : Hid (Par.okW (p.up, p.inc, 1099511627776) = true)) (h_down : p.down ≤ 1099511627776) (h_bias : Hid (Par.okW (p.bias, 1, 4294967296) = false)) :
    Calls Try.prog 19 #[.agg p.vals] w fun e w' => e = .returned (.bool false) ∧ Below w.heap.size w w' := by
  have inc0 : 1 ≤ p.inc := by have := (Par.okW_iff _).1 h_inc.out; exact this.1
  have k_inc := fun w => wide_is p.inc 1 2147483648 true w h_inc
  rw [show ((1 : Nat) : Int) = 1 from rfl, show ((2147483648 : Nat) : Int) = 2147483648 from rfl] at k_inc
  have k_eff := fun w => wide_is p.maxEff p.inc 1099511627776 true w h_eff
  rw [show ((1099511627776 : Nat) : Int) = 1099511627776 from rfl] at k_eff
  have d_whole : (((p.maxEff : Int) % (p.inc : Int)) != 0) = false := by simp; omega
  have d_whole2 : (p.maxEff : Int) % (p.inc : Int) = 0 := by omega
  have d_floor : decide (p.floor < p.inc) = false := by simp; omega
  have d_over : decide (p.cap ≤ p.floor) = false := by simp; omega
  have k_cap := fun w => wide_is p.cap p.maxEff 1099511627776 true w h_cap
  rw [show ((1099511627776 : Nat) : Int) = 1099511627776 from rfl] at k_cap
  have k_up := fun w => wide_is p.up p.inc 1099511627776 true w h_up
  rw [show ((1099511627776 : Nat) : Int) = 1099511627776 from rfl] at k_up
  have d_down : decide ((1099511627776 : Int) < (p.down : Int)) = false := by simp; omega
  have k_bias := fun w => wide_is p.bias 1 4294967296 false w h_bias
  rw [show ((1 : Nat) : Int) = 1 from rfl, show ((4294967296 : Nat) : Int) = 4294967296 from rfl] at k_bias
  have v0 : p.vals[0]? = some (.int .u64 (p.inc : Int)) := rfl
  have v1 : p.vals[1]? = some (.int .u64 (p.maxEff : Int)) := rfl
  have v2 : p.vals[2]? = some (.int .u64 (p.floor : Int)) := rfl
  have v3 : p.vals[3]? = some (.int .u64 (p.cap : Int)) := rfl
  have v4 : p.vals[4]? = some (.int .u64 (p.up : Int)) := rfl
  have v5 : p.vals[5]? = some (.int .u64 (p.down : Int)) := rfl
  have v6 : p.vals[6]? = some (.int .u64 (p.bias : Int)) := rfl
  have v7 : p.vals[7]? = some (.int .u64 (p.quot : Int)) := rfl
  have v8 : p.vals[8]? = some (.int .u64 (p.biasEm : Int)) := rfl
  have v9 : p.vals[9]? = some (.int .u64 (p.quotEm : Int)) := rfl
  have v10 : p.vals[10]? = some (.int .u64 (p.recover : Int)) := rfl
  have v11 : p.vals[11]? = some (.int .u64 (p.scoreCap : Int)) := rfl
  have v12 : p.vals[12]? = some (.int .u64 (p.rate : Int)) := rfl
  have v13 : p.vals[13]? = some (.int .u64 (p.bond : Int)) := rfl
  have v14 : p.vals[14]? = some (.int .i64 p.delay) := rfl
  have v15 : p.vals[15]? = some (.int .i64 p.streak) := rfl
  have v16 : p.vals[16]? = some (.int .i64 p.boost) := rfl
  have v17 : p.vals[17]? = some (.int .i64 p.absent) := rfl
  have v18 : p.vals[18]? = some (.int .i64 p.burn) := rfl
  have v19 : p.vals[19]? = some (.int .i64 p.churn) := rfl
  have v20 : p.vals[20]? = some (.int .i64 p.wait) := rfl
  have v21 : p.vals[21]? = some (.int .i64 p.poll) := rfl
  have v22 : p.vals[22]? = some (.int .i64 p.enact) := rfl
  have v23 : p.vals[23]? = some (.int .i64 p.quorum) := rfl
  clear h_inc h_eff h_whole h_floor h_over h_cap h_up h_down h_bias
  go_enter Try.func19, Try.ntmps19
  go_wp2_with (first
    | (go_at_call 51; (with_reducible refine (k_inc _).mono ?_); rintro e w1 ⟨rfl, rfl⟩; clear k_inc)
    | (go_at_call 51; (with_reducible refine (k_eff _).mono ?_); rintro e w1 ⟨rfl, rfl⟩; clear k_eff)
    | (go_at_call 51; (with_reducible refine (k_cap _).mono ?_); rintro e w1 ⟨rfl, rfl⟩; clear k_cap)
    | (go_at_call 51; (with_reducible refine (k_up _).mono ?_); rintro e w1 ⟨rfl, rfl⟩; clear k_up)
    | (go_at_call 51; (with_reducible refine (k_bias _).mono ?_); rintro e w1 ⟨rfl, rfl⟩; clear k_bias))
  go_ret
  exact ⟨rfl, (Below.refl _ _).alloc (Nat.le_refl _) _⟩

set_option maxRecDepth 100000 in
set_option maxHeartbeats 2000000 in
theorem right_no_biasEm (p : Par) (w : World) (h_inc : Hid (Par.okW (p.inc, 1, 2147483648) = true)) (h_eff : Hid (Par.okW (p.maxEff, p.inc, 1099511627776) = true)) (h_whole : p.maxEff % p.inc = 0) (h_floor : p.inc ≤ p.floor) (h_over : p.floor < p.cap) (h_cap : Hid (Par.okW (p.cap, p.maxEff, 1099511627776) = true)) (h_up : Hid (Par.okW (p.up, p.inc, 1099511627776) = true)) (h_down : p.down ≤ 1099511627776) (h_bias : Hid (Par.okW (p.bias, 1, 4294967296) = true)) (h_biasEm : Hid (Par.okW (p.biasEm, p.bias, 4294967296) = false)) :
    Calls Try.prog 19 #[.agg p.vals] w fun e w' => e = .returned (.bool false) ∧ Below w.heap.size w w' := by
  have inc0 : 1 ≤ p.inc := by have := (Par.okW_iff _).1 h_inc.out; exact this.1
  have k_inc := fun w => wide_is p.inc 1 2147483648 true w h_inc
  rw [show ((1 : Nat) : Int) = 1 from rfl, show ((2147483648 : Nat) : Int) = 2147483648 from rfl] at k_inc
  have k_eff := fun w => wide_is p.maxEff p.inc 1099511627776 true w h_eff
  rw [show ((1099511627776 : Nat) : Int) = 1099511627776 from rfl] at k_eff
  have d_whole : (((p.maxEff : Int) % (p.inc : Int)) != 0) = false := by simp; omega
  have d_whole2 : (p.maxEff : Int) % (p.inc : Int) = 0 := by omega
  have d_floor : decide (p.floor < p.inc) = false := by simp; omega
  have d_over : decide (p.cap ≤ p.floor) = false := by simp; omega
  have k_cap := fun w => wide_is p.cap p.maxEff 1099511627776 true w h_cap
  rw [show ((1099511627776 : Nat) : Int) = 1099511627776 from rfl] at k_cap
  have k_up := fun w => wide_is p.up p.inc 1099511627776 true w h_up
  rw [show ((1099511627776 : Nat) : Int) = 1099511627776 from rfl] at k_up
  have d_down : decide ((1099511627776 : Int) < (p.down : Int)) = false := by simp; omega
  have k_bias := fun w => wide_is p.bias 1 4294967296 true w h_bias
  rw [show ((1 : Nat) : Int) = 1 from rfl, show ((4294967296 : Nat) : Int) = 4294967296 from rfl] at k_bias
  have k_biasEm := fun w => wide_is p.biasEm p.bias 4294967296 false w h_biasEm
  rw [show ((4294967296 : Nat) : Int) = 4294967296 from rfl] at k_biasEm
  have v0 : p.vals[0]? = some (.int .u64 (p.inc : Int)) := rfl
  have v1 : p.vals[1]? = some (.int .u64 (p.maxEff : Int)) := rfl
  have v2 : p.vals[2]? = some (.int .u64 (p.floor : Int)) := rfl
  have v3 : p.vals[3]? = some (.int .u64 (p.cap : Int)) := rfl
  have v4 : p.vals[4]? = some (.int .u64 (p.up : Int)) := rfl
  have v5 : p.vals[5]? = some (.int .u64 (p.down : Int)) := rfl
  have v6 : p.vals[6]? = some (.int .u64 (p.bias : Int)) := rfl
  have v7 : p.vals[7]? = some (.int .u64 (p.quot : Int)) := rfl
  have v8 : p.vals[8]? = some (.int .u64 (p.biasEm : Int)) := rfl
  have v9 : p.vals[9]? = some (.int .u64 (p.quotEm : Int)) := rfl
  have v10 : p.vals[10]? = some (.int .u64 (p.recover : Int)) := rfl
  have v11 : p.vals[11]? = some (.int .u64 (p.scoreCap : Int)) := rfl
  have v12 : p.vals[12]? = some (.int .u64 (p.rate : Int)) := rfl
  have v13 : p.vals[13]? = some (.int .u64 (p.bond : Int)) := rfl
  have v14 : p.vals[14]? = some (.int .i64 p.delay) := rfl
  have v15 : p.vals[15]? = some (.int .i64 p.streak) := rfl
  have v16 : p.vals[16]? = some (.int .i64 p.boost) := rfl
  have v17 : p.vals[17]? = some (.int .i64 p.absent) := rfl
  have v18 : p.vals[18]? = some (.int .i64 p.burn) := rfl
  have v19 : p.vals[19]? = some (.int .i64 p.churn) := rfl
  have v20 : p.vals[20]? = some (.int .i64 p.wait) := rfl
  have v21 : p.vals[21]? = some (.int .i64 p.poll) := rfl
  have v22 : p.vals[22]? = some (.int .i64 p.enact) := rfl
  have v23 : p.vals[23]? = some (.int .i64 p.quorum) := rfl
  clear h_inc h_eff h_whole h_floor h_over h_cap h_up h_down h_bias h_biasEm
  go_enter Try.func19, Try.ntmps19
  go_wp2_with (first
    | (go_at_call 51; (with_reducible refine (k_inc _).mono ?_); rintro e w1 ⟨rfl, rfl⟩; clear k_inc)
    | (go_at_call 51; (with_reducible refine (k_eff _).mono ?_); rintro e w1 ⟨rfl, rfl⟩; clear k_eff)
    | (go_at_call 51; (with_reducible refine (k_cap _).mono ?_); rintro e w1 ⟨rfl, rfl⟩; clear k_cap)
    | (go_at_call 51; (with_reducible refine (k_up _).mono ?_); rintro e w1 ⟨rfl, rfl⟩; clear k_up)
    | (go_at_call 51; (with_reducible refine (k_bias _).mono ?_); rintro e w1 ⟨rfl, rfl⟩; clear k_bias)
    | (go_at_call 51; (with_reducible refine (k_biasEm _).mono ?_); rintro e w1 ⟨rfl, rfl⟩; clear k_biasEm))
  go_ret
  exact ⟨rfl, (Below.refl _ _).alloc (Nat.le_refl _) _⟩
end Go.Proofs.Ytcaejanfhchacaa
namespace Go.Proofs.Ytcaejanfhchacaa
open Go.RowKit
set_option linter.unusedVariables false

set_option maxRecDepth 100000 in
set_option maxHeartbeats 2000000 in
theorem right_no_quot (p : Par) (w : World) (h_inc : Hid (Par.okW (p.inc, 1, 2147483648) = true)) (h_eff : Hid (Par.okW (p.maxEff, p.inc, 1099511627776) = true)) (h_whole : p.maxEff % p.inc = 0) (h_floor : p.inc ≤ p.floor) (h_over : p.floor < p.cap) (h_cap : Hid (Par.okW (p.cap, p.maxEff, 1099511627776) = true)) (h_up : Hid (Par.okW (p.up, p.inc, 1099511627776) = true)) (h_down : p.down ≤ 1099511627776) (h_bias : Hid (Par.okW (p.bias, 1, 4294967296) = true)) (h_biasEm : Hid (Par.okW (p.biasEm, p.bias, 4294967296) = true)) (h_quot : Hid (Par.okW (p.quot, 1, 1099511627776) = false)) :
    Calls Try.prog 19 #[.agg p.vals] w fun e w' => e = .returned (.bool false) ∧ Below w.heap.size w w' := by
  have inc0 : 1 ≤ p.inc := by have := (Par.okW_iff _).1 h_inc.out; exact this.1
  have k_inc := fun w => wide_is p.inc 1 2147483648 true w h_inc
  rw [show ((1 : Nat) : Int) = 1 from rfl, show ((2147483648 : Nat) : Int) = 2147483648 from rfl] at k_inc
  have k_eff := fun w => wide_is p.maxEff p.inc 1099511627776 true w h_eff
  rw [show ((1099511627776 : Nat) : Int) = 1099511627776 from rfl] at k_eff
  have d_whole : (((p.maxEff : Int) % (p.inc : Int)) != 0) = false := by simp; omega
  have d_whole2 : (p.maxEff : Int) % (p.inc : Int) = 0 := by omega
  have d_floor : decide (p.floor < p.inc) = false := by simp; omega
  have d_over : decide (p.cap ≤ p.floor) = false := by simp; omega
  have k_cap := fun w => wide_is p.cap p.maxEff 1099511627776 true w h_cap
  rw [show ((1099511627776 : Nat) : Int) = 1099511627776 from rfl] at k_cap
  have k_up := fun w => wide_is p.up p.inc 1099511627776 true w h_up
  rw [show ((1099511627776 : Nat) : Int) = 1099511627776 from rfl] at k_up
  have d_down : decide ((1099511627776 : Int) < (p.down : Int)) = false := by simp; omega
  have k_bias := fun w => wide_is p.bias 1 4294967296 true w h_bias
  rw [show ((1 : Nat) : Int) = 1 from rfl, show ((4294967296 : Nat) : Int) = 4294967296 from rfl] at k_bias
  have k_biasEm := fun w => wide_is p.biasEm p.bias 4294967296 true w h_biasEm
  rw [show ((4294967296 : Nat) : Int) = 4294967296 from rfl] at k_biasEm
  have k_quot := fun w => wide_is p.quot 1 1099511627776 false w h_quot
  rw [show ((1 : Nat) : Int) = 1 from rfl, show ((1099511627776 : Nat) : Int) = 1099511627776 from rfl] at k_quot
  have v0 : p.vals[0]? = some (.int .u64 (p.inc : Int)) := rfl
  have v1 : p.vals[1]? = some (.int .u64 (p.maxEff : Int)) := rfl
  have v2 : p.vals[2]? = some (.int .u64 (p.floor : Int)) := rfl
  have v3 : p.vals[3]? = some (.int .u64 (p.cap : Int)) := rfl
  have v4 : p.vals[4]? = some (.int .u64 (p.up : Int)) := rfl
  have v5 : p.vals[5]? = some (.int .u64 (p.down : Int)) := rfl
  have v6 : p.vals[6]? = some (.int .u64 (p.bias : Int)) := rfl
  have v7 : p.vals[7]? = some (.int .u64 (p.quot : Int)) := rfl
  have v8 : p.vals[8]? = some (.int .u64 (p.biasEm : Int)) := rfl
  have v9 : p.vals[9]? = some (.int .u64 (p.quotEm : Int)) := rfl
  have v10 : p.vals[10]? = some (.int .u64 (p.recover : Int)) := rfl
  have v11 : p.vals[11]? = some (.int .u64 (p.scoreCap : Int)) := rfl
  have v12 : p.vals[12]? = some (.int .u64 (p.rate : Int)) := rfl
  have v13 : p.vals[13]? = some (.int .u64 (p.bond : Int)) := rfl
  have v14 : p.vals[14]? = some (.int .i64 p.delay) := rfl
  have v15 : p.vals[15]? = some (.int .i64 p.streak) := rfl
  have v16 : p.vals[16]? = some (.int .i64 p.boost) := rfl
  have v17 : p.vals[17]? = some (.int .i64 p.absent) := rfl
  have v18 : p.vals[18]? = some (.int .i64 p.burn) := rfl
  have v19 : p.vals[19]? = some (.int .i64 p.churn) := rfl
  have v20 : p.vals[20]? = some (.int .i64 p.wait) := rfl
  have v21 : p.vals[21]? = some (.int .i64 p.poll) := rfl
  have v22 : p.vals[22]? = some (.int .i64 p.enact) := rfl
  have v23 : p.vals[23]? = some (.int .i64 p.quorum) := rfl
  clear h_inc h_eff h_whole h_floor h_over h_cap h_up h_down h_bias h_biasEm h_quot
  go_enter Try.func19, Try.ntmps19
  go_wp2_with (first
    | (go_at_call 51; (with_reducible refine (k_inc _).mono ?_); rintro e w1 ⟨rfl, rfl⟩; clear k_inc)
    | (go_at_call 51; (with_reducible refine (k_eff _).mono ?_); rintro e w1 ⟨rfl, rfl⟩; clear k_eff)
    | (go_at_call 51; (with_reducible refine (k_cap _).mono ?_); rintro e w1 ⟨rfl, rfl⟩; clear k_cap)
    | (go_at_call 51; (with_reducible refine (k_up _).mono ?_); rintro e w1 ⟨rfl, rfl⟩; clear k_up)
    | (go_at_call 51; (with_reducible refine (k_bias _).mono ?_); rintro e w1 ⟨rfl, rfl⟩; clear k_bias)
    | (go_at_call 51; (with_reducible refine (k_biasEm _).mono ?_); rintro e w1 ⟨rfl, rfl⟩; clear k_biasEm)
    | (go_at_call 51; (with_reducible refine (k_quot _).mono ?_); rintro e w1 ⟨rfl, rfl⟩; clear k_quot))
  go_ret
  exact ⟨rfl, (Below.refl _ _).alloc (Nat.le_refl _) _⟩

set_option maxRecDepth 100000 in
set_option maxHeartbeats 2000000 in
theorem right_no_quotEm (p : Par) (w : World) (h_inc : Hid (Par.okW (p.inc, 1, 2147483648) = true)) (h_eff : Hid (Par.okW (p.maxEff, p.inc, 1099511627776) = true)) (h_whole : p.maxEff % p.inc = 0) (h_floor : p.inc ≤ p.floor) (h_over : p.floor < p.cap) (h_cap : Hid (Par.okW (p.cap, p.maxEff, 1099511627776) = true)) (h_up : Hid (Par.okW (p.up, p.inc, 1099511627776) = true)) (h_down : p.down ≤ 1099511627776) (h_bias : Hid (Par.okW (p.bias, 1, 4294967296) = true)) (h_biasEm : Hid (Par.okW (p.biasEm, p.bias, 4294967296) = true)) (h_quot : Hid (Par.okW (p.quot, 1, 1099511627776) = true)) (h_quotEm : Hid (Par.okW (p.quotEm, 1, p.quot) = false)) :
    Calls Try.prog 19 #[.agg p.vals] w fun e w' => e = .returned (.bool false) ∧ Below w.heap.size w w' := by
  have inc0 : 1 ≤ p.inc := by have := (Par.okW_iff _).1 h_inc.out; exact this.1
  have k_inc := fun w => wide_is p.inc 1 2147483648 true w h_inc
  rw [show ((1 : Nat) : Int) = 1 from rfl, show ((2147483648 : Nat) : Int) = 2147483648 from rfl] at k_inc
  have k_eff := fun w => wide_is p.maxEff p.inc 1099511627776 true w h_eff
  rw [show ((1099511627776 : Nat) : Int) = 1099511627776 from rfl] at k_eff
  have d_whole : (((p.maxEff : Int) % (p.inc : Int)) != 0) = false := by simp; omega
  have d_whole2 : (p.maxEff : Int) % (p.inc : Int) = 0 := by omega
  have d_floor : decide (p.floor < p.inc) = false := by simp; omega
  have d_over : decide (p.cap ≤ p.floor) = false := by simp; omega
  have k_cap := fun w => wide_is p.cap p.maxEff 1099511627776 true w h_cap
  rw [show ((1099511627776 : Nat) : Int) = 1099511627776 from rfl] at k_cap
  have k_up := fun w => wide_is p.up p.inc 1099511627776 true w h_up
  rw [show ((1099511627776 : Nat) : Int) = 1099511627776 from rfl] at k_up
  have d_down : decide ((1099511627776 : Int) < (p.down : Int)) = false := by simp; omega
  have k_bias := fun w => wide_is p.bias 1 4294967296 true w h_bias
  rw [show ((1 : Nat) : Int) = 1 from rfl, show ((4294967296 : Nat) : Int) = 4294967296 from rfl] at k_bias
  have k_biasEm := fun w => wide_is p.biasEm p.bias 4294967296 true w h_biasEm
  rw [show ((4294967296 : Nat) : Int) = 4294967296 from rfl] at k_biasEm
  have k_quot := fun w => wide_is p.quot 1 1099511627776 true w h_quot
  rw [show ((1 : Nat) : Int) = 1 from rfl, show ((1099511627776 : Nat) : Int) = 1099511627776 from rfl] at k_quot
  have k_quotEm := fun w => wide_is p.quotEm 1 p.quot false w h_quotEm
  rw [show ((1 : Nat) : Int) = 1 from rfl] at k_quotEm
  have v0 : p.vals[0]? = some (.int .u64 (p.inc : Int)) := rfl
  have v1 : p.vals[1]? = some (.int .u64 (p.maxEff : Int)) := rfl
  have v2 : p.vals[2]? = some (.int .u64 (p.floor : Int)) := rfl
  have v3 : p.vals[3]? = some (.int .u64 (p.cap : Int)) := rfl
  have v4 : p.vals[4]? = some (.int .u64 (p.up : Int)) := rfl
  have v5 : p.vals[5]? = some (.int .u64 (p.down : Int)) := rfl
  have v6 : p.vals[6]? = some (.int .u64 (p.bias : Int)) := rfl
  have v7 : p.vals[7]? = some (.int .u64 (p.quot : Int)) := rfl
  have v8 : p.vals[8]? = some (.int .u64 (p.biasEm : Int)) := rfl
  have v9 : p.vals[9]? = some (.int .u64 (p.quotEm : Int)) := rfl
  have v10 : p.vals[10]? = some (.int .u64 (p.recover : Int)) := rfl
  have v11 : p.vals[11]? = some (.int .u64 (p.scoreCap : Int)) := rfl
  have v12 : p.vals[12]? = some (.int .u64 (p.rate : Int)) := rfl
  have v13 : p.vals[13]? = some (.int .u64 (p.bond : Int)) := rfl
  have v14 : p.vals[14]? = some (.int .i64 p.delay) := rfl
  have v15 : p.vals[15]? = some (.int .i64 p.streak) := rfl
  have v16 : p.vals[16]? = some (.int .i64 p.boost) := rfl
  have v17 : p.vals[17]? = some (.int .i64 p.absent) := rfl
  have v18 : p.vals[18]? = some (.int .i64 p.burn) := rfl
  have v19 : p.vals[19]? = some (.int .i64 p.churn) := rfl
  have v20 : p.vals[20]? = some (.int .i64 p.wait) := rfl
  have v21 : p.vals[21]? = some (.int .i64 p.poll) := rfl
  have v22 : p.vals[22]? = some (.int .i64 p.enact) := rfl
  have v23 : p.vals[23]? = some (.int .i64 p.quorum) := rfl
  clear h_inc h_eff h_whole h_floor h_over h_cap h_up h_down h_bias h_biasEm h_quot h_quotEm
  go_enter Try.func19, Try.ntmps19
  go_wp2_with (first
    | (go_at_call 51; (with_reducible refine (k_inc _).mono ?_); rintro e w1 ⟨rfl, rfl⟩; clear k_inc)
    | (go_at_call 51; (with_reducible refine (k_eff _).mono ?_); rintro e w1 ⟨rfl, rfl⟩; clear k_eff)
    | (go_at_call 51; (with_reducible refine (k_cap _).mono ?_); rintro e w1 ⟨rfl, rfl⟩; clear k_cap)
    | (go_at_call 51; (with_reducible refine (k_up _).mono ?_); rintro e w1 ⟨rfl, rfl⟩; clear k_up)
    | (go_at_call 51; (with_reducible refine (k_bias _).mono ?_); rintro e w1 ⟨rfl, rfl⟩; clear k_bias)
    | (go_at_call 51; (with_reducible refine (k_biasEm _).mono ?_); rintro e w1 ⟨rfl, rfl⟩; clear k_biasEm)
    | (go_at_call 51; (with_reducible refine (k_quot _).mono ?_); rintro e w1 ⟨rfl, rfl⟩; clear k_quot)
    | (go_at_call 51; (with_reducible refine (k_quotEm _).mono ?_); rintro e w1 ⟨rfl, rfl⟩; clear k_quotEm))
  go_ret
  exact ⟨rfl, (Below.refl _ _).alloc (Nat.le_refl _) _⟩

set_option maxRecDepth 100000 in
set_option maxHeartbeats 2000000 in
theorem right_no_recover (p : Par) (w : World) (h_inc : Hid (Par.okW (p.inc, 1, 2147483648) = true)) (h_eff : Hid (Par.okW (p.maxEff, p.inc, 1099511627776) = true)) (h_whole : p.maxEff % p.inc = 0) (h_floor : p.inc ≤ p.floor) (h_over : p.floor < p.cap) (h_cap : Hid (Par.okW (p.cap, p.maxEff, 1099511627776) = true)) (h_up : Hid (Par.okW (p.up, p.inc, 1099511627776) = true)) (h_down : p.down ≤ 1099511627776) (h_bias : Hid (Par.okW (p.bias, 1, 4294967296) = true)) (h_biasEm : Hid (Par.okW (p.biasEm, p.bias, 4294967296) = true)) (h_quot : Hid (Par.okW (p.quot, 1, 1099511627776) = true)) (h_quotEm : Hid (Par.okW (p.quotEm, 1, p.quot) = true)) (h_recover : ¬ (p.recover ≤ 4294967296)) :
    Calls Try.prog 19 #[.agg p.vals] w fun e w' => e = .returned (.bool false) ∧ Below w.heap.size w w' := by
  have inc0 : 1 ≤ p.inc := by have := (Par.okW_iff _).1 h_inc.out; exact this.1
  have k_inc := fun w => wide_is p.inc 1 2147483648 true w h_inc
  rw [show ((1 : Nat) : Int) = 1 from rfl, show ((2147483648 : Nat) : Int) = 2147483648 from rfl] at k_inc
  have k_eff := fun w => wide_is p.maxEff p.inc 1099511627776 true w h_eff
  rw [show ((1099511627776 : Nat) : Int) = 1099511627776 from rfl] at k_eff
  have d_whole : (((p.maxEff : Int) % (p.inc : Int)) != 0) = false := by simp; omega
  have d_whole2 : (p.maxEff : Int) % (p.inc : Int) = 0 := by omega
  have d_floor : decide (p.floor < p.inc) = false := by simp; omega
  have d_over : decide (p.cap ≤ p.floor) = false := by simp; omega
  have k_cap := fun w => wide_is p.cap p.maxEff 1099511627776 true w h_cap
  rw [show ((1099511627776 : Nat) : Int) = 1099511627776 from rfl] at k_cap
  have k_up := fun w => wide_is p.up p.inc 1099511627776 true w h_up
  rw [show ((1099511627776 : Nat) : Int) = 1099511627776 from rfl] at k_up
  have d_down : decide ((1099511627776 : Int) < (p.down : Int)) = false := by simp; omega
  have k_bias := fun w => wide_is p.bias 1 4294967296 true w h_bias
  rw [show ((1 : Nat) : Int) = 1 from rfl, show ((4294967296 : Nat) : Int) = 4294967296 from rfl] at k_bias
  have k_biasEm := fun w => wide_is p.biasEm p.bias 4294967296 true w h_biasEm
  rw [show ((4294967296 : Nat) : Int) = 4294967296 from rfl] at k_biasEm
  have k_quot := fun w => wide_is p.quot 1 1099511627776 true w h_quot
  rw [show ((1 : Nat) : Int) = 1 from rfl, show ((1099511627776 : Nat) : Int) = 1099511627776 from rfl] at k_quot
  have k_quotEm := fun w => wide_is p.quotEm 1 p.quot true w h_quotEm
  rw [show ((1 : Nat) : Int) = 1 from rfl] at k_quotEm
  have d_recover : decide ((4294967296 : Int) < (p.recover : Int)) = true := by simp; omega
  have v0 : p.vals[0]? = some (.int .u64 (p.inc : Int)) := rfl
  have v1 : p.vals[1]? = some (.int .u64 (p.maxEff : Int)) := rfl
  have v2 : p.vals[2]? = some (.int .u64 (p.floor : Int)) := rfl
  have v3 : p.vals[3]? = some (.int .u64 (p.cap : Int)) := rfl
  have v4 : p.vals[4]? = some (.int .u64 (p.up : Int)) := rfl
  have v5 : p.vals[5]? = some (.int .u64 (p.down : Int)) := rfl
  have v6 : p.vals[6]? = some (.int .u64 (p.bias : Int)) := rfl
  have v7 : p.vals[7]? = some (.int .u64 (p.quot : Int)) := rfl
  have v8 : p.vals[8]? = some (.int .u64 (p.biasEm : Int)) := rfl
  have v9 : p.vals[9]? = some (.int .u64 (p.quotEm : Int)) := rfl
  have v10 : p.vals[10]? = some (.int .u64 (p.recover : Int)) := rfl
  have v11 : p.vals[11]? = some (.int .u64 (p.scoreCap : Int)) := rfl
  have v12 : p.vals[12]? = some (.int .u64 (p.rate : Int)) := rfl
  have v13 : p.vals[13]? = some (.int .u64 (p.bond : Int)) := rfl
  have v14 : p.vals[14]? = some (.int .i64 p.delay) := rfl
  have v15 : p.vals[15]? = some (.int .i64 p.streak) := rfl
  have v16 : p.vals[16]? = some (.int .i64 p.boost) := rfl
  have v17 : p.vals[17]? = some (.int .i64 p.absent) := rfl
  have v18 : p.vals[18]? = some (.int .i64 p.burn) := rfl
  have v19 : p.vals[19]? = some (.int .i64 p.churn) := rfl
  have v20 : p.vals[20]? = some (.int .i64 p.wait) := rfl
  have v21 : p.vals[21]? = some (.int .i64 p.poll) := rfl
  have v22 : p.vals[22]? = some (.int .i64 p.enact) := rfl
  have v23 : p.vals[23]? = some (.int .i64 p.quorum) := rfl
  clear h_inc h_eff h_whole h_floor h_over h_cap h_up h_down h_bias h_biasEm h_quot h_quotEm h_recover
  go_enter Try.func19, Try.ntmps19
  go_wp2_with (first
    | (go_at_call 51; (with_reducible refine (k_inc _).mono ?_); rintro e w1 ⟨rfl, rfl⟩; clear k_inc)
    | (go_at_call 51; (with_reducible refine (k_eff _).mono ?_); rintro e w1 ⟨rfl, rfl⟩; clear k_eff)
    | (go_at_call 51; (with_reducible refine (k_cap _).mono ?_); rintro e w1 ⟨rfl, rfl⟩; clear k_cap)
    | (go_at_call 51; (with_reducible refine (k_up _).mono ?_); rintro e w1 ⟨rfl, rfl⟩; clear k_up)
    | (go_at_call 51; (with_reducible refine (k_bias _).mono ?_); rintro e w1 ⟨rfl, rfl⟩; clear k_bias)
    | (go_at_call 51; (with_reducible refine (k_biasEm _).mono ?_); rintro e w1 ⟨rfl, rfl⟩; clear k_biasEm)
    | (go_at_call 51; (with_reducible refine (k_quot _).mono ?_); rintro e w1 ⟨rfl, rfl⟩; clear k_quot)
    | (go_at_call 51; (with_reducible refine (k_quotEm _).mono ?_); rintro e w1 ⟨rfl, rfl⟩; clear k_quotEm))
  go_ret
  exact ⟨rfl, (Below.refl _ _).alloc (Nat.le_refl _) _⟩

set_option maxRecDepth 100000 in
set_option maxHeartbeats 2000000 in
theorem right_no_score (p : Par) (w : World) (h_inc : Hid (Par.okW (p.inc, 1, 2147483648) = true)) (h_eff : Hid (Par.okW (p.maxEff, p.inc, 1099511627776) = true)) (h_whole : p.maxEff % p.inc = 0) (h_floor : p.inc ≤ p.floor) (h_over : p.floor < p.cap) (h_cap : Hid (Par.okW (p.cap, p.maxEff, 1099511627776) = true)) (h_up : Hid (Par.okW (p.up, p.inc, 1099511627776) = true)) (h_down : p.down ≤ 1099511627776) (h_bias : Hid (Par.okW (p.bias, 1, 4294967296) = true)) (h_biasEm : Hid (Par.okW (p.biasEm, p.bias, 4294967296) = true)) (h_quot : Hid (Par.okW (p.quot, 1, 1099511627776) = true)) (h_quotEm : Hid (Par.okW (p.quotEm, 1, p.quot) = true)) (h_recover : p.recover ≤ 4294967296) (h_score : Hid (Par.okW (p.scoreCap, 1, 72057594037927936) = false)) :
    Calls Try.prog 19 #[.agg p.vals] w fun e w' => e = .returned (.bool false) ∧ Below w.heap.size w w' := by
  have inc0 : 1 ≤ p.inc := by have := (Par.okW_iff _).1 h_inc.out; exact this.1
  have k_inc := fun w => wide_is p.inc 1 2147483648 true w h_inc
  rw [show ((1 : Nat) : Int) = 1 from rfl, show ((2147483648 : Nat) : Int) = 2147483648 from rfl] at k_inc
  have k_eff := fun w => wide_is p.maxEff p.inc 1099511627776 true w h_eff
  rw [show ((1099511627776 : Nat) : Int) = 1099511627776 from rfl] at k_eff
  have d_whole : (((p.maxEff : Int) % (p.inc : Int)) != 0) = false := by simp; omega
  have d_whole2 : (p.maxEff : Int) % (p.inc : Int) = 0 := by omega
  have d_floor : decide (p.floor < p.inc) = false := by simp; omega
  have d_over : decide (p.cap ≤ p.floor) = false := by simp; omega
  have k_cap := fun w => wide_is p.cap p.maxEff 1099511627776 true w h_cap
  rw [show ((1099511627776 : Nat) : Int) = 1099511627776 from rfl] at k_cap
  have k_up := fun w => wide_is p.up p.inc 1099511627776 true w h_up
  rw [show ((1099511627776 : Nat) : Int) = 1099511627776 from rfl] at k_up
  have d_down : decide ((1099511627776 : Int) < (p.down : Int)) = false := by simp; omega
  have k_bias := fun w => wide_is p.bias 1 4294967296 true w h_bias
  rw [show ((1 : Nat) : Int) = 1 from rfl, show ((4294967296 : Nat) : Int) = 4294967296 from rfl] at k_bias
  have k_biasEm := fun w => wide_is p.biasEm p.bias 4294967296 true w h_biasEm
  rw [show ((4294967296 : Nat) : Int) = 4294967296 from rfl] at k_biasEm
  have k_quot := fun w => wide_is p.quot 1 1099511627776 true w h_quot
  rw [show ((1 : Nat) : Int) = 1 from rfl, show ((1099511627776 : Nat) : Int) = 1099511627776 from rfl] at k_quot
  have k_quotEm := fun w => wide_is p.quotEm 1 p.quot true w h_quotEm
  rw [show ((1 : Nat) : Int) = 1 from rfl] at k_quotEm
  have d_recover : decide ((4294967296 : Int) < (p.recover : Int)) = false := by simp; omega
  have k_score := fun w => wide_is p.scoreCap 1 72057594037927936 false w h_score
  rw [show ((1 : Nat) : Int) = 1 from rfl, show ((72057594037927936 : Nat) : Int) = 72057594037927936 from rfl] at k_score
  have v0 : p.vals[0]? = some (.int .u64 (p.inc : Int)) := rfl
  have v1 : p.vals[1]? = some (.int .u64 (p.maxEff : Int)) := rfl
  have v2 : p.vals[2]? = some (.int .u64 (p.floor : Int)) := rfl
  have v3 : p.vals[3]? = some (.int .u64 (p.cap : Int)) := rfl
  have v4 : p.vals[4]? = some (.int .u64 (p.up : Int)) := rfl
  have v5 : p.vals[5]? = some (.int .u64 (p.down : Int)) := rfl
  have v6 : p.vals[6]? = some (.int .u64 (p.bias : Int)) := rfl
  have v7 : p.vals[7]? = some (.int .u64 (p.quot : Int)) := rfl
  have v8 : p.vals[8]? = some (.int .u64 (p.biasEm : Int)) := rfl
  have v9 : p.vals[9]? = some (.int .u64 (p.quotEm : Int)) := rfl
  have v10 : p.vals[10]? = some (.int .u64 (p.recover : Int)) := rfl
  have v11 : p.vals[11]? = some (.int .u64 (p.scoreCap : Int)) := rfl
  have v12 : p.vals[12]? = some (.int .u64 (p.rate : Int)) := rfl
  have v13 : p.vals[13]? = some (.int .u64 (p.bond : Int)) := rfl
  have v14 : p.vals[14]? = some (.int .i64 p.delay) := rfl
  have v15 : p.vals[15]? = some (.int .i64 p.streak) := rfl
  have v16 : p.vals[16]? = some (.int .i64 p.boost) := rfl
  have v17 : p.vals[17]? = some (.int .i64 p.absent) := rfl
  have v18 : p.vals[18]? = some (.int .i64 p.burn) := rfl
  have v19 : p.vals[19]? = some (.int .i64 p.churn) := rfl
  have v20 : p.vals[20]? = some (.int .i64 p.wait) := rfl
  have v21 : p.vals[21]? = some (.int .i64 p.poll) := rfl
  have v22 : p.vals[22]? = some (.int .i64 p.enact) := rfl
  have v23 : p.vals[23]? = some (.int .i64 p.quorum) := rfl
  clear h_inc h_eff h_whole h_floor h_over h_cap h_up h_down h_bias h_biasEm h_quot h_quotEm h_recover h_score
  go_enter Try.func19, Try.ntmps19
  go_wp2_with (first
    | (go_at_call 51; (with_reducible refine (k_inc _).mono ?_); rintro e w1 ⟨rfl, rfl⟩; clear k_inc)
    | (go_at_call 51; (with_reducible refine (k_eff _).mono ?_); rintro e w1 ⟨rfl, rfl⟩; clear k_eff)
    | (go_at_call 51; (with_reducible refine (k_cap _).mono ?_); rintro e w1 ⟨rfl, rfl⟩; clear k_cap)
    | (go_at_call 51; (with_reducible refine (k_up _).mono ?_); rintro e w1 ⟨rfl, rfl⟩; clear k_up)
    | (go_at_call 51; (with_reducible refine (k_bias _).mono ?_); rintro e w1 ⟨rfl, rfl⟩; clear k_bias)
    | (go_at_call 51; (with_reducible refine (k_biasEm _).mono ?_); rintro e w1 ⟨rfl, rfl⟩; clear k_biasEm)
    | (go_at_call 51; (with_reducible refine (k_quot _).mono ?_); rintro e w1 ⟨rfl, rfl⟩; clear k_quot)
    | (go_at_call 51; (with_reducible refine (k_quotEm _).mono ?_); rintro e w1 ⟨rfl, rfl⟩; clear k_quotEm)
    | (go_at_call 51; (with_reducible refine (k_score _).mono ?_); rintro e w1 ⟨rfl, rfl⟩; clear k_score))
  go_ret
  exact ⟨rfl, (Below.refl _ _).alloc (Nat.le_refl _) _⟩

set_option maxRecDepth 100000 in
set_option maxHeartbeats 2000000 in
theorem right_no_rate (p : Par) (w : World) (h_inc : Hid (Par.okW (p.inc, 1, 2147483648) = true)) (h_eff : Hid (Par.okW (p.maxEff, p.inc, 1099511627776) = true)) (h_whole : p.maxEff % p.inc = 0) (h_floor : p.inc ≤ p.floor) (h_over : p.floor < p.cap) (h_cap : Hid (Par.okW (p.cap, p.maxEff, 1099511627776) = true)) (h_up : Hid (Par.okW (p.up, p.inc, 1099511627776) = true)) (h_down : p.down ≤ 1099511627776) (h_bias : Hid (Par.okW (p.bias, 1, 4294967296) = true)) (h_biasEm : Hid (Par.okW (p.biasEm, p.bias, 4294967296) = true)) (h_quot : Hid (Par.okW (p.quot, 1, 1099511627776) = true)) (h_quotEm : Hid (Par.okW (p.quotEm, 1, p.quot) = true)) (h_recover : p.recover ≤ 4294967296) (h_score : Hid (Par.okW (p.scoreCap, 1, 72057594037927936) = true)) (h_rate : ¬ (p.rate ≤ 4294967296)) :
    Calls Try.prog 19 #[.agg p.vals] w fun e w' => e = .returned (.bool false) ∧ Below w.heap.size w w' := by
  have inc0 : 1 ≤ p.inc := by have := (Par.okW_iff _).1 h_inc.out; exact this.1
  have k_inc := fun w => wide_is p.inc 1 2147483648 true w h_inc
  rw [show ((1 : Nat) : Int) = 1 from rfl, show ((2147483648 : Nat) : Int) = 2147483648 from rfl] at k_inc
  have k_eff := fun w => wide_is p.maxEff p.inc 1099511627776 true w h_eff
  rw [show ((1099511627776 : Nat) : Int) = 1099511627776 from rfl] at k_eff
  have d_whole : (((p.maxEff : Int) % (p.inc : Int)) != 0) = false := by simp; omega
  have d_whole2 : (p.maxEff : Int) % (p.inc : Int) = 0 := by omega
  have d_floor : decide (p.floor < p.inc) = false := by simp; omega
  have d_over : decide (p.cap ≤ p.floor) = false := by simp; omega
  have k_cap := fun w => wide_is p.cap p.maxEff 1099511627776 true w h_cap
  rw [show ((1099511627776 : Nat) : Int) = 1099511627776 from rfl] at k_cap
  have k_up := fun w => wide_is p.up p.inc 1099511627776 true w h_up
  rw [show ((1099511627776 : Nat) : Int) = 1099511627776 from rfl] at k_up
  have d_down : decide ((1099511627776 : Int) < (p.down : Int)) = false := by simp; omega
  have k_bias := fun w => wide_is p.bias 1 4294967296 true w h_bias
  rw [show ((1 : Nat) : Int) = 1 from rfl, show ((4294967296 : Nat) : Int) = 4294967296 from rfl] at k_bias
  have k_biasEm := fun w => wide_is p.biasEm p.bias 4294967296 true w h_biasEm
  rw [show ((4294967296 : Nat) : Int) = 4294967296 from rfl] at k_biasEm
  have k_quot := fun w => wide_is p.quot 1 1099511627776 true w h_quot
  rw [show ((1 : Nat) : Int) = 1 from rfl, show ((1099511627776 : Nat) : Int) = 1099511627776 from rfl] at k_quot
  have k_quotEm := fun w => wide_is p.quotEm 1 p.quot true w h_quotEm
  rw [show ((1 : Nat) : Int) = 1 from rfl] at k_quotEm
  have d_recover : decide ((4294967296 : Int) < (p.recover : Int)) = false := by simp; omega
  have k_score := fun w => wide_is p.scoreCap 1 72057594037927936 true w h_score
  rw [show ((1 : Nat) : Int) = 1 from rfl, show ((72057594037927936 : Nat) : Int) = 72057594037927936 from rfl] at k_score
  have d_rate : decide ((4294967296 : Int) < (p.rate : Int)) = true := by simp; omega
  have v0 : p.vals[0]? = some (.int .u64 (p.inc : Int)) := rfl
  have v1 : p.vals[1]? = some (.int .u64 (p.maxEff : Int)) := rfl
  have v2 : p.vals[2]? = some (.int .u64 (p.floor : Int)) := rfl
  have v3 : p.vals[3]? = some (.int .u64 (p.cap : Int)) := rfl
  have v4 : p.vals[4]? = some (.int .u64 (p.up : Int)) := rfl
  have v5 : p.vals[5]? = some (.int .u64 (p.down : Int)) := rfl
  have v6 : p.vals[6]? = some (.int .u64 (p.bias : Int)) := rfl
  have v7 : p.vals[7]? = some (.int .u64 (p.quot : Int)) := rfl
  have v8 : p.vals[8]? = some (.int .u64 (p.biasEm : Int)) := rfl
  have v9 : p.vals[9]? = some (.int .u64 (p.quotEm : Int)) := rfl
  have v10 : p.vals[10]? = some (.int .u64 (p.recover : Int)) := rfl
  have v11 : p.vals[11]? = some (.int .u64 (p.scoreCap : Int)) := rfl
  have v12 : p.vals[12]? = some (.int .u64 (p.rate : Int)) := rfl
  have v13 : p.vals[13]? = some (.int .u64 (p.bond : Int)) := rfl
  have v14 : p.vals[14]? = some (.int .i64 p.delay) := rfl
  have v15 : p.vals[15]? = some (.int .i64 p.streak) := rfl
  have v16 : p.vals[16]? = some (.int .i64 p.boost) := rfl
  have v17 : p.vals[17]? = some (.int .i64 p.absent) := rfl
  have v18 : p.vals[18]? = some (.int .i64 p.burn) := rfl
  have v19 : p.vals[19]? = some (.int .i64 p.churn) := rfl
  have v20 : p.vals[20]? = some (.int .i64 p.wait) := rfl
  have v21 : p.vals[21]? = some (.int .i64 p.poll) := rfl
  have v22 : p.vals[22]? = some (.int .i64 p.enact) := rfl
  have v23 : p.vals[23]? = some (.int .i64 p.quorum) := rfl
  clear h_inc h_eff h_whole h_floor h_over h_cap h_up h_down h_bias h_biasEm h_quot h_quotEm h_recover h_score h_rate
  go_enter Try.func19, Try.ntmps19
  go_wp2_with (first
    | (go_at_call 51; (with_reducible refine (k_inc _).mono ?_); rintro e w1 ⟨rfl, rfl⟩; clear k_inc)
    | (go_at_call 51; (with_reducible refine (k_eff _).mono ?_); rintro e w1 ⟨rfl, rfl⟩; clear k_eff)
    | (go_at_call 51; (with_reducible refine (k_cap _).mono ?_); rintro e w1 ⟨rfl, rfl⟩; clear k_cap)
    | (go_at_call 51; (with_reducible refine (k_up _).mono ?_); rintro e w1 ⟨rfl, rfl⟩; clear k_up)
    | (go_at_call 51; (with_reducible refine (k_bias _).mono ?_); rintro e w1 ⟨rfl, rfl⟩; clear k_bias)
    | (go_at_call 51; (with_reducible refine (k_biasEm _).mono ?_); rintro e w1 ⟨rfl, rfl⟩; clear k_biasEm)
    | (go_at_call 51; (with_reducible refine (k_quot _).mono ?_); rintro e w1 ⟨rfl, rfl⟩; clear k_quot)
    | (go_at_call 51; (with_reducible refine (k_quotEm _).mono ?_); rintro e w1 ⟨rfl, rfl⟩; clear k_quotEm)
    | (go_at_call 51; (with_reducible refine (k_score _).mono ?_); rintro e w1 ⟨rfl, rfl⟩; clear k_score))
  go_ret
  exact ⟨rfl, (Below.refl _ _).alloc (Nat.le_refl _) _⟩

set_option maxRecDepth 100000 in
set_option maxHeartbeats 2000000 in
theorem right_no_bond (p : Par) (w : World) (h_inc : Hid (Par.okW (p.inc, 1, 2147483648) = true)) (h_eff : Hid (Par.okW (p.maxEff, p.inc, 1099511627776) = true)) (h_whole : p.maxEff % p.inc = 0) (h_floor : p.inc ≤ p.floor) (h_over : p.floor < p.cap) (h_cap : Hid (Par.okW (p.cap, p.maxEff, 1099511627776) = true)) (h_up : Hid (Par.okW (p.up, p.inc, 1099511627776) = true)) (h_down : p.down ≤ 1099511627776) (h_bias : Hid (Par.okW (p.bias, 1, 4294967296) = true)) (h_biasEm : Hid (Par.okW (p.biasEm, p.bias, 4294967296) = true)) (h_quot : Hid (Par.okW (p.quot, 1, 1099511627776) = true)) (h_quotEm : Hid (Par.okW (p.quotEm, 1, p.quot) = true)) (h_recover : p.recover ≤ 4294967296) (h_score : Hid (Par.okW (p.scoreCap, 1, 72057594037927936) = true)) (h_rate : p.rate ≤ 4294967296) (h_bond : ¬ (p.bond ≤ 1099511627776)) :
    Calls Try.prog 19 #[.agg p.vals] w fun e w' => e = .returned (.bool false) ∧ Below w.heap.size w w' := by
  have inc0 : 1 ≤ p.inc := by have := (Par.okW_iff _).1 h_inc.out; exact this.1
  have k_inc := fun w => wide_is p.inc 1 2147483648 true w h_inc
  rw [show ((1 : Nat) : Int) = 1 from rfl, show ((2147483648 : Nat) : Int) = 2147483648 from rfl] at k_inc
  have k_eff := fun w => wide_is p.maxEff p.inc 1099511627776 true w h_eff
  rw [show ((1099511627776 : Nat) : Int) = 1099511627776 from rfl] at k_eff
  have d_whole : (((p.maxEff : Int) % (p.inc : Int)) != 0) = false := by simp; omega
  have d_whole2 : (p.maxEff : Int) % (p.inc : Int) = 0 := by omega
  have d_floor : decide (p.floor < p.inc) = false := by simp; omega
  have d_over : decide (p.cap ≤ p.floor) = false := by simp; omega
  have k_cap := fun w => wide_is p.cap p.maxEff 1099511627776 true w h_cap
  rw [show ((1099511627776 : Nat) : Int) = 1099511627776 from rfl] at k_cap
  have k_up := fun w => wide_is p.up p.inc 1099511627776 true w h_up
  rw [show ((1099511627776 : Nat) : Int) = 1099511627776 from rfl] at k_up
  have d_down : decide ((1099511627776 : Int) < (p.down : Int)) = false := by simp; omega
  have k_bias := fun w => wide_is p.bias 1 4294967296 true w h_bias
  rw [show ((1 : Nat) : Int) = 1 from rfl, show ((4294967296 : Nat) : Int) = 4294967296 from rfl] at k_bias
  have k_biasEm := fun w => wide_is p.biasEm p.bias 4294967296 true w h_biasEm
  rw [show ((4294967296 : Nat) : Int) = 4294967296 from rfl] at k_biasEm
  have k_quot := fun w => wide_is p.quot 1 1099511627776 true w h_quot
  rw [show ((1 : Nat) : Int) = 1 from rfl, show ((1099511627776 : Nat) : Int) = 1099511627776 from rfl] at k_quot
  have k_quotEm := fun w => wide_is p.quotEm 1 p.quot true w h_quotEm
  rw [show ((1 : Nat) : Int) = 1 from rfl] at k_quotEm
  have d_recover : decide ((4294967296 : Int) < (p.recover : Int)) = false := by simp; omega
  have k_score := fun w => wide_is p.scoreCap 1 72057594037927936 true w h_score
  rw [show ((1 : Nat) : Int) = 1 from rfl, show ((72057594037927936 : Nat) : Int) = 72057594037927936 from rfl] at k_score
  have d_rate : decide ((4294967296 : Int) < (p.rate : Int)) = false := by simp; omega
  have d_bond : decide ((1099511627776 : Int) < (p.bond : Int)) = true := by simp; omega
  have v0 : p.vals[0]? = some (.int .u64 (p.inc : Int)) := rfl
  have v1 : p.vals[1]? = some (.int .u64 (p.maxEff : Int)) := rfl
  have v2 : p.vals[2]? = some (.int .u64 (p.floor : Int)) := rfl
  have v3 : p.vals[3]? = some (.int .u64 (p.cap : Int)) := rfl
  have v4 : p.vals[4]? = some (.int .u64 (p.up : Int)) := rfl
  have v5 : p.vals[5]? = some (.int .u64 (p.down : Int)) := rfl
  have v6 : p.vals[6]? = some (.int .u64 (p.bias : Int)) := rfl
  have v7 : p.vals[7]? = some (.int .u64 (p.quot : Int)) := rfl
  have v8 : p.vals[8]? = some (.int .u64 (p.biasEm : Int)) := rfl
  have v9 : p.vals[9]? = some (.int .u64 (p.quotEm : Int)) := rfl
  have v10 : p.vals[10]? = some (.int .u64 (p.recover : Int)) := rfl
  have v11 : p.vals[11]? = some (.int .u64 (p.scoreCap : Int)) := rfl
  have v12 : p.vals[12]? = some (.int .u64 (p.rate : Int)) := rfl
  have v13 : p.vals[13]? = some (.int .u64 (p.bond : Int)) := rfl
  have v14 : p.vals[14]? = some (.int .i64 p.delay) := rfl
  have v15 : p.vals[15]? = some (.int .i64 p.streak) := rfl
  have v16 : p.vals[16]? = some (.int .i64 p.boost) := rfl
  have v17 : p.vals[17]? = some (.int .i64 p.absent) := rfl
  have v18 : p.vals[18]? = some (.int .i64 p.burn) := rfl
  have v19 : p.vals[19]? = some (.int .i64 p.churn) := rfl
  have v20 : p.vals[20]? = some (.int .i64 p.wait) := rfl
  have v21 : p.vals[21]? = some (.int .i64 p.poll) := rfl
  have v22 : p.vals[22]? = some (.int .i64 p.enact) := rfl
  have v23 : p.vals[23]? = some (.int .i64 p.quorum) := rfl
  clear h_inc h_eff h_whole h_floor h_over h_cap h_up h_down h_bias h_biasEm h_quot h_quotEm h_recover h_score h_rate h_bond
  go_enter Try.func19, Try.ntmps19
  go_wp2_with (first
    | (go_at_call 51; (with_reducible refine (k_inc _).mono ?_); rintro e w1 ⟨rfl, rfl⟩; clear k_inc)
    | (go_at_call 51; (with_reducible refine (k_eff _).mono ?_); rintro e w1 ⟨rfl, rfl⟩; clear k_eff)
    | (go_at_call 51; (with_reducible refine (k_cap _).mono ?_); rintro e w1 ⟨rfl, rfl⟩; clear k_cap)
    | (go_at_call 51; (with_reducible refine (k_up _).mono ?_); rintro e w1 ⟨rfl, rfl⟩; clear k_up)
    | (go_at_call 51; (with_reducible refine (k_bias _).mono ?_); rintro e w1 ⟨rfl, rfl⟩; clear k_bias)
    | (go_at_call 51; (with_reducible refine (k_biasEm _).mono ?_); rintro e w1 ⟨rfl, rfl⟩; clear k_biasEm)
    | (go_at_call 51; (with_reducible refine (k_quot _).mono ?_); rintro e w1 ⟨rfl, rfl⟩; clear k_quot)
    | (go_at_call 51; (with_reducible refine (k_quotEm _).mono ?_); rintro e w1 ⟨rfl, rfl⟩; clear k_quotEm)
    | (go_at_call 51; (with_reducible refine (k_score _).mono ?_); rintro e w1 ⟨rfl, rfl⟩; clear k_score))
  go_ret
  exact ⟨rfl, (Below.refl _ _).alloc (Nat.le_refl _) _⟩

set_option maxRecDepth 100000 in
set_option maxHeartbeats 2000000 in
theorem right_no_delay (p : Par) (w : World) (h_inc : Hid (Par.okW (p.inc, 1, 2147483648) = true)) (h_eff : Hid (Par.okW (p.maxEff, p.inc, 1099511627776) = true)) (h_whole : p.maxEff % p.inc = 0) (h_floor : p.inc ≤ p.floor) (h_over : p.floor < p.cap) (h_cap : Hid (Par.okW (p.cap, p.maxEff, 1099511627776) = true)) (h_up : Hid (Par.okW (p.up, p.inc, 1099511627776) = true)) (h_down : p.down ≤ 1099511627776) (h_bias : Hid (Par.okW (p.bias, 1, 4294967296) = true)) (h_biasEm : Hid (Par.okW (p.biasEm, p.bias, 4294967296) = true)) (h_quot : Hid (Par.okW (p.quot, 1, 1099511627776) = true)) (h_quotEm : Hid (Par.okW (p.quotEm, 1, p.quot) = true)) (h_recover : p.recover ≤ 4294967296) (h_score : Hid (Par.okW (p.scoreCap, 1, 72057594037927936) = true)) (h_rate : p.rate ≤ 4294967296) (h_bond : p.bond ≤ 1099511627776) (h_delay : Hid (Par.okI (p.delay, 0, 1000) = false)) :
    Calls Try.prog 19 #[.agg p.vals] w fun e w' => e = .returned (.bool false) ∧ Below w.heap.size w w' := by
  have inc0 : 1 ≤ p.inc := by have := (Par.okW_iff _).1 h_inc.out; exact this.1
  have k_inc := fun w => wide_is p.inc 1 2147483648 true w h_inc
  rw [show ((1 : Nat) : Int) = 1 from rfl, show ((2147483648 : Nat) : Int) = 2147483648 from rfl] at k_inc
  have k_eff := fun w => wide_is p.maxEff p.inc 1099511627776 true w h_eff
  rw [show ((1099511627776 : Nat) : Int) = 1099511627776 from rfl] at k_eff
  have d_whole : (((p.maxEff : Int) % (p.inc : Int)) != 0) = false := by simp; omega
  have d_whole2 : (p.maxEff : Int) % (p.inc : Int) = 0 := by omega
  have d_floor : decide (p.floor < p.inc) = false := by simp; omega
  have d_over : decide (p.cap ≤ p.floor) = false := by simp; omega
  have k_cap := fun w => wide_is p.cap p.maxEff 1099511627776 true w h_cap
  rw [show ((1099511627776 : Nat) : Int) = 1099511627776 from rfl] at k_cap
  have k_up := fun w => wide_is p.up p.inc 1099511627776 true w h_up
  rw [show ((1099511627776 : Nat) : Int) = 1099511627776 from rfl] at k_up
  have d_down : decide ((1099511627776 : Int) < (p.down : Int)) = false := by simp; omega
  have k_bias := fun w => wide_is p.bias 1 4294967296 true w h_bias
  rw [show ((1 : Nat) : Int) = 1 from rfl, show ((4294967296 : Nat) : Int) = 4294967296 from rfl] at k_bias
  have k_biasEm := fun w => wide_is p.biasEm p.bias 4294967296 true w h_biasEm
  rw [show ((4294967296 : Nat) : Int) = 4294967296 from rfl] at k_biasEm
  have k_quot := fun w => wide_is p.quot 1 1099511627776 true w h_quot
  rw [show ((1 : Nat) : Int) = 1 from rfl, show ((1099511627776 : Nat) : Int) = 1099511627776 from rfl] at k_quot
  have k_quotEm := fun w => wide_is p.quotEm 1 p.quot true w h_quotEm
  rw [show ((1 : Nat) : Int) = 1 from rfl] at k_quotEm
  have d_recover : decide ((4294967296 : Int) < (p.recover : Int)) = false := by simp; omega
  have k_score := fun w => wide_is p.scoreCap 1 72057594037927936 true w h_score
  rw [show ((1 : Nat) : Int) = 1 from rfl, show ((72057594037927936 : Nat) : Int) = 72057594037927936 from rfl] at k_score
  have d_rate : decide ((4294967296 : Int) < (p.rate : Int)) = false := by simp; omega
  have d_bond : decide ((1099511627776 : Int) < (p.bond : Int)) = false := by simp; omega
  have k_delay := fun w => in_is p.delay 0 1000 false w h_delay
  have v0 : p.vals[0]? = some (.int .u64 (p.inc : Int)) := rfl
  have v1 : p.vals[1]? = some (.int .u64 (p.maxEff : Int)) := rfl
  have v2 : p.vals[2]? = some (.int .u64 (p.floor : Int)) := rfl
  have v3 : p.vals[3]? = some (.int .u64 (p.cap : Int)) := rfl
  have v4 : p.vals[4]? = some (.int .u64 (p.up : Int)) := rfl
  have v5 : p.vals[5]? = some (.int .u64 (p.down : Int)) := rfl
  have v6 : p.vals[6]? = some (.int .u64 (p.bias : Int)) := rfl
  have v7 : p.vals[7]? = some (.int .u64 (p.quot : Int)) := rfl
  have v8 : p.vals[8]? = some (.int .u64 (p.biasEm : Int)) := rfl
  have v9 : p.vals[9]? = some (.int .u64 (p.quotEm : Int)) := rfl
  have v10 : p.vals[10]? = some (.int .u64 (p.recover : Int)) := rfl
  have v11 : p.vals[11]? = some (.int .u64 (p.scoreCap : Int)) := rfl
  have v12 : p.vals[12]? = some (.int .u64 (p.rate : Int)) := rfl
  have v13 : p.vals[13]? = some (.int .u64 (p.bond : Int)) := rfl
  have v14 : p.vals[14]? = some (.int .i64 p.delay) := rfl
  have v15 : p.vals[15]? = some (.int .i64 p.streak) := rfl
  have v16 : p.vals[16]? = some (.int .i64 p.boost) := rfl
  have v17 : p.vals[17]? = some (.int .i64 p.absent) := rfl
  have v18 : p.vals[18]? = some (.int .i64 p.burn) := rfl
  have v19 : p.vals[19]? = some (.int .i64 p.churn) := rfl
  have v20 : p.vals[20]? = some (.int .i64 p.wait) := rfl
  have v21 : p.vals[21]? = some (.int .i64 p.poll) := rfl
  have v22 : p.vals[22]? = some (.int .i64 p.enact) := rfl
  have v23 : p.vals[23]? = some (.int .i64 p.quorum) := rfl
  clear h_inc h_eff h_whole h_floor h_over h_cap h_up h_down h_bias h_biasEm h_quot h_quotEm h_recover h_score h_rate h_bond h_delay
  go_enter Try.func19, Try.ntmps19
  go_wp2_with (first
    | (go_at_call 51; (with_reducible refine (k_inc _).mono ?_); rintro e w1 ⟨rfl, rfl⟩; clear k_inc)
    | (go_at_call 51; (with_reducible refine (k_eff _).mono ?_); rintro e w1 ⟨rfl, rfl⟩; clear k_eff)
    | (go_at_call 51; (with_reducible refine (k_cap _).mono ?_); rintro e w1 ⟨rfl, rfl⟩; clear k_cap)
    | (go_at_call 51; (with_reducible refine (k_up _).mono ?_); rintro e w1 ⟨rfl, rfl⟩; clear k_up)
    | (go_at_call 51; (with_reducible refine (k_bias _).mono ?_); rintro e w1 ⟨rfl, rfl⟩; clear k_bias)
    | (go_at_call 51; (with_reducible refine (k_biasEm _).mono ?_); rintro e w1 ⟨rfl, rfl⟩; clear k_biasEm)
    | (go_at_call 51; (with_reducible refine (k_quot _).mono ?_); rintro e w1 ⟨rfl, rfl⟩; clear k_quot)
    | (go_at_call 51; (with_reducible refine (k_quotEm _).mono ?_); rintro e w1 ⟨rfl, rfl⟩; clear k_quotEm)
    | (go_at_call 51; (with_reducible refine (k_score _).mono ?_); rintro e w1 ⟨rfl, rfl⟩; clear k_score)
    | (go_at_call 52; (with_reducible refine (k_delay _).mono ?_); rintro e w1 ⟨rfl, rfl⟩; clear k_delay))
  go_ret
  exact ⟨rfl, (Below.refl _ _).alloc (Nat.le_refl _) _⟩
end Go.Proofs.Ytcaejanfhchacaa
namespace Go.Proofs.Ytcaejanfhchacaa
open Go.RowKit
set_option linter.unusedVariables false

set_option maxRecDepth 100000 in
set_option maxHeartbeats 2000000 in
theorem right_no_wait (p : Par) (w : World) (h_inc : Hid (Par.okW (p.inc, 1, 2147483648) = true)) (h_eff : Hid (Par.okW (p.maxEff, p.inc, 1099511627776) = true)) (h_whole : p.maxEff % p.inc = 0) (h_floor : p.inc ≤ p.floor) (h_over : p.floor < p.cap) (h_cap : Hid (Par.okW (p.cap, p.maxEff, 1099511627776) = true)) (h_up : Hid (Par.okW (p.up, p.inc, 1099511627776) = true)) (h_down : p.down ≤ 1099511627776) (h_bias : Hid (Par.okW (p.bias, 1, 4294967296) = true)) (h_biasEm : Hid (Par.okW (p.biasEm, p.bias, 4294967296) = true)) (h_quot : Hid (Par.okW (p.quot, 1, 1099511627776) = true)) (h_quotEm : Hid (Par.okW (p.quotEm, 1, p.quot) = true)) (h_recover : p.recover ≤ 4294967296) (h_score : Hid (Par.okW (p.scoreCap, 1, 72057594037927936) = true)) (h_rate : p.rate ≤ 4294967296) (h_bond : p.bond ≤ 1099511627776) (h_delay : Hid (Par.okI (p.delay, 0, 1000) = true)) (h_wait : Hid (Par.okI (p.wait, 0, 50) = false)) :
    Calls Try.prog 19 #[.agg p.vals] w fun e w' => e = .returned (.bool false) ∧ Below w.heap.size w w' := by
  have inc0 : 1 ≤ p.inc := by have := (Par.okW_iff _).1 h_inc.out; exact this.1
  have k_inc := fun w => wide_is p.inc 1 2147483648 true w h_inc
  rw [show ((1 : Nat) : Int) = 1 from rfl, show ((2147483648 : Nat) : Int) = 2147483648 from rfl] at k_inc
  have k_eff := fun w => wide_is p.maxEff p.inc 1099511627776 true w h_eff
  rw [show ((1099511627776 : Nat) : Int) = 1099511627776 from rfl] at k_eff
  have d_whole : (((p.maxEff : Int) % (p.inc : Int)) != 0) = false := by simp; omega
  have d_whole2 : (p.maxEff : Int) % (p.inc : Int) = 0 := by omega
  have d_floor : decide (p.floor < p.inc) = false := by simp; omega
  have d_over : decide (p.cap ≤ p.floor) = false := by simp; omega
  have k_cap := fun w => wide_is p.cap p.maxEff 1099511627776 true w h_cap
  rw [show ((1099511627776 : Nat) : Int) = 1099511627776 from rfl] at k_cap
  have k_up := fun w => wide_is p.up p.inc 1099511627776 true w h_up
  rw [show ((1099511627776 : Nat) : Int) = 1099511627776 from rfl] at k_up
  have d_down : decide ((1099511627776 : Int) < (p.down : Int)) = false := by simp; omega
  have k_bias := fun w => wide_is p.bias 1 4294967296 true w h_bias
  rw [show ((1 : Nat) : Int) = 1 from rfl, show ((4294967296 : Nat) : Int) = 4294967296 from rfl] at k_bias
  have k_biasEm := fun w => wide_is p.biasEm p.bias 4294967296 true w h_biasEm
  rw [show ((4294967296 : Nat) : Int) = 4294967296 from rfl] at k_biasEm
  have k_quot := fun w => wide_is p.quot 1 1099511627776 true w h_quot
  rw [show ((1 : Nat) : Int) = 1 from rfl, show ((1099511627776 : Nat) : Int) = 1099511627776 from rfl] at k_quot
  have k_quotEm := fun w => wide_is p.quotEm 1 p.quot true w h_quotEm
  rw [show ((1 : Nat) : Int) = 1 from rfl] at k_quotEm
  have d_recover : decide ((4294967296 : Int) < (p.recover : Int)) = false := by simp; omega
  have k_score := fun w => wide_is p.scoreCap 1 72057594037927936 true w h_score
  rw [show ((1 : Nat) : Int) = 1 from rfl, show ((72057594037927936 : Nat) : Int) = 72057594037927936 from rfl] at k_score
  have d_rate : decide ((4294967296 : Int) < (p.rate : Int)) = false := by simp; omega
  have d_bond : decide ((1099511627776 : Int) < (p.bond : Int)) = false := by simp; omega
  have k_delay := fun w => in_is p.delay 0 1000 true w h_delay
  have k_wait := fun w => in_is p.wait 0 50 false w h_wait
  have v0 : p.vals[0]? = some (.int .u64 (p.inc : Int)) := rfl
  have v1 : p.vals[1]? = some (.int .u64 (p.maxEff : Int)) := rfl
  have v2 : p.vals[2]? = some (.int .u64 (p.floor : Int)) := rfl
  have v3 : p.vals[3]? = some (.int .u64 (p.cap : Int)) := rfl
  have v4 : p.vals[4]? = some (.int .u64 (p.up : Int)) := rfl
  have v5 : p.vals[5]? = some (.int .u64 (p.down : Int)) := rfl
  have v6 : p.vals[6]? = some (.int .u64 (p.bias : Int)) := rfl
  have v7 : p.vals[7]? = some (.int .u64 (p.quot : Int)) := rfl
  have v8 : p.vals[8]? = some (.int .u64 (p.biasEm : Int)) := rfl
  have v9 : p.vals[9]? = some (.int .u64 (p.quotEm : Int)) := rfl
  have v10 : p.vals[10]? = some (.int .u64 (p.recover : Int)) := rfl
  have v11 : p.vals[11]? = some (.int .u64 (p.scoreCap : Int)) := rfl
  have v12 : p.vals[12]? = some (.int .u64 (p.rate : Int)) := rfl
  have v13 : p.vals[13]? = some (.int .u64 (p.bond : Int)) := rfl
  have v14 : p.vals[14]? = some (.int .i64 p.delay) := rfl
  have v15 : p.vals[15]? = some (.int .i64 p.streak) := rfl
  have v16 : p.vals[16]? = some (.int .i64 p.boost) := rfl
  have v17 : p.vals[17]? = some (.int .i64 p.absent) := rfl
  have v18 : p.vals[18]? = some (.int .i64 p.burn) := rfl
  have v19 : p.vals[19]? = some (.int .i64 p.churn) := rfl
  have v20 : p.vals[20]? = some (.int .i64 p.wait) := rfl
  have v21 : p.vals[21]? = some (.int .i64 p.poll) := rfl
  have v22 : p.vals[22]? = some (.int .i64 p.enact) := rfl
  have v23 : p.vals[23]? = some (.int .i64 p.quorum) := rfl
  clear h_inc h_eff h_whole h_floor h_over h_cap h_up h_down h_bias h_biasEm h_quot h_quotEm h_recover h_score h_rate h_bond h_delay h_wait
  go_enter Try.func19, Try.ntmps19
  go_wp2_with (first
    | (go_at_call 51; (with_reducible refine (k_inc _).mono ?_); rintro e w1 ⟨rfl, rfl⟩; clear k_inc)
    | (go_at_call 51; (with_reducible refine (k_eff _).mono ?_); rintro e w1 ⟨rfl, rfl⟩; clear k_eff)
    | (go_at_call 51; (with_reducible refine (k_cap _).mono ?_); rintro e w1 ⟨rfl, rfl⟩; clear k_cap)
    | (go_at_call 51; (with_reducible refine (k_up _).mono ?_); rintro e w1 ⟨rfl, rfl⟩; clear k_up)
    | (go_at_call 51; (with_reducible refine (k_bias _).mono ?_); rintro e w1 ⟨rfl, rfl⟩; clear k_bias)
    | (go_at_call 51; (with_reducible refine (k_biasEm _).mono ?_); rintro e w1 ⟨rfl, rfl⟩; clear k_biasEm)
    | (go_at_call 51; (with_reducible refine (k_quot _).mono ?_); rintro e w1 ⟨rfl, rfl⟩; clear k_quot)
    | (go_at_call 51; (with_reducible refine (k_quotEm _).mono ?_); rintro e w1 ⟨rfl, rfl⟩; clear k_quotEm)
    | (go_at_call 51; (with_reducible refine (k_score _).mono ?_); rintro e w1 ⟨rfl, rfl⟩; clear k_score)
    | (go_at_call 52; (with_reducible refine (k_delay _).mono ?_); rintro e w1 ⟨rfl, rfl⟩; clear k_delay)
    | (go_at_call 52; (with_reducible refine (k_wait _).mono ?_); rintro e w1 ⟨rfl, rfl⟩; clear k_wait))
  go_ret
  exact ⟨rfl, (Below.refl _ _).alloc (Nat.le_refl _) _⟩

set_option maxRecDepth 100000 in
set_option maxHeartbeats 2000000 in
theorem right_no_enact (p : Par) (w : World) (h_inc : Hid (Par.okW (p.inc, 1, 2147483648) = true)) (h_eff : Hid (Par.okW (p.maxEff, p.inc, 1099511627776) = true)) (h_whole : p.maxEff % p.inc = 0) (h_floor : p.inc ≤ p.floor) (h_over : p.floor < p.cap) (h_cap : Hid (Par.okW (p.cap, p.maxEff, 1099511627776) = true)) (h_up : Hid (Par.okW (p.up, p.inc, 1099511627776) = true)) (h_down : p.down ≤ 1099511627776) (h_bias : Hid (Par.okW (p.bias, 1, 4294967296) = true)) (h_biasEm : Hid (Par.okW (p.biasEm, p.bias, 4294967296) = true)) (h_quot : Hid (Par.okW (p.quot, 1, 1099511627776) = true)) (h_quotEm : Hid (Par.okW (p.quotEm, 1, p.quot) = true)) (h_recover : p.recover ≤ 4294967296) (h_score : Hid (Par.okW (p.scoreCap, 1, 72057594037927936) = true)) (h_rate : p.rate ≤ 4294967296) (h_bond : p.bond ≤ 1099511627776) (h_delay : Hid (Par.okI (p.delay, 0, 1000) = true)) (h_wait : Hid (Par.okI (p.wait, 0, 50) = true)) (h_enact : Hid (Par.okI (p.enact, 0, 1000) = false)) :
    Calls Try.prog 19 #[.agg p.vals] w fun e w' => e = .returned (.bool false) ∧ Below w.heap.size w w' := by
  have inc0 : 1 ≤ p.inc := by have := (Par.okW_iff _).1 h_inc.out; exact this.1
  have k_inc := fun w => wide_is p.inc 1 2147483648 true w h_inc
  rw [show ((1 : Nat) : Int) = 1 from rfl, show ((2147483648 : Nat) : Int) = 2147483648 from rfl] at k_inc
  have k_eff := fun w => wide_is p.maxEff p.inc 1099511627776 true w h_eff
  rw [show ((1099511627776 : Nat) : Int) = 1099511627776 from rfl] at k_eff
  have d_whole : (((p.maxEff : Int) % (p.inc : Int)) != 0) = false := by simp; omega
  have d_whole2 : (p.maxEff : Int) % (p.inc : Int) = 0 := by omega
  have d_floor : decide (p.floor < p.inc) = false := by simp; omega
  have d_over : decide (p.cap ≤ p.floor) = false := by simp; omega
  have k_cap := fun w => wide_is p.cap p.maxEff 1099511627776 true w h_cap
  rw [show ((1099511627776 : Nat) : Int) = 1099511627776 from rfl] at k_cap
  have k_up := fun w => wide_is p.up p.inc 1099511627776 true w h_up
  rw [show ((1099511627776 : Nat) : Int) = 1099511627776 from rfl] at k_up
  have d_down : decide ((1099511627776 : Int) < (p.down : Int)) = false := by simp; omega
  have k_bias := fun w => wide_is p.bias 1 4294967296 true w h_bias
  rw [show ((1 : Nat) : Int) = 1 from rfl, show ((4294967296 : Nat) : Int) = 4294967296 from rfl] at k_bias
  have k_biasEm := fun w => wide_is p.biasEm p.bias 4294967296 true w h_biasEm
  rw [show ((4294967296 : Nat) : Int) = 4294967296 from rfl] at k_biasEm
  have k_quot := fun w => wide_is p.quot 1 1099511627776 true w h_quot
  rw [show ((1 : Nat) : Int) = 1 from rfl, show ((1099511627776 : Nat) : Int) = 1099511627776 from rfl] at k_quot
  have k_quotEm := fun w => wide_is p.quotEm 1 p.quot true w h_quotEm
  rw [show ((1 : Nat) : Int) = 1 from rfl] at k_quotEm
  have d_recover : decide ((4294967296 : Int) < (p.recover : Int)) = false := by simp; omega
  have k_score := fun w => wide_is p.scoreCap 1 72057594037927936 true w h_score
  rw [show ((1 : Nat) : Int) = 1 from rfl, show ((72057594037927936 : Nat) : Int) = 72057594037927936 from rfl] at k_score
  have d_rate : decide ((4294967296 : Int) < (p.rate : Int)) = false := by simp; omega
  have d_bond : decide ((1099511627776 : Int) < (p.bond : Int)) = false := by simp; omega
  have k_delay := fun w => in_is p.delay 0 1000 true w h_delay
  have k_wait := fun w => in_is p.wait 0 50 true w h_wait
  have k_enact := fun w => in_is p.enact 0 1000 false w h_enact
  have v0 : p.vals[0]? = some (.int .u64 (p.inc : Int)) := rfl
  have v1 : p.vals[1]? = some (.int .u64 (p.maxEff : Int)) := rfl
  have v2 : p.vals[2]? = some (.int .u64 (p.floor : Int)) := rfl
  have v3 : p.vals[3]? = some (.int .u64 (p.cap : Int)) := rfl
  have v4 : p.vals[4]? = some (.int .u64 (p.up : Int)) := rfl
  have v5 : p.vals[5]? = some (.int .u64 (p.down : Int)) := rfl
  have v6 : p.vals[6]? = some (.int .u64 (p.bias : Int)) := rfl
  have v7 : p.vals[7]? = some (.int .u64 (p.quot : Int)) := rfl
  have v8 : p.vals[8]? = some (.int .u64 (p.biasEm : Int)) := rfl
  have v9 : p.vals[9]? = some (.int .u64 (p.quotEm : Int)) := rfl
  have v10 : p.vals[10]? = some (.int .u64 (p.recover : Int)) := rfl
  have v11 : p.vals[11]? = some (.int .u64 (p.scoreCap : Int)) := rfl
  have v12 : p.vals[12]? = some (.int .u64 (p.rate : Int)) := rfl
  have v13 : p.vals[13]? = some (.int .u64 (p.bond : Int)) := rfl
  have v14 : p.vals[14]? = some (.int .i64 p.delay) := rfl
  have v15 : p.vals[15]? = some (.int .i64 p.streak) := rfl
  have v16 : p.vals[16]? = some (.int .i64 p.boost) := rfl
  have v17 : p.vals[17]? = some (.int .i64 p.absent) := rfl
  have v18 : p.vals[18]? = some (.int .i64 p.burn) := rfl
  have v19 : p.vals[19]? = some (.int .i64 p.churn) := rfl
  have v20 : p.vals[20]? = some (.int .i64 p.wait) := rfl
  have v21 : p.vals[21]? = some (.int .i64 p.poll) := rfl
  have v22 : p.vals[22]? = some (.int .i64 p.enact) := rfl
  have v23 : p.vals[23]? = some (.int .i64 p.quorum) := rfl
  clear h_inc h_eff h_whole h_floor h_over h_cap h_up h_down h_bias h_biasEm h_quot h_quotEm h_recover h_score h_rate h_bond h_delay h_wait h_enact
  go_enter Try.func19, Try.ntmps19
  go_wp2_with (first
    | (go_at_call 51; (with_reducible refine (k_inc _).mono ?_); rintro e w1 ⟨rfl, rfl⟩; clear k_inc)
    | (go_at_call 51; (with_reducible refine (k_eff _).mono ?_); rintro e w1 ⟨rfl, rfl⟩; clear k_eff)
    | (go_at_call 51; (with_reducible refine (k_cap _).mono ?_); rintro e w1 ⟨rfl, rfl⟩; clear k_cap)
    | (go_at_call 51; (with_reducible refine (k_up _).mono ?_); rintro e w1 ⟨rfl, rfl⟩; clear k_up)
    | (go_at_call 51; (with_reducible refine (k_bias _).mono ?_); rintro e w1 ⟨rfl, rfl⟩; clear k_bias)
    | (go_at_call 51; (with_reducible refine (k_biasEm _).mono ?_); rintro e w1 ⟨rfl, rfl⟩; clear k_biasEm)
    | (go_at_call 51; (with_reducible refine (k_quot _).mono ?_); rintro e w1 ⟨rfl, rfl⟩; clear k_quot)
    | (go_at_call 51; (with_reducible refine (k_quotEm _).mono ?_); rintro e w1 ⟨rfl, rfl⟩; clear k_quotEm)
    | (go_at_call 51; (with_reducible refine (k_score _).mono ?_); rintro e w1 ⟨rfl, rfl⟩; clear k_score)
    | (go_at_call 52; (with_reducible refine (k_delay _).mono ?_); rintro e w1 ⟨rfl, rfl⟩; clear k_delay)
    | (go_at_call 52; (with_reducible refine (k_wait _).mono ?_); rintro e w1 ⟨rfl, rfl⟩; clear k_wait)
    | (go_at_call 52; (with_reducible refine (k_enact _).mono ?_); rintro e w1 ⟨rfl, rfl⟩; clear k_enact))
  go_ret
  exact ⟨rfl, (Below.refl _ _).alloc (Nat.le_refl _) _⟩

set_option maxRecDepth 100000 in
set_option maxHeartbeats 2000000 in
theorem right_no_poll (p : Par) (w : World) (h_inc : Hid (Par.okW (p.inc, 1, 2147483648) = true)) (h_eff : Hid (Par.okW (p.maxEff, p.inc, 1099511627776) = true)) (h_whole : p.maxEff % p.inc = 0) (h_floor : p.inc ≤ p.floor) (h_over : p.floor < p.cap) (h_cap : Hid (Par.okW (p.cap, p.maxEff, 1099511627776) = true)) (h_up : Hid (Par.okW (p.up, p.inc, 1099511627776) = true)) (h_down : p.down ≤ 1099511627776) (h_bias : Hid (Par.okW (p.bias, 1, 4294967296) = true)) (h_biasEm : Hid (Par.okW (p.biasEm, p.bias, 4294967296) = true)) (h_quot : Hid (Par.okW (p.quot, 1, 1099511627776) = true)) (h_quotEm : Hid (Par.okW (p.quotEm, 1, p.quot) = true)) (h_recover : p.recover ≤ 4294967296) (h_score : Hid (Par.okW (p.scoreCap, 1, 72057594037927936) = true)) (h_rate : p.rate ≤ 4294967296) (h_bond : p.bond ≤ 1099511627776) (h_delay : Hid (Par.okI (p.delay, 0, 1000) = true)) (h_wait : Hid (Par.okI (p.wait, 0, 50) = true)) (h_enact : Hid (Par.okI (p.enact, 0, 1000) = true)) (h_poll : Hid (Par.okI (p.poll, 1, 1000) = false)) :
    Calls Try.prog 19 #[.agg p.vals] w fun e w' => e = .returned (.bool false) ∧ Below w.heap.size w w' := by
  have inc0 : 1 ≤ p.inc := by have := (Par.okW_iff _).1 h_inc.out; exact this.1
  have k_inc := fun w => wide_is p.inc 1 2147483648 true w h_inc
  rw [show ((1 : Nat) : Int) = 1 from rfl, show ((2147483648 : Nat) : Int) = 2147483648 from rfl] at k_inc
  have k_eff := fun w => wide_is p.maxEff p.inc 1099511627776 true w h_eff
  rw [show ((1099511627776 : Nat) : Int) = 1099511627776 from rfl] at k_eff
  have d_whole : (((p.maxEff : Int) % (p.inc : Int)) != 0) = false := by simp; omega
  have d_whole2 : (p.maxEff : Int) % (p.inc : Int) = 0 := by omega
  have d_floor : decide (p.floor < p.inc) = false := by simp; omega
  have d_over : decide (p.cap ≤ p.floor) = false := by simp; omega
  have k_cap := fun w => wide_is p.cap p.maxEff 1099511627776 true w h_cap
  rw [show ((1099511627776 : Nat) : Int) = 1099511627776 from rfl] at k_cap
  have k_up := fun w => wide_is p.up p.inc 1099511627776 true w h_up
  rw [show ((1099511627776 : Nat) : Int) = 1099511627776 from rfl] at k_up
  have d_down : decide ((1099511627776 : Int) < (p.down : Int)) = false := by simp; omega
  have k_bias := fun w => wide_is p.bias 1 4294967296 true w h_bias
  rw [show ((1 : Nat) : Int) = 1 from rfl, show ((4294967296 : Nat) : Int) = 4294967296 from rfl] at k_bias
  have k_biasEm := fun w => wide_is p.biasEm p.bias 4294967296 true w h_biasEm
  rw [show ((4294967296 : Nat) : Int) = 4294967296 from rfl] at k_biasEm
  have k_quot := fun w => wide_is p.quot 1 1099511627776 true w h_quot
  rw [show ((1 : Nat) : Int) = 1 from rfl, show ((1099511627776 : Nat) : Int) = 1099511627776 from rfl] at k_quot
  have k_quotEm := fun w => wide_is p.quotEm 1 p.quot true w h_quotEm
  rw [show ((1 : Nat) : Int) = 1 from rfl] at k_quotEm
  have d_recover : decide ((4294967296 : Int) < (p.recover : Int)) = false := by simp; omega
  have k_score := fun w => wide_is p.scoreCap 1 72057594037927936 true w h_score
  rw [show ((1 : Nat) : Int) = 1 from rfl, show ((72057594037927936 : Nat) : Int) = 72057594037927936 from rfl] at k_score
  have d_rate : decide ((4294967296 : Int) < (p.rate : Int)) = false := by simp; omega
  have d_bond : decide ((1099511627776 : Int) < (p.bond : Int)) = false := by simp; omega
  have k_delay := fun w => in_is p.delay 0 1000 true w h_delay
  have k_wait := fun w => in_is p.wait 0 50 true w h_wait
  have k_enact := fun w => in_is p.enact 0 1000 true w h_enact
  have k_poll := fun w => in_is p.poll 1 1000 false w h_poll
  have v0 : p.vals[0]? = some (.int .u64 (p.inc : Int)) := rfl
  have v1 : p.vals[1]? = some (.int .u64 (p.maxEff : Int)) := rfl
  have v2 : p.vals[2]? = some (.int .u64 (p.floor : Int)) := rfl
  have v3 : p.vals[3]? = some (.int .u64 (p.cap : Int)) := rfl
  have v4 : p.vals[4]? = some (.int .u64 (p.up : Int)) := rfl
  have v5 : p.vals[5]? = some (.int .u64 (p.down : Int)) := rfl
  have v6 : p.vals[6]? = some (.int .u64 (p.bias : Int)) := rfl
  have v7 : p.vals[7]? = some (.int .u64 (p.quot : Int)) := rfl
  have v8 : p.vals[8]? = some (.int .u64 (p.biasEm : Int)) := rfl
  have v9 : p.vals[9]? = some (.int .u64 (p.quotEm : Int)) := rfl
  have v10 : p.vals[10]? = some (.int .u64 (p.recover : Int)) := rfl
  have v11 : p.vals[11]? = some (.int .u64 (p.scoreCap : Int)) := rfl
  have v12 : p.vals[12]? = some (.int .u64 (p.rate : Int)) := rfl
  have v13 : p.vals[13]? = some (.int .u64 (p.bond : Int)) := rfl
  have v14 : p.vals[14]? = some (.int .i64 p.delay) := rfl
  have v15 : p.vals[15]? = some (.int .i64 p.streak) := rfl
  have v16 : p.vals[16]? = some (.int .i64 p.boost) := rfl
  have v17 : p.vals[17]? = some (.int .i64 p.absent) := rfl
  have v18 : p.vals[18]? = some (.int .i64 p.burn) := rfl
  have v19 : p.vals[19]? = some (.int .i64 p.churn) := rfl
  have v20 : p.vals[20]? = some (.int .i64 p.wait) := rfl
  have v21 : p.vals[21]? = some (.int .i64 p.poll) := rfl
  have v22 : p.vals[22]? = some (.int .i64 p.enact) := rfl
  have v23 : p.vals[23]? = some (.int .i64 p.quorum) := rfl
  clear h_inc h_eff h_whole h_floor h_over h_cap h_up h_down h_bias h_biasEm h_quot h_quotEm h_recover h_score h_rate h_bond h_delay h_wait h_enact h_poll
  go_enter Try.func19, Try.ntmps19
  go_wp2_with (first
    | (go_at_call 51; (with_reducible refine (k_inc _).mono ?_); rintro e w1 ⟨rfl, rfl⟩; clear k_inc)
    | (go_at_call 51; (with_reducible refine (k_eff _).mono ?_); rintro e w1 ⟨rfl, rfl⟩; clear k_eff)
    | (go_at_call 51; (with_reducible refine (k_cap _).mono ?_); rintro e w1 ⟨rfl, rfl⟩; clear k_cap)
    | (go_at_call 51; (with_reducible refine (k_up _).mono ?_); rintro e w1 ⟨rfl, rfl⟩; clear k_up)
    | (go_at_call 51; (with_reducible refine (k_bias _).mono ?_); rintro e w1 ⟨rfl, rfl⟩; clear k_bias)
    | (go_at_call 51; (with_reducible refine (k_biasEm _).mono ?_); rintro e w1 ⟨rfl, rfl⟩; clear k_biasEm)
    | (go_at_call 51; (with_reducible refine (k_quot _).mono ?_); rintro e w1 ⟨rfl, rfl⟩; clear k_quot)
    | (go_at_call 51; (with_reducible refine (k_quotEm _).mono ?_); rintro e w1 ⟨rfl, rfl⟩; clear k_quotEm)
    | (go_at_call 51; (with_reducible refine (k_score _).mono ?_); rintro e w1 ⟨rfl, rfl⟩; clear k_score)
    | (go_at_call 52; (with_reducible refine (k_delay _).mono ?_); rintro e w1 ⟨rfl, rfl⟩; clear k_delay)
    | (go_at_call 52; (with_reducible refine (k_wait _).mono ?_); rintro e w1 ⟨rfl, rfl⟩; clear k_wait)
    | (go_at_call 52; (with_reducible refine (k_enact _).mono ?_); rintro e w1 ⟨rfl, rfl⟩; clear k_enact)
    | (go_at_call 52; (with_reducible refine (k_poll _).mono ?_); rintro e w1 ⟨rfl, rfl⟩; clear k_poll))
  go_ret
  exact ⟨rfl, (Below.refl _ _).alloc (Nat.le_refl _) _⟩

set_option maxRecDepth 100000 in
set_option maxHeartbeats 2000000 in
theorem right_no_streak (p : Par) (w : World) (h_inc : Hid (Par.okW (p.inc, 1, 2147483648) = true)) (h_eff : Hid (Par.okW (p.maxEff, p.inc, 1099511627776) = true)) (h_whole : p.maxEff % p.inc = 0) (h_floor : p.inc ≤ p.floor) (h_over : p.floor < p.cap) (h_cap : Hid (Par.okW (p.cap, p.maxEff, 1099511627776) = true)) (h_up : Hid (Par.okW (p.up, p.inc, 1099511627776) = true)) (h_down : p.down ≤ 1099511627776) (h_bias : Hid (Par.okW (p.bias, 1, 4294967296) = true)) (h_biasEm : Hid (Par.okW (p.biasEm, p.bias, 4294967296) = true)) (h_quot : Hid (Par.okW (p.quot, 1, 1099511627776) = true)) (h_quotEm : Hid (Par.okW (p.quotEm, 1, p.quot) = true)) (h_recover : p.recover ≤ 4294967296) (h_score : Hid (Par.okW (p.scoreCap, 1, 72057594037927936) = true)) (h_rate : p.rate ≤ 4294967296) (h_bond : p.bond ≤ 1099511627776) (h_delay : Hid (Par.okI (p.delay, 0, 1000) = true)) (h_wait : Hid (Par.okI (p.wait, 0, 50) = true)) (h_enact : Hid (Par.okI (p.enact, 0, 1000) = true)) (h_poll : Hid (Par.okI (p.poll, 1, 1000) = true)) (h_streak : Hid (Par.okI (p.streak, 0, 64) = false)) :
    Calls Try.prog 19 #[.agg p.vals] w fun e w' => e = .returned (.bool false) ∧ Below w.heap.size w w' := by
  have inc0 : 1 ≤ p.inc := by have := (Par.okW_iff _).1 h_inc.out; exact this.1
  have k_inc := fun w => wide_is p.inc 1 2147483648 true w h_inc
  rw [show ((1 : Nat) : Int) = 1 from rfl, show ((2147483648 : Nat) : Int) = 2147483648 from rfl] at k_inc
  have k_eff := fun w => wide_is p.maxEff p.inc 1099511627776 true w h_eff
  rw [show ((1099511627776 : Nat) : Int) = 1099511627776 from rfl] at k_eff
  have d_whole : (((p.maxEff : Int) % (p.inc : Int)) != 0) = false := by simp; omega
  have d_whole2 : (p.maxEff : Int) % (p.inc : Int) = 0 := by omega
  have d_floor : decide (p.floor < p.inc) = false := by simp; omega
  have d_over : decide (p.cap ≤ p.floor) = false := by simp; omega
  have k_cap := fun w => wide_is p.cap p.maxEff 1099511627776 true w h_cap
  rw [show ((1099511627776 : Nat) : Int) = 1099511627776 from rfl] at k_cap
  have k_up := fun w => wide_is p.up p.inc 1099511627776 true w h_up
  rw [show ((1099511627776 : Nat) : Int) = 1099511627776 from rfl] at k_up
  have d_down : decide ((1099511627776 : Int) < (p.down : Int)) = false := by simp; omega
  have k_bias := fun w => wide_is p.bias 1 4294967296 true w h_bias
  rw [show ((1 : Nat) : Int) = 1 from rfl, show ((4294967296 : Nat) : Int) = 4294967296 from rfl] at k_bias
  have k_biasEm := fun w => wide_is p.biasEm p.bias 4294967296 true w h_biasEm
  rw [show ((4294967296 : Nat) : Int) = 4294967296 from rfl] at k_biasEm
  have k_quot := fun w => wide_is p.quot 1 1099511627776 true w h_quot
  rw [show ((1 : Nat) : Int) = 1 from rfl, show ((1099511627776 : Nat) : Int) = 1099511627776 from rfl] at k_quot
  have k_quotEm := fun w => wide_is p.quotEm 1 p.quot true w h_quotEm
  rw [show ((1 : Nat) : Int) = 1 from rfl] at k_quotEm
  have d_recover : decide ((4294967296 : Int) < (p.recover : Int)) = false := by simp; omega
  have k_score := fun w => wide_is p.scoreCap 1 72057594037927936 true w h_score
  rw [show ((1 : Nat) : Int) = 1 from rfl, show ((72057594037927936 : Nat) : Int) = 72057594037927936 from rfl] at k_score
  have d_rate : decide ((4294967296 : Int) < (p.rate : Int)) = false := by simp; omega
  have d_bond : decide ((1099511627776 : Int) < (p.bond : Int)) = false := by simp; omega
  have k_delay := fun w => in_is p.delay 0 1000 true w h_delay
  have k_wait := fun w => in_is p.wait 0 50 true w h_wait
  have k_enact := fun w => in_is p.enact 0 1000 true w h_enact
  have k_poll := fun w => in_is p.poll 1 1000 true w h_poll
  have k_streak := fun w => in_is p.streak 0 64 false w h_streak
  have v0 : p.vals[0]? = some (.int .u64 (p.inc : Int)) := rfl
  have v1 : p.vals[1]? = some (.int .u64 (p.maxEff : Int)) := rfl
  have v2 : p.vals[2]? = some (.int .u64 (p.floor : Int)) := rfl
  have v3 : p.vals[3]? = some (.int .u64 (p.cap : Int)) := rfl
  have v4 : p.vals[4]? = some (.int .u64 (p.up : Int)) := rfl
  have v5 : p.vals[5]? = some (.int .u64 (p.down : Int)) := rfl
  have v6 : p.vals[6]? = some (.int .u64 (p.bias : Int)) := rfl
  have v7 : p.vals[7]? = some (.int .u64 (p.quot : Int)) := rfl
  have v8 : p.vals[8]? = some (.int .u64 (p.biasEm : Int)) := rfl
  have v9 : p.vals[9]? = some (.int .u64 (p.quotEm : Int)) := rfl
  have v10 : p.vals[10]? = some (.int .u64 (p.recover : Int)) := rfl
  have v11 : p.vals[11]? = some (.int .u64 (p.scoreCap : Int)) := rfl
  have v12 : p.vals[12]? = some (.int .u64 (p.rate : Int)) := rfl
  have v13 : p.vals[13]? = some (.int .u64 (p.bond : Int)) := rfl
  have v14 : p.vals[14]? = some (.int .i64 p.delay) := rfl
  have v15 : p.vals[15]? = some (.int .i64 p.streak) := rfl
  have v16 : p.vals[16]? = some (.int .i64 p.boost) := rfl
  have v17 : p.vals[17]? = some (.int .i64 p.absent) := rfl
  have v18 : p.vals[18]? = some (.int .i64 p.burn) := rfl
  have v19 : p.vals[19]? = some (.int .i64 p.churn) := rfl
  have v20 : p.vals[20]? = some (.int .i64 p.wait) := rfl
  have v21 : p.vals[21]? = some (.int .i64 p.poll) := rfl
  have v22 : p.vals[22]? = some (.int .i64 p.enact) := rfl
  have v23 : p.vals[23]? = some (.int .i64 p.quorum) := rfl
  clear h_inc h_eff h_whole h_floor h_over h_cap h_up h_down h_bias h_biasEm h_quot h_quotEm h_recover h_score h_rate h_bond h_delay h_wait h_enact h_poll h_streak
  go_enter Try.func19, Try.ntmps19
  go_wp2_with (first
    | (go_at_call 51; (with_reducible refine (k_inc _).mono ?_); rintro e w1 ⟨rfl, rfl⟩; clear k_inc)
    | (go_at_call 51; (with_reducible refine (k_eff _).mono ?_); rintro e w1 ⟨rfl, rfl⟩; clear k_eff)
    | (go_at_call 51; (with_reducible refine (k_cap _).mono ?_); rintro e w1 ⟨rfl, rfl⟩; clear k_cap)
    | (go_at_call 51; (with_reducible refine (k_up _).mono ?_); rintro e w1 ⟨rfl, rfl⟩; clear k_up)
    | (go_at_call 51; (with_reducible refine (k_bias _).mono ?_); rintro e w1 ⟨rfl, rfl⟩; clear k_bias)
    | (go_at_call 51; (with_reducible refine (k_biasEm _).mono ?_); rintro e w1 ⟨rfl, rfl⟩; clear k_biasEm)
    | (go_at_call 51; (with_reducible refine (k_quot _).mono ?_); rintro e w1 ⟨rfl, rfl⟩; clear k_quot)
    | (go_at_call 51; (with_reducible refine (k_quotEm _).mono ?_); rintro e w1 ⟨rfl, rfl⟩; clear k_quotEm)
    | (go_at_call 51; (with_reducible refine (k_score _).mono ?_); rintro e w1 ⟨rfl, rfl⟩; clear k_score)
    | (go_at_call 52; (with_reducible refine (k_delay _).mono ?_); rintro e w1 ⟨rfl, rfl⟩; clear k_delay)
    | (go_at_call 52; (with_reducible refine (k_wait _).mono ?_); rintro e w1 ⟨rfl, rfl⟩; clear k_wait)
    | (go_at_call 52; (with_reducible refine (k_enact _).mono ?_); rintro e w1 ⟨rfl, rfl⟩; clear k_enact)
    | (go_at_call 52; (with_reducible refine (k_poll _).mono ?_); rintro e w1 ⟨rfl, rfl⟩; clear k_poll)
    | (go_at_call 52; (with_reducible refine (k_streak _).mono ?_); rintro e w1 ⟨rfl, rfl⟩; clear k_streak))
  go_ret
  exact ⟨rfl, (Below.refl _ _).alloc (Nat.le_refl _) _⟩

set_option maxRecDepth 100000 in
set_option maxHeartbeats 2000000 in
theorem right_no_boost (p : Par) (w : World) (h_inc : Hid (Par.okW (p.inc, 1, 2147483648) = true)) (h_eff : Hid (Par.okW (p.maxEff, p.inc, 1099511627776) = true)) (h_whole : p.maxEff % p.inc = 0) (h_floor : p.inc ≤ p.floor) (h_over : p.floor < p.cap) (h_cap : Hid (Par.okW (p.cap, p.maxEff, 1099511627776) = true)) (h_up : Hid (Par.okW (p.up, p.inc, 1099511627776) = true)) (h_down : p.down ≤ 1099511627776) (h_bias : Hid (Par.okW (p.bias, 1, 4294967296) = true)) (h_biasEm : Hid (Par.okW (p.biasEm, p.bias, 4294967296) = true)) (h_quot : Hid (Par.okW (p.quot, 1, 1099511627776) = true)) (h_quotEm : Hid (Par.okW (p.quotEm, 1, p.quot) = true)) (h_recover : p.recover ≤ 4294967296) (h_score : Hid (Par.okW (p.scoreCap, 1, 72057594037927936) = true)) (h_rate : p.rate ≤ 4294967296) (h_bond : p.bond ≤ 1099511627776) (h_delay : Hid (Par.okI (p.delay, 0, 1000) = true)) (h_wait : Hid (Par.okI (p.wait, 0, 50) = true)) (h_enact : Hid (Par.okI (p.enact, 0, 1000) = true)) (h_poll : Hid (Par.okI (p.poll, 1, 1000) = true)) (h_streak : Hid (Par.okI (p.streak, 0, 64) = true)) (h_boost : Hid (Par.okI (p.boost, 0, 1000) = false)) :
    Calls Try.prog 19 #[.agg p.vals] w fun e w' => e = .returned (.bool false) ∧ Below w.heap.size w w' := by
  have inc0 : 1 ≤ p.inc := by have := (Par.okW_iff _).1 h_inc.out; exact this.1
  have k_inc := fun w => wide_is p.inc 1 2147483648 true w h_inc
  rw [show ((1 : Nat) : Int) = 1 from rfl, show ((2147483648 : Nat) : Int) = 2147483648 from rfl] at k_inc
  have k_eff := fun w => wide_is p.maxEff p.inc 1099511627776 true w h_eff
  rw [show ((1099511627776 : Nat) : Int) = 1099511627776 from rfl] at k_eff
  have d_whole : (((p.maxEff : Int) % (p.inc : Int)) != 0) = false := by simp; omega
  have d_whole2 : (p.maxEff : Int) % (p.inc : Int) = 0 := by omega
  have d_floor : decide (p.floor < p.inc) = false := by simp; omega
  have d_over : decide (p.cap ≤ p.floor) = false := by simp; omega
  have k_cap := fun w => wide_is p.cap p.maxEff 1099511627776 true w h_cap
  rw [show ((1099511627776 : Nat) : Int) = 1099511627776 from rfl] at k_cap
  have k_up := fun w => wide_is p.up p.inc 1099511627776 true w h_up
  rw [show ((1099511627776 : Nat) : Int) = 1099511627776 from rfl] at k_up
  have d_down : decide ((1099511627776 : Int) < (p.down : Int)) = false := by simp; omega
  have k_bias := fun w => wide_is p.bias 1 4294967296 true w h_bias
  rw [show ((1 : Nat) : Int) = 1 from rfl, show ((4294967296 : Nat) : Int) = 4294967296 from rfl] at k_bias
  have k_biasEm := fun w => wide_is p.biasEm p.bias 4294967296 true w h_biasEm
  rw [show ((4294967296 : Nat) : Int) = 4294967296 from rfl] at k_biasEm
  have k_quot := fun w => wide_is p.quot 1 1099511627776 true w h_quot
  rw [show ((1 : Nat) : Int) = 1 from rfl, show ((1099511627776 : Nat) : Int) = 1099511627776 from rfl] at k_quot
  have k_quotEm := fun w => wide_is p.quotEm 1 p.quot true w h_quotEm
  rw [show ((1 : Nat) : Int) = 1 from rfl] at k_quotEm
  have d_recover : decide ((4294967296 : Int) < (p.recover : Int)) = false := by simp; omega
  have k_score := fun w => wide_is p.scoreCap 1 72057594037927936 true w h_score
  rw [show ((1 : Nat) : Int) = 1 from rfl, show ((72057594037927936 : Nat) : Int) = 72057594037927936 from rfl] at k_score
  have d_rate : decide ((4294967296 : Int) < (p.rate : Int)) = false := by simp; omega
  have d_bond : decide ((1099511627776 : Int) < (p.bond : Int)) = false := by simp; omega
  have k_delay := fun w => in_is p.delay 0 1000 true w h_delay
  have k_wait := fun w => in_is p.wait 0 50 true w h_wait
  have k_enact := fun w => in_is p.enact 0 1000 true w h_enact
  have k_poll := fun w => in_is p.poll 1 1000 true w h_poll
  have k_streak := fun w => in_is p.streak 0 64 true w h_streak
  have k_boost := fun w => in_is p.boost 0 1000 false w h_boost
  have v0 : p.vals[0]? = some (.int .u64 (p.inc : Int)) := rfl
  have v1 : p.vals[1]? = some (.int .u64 (p.maxEff : Int)) := rfl
  have v2 : p.vals[2]? = some (.int .u64 (p.floor : Int)) := rfl
  have v3 : p.vals[3]? = some (.int .u64 (p.cap : Int)) := rfl
  have v4 : p.vals[4]? = some (.int .u64 (p.up : Int)) := rfl
  have v5 : p.vals[5]? = some (.int .u64 (p.down : Int)) := rfl
  have v6 : p.vals[6]? = some (.int .u64 (p.bias : Int)) := rfl
  have v7 : p.vals[7]? = some (.int .u64 (p.quot : Int)) := rfl
  have v8 : p.vals[8]? = some (.int .u64 (p.biasEm : Int)) := rfl
  have v9 : p.vals[9]? = some (.int .u64 (p.quotEm : Int)) := rfl
  have v10 : p.vals[10]? = some (.int .u64 (p.recover : Int)) := rfl
  have v11 : p.vals[11]? = some (.int .u64 (p.scoreCap : Int)) := rfl
  have v12 : p.vals[12]? = some (.int .u64 (p.rate : Int)) := rfl
  have v13 : p.vals[13]? = some (.int .u64 (p.bond : Int)) := rfl
  have v14 : p.vals[14]? = some (.int .i64 p.delay) := rfl
  have v15 : p.vals[15]? = some (.int .i64 p.streak) := rfl
  have v16 : p.vals[16]? = some (.int .i64 p.boost) := rfl
  have v17 : p.vals[17]? = some (.int .i64 p.absent) := rfl
  have v18 : p.vals[18]? = some (.int .i64 p.burn) := rfl
  have v19 : p.vals[19]? = some (.int .i64 p.churn) := rfl
  have v20 : p.vals[20]? = some (.int .i64 p.wait) := rfl
  have v21 : p.vals[21]? = some (.int .i64 p.poll) := rfl
  have v22 : p.vals[22]? = some (.int .i64 p.enact) := rfl
  have v23 : p.vals[23]? = some (.int .i64 p.quorum) := rfl
  clear h_inc h_eff h_whole h_floor h_over h_cap h_up h_down h_bias h_biasEm h_quot h_quotEm h_recover h_score h_rate h_bond h_delay h_wait h_enact h_poll h_streak h_boost
  go_enter Try.func19, Try.ntmps19
  go_wp2_with (first
    | (go_at_call 51; (with_reducible refine (k_inc _).mono ?_); rintro e w1 ⟨rfl, rfl⟩; clear k_inc)
    | (go_at_call 51; (with_reducible refine (k_eff _).mono ?_); rintro e w1 ⟨rfl, rfl⟩; clear k_eff)
    | (go_at_call 51; (with_reducible refine (k_cap _).mono ?_); rintro e w1 ⟨rfl, rfl⟩; clear k_cap)
    | (go_at_call 51; (with_reducible refine (k_up _).mono ?_); rintro e w1 ⟨rfl, rfl⟩; clear k_up)
    | (go_at_call 51; (with_reducible refine (k_bias _).mono ?_); rintro e w1 ⟨rfl, rfl⟩; clear k_bias)
    | (go_at_call 51; (with_reducible refine (k_biasEm _).mono ?_); rintro e w1 ⟨rfl, rfl⟩; clear k_biasEm)
    | (go_at_call 51; (with_reducible refine (k_quot _).mono ?_); rintro e w1 ⟨rfl, rfl⟩; clear k_quot)
    | (go_at_call 51; (with_reducible refine (k_quotEm _).mono ?_); rintro e w1 ⟨rfl, rfl⟩; clear k_quotEm)
    | (go_at_call 51; (with_reducible refine (k_score _).mono ?_); rintro e w1 ⟨rfl, rfl⟩; clear k_score)
    | (go_at_call 52; (with_reducible refine (k_delay _).mono ?_); rintro e w1 ⟨rfl, rfl⟩; clear k_delay)
    | (go_at_call 52; (with_reducible refine (k_wait _).mono ?_); rintro e w1 ⟨rfl, rfl⟩; clear k_wait)
    | (go_at_call 52; (with_reducible refine (k_enact _).mono ?_); rintro e w1 ⟨rfl, rfl⟩; clear k_enact)
    | (go_at_call 52; (with_reducible refine (k_poll _).mono ?_); rintro e w1 ⟨rfl, rfl⟩; clear k_poll)
    | (go_at_call 52; (with_reducible refine (k_streak _).mono ?_); rintro e w1 ⟨rfl, rfl⟩; clear k_streak)
    | (go_at_call 52; (with_reducible refine (k_boost _).mono ?_); rintro e w1 ⟨rfl, rfl⟩; clear k_boost))
  go_ret
  exact ⟨rfl, (Below.refl _ _).alloc (Nat.le_refl _) _⟩
end Go.Proofs.Ytcaejanfhchacaa
namespace Go.Proofs.Ytcaejanfhchacaa
open Go.RowKit
set_option linter.unusedVariables false

set_option maxRecDepth 100000 in
set_option maxHeartbeats 2000000 in
theorem right_no_absent (p : Par) (w : World) (h_inc : Hid (Par.okW (p.inc, 1, 2147483648) = true)) (h_eff : Hid (Par.okW (p.maxEff, p.inc, 1099511627776) = true)) (h_whole : p.maxEff % p.inc = 0) (h_floor : p.inc ≤ p.floor) (h_over : p.floor < p.cap) (h_cap : Hid (Par.okW (p.cap, p.maxEff, 1099511627776) = true)) (h_up : Hid (Par.okW (p.up, p.inc, 1099511627776) = true)) (h_down : p.down ≤ 1099511627776) (h_bias : Hid (Par.okW (p.bias, 1, 4294967296) = true)) (h_biasEm : Hid (Par.okW (p.biasEm, p.bias, 4294967296) = true)) (h_quot : Hid (Par.okW (p.quot, 1, 1099511627776) = true)) (h_quotEm : Hid (Par.okW (p.quotEm, 1, p.quot) = true)) (h_recover : p.recover ≤ 4294967296) (h_score : Hid (Par.okW (p.scoreCap, 1, 72057594037927936) = true)) (h_rate : p.rate ≤ 4294967296) (h_bond : p.bond ≤ 1099511627776) (h_delay : Hid (Par.okI (p.delay, 0, 1000) = true)) (h_wait : Hid (Par.okI (p.wait, 0, 50) = true)) (h_enact : Hid (Par.okI (p.enact, 0, 1000) = true)) (h_poll : Hid (Par.okI (p.poll, 1, 1000) = true)) (h_streak : Hid (Par.okI (p.streak, 0, 64) = true)) (h_boost : Hid (Par.okI (p.boost, 0, 1000) = true)) (h_absent : Hid (Par.okI (p.absent, 0, 10000) = false)) :
    Calls Try.prog 19 #[.agg p.vals] w fun e w' => e = .returned (.bool false) ∧ Below w.heap.size w w' := by
  have inc0 : 1 ≤ p.inc := by have := (Par.okW_iff _).1 h_inc.out; exact this.1
  have k_inc := fun w => wide_is p.inc 1 2147483648 true w h_inc
  rw [show ((1 : Nat) : Int) = 1 from rfl, show ((2147483648 : Nat) : Int) = 2147483648 from rfl] at k_inc
  have k_eff := fun w => wide_is p.maxEff p.inc 1099511627776 true w h_eff
  rw [show ((1099511627776 : Nat) : Int) = 1099511627776 from rfl] at k_eff
  have d_whole : (((p.maxEff : Int) % (p.inc : Int)) != 0) = false := by simp; omega
  have d_whole2 : (p.maxEff : Int) % (p.inc : Int) = 0 := by omega
  have d_floor : decide (p.floor < p.inc) = false := by simp; omega
  have d_over : decide (p.cap ≤ p.floor) = false := by simp; omega
  have k_cap := fun w => wide_is p.cap p.maxEff 1099511627776 true w h_cap
  rw [show ((1099511627776 : Nat) : Int) = 1099511627776 from rfl] at k_cap
  have k_up := fun w => wide_is p.up p.inc 1099511627776 true w h_up
  rw [show ((1099511627776 : Nat) : Int) = 1099511627776 from rfl] at k_up
  have d_down : decide ((1099511627776 : Int) < (p.down : Int)) = false := by simp; omega
  have k_bias := fun w => wide_is p.bias 1 4294967296 true w h_bias
  rw [show ((1 : Nat) : Int) = 1 from rfl, show ((4294967296 : Nat) : Int) = 4294967296 from rfl] at k_bias
  have k_biasEm := fun w => wide_is p.biasEm p.bias 4294967296 true w h_biasEm
  rw [show ((4294967296 : Nat) : Int) = 4294967296 from rfl] at k_biasEm
  have k_quot := fun w => wide_is p.quot 1 1099511627776 true w h_quot
  rw [show ((1 : Nat) : Int) = 1 from rfl, show ((1099511627776 : Nat) : Int) = 1099511627776 from rfl] at k_quot
  have k_quotEm := fun w => wide_is p.quotEm 1 p.quot true w h_quotEm
  rw [show ((1 : Nat) : Int) = 1 from rfl] at k_quotEm
  have d_recover : decide ((4294967296 : Int) < (p.recover : Int)) = false := by simp; omega
  have k_score := fun w => wide_is p.scoreCap 1 72057594037927936 true w h_score
  rw [show ((1 : Nat) : Int) = 1 from rfl, show ((72057594037927936 : Nat) : Int) = 72057594037927936 from rfl] at k_score
  have d_rate : decide ((4294967296 : Int) < (p.rate : Int)) = false := by simp; omega
  have d_bond : decide ((1099511627776 : Int) < (p.bond : Int)) = false := by simp; omega
  have k_delay := fun w => in_is p.delay 0 1000 true w h_delay
  have k_wait := fun w => in_is p.wait 0 50 true w h_wait
  have k_enact := fun w => in_is p.enact 0 1000 true w h_enact
  have k_poll := fun w => in_is p.poll 1 1000 true w h_poll
  have k_streak := fun w => in_is p.streak 0 64 true w h_streak
  have k_boost := fun w => in_is p.boost 0 1000 true w h_boost
  have k_absent := fun w => in_is p.absent 0 10000 false w h_absent
  have v0 : p.vals[0]? = some (.int .u64 (p.inc : Int)) := rfl
  have v1 : p.vals[1]? = some (.int .u64 (p.maxEff : Int)) := rfl
  have v2 : p.vals[2]? = some (.int .u64 (p.floor : Int)) := rfl
  have v3 : p.vals[3]? = some (.int .u64 (p.cap : Int)) := rfl
  have v4 : p.vals[4]? = some (.int .u64 (p.up : Int)) := rfl
  have v5 : p.vals[5]? = some (.int .u64 (p.down : Int)) := rfl
  have v6 : p.vals[6]? = some (.int .u64 (p.bias : Int)) := rfl
  have v7 : p.vals[7]? = some (.int .u64 (p.quot : Int)) := rfl
  have v8 : p.vals[8]? = some (.int .u64 (p.biasEm : Int)) := rfl
  have v9 : p.vals[9]? = some (.int .u64 (p.quotEm : Int)) := rfl
  have v10 : p.vals[10]? = some (.int .u64 (p.recover : Int)) := rfl
  have v11 : p.vals[11]? = some (.int .u64 (p.scoreCap : Int)) := rfl
  have v12 : p.vals[12]? = some (.int .u64 (p.rate : Int)) := rfl
  have v13 : p.vals[13]? = some (.int .u64 (p.bond : Int)) := rfl
  have v14 : p.vals[14]? = some (.int .i64 p.delay) := rfl
  have v15 : p.vals[15]? = some (.int .i64 p.streak) := rfl
  have v16 : p.vals[16]? = some (.int .i64 p.boost) := rfl
  have v17 : p.vals[17]? = some (.int .i64 p.absent) := rfl
  have v18 : p.vals[18]? = some (.int .i64 p.burn) := rfl
  have v19 : p.vals[19]? = some (.int .i64 p.churn) := rfl
  have v20 : p.vals[20]? = some (.int .i64 p.wait) := rfl
  have v21 : p.vals[21]? = some (.int .i64 p.poll) := rfl
  have v22 : p.vals[22]? = some (.int .i64 p.enact) := rfl
  have v23 : p.vals[23]? = some (.int .i64 p.quorum) := rfl
  clear h_inc h_eff h_whole h_floor h_over h_cap h_up h_down h_bias h_biasEm h_quot h_quotEm h_recover h_score h_rate h_bond h_delay h_wait h_enact h_poll h_streak h_boost h_absent
  go_enter Try.func19, Try.ntmps19
  go_wp2_with (first
    | (go_at_call 51; (with_reducible refine (k_inc _).mono ?_); rintro e w1 ⟨rfl, rfl⟩; clear k_inc)
    | (go_at_call 51; (with_reducible refine (k_eff _).mono ?_); rintro e w1 ⟨rfl, rfl⟩; clear k_eff)
    | (go_at_call 51; (with_reducible refine (k_cap _).mono ?_); rintro e w1 ⟨rfl, rfl⟩; clear k_cap)
    | (go_at_call 51; (with_reducible refine (k_up _).mono ?_); rintro e w1 ⟨rfl, rfl⟩; clear k_up)
    | (go_at_call 51; (with_reducible refine (k_bias _).mono ?_); rintro e w1 ⟨rfl, rfl⟩; clear k_bias)
    | (go_at_call 51; (with_reducible refine (k_biasEm _).mono ?_); rintro e w1 ⟨rfl, rfl⟩; clear k_biasEm)
    | (go_at_call 51; (with_reducible refine (k_quot _).mono ?_); rintro e w1 ⟨rfl, rfl⟩; clear k_quot)
    | (go_at_call 51; (with_reducible refine (k_quotEm _).mono ?_); rintro e w1 ⟨rfl, rfl⟩; clear k_quotEm)
    | (go_at_call 51; (with_reducible refine (k_score _).mono ?_); rintro e w1 ⟨rfl, rfl⟩; clear k_score)
    | (go_at_call 52; (with_reducible refine (k_delay _).mono ?_); rintro e w1 ⟨rfl, rfl⟩; clear k_delay)
    | (go_at_call 52; (with_reducible refine (k_wait _).mono ?_); rintro e w1 ⟨rfl, rfl⟩; clear k_wait)
    | (go_at_call 52; (with_reducible refine (k_enact _).mono ?_); rintro e w1 ⟨rfl, rfl⟩; clear k_enact)
    | (go_at_call 52; (with_reducible refine (k_poll _).mono ?_); rintro e w1 ⟨rfl, rfl⟩; clear k_poll)
    | (go_at_call 52; (with_reducible refine (k_streak _).mono ?_); rintro e w1 ⟨rfl, rfl⟩; clear k_streak)
    | (go_at_call 52; (with_reducible refine (k_boost _).mono ?_); rintro e w1 ⟨rfl, rfl⟩; clear k_boost)
    | (go_at_call 52; (with_reducible refine (k_absent _).mono ?_); rintro e w1 ⟨rfl, rfl⟩; clear k_absent))
  go_ret
  exact ⟨rfl, (Below.refl _ _).alloc (Nat.le_refl _) _⟩

set_option maxRecDepth 100000 in
set_option maxHeartbeats 2000000 in
theorem right_no_burn (p : Par) (w : World) (h_inc : Hid (Par.okW (p.inc, 1, 2147483648) = true)) (h_eff : Hid (Par.okW (p.maxEff, p.inc, 1099511627776) = true)) (h_whole : p.maxEff % p.inc = 0) (h_floor : p.inc ≤ p.floor) (h_over : p.floor < p.cap) (h_cap : Hid (Par.okW (p.cap, p.maxEff, 1099511627776) = true)) (h_up : Hid (Par.okW (p.up, p.inc, 1099511627776) = true)) (h_down : p.down ≤ 1099511627776) (h_bias : Hid (Par.okW (p.bias, 1, 4294967296) = true)) (h_biasEm : Hid (Par.okW (p.biasEm, p.bias, 4294967296) = true)) (h_quot : Hid (Par.okW (p.quot, 1, 1099511627776) = true)) (h_quotEm : Hid (Par.okW (p.quotEm, 1, p.quot) = true)) (h_recover : p.recover ≤ 4294967296) (h_score : Hid (Par.okW (p.scoreCap, 1, 72057594037927936) = true)) (h_rate : p.rate ≤ 4294967296) (h_bond : p.bond ≤ 1099511627776) (h_delay : Hid (Par.okI (p.delay, 0, 1000) = true)) (h_wait : Hid (Par.okI (p.wait, 0, 50) = true)) (h_enact : Hid (Par.okI (p.enact, 0, 1000) = true)) (h_poll : Hid (Par.okI (p.poll, 1, 1000) = true)) (h_streak : Hid (Par.okI (p.streak, 0, 64) = true)) (h_boost : Hid (Par.okI (p.boost, 0, 1000) = true)) (h_absent : Hid (Par.okI (p.absent, 0, 10000) = true)) (h_burn : Hid (Par.okI (p.burn, 0, 10000) = false)) :
    Calls Try.prog 19 #[.agg p.vals] w fun e w' => e = .returned (.bool false) ∧ Below w.heap.size w w' := by
  have inc0 : 1 ≤ p.inc := by have := (Par.okW_iff _).1 h_inc.out; exact this.1
  have k_inc := fun w => wide_is p.inc 1 2147483648 true w h_inc
  rw [show ((1 : Nat) : Int) = 1 from rfl, show ((2147483648 : Nat) : Int) = 2147483648 from rfl] at k_inc
  have k_eff := fun w => wide_is p.maxEff p.inc 1099511627776 true w h_eff
  rw [show ((1099511627776 : Nat) : Int) = 1099511627776 from rfl] at k_eff
  have d_whole : (((p.maxEff : Int) % (p.inc : Int)) != 0) = false := by simp; omega
  have d_whole2 : (p.maxEff : Int) % (p.inc : Int) = 0 := by omega
  have d_floor : decide (p.floor < p.inc) = false := by simp; omega
  have d_over : decide (p.cap ≤ p.floor) = false := by simp; omega
  have k_cap := fun w => wide_is p.cap p.maxEff 1099511627776 true w h_cap
  rw [show ((1099511627776 : Nat) : Int) = 1099511627776 from rfl] at k_cap
  have k_up := fun w => wide_is p.up p.inc 1099511627776 true w h_up
  rw [show ((1099511627776 : Nat) : Int) = 1099511627776 from rfl] at k_up
  have d_down : decide ((1099511627776 : Int) < (p.down : Int)) = false := by simp; omega
  have k_bias := fun w => wide_is p.bias 1 4294967296 true w h_bias
  rw [show ((1 : Nat) : Int) = 1 from rfl, show ((4294967296 : Nat) : Int) = 4294967296 from rfl] at k_bias
  have k_biasEm := fun w => wide_is p.biasEm p.bias 4294967296 true w h_biasEm
  rw [show ((4294967296 : Nat) : Int) = 4294967296 from rfl] at k_biasEm
  have k_quot := fun w => wide_is p.quot 1 1099511627776 true w h_quot
  rw [show ((1 : Nat) : Int) = 1 from rfl, show ((1099511627776 : Nat) : Int) = 1099511627776 from rfl] at k_quot
  have k_quotEm := fun w => wide_is p.quotEm 1 p.quot true w h_quotEm
  rw [show ((1 : Nat) : Int) = 1 from rfl] at k_quotEm
  have d_recover : decide ((4294967296 : Int) < (p.recover : Int)) = false := by simp; omega
  have k_score := fun w => wide_is p.scoreCap 1 72057594037927936 true w h_score
  rw [show ((1 : Nat) : Int) = 1 from rfl, show ((72057594037927936 : Nat) : Int) = 72057594037927936 from rfl] at k_score
  have d_rate : decide ((4294967296 : Int) < (p.rate : Int)) = false := by simp; omega
  have d_bond : decide ((1099511627776 : Int) < (p.bond : Int)) = false := by simp; omega
  have k_delay := fun w => in_is p.delay 0 1000 true w h_delay
  have k_wait := fun w => in_is p.wait 0 50 true w h_wait
  have k_enact := fun w => in_is p.enact 0 1000 true w h_enact
  have k_poll := fun w => in_is p.poll 1 1000 true w h_poll
  have k_streak := fun w => in_is p.streak 0 64 true w h_streak
  have k_boost := fun w => in_is p.boost 0 1000 true w h_boost
  have k_absent := fun w => in_is p.absent 0 10000 true w h_absent
  have k_burn := fun w => in_is p.burn 0 10000 false w h_burn
  have v0 : p.vals[0]? = some (.int .u64 (p.inc : Int)) := rfl
  have v1 : p.vals[1]? = some (.int .u64 (p.maxEff : Int)) := rfl
  have v2 : p.vals[2]? = some (.int .u64 (p.floor : Int)) := rfl
  have v3 : p.vals[3]? = some (.int .u64 (p.cap : Int)) := rfl
  have v4 : p.vals[4]? = some (.int .u64 (p.up : Int)) := rfl
  have v5 : p.vals[5]? = some (.int .u64 (p.down : Int)) := rfl
  have v6 : p.vals[6]? = some (.int .u64 (p.bias : Int)) := rfl
  have v7 : p.vals[7]? = some (.int .u64 (p.quot : Int)) := rfl
  have v8 : p.vals[8]? = some (.int .u64 (p.biasEm : Int)) := rfl
  have v9 : p.vals[9]? = some (.int .u64 (p.quotEm : Int)) := rfl
  have v10 : p.vals[10]? = some (.int .u64 (p.recover : Int)) := rfl
  have v11 : p.vals[11]? = some (.int .u64 (p.scoreCap : Int)) := rfl
  have v12 : p.vals[12]? = some (.int .u64 (p.rate : Int)) := rfl
  have v13 : p.vals[13]? = some (.int .u64 (p.bond : Int)) := rfl
  have v14 : p.vals[14]? = some (.int .i64 p.delay) := rfl
  have v15 : p.vals[15]? = some (.int .i64 p.streak) := rfl
  have v16 : p.vals[16]? = some (.int .i64 p.boost) := rfl
  have v17 : p.vals[17]? = some (.int .i64 p.absent) := rfl
  have v18 : p.vals[18]? = some (.int .i64 p.burn) := rfl
  have v19 : p.vals[19]? = some (.int .i64 p.churn) := rfl
  have v20 : p.vals[20]? = some (.int .i64 p.wait) := rfl
  have v21 : p.vals[21]? = some (.int .i64 p.poll) := rfl
  have v22 : p.vals[22]? = some (.int .i64 p.enact) := rfl
  have v23 : p.vals[23]? = some (.int .i64 p.quorum) := rfl
  clear h_inc h_eff h_whole h_floor h_over h_cap h_up h_down h_bias h_biasEm h_quot h_quotEm h_recover h_score h_rate h_bond h_delay h_wait h_enact h_poll h_streak h_boost h_absent h_burn
  go_enter Try.func19, Try.ntmps19
  go_wp2_with (first
    | (go_at_call 51; (with_reducible refine (k_inc _).mono ?_); rintro e w1 ⟨rfl, rfl⟩; clear k_inc)
    | (go_at_call 51; (with_reducible refine (k_eff _).mono ?_); rintro e w1 ⟨rfl, rfl⟩; clear k_eff)
    | (go_at_call 51; (with_reducible refine (k_cap _).mono ?_); rintro e w1 ⟨rfl, rfl⟩; clear k_cap)
    | (go_at_call 51; (with_reducible refine (k_up _).mono ?_); rintro e w1 ⟨rfl, rfl⟩; clear k_up)
    | (go_at_call 51; (with_reducible refine (k_bias _).mono ?_); rintro e w1 ⟨rfl, rfl⟩; clear k_bias)
    | (go_at_call 51; (with_reducible refine (k_biasEm _).mono ?_); rintro e w1 ⟨rfl, rfl⟩; clear k_biasEm)
    | (go_at_call 51; (with_reducible refine (k_quot _).mono ?_); rintro e w1 ⟨rfl, rfl⟩; clear k_quot)
    | (go_at_call 51; (with_reducible refine (k_quotEm _).mono ?_); rintro e w1 ⟨rfl, rfl⟩; clear k_quotEm)
    | (go_at_call 51; (with_reducible refine (k_score _).mono ?_); rintro e w1 ⟨rfl, rfl⟩; clear k_score)
    | (go_at_call 52; (with_reducible refine (k_delay _).mono ?_); rintro e w1 ⟨rfl, rfl⟩; clear k_delay)
    | (go_at_call 52; (with_reducible refine (k_wait _).mono ?_); rintro e w1 ⟨rfl, rfl⟩; clear k_wait)
    | (go_at_call 52; (with_reducible refine (k_enact _).mono ?_); rintro e w1 ⟨rfl, rfl⟩; clear k_enact)
    | (go_at_call 52; (with_reducible refine (k_poll _).mono ?_); rintro e w1 ⟨rfl, rfl⟩; clear k_poll)
    | (go_at_call 52; (with_reducible refine (k_streak _).mono ?_); rintro e w1 ⟨rfl, rfl⟩; clear k_streak)
    | (go_at_call 52; (with_reducible refine (k_boost _).mono ?_); rintro e w1 ⟨rfl, rfl⟩; clear k_boost)
    | (go_at_call 52; (with_reducible refine (k_absent _).mono ?_); rintro e w1 ⟨rfl, rfl⟩; clear k_absent)
    | (go_at_call 52; (with_reducible refine (k_burn _).mono ?_); rintro e w1 ⟨rfl, rfl⟩; clear k_burn))
  go_ret
  exact ⟨rfl, (Below.refl _ _).alloc (Nat.le_refl _) _⟩

set_option maxRecDepth 100000 in
set_option maxHeartbeats 2000000 in
theorem right_no_quorum (p : Par) (w : World) (h_inc : Hid (Par.okW (p.inc, 1, 2147483648) = true)) (h_eff : Hid (Par.okW (p.maxEff, p.inc, 1099511627776) = true)) (h_whole : p.maxEff % p.inc = 0) (h_floor : p.inc ≤ p.floor) (h_over : p.floor < p.cap) (h_cap : Hid (Par.okW (p.cap, p.maxEff, 1099511627776) = true)) (h_up : Hid (Par.okW (p.up, p.inc, 1099511627776) = true)) (h_down : p.down ≤ 1099511627776) (h_bias : Hid (Par.okW (p.bias, 1, 4294967296) = true)) (h_biasEm : Hid (Par.okW (p.biasEm, p.bias, 4294967296) = true)) (h_quot : Hid (Par.okW (p.quot, 1, 1099511627776) = true)) (h_quotEm : Hid (Par.okW (p.quotEm, 1, p.quot) = true)) (h_recover : p.recover ≤ 4294967296) (h_score : Hid (Par.okW (p.scoreCap, 1, 72057594037927936) = true)) (h_rate : p.rate ≤ 4294967296) (h_bond : p.bond ≤ 1099511627776) (h_delay : Hid (Par.okI (p.delay, 0, 1000) = true)) (h_wait : Hid (Par.okI (p.wait, 0, 50) = true)) (h_enact : Hid (Par.okI (p.enact, 0, 1000) = true)) (h_poll : Hid (Par.okI (p.poll, 1, 1000) = true)) (h_streak : Hid (Par.okI (p.streak, 0, 64) = true)) (h_boost : Hid (Par.okI (p.boost, 0, 1000) = true)) (h_absent : Hid (Par.okI (p.absent, 0, 10000) = true)) (h_burn : Hid (Par.okI (p.burn, 0, 10000) = true)) (h_quorum : Hid (Par.okI (p.quorum, 0, 10000) = false)) :
    Calls Try.prog 19 #[.agg p.vals] w fun e w' => e = .returned (.bool false) ∧ Below w.heap.size w w' := by
  have inc0 : 1 ≤ p.inc := by have := (Par.okW_iff _).1 h_inc.out; exact this.1
  have k_inc := fun w => wide_is p.inc 1 2147483648 true w h_inc
  rw [show ((1 : Nat) : Int) = 1 from rfl, show ((2147483648 : Nat) : Int) = 2147483648 from rfl] at k_inc
  have k_eff := fun w => wide_is p.maxEff p.inc 1099511627776 true w h_eff
  rw [show ((1099511627776 : Nat) : Int) = 1099511627776 from rfl] at k_eff
  have d_whole : (((p.maxEff : Int) % (p.inc : Int)) != 0) = false := by simp; omega
  have d_whole2 : (p.maxEff : Int) % (p.inc : Int) = 0 := by omega
  have d_floor : decide (p.floor < p.inc) = false := by simp; omega
  have d_over : decide (p.cap ≤ p.floor) = false := by simp; omega
  have k_cap := fun w => wide_is p.cap p.maxEff 1099511627776 true w h_cap
  rw [show ((1099511627776 : Nat) : Int) = 1099511627776 from rfl] at k_cap
  have k_up := fun w => wide_is p.up p.inc 1099511627776 true w h_up
  rw [show ((1099511627776 : Nat) : Int) = 1099511627776 from rfl] at k_up
  have d_down : decide ((1099511627776 : Int) < (p.down : Int)) = false := by simp; omega
  have k_bias := fun w => wide_is p.bias 1 4294967296 true w h_bias
  rw [show ((1 : Nat) : Int) = 1 from rfl, show ((4294967296 : Nat) : Int) = 4294967296 from rfl] at k_bias
  have k_biasEm := fun w => wide_is p.biasEm p.bias 4294967296 true w h_biasEm
  rw [show ((4294967296 : Nat) : Int) = 4294967296 from rfl] at k_biasEm
  have k_quot := fun w => wide_is p.quot 1 1099511627776 true w h_quot
  rw [show ((1 : Nat) : Int) = 1 from rfl, show ((1099511627776 : Nat) : Int) = 1099511627776 from rfl] at k_quot
  have k_quotEm := fun w => wide_is p.quotEm 1 p.quot true w h_quotEm
  rw [show ((1 : Nat) : Int) = 1 from rfl] at k_quotEm
  have d_recover : decide ((4294967296 : Int) < (p.recover : Int)) = false := by simp; omega
  have k_score := fun w => wide_is p.scoreCap 1 72057594037927936 true w h_score
  rw [show ((1 : Nat) : Int) = 1 from rfl, show ((72057594037927936 : Nat) : Int) = 72057594037927936 from rfl] at k_score
  have d_rate : decide ((4294967296 : Int) < (p.rate : Int)) = false := by simp; omega
  have d_bond : decide ((1099511627776 : Int) < (p.bond : Int)) = false := by simp; omega
  have k_delay := fun w => in_is p.delay 0 1000 true w h_delay
  have k_wait := fun w => in_is p.wait 0 50 true w h_wait
  have k_enact := fun w => in_is p.enact 0 1000 true w h_enact
  have k_poll := fun w => in_is p.poll 1 1000 true w h_poll
  have k_streak := fun w => in_is p.streak 0 64 true w h_streak
  have k_boost := fun w => in_is p.boost 0 1000 true w h_boost
  have k_absent := fun w => in_is p.absent 0 10000 true w h_absent
  have k_burn := fun w => in_is p.burn 0 10000 true w h_burn
  have k_quorum := fun w => in_is p.quorum 0 10000 false w h_quorum
  have v0 : p.vals[0]? = some (.int .u64 (p.inc : Int)) := rfl
  have v1 : p.vals[1]? = some (.int .u64 (p.maxEff : Int)) := rfl
  have v2 : p.vals[2]? = some (.int .u64 (p.floor : Int)) := rfl
  have v3 : p.vals[3]? = some (.int .u64 (p.cap : Int)) := rfl
  have v4 : p.vals[4]? = some (.int .u64 (p.up : Int)) := rfl
  have v5 : p.vals[5]? = some (.int .u64 (p.down : Int)) := rfl
  have v6 : p.vals[6]? = some (.int .u64 (p.bias : Int)) := rfl
  have v7 : p.vals[7]? = some (.int .u64 (p.quot : Int)) := rfl
  have v8 : p.vals[8]? = some (.int .u64 (p.biasEm : Int)) := rfl
  have v9 : p.vals[9]? = some (.int .u64 (p.quotEm : Int)) := rfl
  have v10 : p.vals[10]? = some (.int .u64 (p.recover : Int)) := rfl
  have v11 : p.vals[11]? = some (.int .u64 (p.scoreCap : Int)) := rfl
  have v12 : p.vals[12]? = some (.int .u64 (p.rate : Int)) := rfl
  have v13 : p.vals[13]? = some (.int .u64 (p.bond : Int)) := rfl
  have v14 : p.vals[14]? = some (.int .i64 p.delay) := rfl
  have v15 : p.vals[15]? = some (.int .i64 p.streak) := rfl
  have v16 : p.vals[16]? = some (.int .i64 p.boost) := rfl
  have v17 : p.vals[17]? = some (.int .i64 p.absent) := rfl
  have v18 : p.vals[18]? = some (.int .i64 p.burn) := rfl
  have v19 : p.vals[19]? = some (.int .i64 p.churn) := rfl
  have v20 : p.vals[20]? = some (.int .i64 p.wait) := rfl
  have v21 : p.vals[21]? = some (.int .i64 p.poll) := rfl
  have v22 : p.vals[22]? = some (.int .i64 p.enact) := rfl
  have v23 : p.vals[23]? = some (.int .i64 p.quorum) := rfl
  clear h_inc h_eff h_whole h_floor h_over h_cap h_up h_down h_bias h_biasEm h_quot h_quotEm h_recover h_score h_rate h_bond h_delay h_wait h_enact h_poll h_streak h_boost h_absent h_burn h_quorum
  go_enter Try.func19, Try.ntmps19
  go_wp2_with (first
    | (go_at_call 51; (with_reducible refine (k_inc _).mono ?_); rintro e w1 ⟨rfl, rfl⟩; clear k_inc)
    | (go_at_call 51; (with_reducible refine (k_eff _).mono ?_); rintro e w1 ⟨rfl, rfl⟩; clear k_eff)
    | (go_at_call 51; (with_reducible refine (k_cap _).mono ?_); rintro e w1 ⟨rfl, rfl⟩; clear k_cap)
    | (go_at_call 51; (with_reducible refine (k_up _).mono ?_); rintro e w1 ⟨rfl, rfl⟩; clear k_up)
    | (go_at_call 51; (with_reducible refine (k_bias _).mono ?_); rintro e w1 ⟨rfl, rfl⟩; clear k_bias)
    | (go_at_call 51; (with_reducible refine (k_biasEm _).mono ?_); rintro e w1 ⟨rfl, rfl⟩; clear k_biasEm)
    | (go_at_call 51; (with_reducible refine (k_quot _).mono ?_); rintro e w1 ⟨rfl, rfl⟩; clear k_quot)
    | (go_at_call 51; (with_reducible refine (k_quotEm _).mono ?_); rintro e w1 ⟨rfl, rfl⟩; clear k_quotEm)
    | (go_at_call 51; (with_reducible refine (k_score _).mono ?_); rintro e w1 ⟨rfl, rfl⟩; clear k_score)
    | (go_at_call 52; (with_reducible refine (k_delay _).mono ?_); rintro e w1 ⟨rfl, rfl⟩; clear k_delay)
    | (go_at_call 52; (with_reducible refine (k_wait _).mono ?_); rintro e w1 ⟨rfl, rfl⟩; clear k_wait)
    | (go_at_call 52; (with_reducible refine (k_enact _).mono ?_); rintro e w1 ⟨rfl, rfl⟩; clear k_enact)
    | (go_at_call 52; (with_reducible refine (k_poll _).mono ?_); rintro e w1 ⟨rfl, rfl⟩; clear k_poll)
    | (go_at_call 52; (with_reducible refine (k_streak _).mono ?_); rintro e w1 ⟨rfl, rfl⟩; clear k_streak)
    | (go_at_call 52; (with_reducible refine (k_boost _).mono ?_); rintro e w1 ⟨rfl, rfl⟩; clear k_boost)
    | (go_at_call 52; (with_reducible refine (k_absent _).mono ?_); rintro e w1 ⟨rfl, rfl⟩; clear k_absent)
    | (go_at_call 52; (with_reducible refine (k_burn _).mono ?_); rintro e w1 ⟨rfl, rfl⟩; clear k_burn)
    | (go_at_call 52; (with_reducible refine (k_quorum _).mono ?_); rintro e w1 ⟨rfl, rfl⟩; clear k_quorum))
  go_ret
  exact ⟨rfl, (Below.refl _ _).alloc (Nat.le_refl _) _⟩

set_option maxRecDepth 100000 in
set_option maxHeartbeats 2000000 in
theorem right_no_churn (p : Par) (w : World) (h_inc : Hid (Par.okW (p.inc, 1, 2147483648) = true)) (h_eff : Hid (Par.okW (p.maxEff, p.inc, 1099511627776) = true)) (h_whole : p.maxEff % p.inc = 0) (h_floor : p.inc ≤ p.floor) (h_over : p.floor < p.cap) (h_cap : Hid (Par.okW (p.cap, p.maxEff, 1099511627776) = true)) (h_up : Hid (Par.okW (p.up, p.inc, 1099511627776) = true)) (h_down : p.down ≤ 1099511627776) (h_bias : Hid (Par.okW (p.bias, 1, 4294967296) = true)) (h_biasEm : Hid (Par.okW (p.biasEm, p.bias, 4294967296) = true)) (h_quot : Hid (Par.okW (p.quot, 1, 1099511627776) = true)) (h_quotEm : Hid (Par.okW (p.quotEm, 1, p.quot) = true)) (h_recover : p.recover ≤ 4294967296) (h_score : Hid (Par.okW (p.scoreCap, 1, 72057594037927936) = true)) (h_rate : p.rate ≤ 4294967296) (h_bond : p.bond ≤ 1099511627776) (h_delay : Hid (Par.okI (p.delay, 0, 1000) = true)) (h_wait : Hid (Par.okI (p.wait, 0, 50) = true)) (h_enact : Hid (Par.okI (p.enact, 0, 1000) = true)) (h_poll : Hid (Par.okI (p.poll, 1, 1000) = true)) (h_streak : Hid (Par.okI (p.streak, 0, 64) = true)) (h_boost : Hid (Par.okI (p.boost, 0, 1000) = true)) (h_absent : Hid (Par.okI (p.absent, 0, 10000) = true)) (h_burn : Hid (Par.okI (p.burn, 0, 10000) = true)) (h_quorum : Hid (Par.okI (p.quorum, 0, 10000) = true)) (h_churn : Hid (Par.okI (p.churn, 1, 64) = false)) :
    Calls Try.prog 19 #[.agg p.vals] w fun e w' => e = .returned (.bool false) ∧ Below w.heap.size w w' := by
  have inc0 : 1 ≤ p.inc := by have := (Par.okW_iff _).1 h_inc.out; exact this.1
  have k_inc := fun w => wide_is p.inc 1 2147483648 true w h_inc
  rw [show ((1 : Nat) : Int) = 1 from rfl, show ((2147483648 : Nat) : Int) = 2147483648 from rfl] at k_inc
  have k_eff := fun w => wide_is p.maxEff p.inc 1099511627776 true w h_eff
  rw [show ((1099511627776 : Nat) : Int) = 1099511627776 from rfl] at k_eff
  have d_whole : (((p.maxEff : Int) % (p.inc : Int)) != 0) = false := by simp; omega
  have d_whole2 : (p.maxEff : Int) % (p.inc : Int) = 0 := by omega
  have d_floor : decide (p.floor < p.inc) = false := by simp; omega
  have d_over : decide (p.cap ≤ p.floor) = false := by simp; omega
  have k_cap := fun w => wide_is p.cap p.maxEff 1099511627776 true w h_cap
  rw [show ((1099511627776 : Nat) : Int) = 1099511627776 from rfl] at k_cap
  have k_up := fun w => wide_is p.up p.inc 1099511627776 true w h_up
  rw [show ((1099511627776 : Nat) : Int) = 1099511627776 from rfl] at k_up
  have d_down : decide ((1099511627776 : Int) < (p.down : Int)) = false := by simp; omega
  have k_bias := fun w => wide_is p.bias 1 4294967296 true w h_bias
  rw [show ((1 : Nat) : Int) = 1 from rfl, show ((4294967296 : Nat) : Int) = 4294967296 from rfl] at k_bias
  have k_biasEm := fun w => wide_is p.biasEm p.bias 4294967296 true w h_biasEm
  rw [show ((4294967296 : Nat) : Int) = 4294967296 from rfl] at k_biasEm
  have k_quot := fun w => wide_is p.quot 1 1099511627776 true w h_quot
  rw [show ((1 : Nat) : Int) = 1 from rfl, show ((1099511627776 : Nat) : Int) = 1099511627776 from rfl] at k_quot
  have k_quotEm := fun w => wide_is p.quotEm 1 p.quot true w h_quotEm
  rw [show ((1 : Nat) : Int) = 1 from rfl] at k_quotEm
  have d_recover : decide ((4294967296 : Int) < (p.recover : Int)) = false := by simp; omega
  have k_score := fun w => wide_is p.scoreCap 1 72057594037927936 true w h_score
  rw [show ((1 : Nat) : Int) = 1 from rfl, show ((72057594037927936 : Nat) : Int) = 72057594037927936 from rfl] at k_score
  have d_rate : decide ((4294967296 : Int) < (p.rate : Int)) = false := by simp; omega
  have d_bond : decide ((1099511627776 : Int) < (p.bond : Int)) = false := by simp; omega
  have k_delay := fun w => in_is p.delay 0 1000 true w h_delay
  have k_wait := fun w => in_is p.wait 0 50 true w h_wait
  have k_enact := fun w => in_is p.enact 0 1000 true w h_enact
  have k_poll := fun w => in_is p.poll 1 1000 true w h_poll
  have k_streak := fun w => in_is p.streak 0 64 true w h_streak
  have k_boost := fun w => in_is p.boost 0 1000 true w h_boost
  have k_absent := fun w => in_is p.absent 0 10000 true w h_absent
  have k_burn := fun w => in_is p.burn 0 10000 true w h_burn
  have k_quorum := fun w => in_is p.quorum 0 10000 true w h_quorum
  have k_churn := fun w => in_is p.churn 1 64 false w h_churn
  have v0 : p.vals[0]? = some (.int .u64 (p.inc : Int)) := rfl
  have v1 : p.vals[1]? = some (.int .u64 (p.maxEff : Int)) := rfl
  have v2 : p.vals[2]? = some (.int .u64 (p.floor : Int)) := rfl
  have v3 : p.vals[3]? = some (.int .u64 (p.cap : Int)) := rfl
  have v4 : p.vals[4]? = some (.int .u64 (p.up : Int)) := rfl
  have v5 : p.vals[5]? = some (.int .u64 (p.down : Int)) := rfl
  have v6 : p.vals[6]? = some (.int .u64 (p.bias : Int)) := rfl
  have v7 : p.vals[7]? = some (.int .u64 (p.quot : Int)) := rfl
  have v8 : p.vals[8]? = some (.int .u64 (p.biasEm : Int)) := rfl
  have v9 : p.vals[9]? = some (.int .u64 (p.quotEm : Int)) := rfl
  have v10 : p.vals[10]? = some (.int .u64 (p.recover : Int)) := rfl
  have v11 : p.vals[11]? = some (.int .u64 (p.scoreCap : Int)) := rfl
  have v12 : p.vals[12]? = some (.int .u64 (p.rate : Int)) := rfl
  have v13 : p.vals[13]? = some (.int .u64 (p.bond : Int)) := rfl
  have v14 : p.vals[14]? = some (.int .i64 p.delay) := rfl
  have v15 : p.vals[15]? = some (.int .i64 p.streak) := rfl
  have v16 : p.vals[16]? = some (.int .i64 p.boost) := rfl
  have v17 : p.vals[17]? = some (.int .i64 p.absent) := rfl
  have v18 : p.vals[18]? = some (.int .i64 p.burn) := rfl
  have v19 : p.vals[19]? = some (.int .i64 p.churn) := rfl
  have v20 : p.vals[20]? = some (.int .i64 p.wait) := rfl
  have v21 : p.vals[21]? = some (.int .i64 p.poll) := rfl
  have v22 : p.vals[22]? = some (.int .i64 p.enact) := rfl
  have v23 : p.vals[23]? = some (.int .i64 p.quorum) := rfl
  clear h_inc h_eff h_whole h_floor h_over h_cap h_up h_down h_bias h_biasEm h_quot h_quotEm h_recover h_score h_rate h_bond h_delay h_wait h_enact h_poll h_streak h_boost h_absent h_burn h_quorum h_churn
  go_enter Try.func19, Try.ntmps19
  go_wp2_with (first
    | (go_at_call 51; (with_reducible refine (k_inc _).mono ?_); rintro e w1 ⟨rfl, rfl⟩; clear k_inc)
    | (go_at_call 51; (with_reducible refine (k_eff _).mono ?_); rintro e w1 ⟨rfl, rfl⟩; clear k_eff)
    | (go_at_call 51; (with_reducible refine (k_cap _).mono ?_); rintro e w1 ⟨rfl, rfl⟩; clear k_cap)
    | (go_at_call 51; (with_reducible refine (k_up _).mono ?_); rintro e w1 ⟨rfl, rfl⟩; clear k_up)
    | (go_at_call 51; (with_reducible refine (k_bias _).mono ?_); rintro e w1 ⟨rfl, rfl⟩; clear k_bias)
    | (go_at_call 51; (with_reducible refine (k_biasEm _).mono ?_); rintro e w1 ⟨rfl, rfl⟩; clear k_biasEm)
    | (go_at_call 51; (with_reducible refine (k_quot _).mono ?_); rintro e w1 ⟨rfl, rfl⟩; clear k_quot)
    | (go_at_call 51; (with_reducible refine (k_quotEm _).mono ?_); rintro e w1 ⟨rfl, rfl⟩; clear k_quotEm)
    | (go_at_call 51; (with_reducible refine (k_score _).mono ?_); rintro e w1 ⟨rfl, rfl⟩; clear k_score)
    | (go_at_call 52; (with_reducible refine (k_delay _).mono ?_); rintro e w1 ⟨rfl, rfl⟩; clear k_delay)
    | (go_at_call 52; (with_reducible refine (k_wait _).mono ?_); rintro e w1 ⟨rfl, rfl⟩; clear k_wait)
    | (go_at_call 52; (with_reducible refine (k_enact _).mono ?_); rintro e w1 ⟨rfl, rfl⟩; clear k_enact)
    | (go_at_call 52; (with_reducible refine (k_poll _).mono ?_); rintro e w1 ⟨rfl, rfl⟩; clear k_poll)
    | (go_at_call 52; (with_reducible refine (k_streak _).mono ?_); rintro e w1 ⟨rfl, rfl⟩; clear k_streak)
    | (go_at_call 52; (with_reducible refine (k_boost _).mono ?_); rintro e w1 ⟨rfl, rfl⟩; clear k_boost)
    | (go_at_call 52; (with_reducible refine (k_absent _).mono ?_); rintro e w1 ⟨rfl, rfl⟩; clear k_absent)
    | (go_at_call 52; (with_reducible refine (k_burn _).mono ?_); rintro e w1 ⟨rfl, rfl⟩; clear k_burn)
    | (go_at_call 52; (with_reducible refine (k_quorum _).mono ?_); rintro e w1 ⟨rfl, rfl⟩; clear k_quorum)
    | (go_at_call 52; (with_reducible refine (k_churn _).mono ?_); rintro e w1 ⟨rfl, rfl⟩; clear k_churn))
  go_ret
  exact ⟨rfl, (Below.refl _ _).alloc (Nat.le_refl _) _⟩
end Go.Proofs.Ytcaejanfhchacaa
