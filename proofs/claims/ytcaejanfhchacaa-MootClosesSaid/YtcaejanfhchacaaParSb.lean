/- Layer 7 (param), the document's Right: all its tests passed, by the leak. By contracts. · Layer 7 (param), the document's Right: all its tests passed, by the leak. By contracts. · Layer 7 (param), the document's Right: all its tests passed, by the leak. By contracts. · Layer 7 (param), the document's: are parameters right? By contracts. -/
import Derived.Test.YtcaejanfhchacaaParL
import Derived.IntWalk
import Derived.Test.YtcaejanfhchacaaParT
import Derived.Test.YtcaejanfhchacaaParSa
namespace Go.Proofs.Ytcaejanfhchacaa
open Go.RowKit
set_option linter.unusedVariables false

set_option maxRecDepth 100000 in
set_option maxHeartbeats 8000000 in
theorem right_long (p : Par) (L : Nat) (w : World) (h_inc : Hid (Par.okW (p.inc, 1, 2147483648) = true)) (h_eff : Hid (Par.okW (p.maxEff, p.inc, 1099511627776) = true)) (h_whole : p.maxEff % p.inc = 0) (h_floor : p.inc ≤ p.floor) (h_over : p.floor < p.cap) (h_cap : Hid (Par.okW (p.cap, p.maxEff, 1099511627776) = true)) (h_up : Hid (Par.okW (p.up, p.inc, 1099511627776) = true)) (h_down : p.down ≤ 1099511627776) (h_bias : Hid (Par.okW (p.bias, 1, 4294967296) = true)) (h_biasEm : Hid (Par.okW (p.biasEm, p.bias, 4294967296) = true)) (h_quot : Hid (Par.okW (p.quot, 1, 1099511627776) = true)) (h_quotEm : Hid (Par.okW (p.quotEm, 1, p.quot) = true)) (h_recover : p.recover ≤ 4294967296) (h_score : Hid (Par.okW (p.scoreCap, 1, 72057594037927936) = true)) (h_rate : p.rate ≤ 4294967296) (h_bond : p.bond ≤ 1099511627776) (h_delay : Hid (Par.okI (p.delay, 0, 1000) = true)) (h_wait : Hid (Par.okI (p.wait, 0, 50) = true)) (h_enact : Hid (Par.okI (p.enact, 0, 1000) = true)) (h_poll : Hid (Par.okI (p.poll, 1, 1000) = true)) (h_streak : Hid (Par.okI (p.streak, 0, 64) = true)) (h_boost : Hid (Par.okI (p.boost, 0, 1000) = true)) (h_absent : Hid (Par.okI (p.absent, 0, 10000) = true)) (h_burn : Hid (Par.okI (p.burn, 0, 10000) = true)) (h_quorum : Hid (Par.okI (p.quorum, 0, 10000) = true)) (h_churn : Hid (Par.okI (p.churn, 1, 64) = true)) (kt : ∀ w, Calls Try.prog 53 #[.agg p.vals] w fun e w' => e = .returned (.int .u64 (L : Int)) ∧ Below w.heap.size w w')
 (hL : ¬ L ≤ 1048576) :
    Calls Try.prog 19 #[.agg p.vals] w fun e w' => e = .returned (.bool false) ∧ Below w.heap.size w w' := by
  have HN := Lib.hid hL
  clear hL
  have inc0 : 1 ≤ p.inc := by have := (Par.okW_iff _).1 h_inc.out; exact this.1
  have k_inc := fun w => wide_is p.inc 1 2147483648 true w h_inc
  rw [show ((1 : Nat) : Int) = 1 from rfl, show ((2147483648 : Nat) : Int) = 2147483648 from rfl] at k_inc
  have k_eff := fun w => wide_is p.maxEff p.inc 1099511627776 true w h_eff
  rw [show ((1099511627776 : Nat) : Int) = 1099511627776 from rfl] at k_eff
  have d_whole : (((p.maxEff : Int) % (p.inc : Int)) != 0) = false := by simp; omega
  have d_whole2 : (p.maxEff : Int) % (p.inc : Int) = 0 := by omega
  have d_floor : decide (p.floor < p.inc) = false := by simp; omega
  have d_over : decide (p.cap ≤ p.floor) = false := by simp; omega
  have k_cap := fun w => wide_is p.cap p.maxEff 1099511627776 true w h_cap
  rw [show ((1099511627776 : Nat) : Int) = 1099511627776 from rfl] at k_cap
  have k_up := fun w => wide_is p.up p.inc 1099511627776 true w h_up
  rw [show ((1099511627776 : Nat) : Int) = 1099511627776 from rfl] at k_up
  have d_down : decide ((1099511627776 : Int) < (p.down : Int)) = false := by simp; omega
  have k_bias := fun w => wide_is p.bias 1 4294967296 true w h_bias
  rw [show ((1 : Nat) : Int) = 1 from rfl, show ((4294967296 : Nat) : Int) = 4294967296 from rfl] at k_bias
  have k_biasEm := fun w => wide_is p.biasEm p.bias 4294967296 true w h_biasEm
  rw [show ((4294967296 : Nat) : Int) = 4294967296 from rfl] at k_biasEm
  have k_quot := fun w => wide_is p.quot 1 1099511627776 true w h_quot
  rw [show ((1 : Nat) : Int) = 1 from rfl, show ((1099511627776 : Nat) : Int) = 1099511627776 from rfl] at k_quot
  have k_quotEm := fun w => wide_is p.quotEm 1 p.quot true w h_quotEm
  rw [show ((1 : Nat) : Int) = 1 from rfl] at k_quotEm
  have d_recover : decide ((4294967296 : Int) < (p.recover : Int)) = false := by simp; omega
  have k_score := fun w => wide_is p.scoreCap 1 72057594037927936 true w h_score
  rw [show ((1 : Nat) : Int) = 1 from rfl, show ((72057594037927936 : Nat) : Int) = 72057594037927936 from rfl] at k_score
  have d_rate : decide ((4294967296 : Int) < (p.rate : Int)) = false := by simp; omega
  have d_bond : decide ((1099511627776 : Int) < (p.bond : Int)) = false := by simp; omega
  have k_delay := fun w => in_is p.delay 0 1000 true w h_delay
  have k_wait := fun w => in_is p.wait 0 50 true w h_wait
  have k_enact := fun w => in_is p.enact 0 1000 true w h_enact
  have k_poll := fun w => in_is p.poll 1 1000 true w h_poll
  have k_streak := fun w => in_is p.streak 0 64 true w h_streak
  have k_boost := fun w => in_is p.boost 0 1000 true w h_boost
  have k_absent := fun w => in_is p.absent 0 10000 true w h_absent
  have k_burn := fun w => in_is p.burn 0 10000 true w h_burn
  have k_quorum := fun w => in_is p.quorum 0 10000 true w h_quorum
  have k_churn := fun w => in_is p.churn 1 64 true w h_churn
  have v0 : p.vals[0]? = some (.int .u64 (p.inc : Int)) := rfl
  have v1 : p.vals[1]? = some (.int .u64 (p.maxEff : Int)) := rfl
  have v2 : p.vals[2]? = some (.int .u64 (p.floor : Int)) := rfl
  have v3 : p.vals[3]? = some (.int .u64 (p.cap : Int)) := rfl
  have v4 : p.vals[4]? = some (.int .u64 (p.up : Int)) := rfl
  have v5 : p.vals[5]? = some (.int .u64 (p.down : Int)) := rfl
  have v6 : p.vals[6]? = some (.int .u64 (p.bias : Int)) := rfl
  have v7 : p.vals[7]? = some (.int .u64 (p.quot : Int)) := rfl
  have v8 : p.vals[8]? = some (.int .u64 (p.biasEm : Int)) := rfl
  have v9 : p.vals[9]? = some (.int .u64 (p.quotEm : Int)) := rfl
  have v10 : p.vals[10]? = some (.int .u64 (p.recover : Int)) := rfl
  have v11 : p.vals[11]? = some (.int .u64 (p.scoreCap : Int)) := rfl
  have v12 : p.vals[12]? = some (.int .u64 (p.rate : Int)) := rfl
  have v13 : p.vals[13]? = some (.int .u64 (p.bond : Int)) := rfl
  have v14 : p.vals[14]? = some (.int .i64 p.delay) := rfl
  have v15 : p.vals[15]? = some (.int .i64 p.streak) := rfl
  have v16 : p.vals[16]? = some (.int .i64 p.boost) := rfl
  have v17 : p.vals[17]? = some (.int .i64 p.absent) := rfl
  have v18 : p.vals[18]? = some (.int .i64 p.burn) := rfl
  have v19 : p.vals[19]? = some (.int .i64 p.churn) := rfl
  have v20 : p.vals[20]? = some (.int .i64 p.wait) := rfl
  have v21 : p.vals[21]? = some (.int .i64 p.poll) := rfl
  have v22 : p.vals[22]? = some (.int .i64 p.enact) := rfl
  have v23 : p.vals[23]? = some (.int .i64 p.quorum) := rfl
  have hP := ParAt.new w p 43
  clear h_inc h_eff h_whole h_floor h_over h_cap h_up h_down h_bias h_biasEm h_quot h_quotEm h_recover h_score h_rate h_bond h_delay h_wait h_enact h_poll h_streak h_boost h_absent h_burn h_quorum h_churn
  go_enter Try.func19, Try.ntmps19
  go_wp2_with (first
    | (go_at_call 51; (with_reducible refine (k_inc _).mono ?_); rintro e w1 ⟨rfl, rfl⟩; clear k_inc)
    | (go_at_call 51; (with_reducible refine (k_eff _).mono ?_); rintro e w1 ⟨rfl, rfl⟩; clear k_eff)
    | (go_at_call 51; (with_reducible refine (k_cap _).mono ?_); rintro e w1 ⟨rfl, rfl⟩; clear k_cap)
    | (go_at_call 51; (with_reducible refine (k_up _).mono ?_); rintro e w1 ⟨rfl, rfl⟩; clear k_up)
    | (go_at_call 51; (with_reducible refine (k_bias _).mono ?_); rintro e w1 ⟨rfl, rfl⟩; clear k_bias)
    | (go_at_call 51; (with_reducible refine (k_biasEm _).mono ?_); rintro e w1 ⟨rfl, rfl⟩; clear k_biasEm)
    | (go_at_call 51; (with_reducible refine (k_quot _).mono ?_); rintro e w1 ⟨rfl, rfl⟩; clear k_quot)
    | (go_at_call 51; (with_reducible refine (k_quotEm _).mono ?_); rintro e w1 ⟨rfl, rfl⟩; clear k_quotEm)
    | (go_at_call 51; (with_reducible refine (k_score _).mono ?_); rintro e w1 ⟨rfl, rfl⟩; clear k_score)
    | (go_at_call 52; (with_reducible refine (k_delay _).mono ?_); rintro e w1 ⟨rfl, rfl⟩; clear k_delay)
    | (go_at_call 52; (with_reducible refine (k_wait _).mono ?_); rintro e w1 ⟨rfl, rfl⟩; clear k_wait)
    | (go_at_call 52; (with_reducible refine (k_enact _).mono ?_); rintro e w1 ⟨rfl, rfl⟩; clear k_enact)
    | (go_at_call 52; (with_reducible refine (k_poll _).mono ?_); rintro e w1 ⟨rfl, rfl⟩; clear k_poll)
    | (go_at_call 52; (with_reducible refine (k_streak _).mono ?_); rintro e w1 ⟨rfl, rfl⟩; clear k_streak)
    | (go_at_call 52; (with_reducible refine (k_boost _).mono ?_); rintro e w1 ⟨rfl, rfl⟩; clear k_boost)
    | (go_at_call 52; (with_reducible refine (k_absent _).mono ?_); rintro e w1 ⟨rfl, rfl⟩; clear k_absent)
    | (go_at_call 52; (with_reducible refine (k_burn _).mono ?_); rintro e w1 ⟨rfl, rfl⟩; clear k_burn)
    | (go_at_call 52; (with_reducible refine (k_quorum _).mono ?_); rintro e w1 ⟨rfl, rfl⟩; clear k_quorum)
    | (go_at_call 52; (with_reducible refine (k_churn _).mono ?_); rintro e w1 ⟨rfl, rfl⟩; clear k_churn)
    | (refine load_ref _ rfl rfl _ p _ rfl (by assumption) ?_)
    | (go_at_call 53; refine (kt _).mono ?_; clear kt; rintro e w1 ⟨rfl, hb1⟩; have hP1 := hP.up hb1; have c6 := (hP1.cell 6).trans v6; have c11 := (hP1.cell 11).trans v11))
  all_goals first
    | (exfalso; have h9 := HN.out; omega)
    | (go_ret; exact ⟨rfl, ((Below.refl _ _).alloc (Nat.le_refl _) _).trans (hb1.mono (by simp))⟩)
end Go.Proofs.Ytcaejanfhchacaa
namespace Go.Proofs.Ytcaejanfhchacaa
open Go.RowKit
set_option linter.unusedVariables false

set_option maxRecDepth 100000 in
set_option maxHeartbeats 8000000 in
theorem right_small (p : Par) (L : Nat) (w : World) (h_inc : Hid (Par.okW (p.inc, 1, 2147483648) = true)) (h_eff : Hid (Par.okW (p.maxEff, p.inc, 1099511627776) = true)) (h_whole : p.maxEff % p.inc = 0) (h_floor : p.inc ≤ p.floor) (h_over : p.floor < p.cap) (h_cap : Hid (Par.okW (p.cap, p.maxEff, 1099511627776) = true)) (h_up : Hid (Par.okW (p.up, p.inc, 1099511627776) = true)) (h_down : p.down ≤ 1099511627776) (h_bias : Hid (Par.okW (p.bias, 1, 4294967296) = true)) (h_biasEm : Hid (Par.okW (p.biasEm, p.bias, 4294967296) = true)) (h_quot : Hid (Par.okW (p.quot, 1, 1099511627776) = true)) (h_quotEm : Hid (Par.okW (p.quotEm, 1, p.quot) = true)) (h_recover : p.recover ≤ 4294967296) (h_score : Hid (Par.okW (p.scoreCap, 1, 72057594037927936) = true)) (h_rate : p.rate ≤ 4294967296) (h_bond : p.bond ≤ 1099511627776) (h_delay : Hid (Par.okI (p.delay, 0, 1000) = true)) (h_wait : Hid (Par.okI (p.wait, 0, 50) = true)) (h_enact : Hid (Par.okI (p.enact, 0, 1000) = true)) (h_poll : Hid (Par.okI (p.poll, 1, 1000) = true)) (h_streak : Hid (Par.okI (p.streak, 0, 64) = true)) (h_boost : Hid (Par.okI (p.boost, 0, 1000) = true)) (h_absent : Hid (Par.okI (p.absent, 0, 10000) = true)) (h_burn : Hid (Par.okI (p.burn, 0, 10000) = true)) (h_quorum : Hid (Par.okI (p.quorum, 0, 10000) = true)) (h_churn : Hid (Par.okI (p.churn, 1, 64) = true)) (kt : ∀ w, Calls Try.prog 53 #[.agg p.vals] w fun e w' => e = .returned (.int .u64 (L : Int)) ∧ Below w.heap.size w w')
    (hL : L ≤ 1048576) (hS : ¬ p.bias * L ≤ p.scoreCap) :
    Calls Try.prog 19 #[.agg p.vals] w fun e w' => e = .returned (.bool false) ∧ Below w.heap.size w w' := by
  have inc0 : 1 ≤ p.inc := by have := (Par.okW_iff _).1 h_inc.out; exact this.1
  have hb : p.bias ≤ 4294967296 := by have := (Par.okW_iff _).1 h_bias.out; exact this.2
  obtain ⟨M, hM⟩ : ∃ M, p.bias * L = M := ⟨_, rfl⟩
  have hM1 : M ≤ 4503599627370496 := hM ▸ Nat.le_trans (Nat.mul_le_mul hb hL) (by omega)
  have y1 : IntKind.u64.wrap ((p.bias : Int) * (L : Int)) = (M : Int) := by rw [← Int.natCast_mul, hM]; exact IntWalk.u64_in _ (by omega)
  have d1 : decide ((L : Int) ≤ 1048576) = true := by simp; omega
  have d2 : decide (M ≤ p.scoreCap) = false := by rw [← hM]; simpa using hS
  clear hL hS hM hM1 hb
  have k_inc := fun w => wide_is p.inc 1 2147483648 true w h_inc
  rw [show ((1 : Nat) : Int) = 1 from rfl, show ((2147483648 : Nat) : Int) = 2147483648 from rfl] at k_inc
  have k_eff := fun w => wide_is p.maxEff p.inc 1099511627776 true w h_eff
  rw [show ((1099511627776 : Nat) : Int) = 1099511627776 from rfl] at k_eff
  have d_whole : (((p.maxEff : Int) % (p.inc : Int)) != 0) = false := by simp; omega
  have d_whole2 : (p.maxEff : Int) % (p.inc : Int) = 0 := by omega
  have d_floor : decide (p.floor < p.inc) = false := by simp; omega
  have d_over : decide (p.cap ≤ p.floor) = false := by simp; omega
  have k_cap := fun w => wide_is p.cap p.maxEff 1099511627776 true w h_cap
  rw [show ((1099511627776 : Nat) : Int) = 1099511627776 from rfl] at k_cap
  have k_up := fun w => wide_is p.up p.inc 1099511627776 true w h_up
  rw [show ((1099511627776 : Nat) : Int) = 1099511627776 from rfl] at k_up
  have d_down : decide ((1099511627776 : Int) < (p.down : Int)) = false := by simp; omega
  have k_bias := fun w => wide_is p.bias 1 4294967296 true w h_bias
  rw [show ((1 : Nat) : Int) = 1 from rfl, show ((4294967296 : Nat) : Int) = 4294967296 from rfl] at k_bias
  have k_biasEm := fun w => wide_is p.biasEm p.bias 4294967296 true w h_biasEm
  rw [show ((4294967296 : Nat) : Int) = 4294967296 from rfl] at k_biasEm
  have k_quot := fun w => wide_is p.quot 1 1099511627776 true w h_quot
  rw [show ((1 : Nat) : Int) = 1 from rfl, show ((1099511627776 : Nat) : Int) = 1099511627776 from rfl] at k_quot
  have k_quotEm := fun w => wide_is p.quotEm 1 p.quot true w h_quotEm
  rw [show ((1 : Nat) : Int) = 1 from rfl] at k_quotEm
  have d_recover : decide ((4294967296 : Int) < (p.recover : Int)) = false := by simp; omega
  have k_score := fun w => wide_is p.scoreCap 1 72057594037927936 true w h_score
  rw [show ((1 : Nat) : Int) = 1 from rfl, show ((72057594037927936 : Nat) : Int) = 72057594037927936 from rfl] at k_score
  have d_rate : decide ((4294967296 : Int) < (p.rate : Int)) = false := by simp; omega
  have d_bond : decide ((1099511627776 : Int) < (p.bond : Int)) = false := by simp; omega
  have k_delay := fun w => in_is p.delay 0 1000 true w h_delay
  have k_wait := fun w => in_is p.wait 0 50 true w h_wait
  have k_enact := fun w => in_is p.enact 0 1000 true w h_enact
  have k_poll := fun w => in_is p.poll 1 1000 true w h_poll
  have k_streak := fun w => in_is p.streak 0 64 true w h_streak
  have k_boost := fun w => in_is p.boost 0 1000 true w h_boost
  have k_absent := fun w => in_is p.absent 0 10000 true w h_absent
  have k_burn := fun w => in_is p.burn 0 10000 true w h_burn
  have k_quorum := fun w => in_is p.quorum 0 10000 true w h_quorum
  have k_churn := fun w => in_is p.churn 1 64 true w h_churn
  have v0 : p.vals[0]? = some (.int .u64 (p.inc : Int)) := rfl
  have v1 : p.vals[1]? = some (.int .u64 (p.maxEff : Int)) := rfl
  have v2 : p.vals[2]? = some (.int .u64 (p.floor : Int)) := rfl
  have v3 : p.vals[3]? = some (.int .u64 (p.cap : Int)) := rfl
  have v4 : p.vals[4]? = some (.int .u64 (p.up : Int)) := rfl
  have v5 : p.vals[5]? = some (.int .u64 (p.down : Int)) := rfl
  have v6 : p.vals[6]? = some (.int .u64 (p.bias : Int)) := rfl
  have v7 : p.vals[7]? = some (.int .u64 (p.quot : Int)) := rfl
  have v8 : p.vals[8]? = some (.int .u64 (p.biasEm : Int)) := rfl
  have v9 : p.vals[9]? = some (.int .u64 (p.quotEm : Int)) := rfl
  have v10 : p.vals[10]? = some (.int .u64 (p.recover : Int)) := rfl
  have v11 : p.vals[11]? = some (.int .u64 (p.scoreCap : Int)) := rfl
  have v12 : p.vals[12]? = some (.int .u64 (p.rate : Int)) := rfl
  have v13 : p.vals[13]? = some (.int .u64 (p.bond : Int)) := rfl
  have v14 : p.vals[14]? = some (.int .i64 p.delay) := rfl
  have v15 : p.vals[15]? = some (.int .i64 p.streak) := rfl
  have v16 : p.vals[16]? = some (.int .i64 p.boost) := rfl
  have v17 : p.vals[17]? = some (.int .i64 p.absent) := rfl
  have v18 : p.vals[18]? = some (.int .i64 p.burn) := rfl
  have v19 : p.vals[19]? = some (.int .i64 p.churn) := rfl
  have v20 : p.vals[20]? = some (.int .i64 p.wait) := rfl
  have v21 : p.vals[21]? = some (.int .i64 p.poll) := rfl
  have v22 : p.vals[22]? = some (.int .i64 p.enact) := rfl
  have v23 : p.vals[23]? = some (.int .i64 p.quorum) := rfl
  have hP := ParAt.new w p 43
  clear h_inc h_eff h_whole h_floor h_over h_cap h_up h_down h_bias h_biasEm h_quot h_quotEm h_recover h_score h_rate h_bond h_delay h_wait h_enact h_poll h_streak h_boost h_absent h_burn h_quorum h_churn
  go_enter Try.func19, Try.ntmps19
  go_wp2_with (first
    | (go_at_call 51; (with_reducible refine (k_inc _).mono ?_); rintro e w1 ⟨rfl, rfl⟩; clear k_inc)
    | (go_at_call 51; (with_reducible refine (k_eff _).mono ?_); rintro e w1 ⟨rfl, rfl⟩; clear k_eff)
    | (go_at_call 51; (with_reducible refine (k_cap _).mono ?_); rintro e w1 ⟨rfl, rfl⟩; clear k_cap)
    | (go_at_call 51; (with_reducible refine (k_up _).mono ?_); rintro e w1 ⟨rfl, rfl⟩; clear k_up)
    | (go_at_call 51; (with_reducible refine (k_bias _).mono ?_); rintro e w1 ⟨rfl, rfl⟩; clear k_bias)
    | (go_at_call 51; (with_reducible refine (k_biasEm _).mono ?_); rintro e w1 ⟨rfl, rfl⟩; clear k_biasEm)
    | (go_at_call 51; (with_reducible refine (k_quot _).mono ?_); rintro e w1 ⟨rfl, rfl⟩; clear k_quot)
    | (go_at_call 51; (with_reducible refine (k_quotEm _).mono ?_); rintro e w1 ⟨rfl, rfl⟩; clear k_quotEm)
    | (go_at_call 51; (with_reducible refine (k_score _).mono ?_); rintro e w1 ⟨rfl, rfl⟩; clear k_score)
    | (go_at_call 52; (with_reducible refine (k_delay _).mono ?_); rintro e w1 ⟨rfl, rfl⟩; clear k_delay)
    | (go_at_call 52; (with_reducible refine (k_wait _).mono ?_); rintro e w1 ⟨rfl, rfl⟩; clear k_wait)
    | (go_at_call 52; (with_reducible refine (k_enact _).mono ?_); rintro e w1 ⟨rfl, rfl⟩; clear k_enact)
    | (go_at_call 52; (with_reducible refine (k_poll _).mono ?_); rintro e w1 ⟨rfl, rfl⟩; clear k_poll)
    | (go_at_call 52; (with_reducible refine (k_streak _).mono ?_); rintro e w1 ⟨rfl, rfl⟩; clear k_streak)
    | (go_at_call 52; (with_reducible refine (k_boost _).mono ?_); rintro e w1 ⟨rfl, rfl⟩; clear k_boost)
    | (go_at_call 52; (with_reducible refine (k_absent _).mono ?_); rintro e w1 ⟨rfl, rfl⟩; clear k_absent)
    | (go_at_call 52; (with_reducible refine (k_burn _).mono ?_); rintro e w1 ⟨rfl, rfl⟩; clear k_burn)
    | (go_at_call 52; (with_reducible refine (k_quorum _).mono ?_); rintro e w1 ⟨rfl, rfl⟩; clear k_quorum)
    | (go_at_call 52; (with_reducible refine (k_churn _).mono ?_); rintro e w1 ⟨rfl, rfl⟩; clear k_churn)
    | (refine load_ref _ rfl rfl _ p _ rfl (by assumption) ?_)
    | (go_at_call 53; refine (kt _).mono ?_; clear kt; rintro e w1 ⟨rfl, hb1⟩; have hP1 := hP.up hb1; have c6 := (hP1.cell 6).trans v6; have c11 := (hP1.cell 11).trans v11))
  go_ret
  exact ⟨rfl, ((Below.refl _ _).alloc (Nat.le_refl _) _).trans (hb1.mono (by simp))⟩

end Go.Proofs.Ytcaejanfhchacaa
namespace Go.Proofs.Ytcaejanfhchacaa
open Go.RowKit
set_option linter.unusedVariables false

set_option maxRecDepth 100000 in
set_option maxHeartbeats 8000000 in
theorem right_fine (p : Par) (L : Nat) (w : World) (h_inc : Hid (Par.okW (p.inc, 1, 2147483648) = true)) (h_eff : Hid (Par.okW (p.maxEff, p.inc, 1099511627776) = true)) (h_whole : p.maxEff % p.inc = 0) (h_floor : p.inc ≤ p.floor) (h_over : p.floor < p.cap) (h_cap : Hid (Par.okW (p.cap, p.maxEff, 1099511627776) = true)) (h_up : Hid (Par.okW (p.up, p.inc, 1099511627776) = true)) (h_down : p.down ≤ 1099511627776) (h_bias : Hid (Par.okW (p.bias, 1, 4294967296) = true)) (h_biasEm : Hid (Par.okW (p.biasEm, p.bias, 4294967296) = true)) (h_quot : Hid (Par.okW (p.quot, 1, 1099511627776) = true)) (h_quotEm : Hid (Par.okW (p.quotEm, 1, p.quot) = true)) (h_recover : p.recover ≤ 4294967296) (h_score : Hid (Par.okW (p.scoreCap, 1, 72057594037927936) = true)) (h_rate : p.rate ≤ 4294967296) (h_bond : p.bond ≤ 1099511627776) (h_delay : Hid (Par.okI (p.delay, 0, 1000) = true)) (h_wait : Hid (Par.okI (p.wait, 0, 50) = true)) (h_enact : Hid (Par.okI (p.enact, 0, 1000) = true)) (h_poll : Hid (Par.okI (p.poll, 1, 1000) = true)) (h_streak : Hid (Par.okI (p.streak, 0, 64) = true)) (h_boost : Hid (Par.okI (p.boost, 0, 1000) = true)) (h_absent : Hid (Par.okI (p.absent, 0, 10000) = true)) (h_burn : Hid (Par.okI (p.burn, 0, 10000) = true)) (h_quorum : Hid (Par.okI (p.quorum, 0, 10000) = true)) (h_churn : Hid (Par.okI (p.churn, 1, 64) = true)) (kt : ∀ w, Calls Try.prog 53 #[.agg p.vals] w fun e w' => e = .returned (.int .u64 (L : Int)) ∧ Below w.heap.size w w')
    (hL : L ≤ 1048576) (hS : p.bias * L ≤ p.scoreCap) :
    Calls Try.prog 19 #[.agg p.vals] w fun e w' => e = .returned (.bool true) ∧ Below w.heap.size w w' := by
  have inc0 : 1 ≤ p.inc := by have := (Par.okW_iff _).1 h_inc.out; exact this.1
  have hb : p.bias ≤ 4294967296 := by have := (Par.okW_iff _).1 h_bias.out; exact this.2
  obtain ⟨M, hM⟩ : ∃ M, p.bias * L = M := ⟨_, rfl⟩
  have hM1 : M ≤ 4503599627370496 := hM ▸ Nat.le_trans (Nat.mul_le_mul hb hL) (by omega)
  have y1 : IntKind.u64.wrap ((p.bias : Int) * (L : Int)) = (M : Int) := by rw [← Int.natCast_mul, hM]; exact IntWalk.u64_in _ (by omega)
  have d1 : decide ((L : Int) ≤ 1048576) = true := by simp; omega
  have d2 : decide (M ≤ p.scoreCap) = true := by rw [← hM]; simpa using hS
  clear hL hS hM hM1 hb
  have k_inc := fun w => wide_is p.inc 1 2147483648 true w h_inc
  rw [show ((1 : Nat) : Int) = 1 from rfl, show ((2147483648 : Nat) : Int) = 2147483648 from rfl] at k_inc
  have k_eff := fun w => wide_is p.maxEff p.inc 1099511627776 true w h_eff
  rw [show ((1099511627776 : Nat) : Int) = 1099511627776 from rfl] at k_eff
  have d_whole : (((p.maxEff : Int) % (p.inc : Int)) != 0) = false := by simp; omega
  have d_whole2 : (p.maxEff : Int) % (p.inc : Int) = 0 := by omega
  have d_floor : decide (p.floor < p.inc) = false := by simp; omega
  have d_over : decide (p.cap ≤ p.floor) = false := by simp; omega
  have k_cap := fun w => wide_is p.cap p.maxEff 1099511627776 true w h_cap
  rw [show ((1099511627776 : Nat) : Int) = 1099511627776 from rfl] at k_cap
  have k_up := fun w => wide_is p.up p.inc 1099511627776 true w h_up
  rw [show ((1099511627776 : Nat) : Int) = 1099511627776 from rfl] at k_up
  have d_down : decide ((1099511627776 : Int) < (p.down : Int)) = false := by simp; omega
  have k_bias := fun w => wide_is p.bias 1 4294967296 true w h_bias
  rw [show ((1 : Nat) : Int) = 1 from rfl, show ((4294967296 : Nat) : Int) = 4294967296 from rfl] at k_bias
  have k_biasEm := fun w => wide_is p.biasEm p.bias 4294967296 true w h_biasEm
  rw [show ((4294967296 : Nat) : Int) = 4294967296 from rfl] at k_biasEm
  have k_quot := fun w => wide_is p.quot 1 1099511627776 true w h_quot
  rw [show ((1 : Nat) : Int) = 1 from rfl, show ((1099511627776 : Nat) : Int) = 1099511627776 from rfl] at k_quot
  have k_quotEm := fun w => wide_is p.quotEm 1 p.quot true w h_quotEm
  rw [show ((1 : Nat) : Int) = 1 from rfl] at k_quotEm
  have d_recover : decide ((4294967296 : Int) < (p.recover : Int)) = false := by simp; omega
  have k_score := fun w => wide_is p.scoreCap 1 72057594037927936 true w h_score
  rw [show ((1 : Nat) : Int) = 1 from rfl, show ((72057594037927936 : Nat) : Int) = 72057594037927936 from rfl] at k_score
  have d_rate : decide ((4294967296 : Int) < (p.rate : Int)) = false := by simp; omega
  have d_bond : decide ((1099511627776 : Int) < (p.bond : Int)) = false := by simp; omega
  have k_delay := fun w => in_is p.delay 0 1000 true w h_delay
  have k_wait := fun w => in_is p.wait 0 50 true w h_wait
  have k_enact := fun w => in_is p.enact 0 1000 true w h_enact
  have k_poll := fun w => in_is p.poll 1 1000 true w h_poll
  have k_streak := fun w => in_is p.streak 0 64 true w h_streak
  have k_boost := fun w => in_is p.boost 0 1000 true w h_boost
  have k_absent := fun w => in_is p.absent 0 10000 true w h_absent
  have k_burn := fun w => in_is p.burn 0 10000 true w h_burn
  have k_quorum := fun w => in_is p.quorum 0 10000 true w h_quorum
  have k_churn := fun w => in_is p.churn 1 64 true w h_churn
  have v0 : p.vals[0]? = some (.int .u64 (p.inc : Int)) := rfl
  have v1 : p.vals[1]? = some (.int .u64 (p.maxEff : Int)) := rfl
  have v2 : p.vals[2]? = some (.int .u64 (p.floor : Int)) := rfl
  have v3 : p.vals[3]? = some (.int .u64 (p.cap : Int)) := rfl
  have v4 : p.vals[4]? = some (.int .u64 (p.up : Int)) := rfl
  have v5 : p.vals[5]? = some (.int .u64 (p.down : Int)) := rfl
  have v6 : p.vals[6]? = some (.int .u64 (p.bias : Int)) := rfl
  have v7 : p.vals[7]? = some (.int .u64 (p.quot : Int)) := rfl
  have v8 : p.vals[8]? = some (.int .u64 (p.biasEm : Int)) := rfl
  have v9 : p.vals[9]? = some (.int .u64 (p.quotEm : Int)) := rfl
  have v10 : p.vals[10]? = some (.int .u64 (p.recover : Int)) := rfl
  have v11 : p.vals[11]? = some (.int .u64 (p.scoreCap : Int)) := rfl
  have v12 : p.vals[12]? = some (.int .u64 (p.rate : Int)) := rfl
  have v13 : p.vals[13]? = some (.int .u64 (p.bond : Int)) := rfl
  have v14 : p.vals[14]? = some (.int .i64 p.delay) := rfl
  have v15 : p.vals[15]? = some (.int .i64 p.streak) := rfl
  have v16 : p.vals[16]? = some (.int .i64 p.boost) := rfl
  have v17 : p.vals[17]? = some (.int .i64 p.absent) := rfl
  have v18 : p.vals[18]? = some (.int .i64 p.burn) := rfl
  have v19 : p.vals[19]? = some (.int .i64 p.churn) := rfl
  have v20 : p.vals[20]? = some (.int .i64 p.wait) := rfl
  have v21 : p.vals[21]? = some (.int .i64 p.poll) := rfl
  have v22 : p.vals[22]? = some (.int .i64 p.enact) := rfl
  have v23 : p.vals[23]? = some (.int .i64 p.quorum) := rfl
  have hP := ParAt.new w p 43
  clear h_inc h_eff h_whole h_floor h_over h_cap h_up h_down h_bias h_biasEm h_quot h_quotEm h_recover h_score h_rate h_bond h_delay h_wait h_enact h_poll h_streak h_boost h_absent h_burn h_quorum h_churn
  go_enter Try.func19, Try.ntmps19
  go_wp2_with (first
    | (go_at_call 51; (with_reducible refine (k_inc _).mono ?_); rintro e w1 ⟨rfl, rfl⟩; clear k_inc)
    | (go_at_call 51; (with_reducible refine (k_eff _).mono ?_); rintro e w1 ⟨rfl, rfl⟩; clear k_eff)
    | (go_at_call 51; (with_reducible refine (k_cap _).mono ?_); rintro e w1 ⟨rfl, rfl⟩; clear k_cap)
    | (go_at_call 51; (with_reducible refine (k_up _).mono ?_); rintro e w1 ⟨rfl, rfl⟩; clear k_up)
    | (go_at_call 51; (with_reducible refine (k_bias _).mono ?_); rintro e w1 ⟨rfl, rfl⟩; clear k_bias)
    | (go_at_call 51; (with_reducible refine (k_biasEm _).mono ?_); rintro e w1 ⟨rfl, rfl⟩; clear k_biasEm)
    | (go_at_call 51; (with_reducible refine (k_quot _).mono ?_); rintro e w1 ⟨rfl, rfl⟩; clear k_quot)
    | (go_at_call 51; (with_reducible refine (k_quotEm _).mono ?_); rintro e w1 ⟨rfl, rfl⟩; clear k_quotEm)
    | (go_at_call 51; (with_reducible refine (k_score _).mono ?_); rintro e w1 ⟨rfl, rfl⟩; clear k_score)
    | (go_at_call 52; (with_reducible refine (k_delay _).mono ?_); rintro e w1 ⟨rfl, rfl⟩; clear k_delay)
    | (go_at_call 52; (with_reducible refine (k_wait _).mono ?_); rintro e w1 ⟨rfl, rfl⟩; clear k_wait)
    | (go_at_call 52; (with_reducible refine (k_enact _).mono ?_); rintro e w1 ⟨rfl, rfl⟩; clear k_enact)
    | (go_at_call 52; (with_reducible refine (k_poll _).mono ?_); rintro e w1 ⟨rfl, rfl⟩; clear k_poll)
    | (go_at_call 52; (with_reducible refine (k_streak _).mono ?_); rintro e w1 ⟨rfl, rfl⟩; clear k_streak)
    | (go_at_call 52; (with_reducible refine (k_boost _).mono ?_); rintro e w1 ⟨rfl, rfl⟩; clear k_boost)
    | (go_at_call 52; (with_reducible refine (k_absent _).mono ?_); rintro e w1 ⟨rfl, rfl⟩; clear k_absent)
    | (go_at_call 52; (with_reducible refine (k_burn _).mono ?_); rintro e w1 ⟨rfl, rfl⟩; clear k_burn)
    | (go_at_call 52; (with_reducible refine (k_quorum _).mono ?_); rintro e w1 ⟨rfl, rfl⟩; clear k_quorum)
    | (go_at_call 52; (with_reducible refine (k_churn _).mono ?_); rintro e w1 ⟨rfl, rfl⟩; clear k_churn)
    | (refine load_ref _ rfl rfl _ p _ rfl (by assumption) ?_)
    | (go_at_call 53; refine (kt _).mono ?_; clear kt; rintro e w1 ⟨rfl, hb1⟩; have hP1 := hP.up hb1; have c6 := (hP1.cell 6).trans v6; have c11 := (hP1.cell 11).trans v11))
  go_ret
  exact ⟨rfl, ((Below.refl _ _).alloc (Nat.le_refl _) _).trans (hb1.mono (by simp))⟩
end Go.Proofs.Ytcaejanfhchacaa
namespace Go.Proofs.Ytcaejanfhchacaa
open Go.RowKit
set_option linter.unusedVariables false

theorem ticks_of (p : Par) (T : Nat) (s : Par.Spans p) (h : Par.Halt p T) (w : World) :
    Calls Try.prog 53 #[.agg p.vals] w fun e w' => e = .returned (.int .u64 (T : Int)) ∧ Below w.heap.size w w' :=
  ticks_is p T w (by have := s.inc1; omega) (by have := s.bias1; omega) s.quot1 s.cap1 s.over h
theorem refright_ok (p : Par) (T : Nat) (w : World) (h : Par.Right p T) :
    Calls Try.prog 19 #[.agg p.vals] w fun e w' => e = .returned (.bool true) ∧ Below w.heap.size w w' := by
  have s := h.spans
  have kt := fun w => ticks_of p T s h.halt w
  have hm := h.most
  have hs := h.score
  obtain ⟨s0, s1, s2, s3, s4, s5, s6, s7, s8, s9, s10, s11, s12, s13, s14, s15, s16, s17, s18, s19, s20, s21, s22, s23, s24, s25, s26, s27, s28, s29, s30, s31, s32, s33, s34, s35, s36, s37, s38, s39, s40, s41, s42, s43, s44⟩ := s
  have h_inc : Par.okW (p.inc, 1, 2147483648) = true := (Par.okW_iff _).2 ⟨by simp only; omega, by simp only; omega⟩
  have h_eff : Par.okW (p.maxEff, p.inc, 1099511627776) = true := (Par.okW_iff _).2 ⟨by simp only; omega, by simp only; omega⟩
  have h_whole : p.maxEff % p.inc = 0 := by omega
  have h_floor : p.inc ≤ p.floor := by omega
  have h_over : p.floor < p.cap := by omega
  have h_cap : Par.okW (p.cap, p.maxEff, 1099511627776) = true := (Par.okW_iff _).2 ⟨by simp only; omega, by simp only; omega⟩
  have h_up : Par.okW (p.up, p.inc, 1099511627776) = true := (Par.okW_iff _).2 ⟨by simp only; omega, by simp only; omega⟩
  have h_down : p.down ≤ 1099511627776 := by omega
  have h_bias : Par.okW (p.bias, 1, 4294967296) = true := (Par.okW_iff _).2 ⟨by simp only; omega, by simp only; omega⟩
  have h_biasEm : Par.okW (p.biasEm, p.bias, 4294967296) = true := (Par.okW_iff _).2 ⟨by simp only; omega, by simp only; omega⟩
  have h_quot : Par.okW (p.quot, 1, 1099511627776) = true := (Par.okW_iff _).2 ⟨by simp only; omega, by simp only; omega⟩
  have h_quotEm : Par.okW (p.quotEm, 1, p.quot) = true := (Par.okW_iff _).2 ⟨by simp only; omega, by simp only; omega⟩
  have h_recover : p.recover ≤ 4294967296 := by omega
  have h_score : Par.okW (p.scoreCap, 1, 72057594037927936) = true := (Par.okW_iff _).2 ⟨by simp only; omega, by simp only; omega⟩
  have h_rate : p.rate ≤ 4294967296 := by omega
  have h_bond : p.bond ≤ 1099511627776 := by omega
  have h_delay : Par.okI (p.delay, 0, 1000) = true := (Par.okI_iff _).2 ⟨by simp only; omega, by simp only; omega⟩
  have h_wait : Par.okI (p.wait, 0, 50) = true := (Par.okI_iff _).2 ⟨by simp only; omega, by simp only; omega⟩
  have h_enact : Par.okI (p.enact, 0, 1000) = true := (Par.okI_iff _).2 ⟨by simp only; omega, by simp only; omega⟩
  have h_poll : Par.okI (p.poll, 1, 1000) = true := (Par.okI_iff _).2 ⟨by simp only; omega, by simp only; omega⟩
  have h_streak : Par.okI (p.streak, 0, 64) = true := (Par.okI_iff _).2 ⟨by simp only; omega, by simp only; omega⟩
  have h_boost : Par.okI (p.boost, 0, 1000) = true := (Par.okI_iff _).2 ⟨by simp only; omega, by simp only; omega⟩
  have h_absent : Par.okI (p.absent, 0, 10000) = true := (Par.okI_iff _).2 ⟨by simp only; omega, by simp only; omega⟩
  have h_burn : Par.okI (p.burn, 0, 10000) = true := (Par.okI_iff _).2 ⟨by simp only; omega, by simp only; omega⟩
  have h_quorum : Par.okI (p.quorum, 0, 10000) = true := (Par.okI_iff _).2 ⟨by simp only; omega, by simp only; omega⟩
  have h_churn : Par.okI (p.churn, 1, 64) = true := (Par.okI_iff _).2 ⟨by simp only; omega, by simp only; omega⟩
  exact right_fine p T w h_inc h_eff h_whole h_floor h_over h_cap h_up h_down h_bias h_biasEm h_quot h_quotEm h_recover h_score h_rate h_bond h_delay h_wait h_enact h_poll h_streak h_boost h_absent h_burn h_quorum h_churn kt hm hs
theorem refright_no (p : Par) (w : World) (hn : ¬ ∃ T, Par.Right p T) :
    Calls Try.prog 19 #[.agg p.vals] w fun e w' => e = .returned (.bool false) ∧ Below w.heap.size w w' := by
  by_cases h_inc : Par.okW (p.inc, 1, 2147483648) = true
  case neg => exact right_no_inc p w (eq_false_of_ne_true h_inc)
  by_cases h_eff : Par.okW (p.maxEff, p.inc, 1099511627776) = true
  case neg => exact right_no_eff p w h_inc (eq_false_of_ne_true h_eff)
  by_cases h_whole : p.maxEff % p.inc = 0
  case neg => exact right_no_whole p w h_inc h_eff h_whole
  by_cases h_floor : p.inc ≤ p.floor
  case neg => exact right_no_floor p w h_inc h_eff h_whole h_floor
  by_cases h_over : p.floor < p.cap
  case neg => exact right_no_over p w h_inc h_eff h_whole h_floor h_over
  by_cases h_cap : Par.okW (p.cap, p.maxEff, 1099511627776) = true
  case neg => exact right_no_cap p w h_inc h_eff h_whole h_floor h_over (eq_false_of_ne_true h_cap)
  by_cases h_up : Par.okW (p.up, p.inc, 1099511627776) = true
  case neg => exact right_no_up p w h_inc h_eff h_whole h_floor h_over h_cap (eq_false_of_ne_true h_up)
  by_cases h_down : p.down ≤ 1099511627776
  case neg => exact right_no_down p w h_inc h_eff h_whole h_floor h_over h_cap h_up h_down
  by_cases h_bias : Par.okW (p.bias, 1, 4294967296) = true
  case neg => exact right_no_bias p w h_inc h_eff h_whole h_floor h_over h_cap h_up h_down (eq_false_of_ne_true h_bias)
  by_cases h_biasEm : Par.okW (p.biasEm, p.bias, 4294967296) = true
  case neg => exact right_no_biasEm p w h_inc h_eff h_whole h_floor h_over h_cap h_up h_down h_bias (eq_false_of_ne_true h_biasEm)
  by_cases h_quot : Par.okW (p.quot, 1, 1099511627776) = true
  case neg => exact right_no_quot p w h_inc h_eff h_whole h_floor h_over h_cap h_up h_down h_bias h_biasEm (eq_false_of_ne_true h_quot)
  by_cases h_quotEm : Par.okW (p.quotEm, 1, p.quot) = true
  case neg => exact right_no_quotEm p w h_inc h_eff h_whole h_floor h_over h_cap h_up h_down h_bias h_biasEm h_quot (eq_false_of_ne_true h_quotEm)
  by_cases h_recover : p.recover ≤ 4294967296
  case neg => exact right_no_recover p w h_inc h_eff h_whole h_floor h_over h_cap h_up h_down h_bias h_biasEm h_quot h_quotEm h_recover
  by_cases h_score : Par.okW (p.scoreCap, 1, 72057594037927936) = true
  case neg => exact right_no_score p w h_inc h_eff h_whole h_floor h_over h_cap h_up h_down h_bias h_biasEm h_quot h_quotEm h_recover (eq_false_of_ne_true h_score)
  by_cases h_rate : p.rate ≤ 4294967296
  case neg => exact right_no_rate p w h_inc h_eff h_whole h_floor h_over h_cap h_up h_down h_bias h_biasEm h_quot h_quotEm h_recover h_score h_rate
  by_cases h_bond : p.bond ≤ 1099511627776
  case neg => exact right_no_bond p w h_inc h_eff h_whole h_floor h_over h_cap h_up h_down h_bias h_biasEm h_quot h_quotEm h_recover h_score h_rate h_bond
  by_cases h_delay : Par.okI (p.delay, 0, 1000) = true
  case neg => exact right_no_delay p w h_inc h_eff h_whole h_floor h_over h_cap h_up h_down h_bias h_biasEm h_quot h_quotEm h_recover h_score h_rate h_bond (eq_false_of_ne_true h_delay)
  by_cases h_wait : Par.okI (p.wait, 0, 50) = true
  case neg => exact right_no_wait p w h_inc h_eff h_whole h_floor h_over h_cap h_up h_down h_bias h_biasEm h_quot h_quotEm h_recover h_score h_rate h_bond h_delay (eq_false_of_ne_true h_wait)
  by_cases h_enact : Par.okI (p.enact, 0, 1000) = true
  case neg => exact right_no_enact p w h_inc h_eff h_whole h_floor h_over h_cap h_up h_down h_bias h_biasEm h_quot h_quotEm h_recover h_score h_rate h_bond h_delay h_wait (eq_false_of_ne_true h_enact)
  by_cases h_poll : Par.okI (p.poll, 1, 1000) = true
  case neg => exact right_no_poll p w h_inc h_eff h_whole h_floor h_over h_cap h_up h_down h_bias h_biasEm h_quot h_quotEm h_recover h_score h_rate h_bond h_delay h_wait h_enact (eq_false_of_ne_true h_poll)
  by_cases h_streak : Par.okI (p.streak, 0, 64) = true
  case neg => exact right_no_streak p w h_inc h_eff h_whole h_floor h_over h_cap h_up h_down h_bias h_biasEm h_quot h_quotEm h_recover h_score h_rate h_bond h_delay h_wait h_enact h_poll (eq_false_of_ne_true h_streak)
  by_cases h_boost : Par.okI (p.boost, 0, 1000) = true
  case neg => exact right_no_boost p w h_inc h_eff h_whole h_floor h_over h_cap h_up h_down h_bias h_biasEm h_quot h_quotEm h_recover h_score h_rate h_bond h_delay h_wait h_enact h_poll h_streak (eq_false_of_ne_true h_boost)
  by_cases h_absent : Par.okI (p.absent, 0, 10000) = true
  case neg => exact right_no_absent p w h_inc h_eff h_whole h_floor h_over h_cap h_up h_down h_bias h_biasEm h_quot h_quotEm h_recover h_score h_rate h_bond h_delay h_wait h_enact h_poll h_streak h_boost (eq_false_of_ne_true h_absent)
  by_cases h_burn : Par.okI (p.burn, 0, 10000) = true
  case neg => exact right_no_burn p w h_inc h_eff h_whole h_floor h_over h_cap h_up h_down h_bias h_biasEm h_quot h_quotEm h_recover h_score h_rate h_bond h_delay h_wait h_enact h_poll h_streak h_boost h_absent (eq_false_of_ne_true h_burn)
  by_cases h_quorum : Par.okI (p.quorum, 0, 10000) = true
  case neg => exact right_no_quorum p w h_inc h_eff h_whole h_floor h_over h_cap h_up h_down h_bias h_biasEm h_quot h_quotEm h_recover h_score h_rate h_bond h_delay h_wait h_enact h_poll h_streak h_boost h_absent h_burn (eq_false_of_ne_true h_quorum)
  by_cases h_churn : Par.okI (p.churn, 1, 64) = true
  case neg => exact right_no_churn p w h_inc h_eff h_whole h_floor h_over h_cap h_up h_down h_bias h_biasEm h_quot h_quotEm h_recover h_score h_rate h_bond h_delay h_wait h_enact h_poll h_streak h_boost h_absent h_burn h_quorum (eq_false_of_ne_true h_churn)
  have s : Par.Spans p := by
    have g_inc := (Par.okW_iff _).1 h_inc
    have g_eff := (Par.okW_iff _).1 h_eff
    have g_cap := (Par.okW_iff _).1 h_cap
    have g_up := (Par.okW_iff _).1 h_up
    have g_bias := (Par.okW_iff _).1 h_bias
    have g_biasEm := (Par.okW_iff _).1 h_biasEm
    have g_quot := (Par.okW_iff _).1 h_quot
    have g_quotEm := (Par.okW_iff _).1 h_quotEm
    have g_score := (Par.okW_iff _).1 h_score
    have g_delay := (Par.okI_iff _).1 h_delay
    have g_wait := (Par.okI_iff _).1 h_wait
    have g_enact := (Par.okI_iff _).1 h_enact
    have g_poll := (Par.okI_iff _).1 h_poll
    have g_streak := (Par.okI_iff _).1 h_streak
    have g_boost := (Par.okI_iff _).1 h_boost
    have g_absent := (Par.okI_iff _).1 h_absent
    have g_burn := (Par.okI_iff _).1 h_burn
    have g_quorum := (Par.okI_iff _).1 h_quorum
    have g_churn := (Par.okI_iff _).1 h_churn
    simp only at g_inc g_eff g_cap g_up g_bias g_biasEm g_quot g_quotEm g_score g_delay g_wait g_enact g_poll g_streak g_boost g_absent g_burn g_quorum g_churn
    constructor <;> omega
  obtain ⟨T, hT⟩ := Par.halt_is s.quot0 s.over
  have kt := fun w => ticks_of p T s hT w
  by_cases hm : T ≤ 1048576
  · exact right_small p T w h_inc h_eff h_whole h_floor h_over h_cap h_up h_down h_bias h_biasEm h_quot h_quotEm h_recover h_score h_rate h_bond h_delay h_wait h_enact h_poll h_streak h_boost h_absent h_burn h_quorum h_churn kt hm (fun hs => hn ⟨T, s, hT, hm, hs⟩)
  · exact right_long p T w h_inc h_eff h_whole h_floor h_over h_cap h_up h_down h_bias h_biasEm h_quot h_quotEm h_recover h_score h_rate h_bond h_delay h_wait h_enact h_poll h_streak h_boost h_absent h_burn h_quorum h_churn kt hm
end Go.Proofs.Ytcaejanfhchacaa
