/- Layer 7 (param): what is asked beyond the spans. By contracts. -/
import Derived.Test.YtijenmkhbkbnfaaParA
import Derived.Test.YtijenmkhbkbnfaaRatioB
import Derived.Deep.QuietTactic
import Derived.BigQuiet
import Derived.StillTailTactics
import Derived.IntWalk
namespace Go.Proofs.Ytijenmkhbkbnfaa
open Go.RowKit
set_option linter.unusedVariables false

theorem Par.v0 (p : Par) : p.vals[0]? = some (.int .u64 (p.inc : Int)) := rfl
theorem Par.v1 (p : Par) : p.vals[1]? = some (.int .u64 (p.maxEff : Int)) := rfl
theorem Par.v2 (p : Par) : p.vals[2]? = some (.int .u64 (p.floor : Int)) := rfl
theorem Par.v3 (p : Par) : p.vals[3]? = some (.int .u64 (p.cap : Int)) := rfl
theorem Par.v4 (p : Par) : p.vals[4]? = some (.int .u64 (p.up : Int)) := rfl
theorem Par.v5 (p : Par) : p.vals[5]? = some (.int .u64 (p.down : Int)) := rfl
theorem Par.v6 (p : Par) : p.vals[6]? = some (.int .u64 (p.bias : Int)) := rfl
theorem Par.v7 (p : Par) : p.vals[7]? = some (.int .u64 (p.quot : Int)) := rfl
theorem Par.v8 (p : Par) : p.vals[8]? = some (.int .u64 (p.biasEm : Int)) := rfl
theorem Par.v9 (p : Par) : p.vals[9]? = some (.int .u64 (p.quotEm : Int)) := rfl
theorem Par.v10 (p : Par) : p.vals[10]? = some (.int .u64 (p.recover : Int)) := rfl
theorem Par.v11 (p : Par) : p.vals[11]? = some (.int .u64 (p.scoreCap : Int)) := rfl
theorem Par.v12 (p : Par) : p.vals[12]? = some (.int .u64 (p.rate : Int)) := rfl
theorem Par.v13 (p : Par) : p.vals[13]? = some (.int .u64 (p.bond : Int)) := rfl
theorem Par.v14 (p : Par) : p.vals[14]? = some (.int .i64 p.delay) := rfl
theorem Par.v15 (p : Par) : p.vals[15]? = some (.int .i64 p.streak) := rfl
theorem Par.v16 (p : Par) : p.vals[16]? = some (.int .i64 p.boost) := rfl
theorem Par.v17 (p : Par) : p.vals[17]? = some (.int .i64 p.absent) := rfl
theorem Par.v18 (p : Par) : p.vals[18]? = some (.int .i64 p.burn) := rfl
theorem Par.v19 (p : Par) : p.vals[19]? = some (.int .i64 p.churn) := rfl
theorem Par.v20 (p : Par) : p.vals[20]? = some (.int .i64 p.wait) := rfl
theorem Par.v21 (p : Par) : p.vals[21]? = some (.int .i64 p.poll) := rfl
theorem Par.v22 (p : Par) : p.vals[22]? = some (.int .i64 p.enact) := rfl
theorem Par.v23 (p : Par) : p.vals[23]? = some (.int .i64 p.quorum) := rfl
/-- All of them at once, out of their block. -/
theorem load_par {ops : Array Oper} {rest : List Oper} {o : Oper} {a : Act} {w : World} {Q : Exit → Act → World → Prop} (x : Operand) (ho : o.op = .load 24 x) (hgd : Region.wanted o (yielded ops a.tmps) = true) (b : Nat) (p : Par) (T : TypeId) (hx : a.eval x = .pointer (some ⟨b, 0, none⟩)) (hP : ParAt w b p T)
    (h : wpList Try.prog ops Q rest (a.put o.dst (.agg p.vals)) w) : wpList Try.prog ops Q (o :: rest) a w :=
  wpList_step fun K hK => by
    rw [if_pos hgd]
    exact wp_load_row 24 x ho b hx T p.vals (0, 0) _ hP Try.underlying24 rfl (by kernel_rfl) (hK _ _ h)

theorem balanced_yes (p : Par) (w : World) (h0 : 1 ≤ p.inc) (h1 : p.maxEff % p.inc = 0) (h2 : p.floor < p.cap) :
    Calls Try.prog 32 #[.agg p.vals] w fun e w' => e = .returned (.bool true) ∧ Below w.heap.size w w' := by
  have v0 := p.v0
  have v1 := p.v1
  have v2 := p.v2
  have v3 := p.v3
  go_enter Try.func32, Try.ntmps32
  go_wp2
  go_ret
  exact ⟨rfl, (Below.refl _ _).alloc (Nat.le_refl _) _⟩
theorem balanced_part (p : Par) (w : World) (h0 : 1 ≤ p.inc) (h1 : p.maxEff % p.inc ≠ 0) :
    Calls Try.prog 32 #[.agg p.vals] w fun e w' => e = .returned (.bool false) ∧ Below w.heap.size w w' := by
  have v0 := p.v0
  have v1 := p.v1
  have v2 := p.v2
  have v3 := p.v3
  have h3 : (((p.maxEff : Int) % (p.inc : Int)) == 0) = false := by simp; omega
  clear h1
  go_enter Try.func32, Try.ntmps32
  go_wp2
  go_ret
  exact ⟨rfl, (Below.refl _ _).alloc (Nat.le_refl _) _⟩
theorem balanced_over (p : Par) (w : World) (h0 : 1 ≤ p.inc) (h1 : p.maxEff % p.inc = 0) (h2 : ¬ p.floor < p.cap) :
    Calls Try.prog 32 #[.agg p.vals] w fun e w' => e = .returned (.bool false) ∧ Below w.heap.size w w' := by
  have v0 := p.v0
  have v1 := p.v1
  have v2 := p.v2
  have v3 := p.v3
  have h3 : decide (p.floor < p.cap) = false := by simpa using h2
  clear h2
  go_enter Try.func32, Try.ntmps32
  go_wp2
  go_ret
  exact ⟨rfl, (Below.refl _ _).alloc (Nat.le_refl _) _⟩

theorem lost_is (p : Par) (t : Nat) (r : Bool) (w : World) (h1 : p.inc ≤ 2147483648) (h2 : p.bias ≤ 4294967296) (h3 : p.quot ≤ 1099511627776) (h4 : p.cap ≤ 1099511627776) (h5 : p.floor ≤ p.cap) (ht : t ≤ 1048576) (hr : Hid (decide (p.lim t) = r)) :
    Calls Try.prog 46 #[.agg p.vals, .int .u64 (t : Int)] w fun e w' => e = .returned (.bool r) ∧ Below w.heap.size w w' := by
  have v0 := p.v0
  have v2 := p.v2
  have v3 := p.v3
  have v6 := p.v6
  have v7 := p.v7
  obtain ⟨A, hA⟩ : ∃ A, p.inc * p.bias = A := ⟨_, rfl⟩
  obtain ⟨B, hB⟩ : ∃ B, t * (t + 1) = B := ⟨_, rfl⟩
  have hA1 : A ≤ 9223372036854775808 := hA ▸ Nat.le_trans (Nat.mul_le_mul h1 h2) (by omega)
  have hB1 : B ≤ 1099512676352 := hB ▸ Nat.le_trans (Nat.mul_le_mul ht (Nat.add_le_add_right ht 1)) (by omega)
  have e1 : IntKind.u64.wrap ((p.inc : Int) * (p.bias : Int)) = (A : Int) := by rw [← Int.natCast_mul, hA]; exact IntWalk.u64_in _ (by omega)
  have e2 : IntKind.u64.wrap ((t : Int) * ((t : Int) + 1)) = (B : Int) := by rw [show (t : Int) * ((t : Int) + 1) = ((t * (t + 1) : Nat) : Int) by simp, hB]; exact IntWalk.u64_in _ (by omega)
  have k := fun w => ratio_less A B (2 * p.quot) (p.cap - p.floor) w (by omega) (by omega) (by omega) (by omega)
  have hd : decide (A * B < 2 * p.quot * (p.cap - p.floor)) = !r := by
    rw [← hr.out, ← hA, ← hB]
    unfold Par.lim
    by_cases h : 2 * p.quot * (p.cap - p.floor) ≤ p.inc * p.bias * (t * (t + 1)) <;> simp [h] <;> omega
  rw [hd, show ((2 * p.quot : Nat) : Int) = 2 * (p.quot : Int) by simp, show ((p.cap - p.floor : Nat) : Int) = (p.cap : Int) - (p.floor : Int) by omega] at k
  clear hd hA hB hr
  go_enter Try.func46, Try.ntmps46
  go_wp2_with (go_at_call 56; refine (k _).mono ?_; rintro e w1 ⟨rfl, hb1⟩)
  go_ret
  exact ⟨by simp, ((Below.refl _ _).alloc (Nat.le_refl _) _).trans (hb1.mono (by simp))⟩

theorem still_load_par {ops : Array Oper} {rest : List Oper} {o : Oper} {a : Act} {w : World} {Q : Act → Prop} (hgd : o.guard = none) (x : Operand) (ho : o.op = .load 24 x) (b : Nat) (p : Par) (T : TypeId) (hx : a.eval x = .pointer (some ⟨b, 0, none⟩)) (hP : ParAt w b p T)
    (h : wpStill Try.prog ops w Q rest (a.put o.dst (.agg p.vals))) : wpStill Try.prog ops w Q (o :: rest) a := by
  refine wpStill_step (fun K hK => ?_)
  have hw : Region.wanted o (yielded ops a.tmps) = true := by simp [Region.wanted, hgd]
  rw [if_pos hw]
  unfold Oper.still execOp
  simp only [ho, hx, Instr.loadAt, Instr.sureAddr, Sem.run_bind, Sem.run_pure, Result.andThen_ok, run_loadVar_row w b T 24 p.vals (0, 0) _ hP Try.underlying24 rfl (by kernel_rfl), Oper.stillUpon]
  exact ⟨trivial, hK _ h⟩

set_option maxRecDepth 100000 in
set_option maxHeartbeats 2000000 in
theorem leaks_is (p : Par) (r : Bool) (w : World) (h1 : p.inc ≤ 2147483648) (h0 : 1 ≤ p.bias) (h2 : p.bias ≤ 4294967296) (h3 : p.quot ≤ 1099511627776) (h4 : p.cap ≤ 1099511627776) (h5 : p.floor ≤ p.cap) (hs : p.scoreCap < 18446744073709551616) (hr : Hid (decide (p.lim (min 1048576 (p.scoreCap / p.bias))) = r)) :
    Calls Try.prog 33 #[.agg p.vals] w fun e w' => e = .returned (.bool r) ∧ Below w.heap.size w w' := by
  have k := fun w => lost_is p _ r w h1 h2 h3 h4 h5 (Nat.min_le_left _ _) hr
  obtain ⟨m, hm⟩ : ∃ m, p.scoreCap / p.bias = m := ⟨_, rfl⟩
  have hmt : Int.tdiv (p.scoreCap : Int) (p.bias : Int) = (m : Int) := by rw [Int.tdiv_eq_ediv_of_nonneg (by omega), ← hm]; simp
  have hmq : (p.scoreCap : Int) / (p.bias : Int) = (m : Int) := by rw [← hm]; simp
  have hm2 : m < 18446744073709551616 := by rw [← hm]; exact Nat.lt_of_le_of_lt (Nat.div_le_self _ _) hs
  have hmw : IntKind.u64.wrap (m : Int) = (m : Int) := IntWalk.u64_in _ (by omega)
  have hbz : ¬ p.bias = 0 := by omega
  rw [hm] at k
  clear hr hm hm2 h1 h2 h3 h4 h5 hs
  rcases Nat.lt_or_ge m 1048576 with hlt | hge
  · rw [Nat.min_eq_right (by omega)] at k
    have d1 : min (1048576 : Int) (m : Int) = (m : Int) := by omega
    clear hlt
    go_enter Try.func33, Try.ntmps33
    go_wp2
    refine wp_region_still_tail 7 (by kernel_rfl) (by kernel_rfl) ?_
    simp only [List.take_succ_cons, List.take_zero, List.drop_succ_cons, List.drop_zero]
    generalize hW : ({ (w.alloc (.cells p.vals 24)) with drawn := (w.alloc (.cells p.vals 24)).drawn + 1 } : World) = W
    have hP : ParAt W w.heap.size p 24 := by subst hW; exact ParAt.new w p _
    have hB : Below w.heap.size w W := by subst hW; exact ((Below.refl _ _).alloc (Nat.le_refl _) _).drew
    clear hW
    have c6 := (hP.cell 6).trans p.v6
    have c11 := (hP.cell 11).trans p.v11
    refine still_load_par rfl _ rfl w.heap.size p _ rfl hP ?_
    repeat still_step
    refine wpStill_nil ?_
    go_wp2_with (go_at_call 46; refine (k _).mono ?_; rintro e w1 ⟨rfl, hb1⟩)
    go_ret
    exact ⟨rfl, Below.then hB hb1⟩
  · rw [Nat.min_eq_left hge, show ((1048576 : Nat) : Int) = 1048576 from rfl] at k
    have d1 : min (1048576 : Int) (m : Int) = 1048576 := by omega
    clear hge
    go_enter Try.func33, Try.ntmps33
    go_wp2
    refine wp_region_still_tail 7 (by kernel_rfl) (by kernel_rfl) ?_
    simp only [List.take_succ_cons, List.take_zero, List.drop_succ_cons, List.drop_zero]
    generalize hW : ({ (w.alloc (.cells p.vals 24)) with drawn := (w.alloc (.cells p.vals 24)).drawn + 1 } : World) = W
    have hP : ParAt W w.heap.size p 24 := by subst hW; exact ParAt.new w p _
    have hB : Below w.heap.size w W := by subst hW; exact ((Below.refl _ _).alloc (Nat.le_refl _) _).drew
    clear hW
    have c6 := (hP.cell 6).trans p.v6
    have c11 := (hP.cell 11).trans p.v11
    refine still_load_par rfl _ rfl w.heap.size p _ rfl hP ?_
    repeat still_step
    refine wpStill_nil ?_
    go_wp2_with (go_at_call 46; refine (k _).mono ?_; rintro e w1 ⟨rfl, hb1⟩)
    go_ret
    exact ⟨rfl, Below.then hB hb1⟩

end Go.Proofs.Ytijenmkhbkbnfaa
