/- Layer 7 (param): what is asked beyond the spans. By contracts. · Layer 7 (param): parameters moved whole: out of their block, into it, built, handed back. · Layer 7 (param): parameters held against themselves. · Layer 7 (param), the document's: which parameters are right. By contracts. · Parameters stored whole, the world behind it under a new name; parameters loaded in a region that draws. -/
import Derived.Test.YtcaejanfhchacaaParA
import Derived.Deep.QuietTactic
import Derived.BigQuiet
import Derived.StillTailTactics
import Derived.IntWalk
import Derived.Laws.Tables
import Derived.Laws.StructEq
import Derived.Deep.Fields
import Derived.Test.YtcaejanfhchacaaSeq
namespace Go.Proofs.Ytcaejanfhchacaa
open Go.RowKit
set_option linter.unusedVariables false

theorem Par.v0 (p : Par) : p.vals[0]? = some (.int .u64 (p.inc : Int)) := rfl
theorem Par.v1 (p : Par) : p.vals[1]? = some (.int .u64 (p.maxEff : Int)) := rfl
theorem Par.v2 (p : Par) : p.vals[2]? = some (.int .u64 (p.floor : Int)) := rfl
theorem Par.v3 (p : Par) : p.vals[3]? = some (.int .u64 (p.cap : Int)) := rfl
theorem Par.v4 (p : Par) : p.vals[4]? = some (.int .u64 (p.up : Int)) := rfl
theorem Par.v5 (p : Par) : p.vals[5]? = some (.int .u64 (p.down : Int)) := rfl
theorem Par.v6 (p : Par) : p.vals[6]? = some (.int .u64 (p.bias : Int)) := rfl
theorem Par.v7 (p : Par) : p.vals[7]? = some (.int .u64 (p.quot : Int)) := rfl
theorem Par.v8 (p : Par) : p.vals[8]? = some (.int .u64 (p.biasEm : Int)) := rfl
theorem Par.v9 (p : Par) : p.vals[9]? = some (.int .u64 (p.quotEm : Int)) := rfl
theorem Par.v10 (p : Par) : p.vals[10]? = some (.int .u64 (p.recover : Int)) := rfl
theorem Par.v11 (p : Par) : p.vals[11]? = some (.int .u64 (p.scoreCap : Int)) := rfl
theorem Par.v12 (p : Par) : p.vals[12]? = some (.int .u64 (p.rate : Int)) := rfl
theorem Par.v13 (p : Par) : p.vals[13]? = some (.int .u64 (p.bond : Int)) := rfl
theorem Par.v14 (p : Par) : p.vals[14]? = some (.int .i64 p.delay) := rfl
theorem Par.v15 (p : Par) : p.vals[15]? = some (.int .i64 p.streak) := rfl
theorem Par.v16 (p : Par) : p.vals[16]? = some (.int .i64 p.boost) := rfl
theorem Par.v17 (p : Par) : p.vals[17]? = some (.int .i64 p.absent) := rfl
theorem Par.v18 (p : Par) : p.vals[18]? = some (.int .i64 p.burn) := rfl
theorem Par.v19 (p : Par) : p.vals[19]? = some (.int .i64 p.churn) := rfl
theorem Par.v20 (p : Par) : p.vals[20]? = some (.int .i64 p.wait) := rfl
theorem Par.v21 (p : Par) : p.vals[21]? = some (.int .i64 p.poll) := rfl
theorem Par.v22 (p : Par) : p.vals[22]? = some (.int .i64 p.enact) := rfl
theorem Par.v23 (p : Par) : p.vals[23]? = some (.int .i64 p.quorum) := rfl
/-- All of them at once, out of their block. -/
theorem load_par {ops : Array Oper} {rest : List Oper} {o : Oper} {a : Act} {w : World} {Q : Exit → Act → World → Prop} (x : Operand) (ho : o.op = .load 37 x) (hgd : Region.wanted o (yielded ops a.tmps) = true) (b : Nat) (p : Par) (T : TypeId) (hx : a.eval x = .pointer (some ⟨b, 0, none⟩)) (hP : ParAt w b p T)
    (h : wpList Try.prog ops Q rest (a.put o.dst (.agg p.vals)) w) : wpList Try.prog ops Q (o :: rest) a w :=
  wpList_step fun K hK => by
    rw [if_pos hgd]
    exact wp_load_row 37 x ho b hx T p.vals (0, 0) _ hP Try.underlying37 rfl (by kernel_rfl) (hK _ _ h)

theorem balanced_yes (p : Par) (w : World) (h0 : 1 ≤ p.inc) (h1 : p.maxEff % p.inc = 0) (h2 : p.floor < p.cap) :
    Calls Try.prog 78 #[.agg p.vals] w fun e w' => e = .returned (.bool true) ∧ Below w.heap.size w w' := by
  have v0 := p.v0
  have v1 := p.v1
  have v2 := p.v2
  have v3 := p.v3
  go_enter Try.func78, Try.ntmps78
  go_wp2
  go_ret
  exact ⟨rfl, (Below.refl _ _).alloc (Nat.le_refl _) _⟩
theorem balanced_part (p : Par) (w : World) (h0 : 1 ≤ p.inc) (h1 : p.maxEff % p.inc ≠ 0) :
    Calls Try.prog 78 #[.agg p.vals] w fun e w' => e = .returned (.bool false) ∧ Below w.heap.size w w' := by
  have v0 := p.v0
  have v1 := p.v1
  have v2 := p.v2
  have v3 := p.v3
  have h3 : (((p.maxEff : Int) % (p.inc : Int)) == 0) = false := by simp; omega
  clear h1
  go_enter Try.func78, Try.ntmps78
  go_wp2
  go_ret
  exact ⟨rfl, (Below.refl _ _).alloc (Nat.le_refl _) _⟩
theorem balanced_over (p : Par) (w : World) (h0 : 1 ≤ p.inc) (h1 : p.maxEff % p.inc = 0) (h2 : ¬ p.floor < p.cap) :
    Calls Try.prog 78 #[.agg p.vals] w fun e w' => e = .returned (.bool false) ∧ Below w.heap.size w w' := by
  have v0 := p.v0
  have v1 := p.v1
  have v2 := p.v2
  have v3 := p.v3
  have h3 : decide (p.floor < p.cap) = false := by simpa using h2
  clear h2
  go_enter Try.func78, Try.ntmps78
  go_wp2
  go_ret
  exact ⟨rfl, (Below.refl _ _).alloc (Nat.le_refl _) _⟩

theorem lost_is (p : Par) (t : Nat) (r : Bool) (w : World) (h1 : p.inc ≤ 2147483648) (h2 : p.bias ≤ 4294967296) (h3 : p.quot ≤ 1099511627776) (h4 : p.cap ≤ 1099511627776) (h5 : p.floor ≤ p.cap) (ht : t ≤ 1048576) (hr : Hid (decide (p.lim t) = r)) :
    Calls Try.prog 104 #[.agg p.vals, .int .u64 (t : Int)] w fun e w' => e = .returned (.bool r) ∧ Below w.heap.size w w' := by
  have v0 := p.v0
  have v2 := p.v2
  have v3 := p.v3
  have v6 := p.v6
  have v7 := p.v7
  obtain ⟨A, hA⟩ : ∃ A, p.inc * p.bias = A := ⟨_, rfl⟩
  obtain ⟨B, hB⟩ : ∃ B, t * (t + 1) = B := ⟨_, rfl⟩
  have hA1 : A ≤ 9223372036854775808 := hA ▸ Nat.le_trans (Nat.mul_le_mul h1 h2) (by omega)
  have hB1 : B ≤ 1099512676352 := hB ▸ Nat.le_trans (Nat.mul_le_mul ht (Nat.add_le_add_right ht 1)) (by omega)
  have e1 : IntKind.u64.wrap ((p.inc : Int) * (p.bias : Int)) = (A : Int) := by rw [← Int.natCast_mul, hA]; exact IntWalk.u64_in _ (by omega)
  have e2 : IntKind.u64.wrap ((t : Int) * ((t : Int) + 1)) = (B : Int) := by rw [show (t : Int) * ((t : Int) + 1) = ((t * (t + 1) : Nat) : Int) by simp, hB]; exact IntWalk.u64_in _ (by omega)
  have k := fun w => ratio_less A B (2 * p.quot) (p.cap - p.floor) w (by omega) (by omega) (by omega) (by omega)
  have hd : decide (A * B < 2 * p.quot * (p.cap - p.floor)) = !r := by
    rw [← hr.out, ← hA, ← hB]
    unfold Par.lim
    by_cases h : 2 * p.quot * (p.cap - p.floor) ≤ p.inc * p.bias * (t * (t + 1)) <;> simp [h] <;> omega
  rw [hd, show ((2 * p.quot : Nat) : Int) = 2 * (p.quot : Int) by simp, show ((p.cap - p.floor : Nat) : Int) = (p.cap : Int) - (p.floor : Int) by omega] at k
  clear hd hA hB hr
  go_enter Try.func104, Try.ntmps104
  go_wp2_with (go_at_call 111; refine (k _).mono ?_; rintro e w1 ⟨rfl, hb1⟩)
  go_ret
  exact ⟨by simp, ((Below.refl _ _).alloc (Nat.le_refl _) _).trans (hb1.mono (by simp))⟩

theorem still_load_par {ops : Array Oper} {rest : List Oper} {o : Oper} {a : Act} {w : World} {Q : Act → Prop} (hgd : o.guard = none) (x : Operand) (ho : o.op = .load 37 x) (b : Nat) (p : Par) (T : TypeId) (hx : a.eval x = .pointer (some ⟨b, 0, none⟩)) (hP : ParAt w b p T)
    (h : wpStill Try.prog ops w Q rest (a.put o.dst (.agg p.vals))) : wpStill Try.prog ops w Q (o :: rest) a := by
  refine wpStill_step (fun K hK => ?_)
  have hw : Region.wanted o (yielded ops a.tmps) = true := by simp [Region.wanted, hgd]
  rw [if_pos hw]
  unfold Oper.still execOp
  simp only [ho, hx, Instr.loadAt, Instr.sureAddr, Sem.run_bind, Sem.run_pure, Result.andThen_ok, run_loadVar_row w b T 37 p.vals (0, 0) _ hP Try.underlying37 rfl (by kernel_rfl), Oper.stillUpon]
  exact ⟨trivial, hK _ h⟩

set_option maxRecDepth 100000 in
set_option maxHeartbeats 2000000 in
theorem leaks_is (p : Par) (r : Bool) (w : World) (h1 : p.inc ≤ 2147483648) (h0 : 1 ≤ p.bias) (h2 : p.bias ≤ 4294967296) (h3 : p.quot ≤ 1099511627776) (h4 : p.cap ≤ 1099511627776) (h5 : p.floor ≤ p.cap) (hs : p.scoreCap < 18446744073709551616) (hr : Hid (decide (p.lim (min 1048576 (p.scoreCap / p.bias))) = r)) :
    Calls Try.prog 79 #[.agg p.vals] w fun e w' => e = .returned (.bool r) ∧ Below w.heap.size w w' := by
  have k := fun w => lost_is p _ r w h1 h2 h3 h4 h5 (Nat.min_le_left _ _) hr
  obtain ⟨m, hm⟩ : ∃ m, p.scoreCap / p.bias = m := ⟨_, rfl⟩
  have hmt : Int.tdiv (p.scoreCap : Int) (p.bias : Int) = (m : Int) := by rw [Int.tdiv_eq_ediv_of_nonneg (by omega), ← hm]; simp
  have hmq : (p.scoreCap : Int) / (p.bias : Int) = (m : Int) := by rw [← hm]; simp
  have hm2 : m < 18446744073709551616 := by rw [← hm]; exact Nat.lt_of_le_of_lt (Nat.div_le_self _ _) hs
  have hmw : IntKind.u64.wrap (m : Int) = (m : Int) := IntWalk.u64_in _ (by omega)
  have hbz : ¬ p.bias = 0 := by omega
  rw [hm] at k
  clear hr hm hm2 h1 h2 h3 h4 h5 hs
  rcases Nat.lt_or_ge m 1048576 with hlt | hge
  · rw [Nat.min_eq_right (by omega)] at k
    have d1 : min (1048576 : Int) (m : Int) = (m : Int) := by omega
    clear hlt
    go_enter Try.func79, Try.ntmps79
    go_wp2
    refine wp_region_still_tail 7 (by kernel_rfl) (by kernel_rfl) ?_
    simp only [List.take_succ_cons, List.take_zero, List.drop_succ_cons, List.drop_zero]
    generalize hW : ({ (w.alloc (.cells p.vals 37)) with drawn := (w.alloc (.cells p.vals 37)).drawn + 1 } : World) = W
    have hP : ParAt W w.heap.size p 37 := by subst hW; exact ParAt.new w p _
    have hB : Below w.heap.size w W := by subst hW; exact ((Below.refl _ _).alloc (Nat.le_refl _) _).drew
    clear hW
    have c6 := (hP.cell 6).trans p.v6
    have c11 := (hP.cell 11).trans p.v11
    refine still_load_par rfl _ rfl w.heap.size p _ rfl hP ?_
    repeat still_step
    refine wpStill_nil ?_
    go_wp2_with (go_at_call 104; refine (k _).mono ?_; rintro e w1 ⟨rfl, hb1⟩)
    go_ret
    exact ⟨rfl, Below.then hB hb1⟩
  · rw [Nat.min_eq_left hge, show ((1048576 : Nat) : Int) = 1048576 from rfl] at k
    have d1 : min (1048576 : Int) (m : Int) = 1048576 := by omega
    clear hge
    go_enter Try.func79, Try.ntmps79
    go_wp2
    refine wp_region_still_tail 7 (by kernel_rfl) (by kernel_rfl) ?_
    simp only [List.take_succ_cons, List.take_zero, List.drop_succ_cons, List.drop_zero]
    generalize hW : ({ (w.alloc (.cells p.vals 37)) with drawn := (w.alloc (.cells p.vals 37)).drawn + 1 } : World) = W
    have hP : ParAt W w.heap.size p 37 := by subst hW; exact ParAt.new w p _
    have hB : Below w.heap.size w W := by subst hW; exact ((Below.refl _ _).alloc (Nat.le_refl _) _).drew
    clear hW
    have c6 := (hP.cell 6).trans p.v6
    have c11 := (hP.cell 11).trans p.v11
    refine still_load_par rfl _ rfl w.heap.size p _ rfl hP ?_
    repeat still_step
    refine wpStill_nil ?_
    go_wp2_with (go_at_call 104; refine (k _).mono ?_; rintro e w1 ⟨rfl, hb1⟩)
    go_ret
    exact ⟨rfl, Below.then hB hb1⟩

end Go.Proofs.Ytcaejanfhchacaa
namespace Go.Proofs.Ytcaejanfhchacaa
open Go.RowKit
set_option linter.unusedVariables false

section
variable {ops : Array Oper} {rest : List Oper} {o : Oper} {a : Act} {w : World} {Q : Exit → Act → World → Prop}

theorem par_size : (Try.prog.info? 37).map (·.size) = some 24 := by kernel_rfl
theorem ref_size : (Try.prog.info? 43).map (·.size) = some 24 := by kernel_rfl
theorem vals_size (p : Par) : p.vals.size = 24 := rfl
theorem vals_one (p : Par) : p.vals.all (·.oneCell') = true := by simp [Par.vals, Value.oneCell']

theorem build_par (parts : Array (Nat × Operand)) (ho : o.op = .build 37 parts) (hgd : Region.wanted o (yielded ops a.tmps) = true) (p : Par) (hb : Try.prog.built 37 (parts.map fun (i, x) => (i, a.eval x)).toList = some p.vals)
    (h : wpList Try.prog ops Q rest (a.put o.dst (.agg p.vals)) w) : wpList Try.prog ops Q (o :: rest) a w :=
  wpList_step fun K hK => by
    rw [if_pos hgd]
    refine wp_build 37 parts ho (by rw [hb]; rfl) ?_
    rw [hb]
    exact hK _ _ h
/-- A whole block written over. -/
theorem store_par (x y : Operand) (ho : o.op = .store 37 x y) (hgd : Region.wanted o (yielded ops a.tmps) = true) (g : Nat) (p old : Par) (T : TypeId) (hx : a.eval x = .pointer (some ⟨g, 0, none⟩)) (hy : a.eval y = .agg p.vals) (hP : ParAt w g old T)
    (h : wpList Try.prog ops Q rest (a.put o.dst undef) (w.setRow g p.vals)) : wpList Try.prog ops Q (o :: rest) a w :=
  wpList_step fun K hK => by
    rw [if_pos hgd]
    exact wp_store_row 37 x y ho g p.vals hx hy T old.vals hP par_size rfl (vals_one p) (hK _ _ h)
theorem store_ref (x y : Operand) (ho : o.op = .store 43 x y) (hgd : Region.wanted o (yielded ops a.tmps) = true) (g : Nat) (p old : Par) (T : TypeId) (hx : a.eval x = .pointer (some ⟨g, 0, none⟩)) (hy : a.eval y = .agg p.vals) (hP : ParAt w g old T)
    (h : wpList Try.prog ops Q rest (a.put o.dst undef) (w.setRow g p.vals)) : wpList Try.prog ops Q (o :: rest) a w :=
  wpList_step fun K hK => by
    rw [if_pos hgd]
    exact wp_store_row 43 x y ho g p.vals hx hy T old.vals hP ref_size rfl (vals_one p) (hK _ _ h)
end

theorem ParAt.set {w : World} {g : Nat} {p old : Par} {T : TypeId} (h : ParAt w g old T) : ParAt (w.setRow g p.vals) g p T := setRow_heap w g _ _ T (0, 0) h
theorem below_setRow {B : Nat} {a w : World} (h : Below B a w) {g : Nat} (hg : B ≤ g) (cs : Array Value) : Below B a (w.setRow g cs) :=
  h.trans ⟨rfl, rfl, rfl, by simp [World.setRow], fun k hk => setRow_other w g k cs (by omega)⟩

section
variable {fn : Func} {s k l : Nat} {T : TypeId} {p : Par} {g : Nat} {tmps : Array Value} {w : World}
theorem res_par1 (h : fn.results = #[.cell s 37]) (hp : tmps.getD s undef = .pointer (some ⟨g, 0, none⟩)) (hP : ParAt w g p T) : (results fn tmps).run Try.prog w = .ok (.agg p.vals) w :=
  results_cell_row h tmps w g T p.vals (0, 0) _ hp hP Try.underlying37 rfl par_size
theorem res_ref1 (h : fn.results = #[.cell s 43]) (hp : tmps.getD s undef = .pointer (some ⟨g, 0, none⟩)) (hP : ParAt w g p T) : (results fn tmps).run Try.prog w = .ok (.agg p.vals) w :=
  results_cell_row h tmps w g T p.vals (0, 0) _ hp hP Try.underlying43 rfl ref_size
end
end Go.Proofs.Ytcaejanfhchacaa
namespace Go.Proofs.Ytcaejanfhchacaa
open Go.RowKit Go.Deep
set_option linter.unusedVariables false

section
variable {P : Program}
theorem run_part_int {t : TypeId} {k k' : IntKind} {xs : Array Value} {j : Nat} {n : Int} (ht : P.underlying t = some (.int k')) (hx : xs[j]? = some (.int k n)) (w : World) : (part t xs j).run P w = .ok (.int k n) w := by
  have hagg : (isAgg t).run P w = .ok false w := by
    unfold isAgg
    rw [Sem.run_bind, run_underlying ht w]
    rfl
  unfold part
  simp only [Sem.run_bind, hagg, Result.andThen_ok, Bool.false_eq_true, if_false, hx, Sem.run_pure]
theorem eqFields_same (d : Nat) (xs : Array Value) (w : World) : ∀ (fs : List Field), (∀ f ∈ fs, ∃ k k' n, P.underlying f.type = some (.int k') ∧ xs[f.offset]? = some (.int k n)) → (Op.eqFields (d + 1) xs xs fs).run P w = .ok true w
  | [], _ => by simp [Op.eqFields]
  | f :: fs, h => by
    obtain ⟨k, k', n, ht, hx⟩ := h f List.mem_cons_self
    have ih := eqFields_same d xs w fs (fun g hg => h g (List.mem_cons_of_mem _ hg))
    unfold Op.eqFields
    split
    · simp only [Sem.run_bind, run_part_int ht hx, Result.andThen_ok, run_equalIn_int w d f.type k k' n n ht]
      simpa using ih
    · exact ih
end

theorem field_at : (Try.prog.fieldsOf 37).toList.zipIdx.all (fun x => x.1.offset == x.2 && (x.1.type == (if x.2 < 14 then 35 else 3))) = true ∧ (Try.prog.fieldsOf 37).size = 24 := by
  constructor <;> kernel_rfl
theorem field_at_ref : (Try.prog.fieldsOf 43).toList.zipIdx.all (fun x => x.1.offset == x.2 && (x.1.type == (if x.2 < 14 then 35 else 3))) = true ∧ (Try.prog.fieldsOf 43).size = 24 := by
  constructor <;> kernel_rfl

theorem vals_word (p : Par) (j : Nat) (hj : j < 14) : ∃ n : Int, p.vals[j]? = some (.int .u64 n) := by
  match j, hj with
  | 0, _ | 1, _ | 2, _ | 3, _ | 4, _ | 5, _ | 6, _ | 7, _ | 8, _ | 9, _ | 10, _ | 11, _ | 12, _ | 13, _ => exact ⟨_, rfl⟩
theorem vals_int (p : Par) (j : Nat) (h0 : 14 ≤ j) (hj : j < 24) : ∃ n : Int, p.vals[j]? = some (.int .i64 n) := by
  obtain ⟨k, rfl⟩ : ∃ k, j = 14 + k := ⟨j - 14, by omega⟩
  match k, hj with
  | 0, _ | 1, _ | 2, _ | 3, _ | 4, _ | 5, _ | 6, _ | 7, _ | 8, _ | 9, _ => exact ⟨_, rfl⟩
  | k + 10, hk => exact absurd hk (by omega)

theorem fields_fit (p : Par) (fs : List Field) (h : fs.zipIdx.all (fun x => x.1.offset == x.2 && (x.1.type == (if x.2 < 14 then 35 else 3))) = true) (hl : fs.length = 24) :
    ∀ f ∈ fs, ∃ k k' n, Try.prog.underlying f.type = some (.int k') ∧ p.vals[f.offset]? = some (.int k n) := by
  intro f hf
  obtain ⟨i, hi, rfl⟩ := List.getElem_of_mem hf
  have hm : (fs[i], i) ∈ fs.zipIdx := by
    rw [List.mem_zipIdx_iff_getElem?]
    simp [hi]
  have hx := List.all_eq_true.1 h _ hm
  simp only [Bool.and_eq_true, beq_iff_eq] at hx
  rw [hx.1, hx.2]
  by_cases h14 : i < 14
  · obtain ⟨n, hn⟩ := vals_word p i h14
    rw [if_pos h14]
    exact ⟨_, _, n, Try.underlying35, hn⟩
  · obtain ⟨n, hn⟩ := vals_int p i (by omega) (by omega)
    rw [if_neg h14]
    exact ⟨_, _, n, Try.underlying3, hn⟩

theorem par_under : Try.prog.underlying 37 = some (.struct (Try.prog.fieldsOf 37)) := by kernel_rfl
theorem ref_under : Try.prog.underlying 43 = some (.struct (Try.prog.fieldsOf 43)) := by kernel_rfl
theorem par_eql (p : Par) (w : World) : (binOp .eql 37 (.agg p.vals) (.agg p.vals)).run Try.prog w = .ok (.bool true) w := by
  rw [run_eql_struct, run_equalIn_struct w 9999 37 _ _ par_under (by kernel_rfl), eqFields_same 9998 p.vals w _ (fields_fit p _ field_at.1 (by simpa using field_at.2))]
  rfl
theorem ref_eql (p : Par) (w : World) : (binOp .eql 43 (.agg p.vals) (.agg p.vals)).run Try.prog w = .ok (.bool true) w := by
  rw [run_eql_struct, run_equalIn_struct w 9999 43 _ _ ref_under (by kernel_rfl), eqFields_same 9998 p.vals w _ (fields_fit p _ field_at_ref.1 (by simpa using field_at_ref.2))]
  rfl
theorem par_guard : Try.prog.eqGuardType Try.prog.depth 37 = false := by kernel_rfl
theorem ref_guard : Try.prog.eqGuardType Try.prog.depth 43 = false := by kernel_rfl

theorem op_eql {ops : Array Oper} {rest : List Oper} {o : Oper} {a : Act} {w : World} {Q : Exit → Act → World → Prop} (x y : Operand) (t : TypeId) (ho : o.op = .binOp .eql 37 x y t) (hgd : Region.wanted o (yielded ops a.tmps) = true) (p : Par) (hx : a.eval x = .agg p.vals) (hy : a.eval y = .agg p.vals)
    (h : wpList Try.prog ops Q rest (a.put o.dst (.bool true)) w) : wpList Try.prog ops Q (o :: rest) a w :=
  wpList_step fun K hK => by
    rw [if_pos hgd]
    unfold Oper.wp execOp
    simp only [ho, hx, hy, Sem.run_bind, run_eqGuard_agg w _ _ _ _ _ _ par_guard, Result.andThen_ok, par_eql p w]
    exact hK _ _ h

theorem op_eqr {ops : Array Oper} {rest : List Oper} {o : Oper} {a : Act} {w : World} {Q : Exit → Act → World → Prop} (x y : Operand) (t : TypeId) (ho : o.op = .binOp .eql 43 x y t) (hgd : Region.wanted o (yielded ops a.tmps) = true) (p : Par) (hx : a.eval x = .agg p.vals) (hy : a.eval y = .agg p.vals)
    (h : wpList Try.prog ops Q rest (a.put o.dst (.bool true)) w) : wpList Try.prog ops Q (o :: rest) a w :=
  wpList_step fun K hK => by
    rw [if_pos hgd]
    unfold Oper.wp execOp
    simp only [ho, hx, hy, Sem.run_bind, run_eqGuard_agg w _ _ _ _ _ _ ref_guard, Result.andThen_ok, ref_eql p w]
    exact hK _ _ h
end Go.Proofs.Ytcaejanfhchacaa
namespace Go.Proofs.Ytcaejanfhchacaa
open Go.RowKit
set_option linter.unusedVariables false

theorem wide_is (n lo hi : Nat) (r : Bool) (w : World) (h : Hid (Par.okW (n, lo, hi) = r)) :
    Calls Try.prog 51 #[.int .u64 (n : Int), .int .u64 (lo : Int), .int .u64 (hi : Int)] w fun e w' => e = .returned (.bool r) ∧ w = w' := by
  have h' : (decide (lo ≤ n) && decide (n ≤ hi)) = r := h.out
  clear h
  by_cases h1 : lo ≤ n
  · by_cases h2 : n ≤ hi
    · obtain rfl : r = true := by rw [← h']; simp [h1, h2]
      clear h'
      have d1 : decide (lo ≤ n) = true := by simpa using h1
      have d2 : decide (n ≤ hi) = true := by simpa using h2
      go_enter Try.func51, Try.ntmps51
      go_wp2
      go_ret
      exact ⟨rfl, rfl⟩
    · obtain rfl : r = false := by rw [← h']; simp [h2]
      clear h'
      have d1 : decide (lo ≤ n) = true := by simpa using h1
      have d2 : decide (n ≤ hi) = false := by simpa using h2
      go_enter Try.func51, Try.ntmps51
      go_wp2
      go_ret
      exact ⟨rfl, rfl⟩
  · obtain rfl : r = false := by rw [← h']; simp [h1]
    clear h'
    have d1 : decide (lo ≤ n) = false := by simpa using h1
    go_enter Try.func51, Try.ntmps51
    go_wp2
    go_ret
    exact ⟨rfl, rfl⟩
theorem in_is (n lo hi : Int) (r : Bool) (w : World) (h : Hid (Par.okI (n, lo, hi) = r)) :
    Calls Try.prog 52 #[.int .i64 n, .int .i64 lo, .int .i64 hi] w fun e w' => e = .returned (.bool r) ∧ w = w' := by
  have h' : (decide (lo ≤ n) && decide (n ≤ hi)) = r := h.out
  clear h
  by_cases h1 : lo ≤ n
  · by_cases h2 : n ≤ hi
    · obtain rfl : r = true := by rw [← h']; simp [h1, h2]
      clear h'
      have d1 : decide (lo ≤ n) = true := by simpa using h1
      have d2 : decide (n ≤ hi) = true := by simpa using h2
      go_enter Try.func52, Try.ntmps52
      go_wp2
      go_ret
      exact ⟨rfl, rfl⟩
    · obtain rfl : r = false := by rw [← h']; simp [h2]
      clear h'
      have d1 : decide (lo ≤ n) = true := by simpa using h1
      have d2 : decide (n ≤ hi) = false := by simpa using h2
      go_enter Try.func52, Try.ntmps52
      go_wp2
      go_ret
      exact ⟨rfl, rfl⟩
  · obtain rfl : r = false := by rw [← h']; simp [h1]
    clear h'
    have d1 : decide (lo ≤ n) = false := by simpa using h1
    go_enter Try.func52, Try.ntmps52
    go_wp2
    go_ret
    exact ⟨rfl, rfl⟩

/-- All of them at once, out of their block: the document's. -/
theorem load_ref {ops : Array Oper} {rest : List Oper} {o : Oper} {a : Act} {w : World} {Q : Exit → Act → World → Prop} (x : Operand) (ho : o.op = .load 43 x) (hgd : Region.wanted o (yielded ops a.tmps) = true) (b : Nat) (p : Par) (T : TypeId) (hx : a.eval x = .pointer (some ⟨b, 0, none⟩)) (hP : ParAt w b p T)
    (h : wpList Try.prog ops Q rest (a.put o.dst (.agg p.vals)) w) : wpList Try.prog ops Q (o :: rest) a w :=
  wpList_step fun K hK => by
    rw [if_pos hgd]
    exact wp_load_row 43 x ho b hx T p.vals (0, 0) _ hP Try.underlying43 rfl (by kernel_rfl) (hK _ _ h)
end Go.Proofs.Ytcaejanfhchacaa
namespace Go.Proofs.Ytcaejanfhchacaa
open Go.RowKit
set_option linter.unusedVariables false
set_option linter.unusedSimpArgs false

section
variable {ops : Array Oper} {rest : List Oper} {o : Oper} {a : Act} {w : World} {Q : Exit → Act → World → Prop}
/-- A whole block written over; the world behind it has a new name. -/
theorem store_par_new (x y : Operand) (ho : o.op = .store 37 x y) (hgd : Region.wanted o (yielded ops a.tmps) = true) (g : Nat) (p old : Par) (T : TypeId) (hx : a.eval x = .pointer (some ⟨g, 0, none⟩)) (hy : a.eval y = .agg p.vals) (hP : ParAt w g old T)
    (h : ∀ w', ParAt w' g p T → Below g w w' → wpList Try.prog ops Q rest (a.put o.dst undef) w') : wpList Try.prog ops Q (o :: rest) a w :=
  store_par x y ho hgd g p old T hx hy hP (h _ (ParAt.set hP) (below_setRow (Below.refl _ _) (Nat.le_refl _) _))
end
/-- Made and written at once. -/
theorem below_made {w0 w w' : World} {o : Obj} (hB : Below w0.heap.size w0 w) (h : Below w.heap.size (w.alloc o) w') : Below w0.heap.size w0 w' :=
  hB.trans ((((Below.refl _ _).alloc (Nat.le_refl _) _).trans h).mono hB.size)

theorem exec_load_par {o : Oper} {a : Act} {w : World} (x : Operand) (ho : o.op = .load 37 x) (g : Nat) (p : Par) (T : TypeId) (hx : a.eval x = .pointer (some ⟨g, 0, none⟩)) (hP : ParAt w g p T) :
    (execOp a.eval o).run Try.prog w = .ok (.value (.agg p.vals)) w := by
  unfold execOp
  simp only [ho, hx, Instr.loadAt, Instr.sureAddr, Sem.run_bind, Sem.run_pure, Result.andThen_ok, run_loadVar_row w g T 37 p.vals (0, 0) _ hP Try.underlying37 rfl (by kernel_rfl)]
end Go.Proofs.Ytcaejanfhchacaa
