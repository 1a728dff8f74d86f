/- Layer 7 (param): parameters held against themselves. -/
import Derived.Test.YtijenmkhbkbnfaaParL
import Derived.Laws.StructEq
import Derived.Deep.Fields
namespace Go.Proofs.Ytijenmkhbkbnfaa
open Go.RowKit Go.Deep
set_option linter.unusedVariables false

section
variable {P : Program}
theorem run_part_int {t : TypeId} {k k' : IntKind} {xs : Array Value} {j : Nat} {n : Int} (ht : P.underlying t = some (.int k')) (hx : xs[j]? = some (.int k n)) (w : World) : (part t xs j).run P w = .ok (.int k n) w := by
  have hagg : (isAgg t).run P w = .ok false w := by
    unfold isAgg
    rw [Sem.run_bind, run_underlying ht w]
    rfl
  unfold part
  simp only [Sem.run_bind, hagg, Result.andThen_ok, Bool.false_eq_true, if_false, hx, Sem.run_pure]
theorem eqFields_same (d : Nat) (xs : Array Value) (w : World) : ∀ (fs : List Field), (∀ f ∈ fs, ∃ k k' n, P.underlying f.type = some (.int k') ∧ xs[f.offset]? = some (.int k n)) → (Op.eqFields (d + 1) xs xs fs).run P w = .ok true w
  | [], _ => by simp [Op.eqFields]
  | f :: fs, h => by
    obtain ⟨k, k', n, ht, hx⟩ := h f List.mem_cons_self
    have ih := eqFields_same d xs w fs (fun g hg => h g (List.mem_cons_of_mem _ hg))
    unfold Op.eqFields
    split
    · simp only [Sem.run_bind, run_part_int ht hx, Result.andThen_ok, run_equalIn_int w d f.type k k' n n ht]
      simpa using ih
    · exact ih
end

theorem field_at : (Try.prog.fieldsOf 24).toList.zipIdx.all (fun x => x.1.offset == x.2 && (x.1.type == (if x.2 < 14 then 22 else 3))) = true ∧ (Try.prog.fieldsOf 24).size = 24 := by
  constructor <;> kernel_rfl
theorem field_at_ref : (Try.prog.fieldsOf 31).toList.zipIdx.all (fun x => x.1.offset == x.2 && (x.1.type == (if x.2 < 14 then 22 else 3))) = true ∧ (Try.prog.fieldsOf 31).size = 24 := by
  constructor <;> kernel_rfl

theorem vals_word (p : Par) (j : Nat) (hj : j < 14) : ∃ n : Int, p.vals[j]? = some (.int .u64 n) := by
  match j, hj with
  | 0, _ | 1, _ | 2, _ | 3, _ | 4, _ | 5, _ | 6, _ | 7, _ | 8, _ | 9, _ | 10, _ | 11, _ | 12, _ | 13, _ => exact ⟨_, rfl⟩
theorem vals_int (p : Par) (j : Nat) (h0 : 14 ≤ j) (hj : j < 24) : ∃ n : Int, p.vals[j]? = some (.int .i64 n) := by
  obtain ⟨k, rfl⟩ : ∃ k, j = 14 + k := ⟨j - 14, by omega⟩
  match k, hj with
  | 0, _ | 1, _ | 2, _ | 3, _ | 4, _ | 5, _ | 6, _ | 7, _ | 8, _ | 9, _ => exact ⟨_, rfl⟩
  | k + 10, hk => exact absurd hk (by omega)

theorem fields_fit (p : Par) (fs : List Field) (h : fs.zipIdx.all (fun x => x.1.offset == x.2 && (x.1.type == (if x.2 < 14 then 22 else 3))) = true) (hl : fs.length = 24) :
    ∀ f ∈ fs, ∃ k k' n, Try.prog.underlying f.type = some (.int k') ∧ p.vals[f.offset]? = some (.int k n) := by
  intro f hf
  obtain ⟨i, hi, rfl⟩ := List.getElem_of_mem hf
  have hm : (fs[i], i) ∈ fs.zipIdx := by
    rw [List.mem_zipIdx_iff_getElem?]
    simp [hi]
  have hx := List.all_eq_true.1 h _ hm
  simp only [Bool.and_eq_true, beq_iff_eq] at hx
  rw [hx.1, hx.2]
  by_cases h14 : i < 14
  · obtain ⟨n, hn⟩ := vals_word p i h14
    rw [if_pos h14]
    exact ⟨_, _, n, Try.underlying22, hn⟩
  · obtain ⟨n, hn⟩ := vals_int p i (by omega) (by omega)
    rw [if_neg h14]
    exact ⟨_, _, n, Try.underlying3, hn⟩

theorem par_under : Try.prog.underlying 24 = some (.struct (Try.prog.fieldsOf 24)) := by kernel_rfl
theorem ref_under : Try.prog.underlying 31 = some (.struct (Try.prog.fieldsOf 31)) := by kernel_rfl
theorem par_eql (p : Par) (w : World) : (binOp .eql 24 (.agg p.vals) (.agg p.vals)).run Try.prog w = .ok (.bool true) w := by
  rw [run_eql_struct, run_equalIn_struct w 9999 24 _ _ par_under (by kernel_rfl), eqFields_same 9998 p.vals w _ (fields_fit p _ field_at.1 (by simpa using field_at.2))]
  rfl
theorem par_neq (p : Par) (w : World) : (binOp .neq 24 (.agg p.vals) (.agg p.vals)).run Try.prog w = .ok (.bool false) w := by
  rw [run_neq_struct, run_equalIn_struct w 9999 24 _ _ par_under (by kernel_rfl), eqFields_same 9998 p.vals w _ (fields_fit p _ field_at.1 (by simpa using field_at.2))]
  rfl
theorem ref_eql (p : Par) (w : World) : (binOp .eql 31 (.agg p.vals) (.agg p.vals)).run Try.prog w = .ok (.bool true) w := by
  rw [run_eql_struct, run_equalIn_struct w 9999 31 _ _ ref_under (by kernel_rfl), eqFields_same 9998 p.vals w _ (fields_fit p _ field_at_ref.1 (by simpa using field_at_ref.2))]
  rfl
theorem par_guard : Try.prog.eqGuardType Try.prog.depth 24 = false := by kernel_rfl
theorem ref_guard : Try.prog.eqGuardType Try.prog.depth 31 = false := by kernel_rfl

theorem op_neq {ops : Array Oper} {rest : List Oper} {o : Oper} {a : Act} {w : World} {Q : Exit → Act → World → Prop} (x y : Operand) (t : TypeId) (ho : o.op = .binOp .neq 24 x y t) (hgd : Region.wanted o (yielded ops a.tmps) = true) (p : Par) (hx : a.eval x = .agg p.vals) (hy : a.eval y = .agg p.vals)
    (h : wpList Try.prog ops Q rest (a.put o.dst (.bool false)) w) : wpList Try.prog ops Q (o :: rest) a w :=
  wpList_step fun K hK => by
    rw [if_pos hgd]
    unfold Oper.wp execOp
    simp only [ho, hx, hy, Sem.run_bind, run_eqGuard_agg w _ _ _ _ _ _ par_guard, Result.andThen_ok, par_neq p w]
    exact hK _ _ h

theorem op_eql {ops : Array Oper} {rest : List Oper} {o : Oper} {a : Act} {w : World} {Q : Exit → Act → World → Prop} (x y : Operand) (t : TypeId) (ho : o.op = .binOp .eql 24 x y t) (hgd : Region.wanted o (yielded ops a.tmps) = true) (p : Par) (hx : a.eval x = .agg p.vals) (hy : a.eval y = .agg p.vals)
    (h : wpList Try.prog ops Q rest (a.put o.dst (.bool true)) w) : wpList Try.prog ops Q (o :: rest) a w :=
  wpList_step fun K hK => by
    rw [if_pos hgd]
    unfold Oper.wp execOp
    simp only [ho, hx, hy, Sem.run_bind, run_eqGuard_agg w _ _ _ _ _ _ par_guard, Result.andThen_ok, par_eql p w]
    exact hK _ _ h

theorem op_eqr {ops : Array Oper} {rest : List Oper} {o : Oper} {a : Act} {w : World} {Q : Exit → Act → World → Prop} (x y : Operand) (t : TypeId) (ho : o.op = .binOp .eql 31 x y t) (hgd : Region.wanted o (yielded ops a.tmps) = true) (p : Par) (hx : a.eval x = .agg p.vals) (hy : a.eval y = .agg p.vals)
    (h : wpList Try.prog ops Q rest (a.put o.dst (.bool true)) w) : wpList Try.prog ops Q (o :: rest) a w :=
  wpList_step fun K hK => by
    rw [if_pos hgd]
    unfold Oper.wp execOp
    simp only [ho, hx, hy, Sem.run_bind, run_eqGuard_agg w _ _ _ _ _ _ ref_guard, Result.andThen_ok, ref_eql p w]
    exact hK _ _ h
end Go.Proofs.Ytijenmkhbkbnfaa
