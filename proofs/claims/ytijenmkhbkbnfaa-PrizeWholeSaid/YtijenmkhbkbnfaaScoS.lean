/- Layer 11 (score): standings moved whole: out of their block, into it, built, handed back, held against themselves. -/
import Derived.Test.YtijenmkhbkbnfaaScoA
import Derived.Test.YtijenmkhbkbnfaaParQ
import Derived.Test.YtijenmkhbkbnfaaParNew
namespace Go.Proofs.Ytijenmkhbkbnfaa
open Go.RowKit Go.Deep
set_option linter.unusedVariables false
set_option linter.unusedSimpArgs false

theorem svals_fit (s : Std) (fs : List Field) (h : fs.zipIdx.all (fun x => x.1.offset == x.2 && (x.1.type == (if x.2 < 3 then 22 else 3))) = true) (hl : fs.length = 4) :
    ∀ f ∈ fs, ∃ k k' n, Try.prog.underlying f.type = some (.int k') ∧ s.vals[f.offset]? = some (.int k n) := by
  intro f hf
  obtain ⟨i, hi, rfl⟩ := List.getElem_of_mem hf
  have hm : (fs[i], i) ∈ fs.zipIdx := by
    rw [List.mem_zipIdx_iff_getElem?]
    simp [hi]
  have hx := List.all_eq_true.1 h _ hm
  simp only [Bool.and_eq_true, beq_iff_eq] at hx
  rw [hx.1, hx.2]
  rw [hl] at hi
  match i, hi with
  | 0, _ | 1, _ | 2, _ => exact ⟨_, _, _, Try.underlying22, rfl⟩
  | 3, _ => exact ⟨_, _, _, Try.underlying3, rfl⟩

theorem std_fields : (Try.prog.fieldsOf 36).toList.zipIdx.all (fun x => x.1.offset == x.2 && (x.1.type == (if x.2 < 3 then 22 else 3))) = true ∧ (Try.prog.fieldsOf 36).size = 4 := by
  constructor <;> kernel_rfl
theorem std_under : Try.prog.underlying 36 = some (.struct (Try.prog.fieldsOf 36)) := by kernel_rfl
theorem std_guard : Try.prog.eqGuardType Try.prog.depth 36 = false := by kernel_rfl
theorem std_eql (s : Std) (w : World) : (binOp .eql 36 (.agg s.vals) (.agg s.vals)).run Try.prog w = .ok (.bool true) w := by
  rw [run_eql_struct, run_equalIn_struct w 9999 36 _ _ std_under (by kernel_rfl), eqFields_same 9998 s.vals w _ (svals_fit s _ std_fields.1 (by simpa using std_fields.2))]
  rfl
theorem std_neq (s : Std) (w : World) : (binOp .neq 36 (.agg s.vals) (.agg s.vals)).run Try.prog w = .ok (.bool false) w := by
  rw [run_neq_struct, run_equalIn_struct w 9999 36 _ _ std_under (by kernel_rfl), eqFields_same 9998 s.vals w _ (svals_fit s _ std_fields.1 (by simpa using std_fields.2))]
  rfl
theorem exec_load_std {o : Oper} {a : Act} {w : World} (x : Operand) (ho : o.op = .load 36 x) (g : Nat) (s : Std) (T : TypeId) (hx : a.eval x = .pointer (some ⟨g, 0, none⟩)) (hS : StdAt w g s T) :
    (execOp a.eval o).run Try.prog w = .ok (.value (.agg s.vals)) w := by
  unfold execOp
  simp only [ho, hx, Instr.loadAt, Instr.sureAddr, Sem.run_bind, Sem.run_pure, Result.andThen_ok, run_loadVar_row w g T 36 s.vals (0, 0) _ hS Try.underlying36 rfl (by kernel_rfl)]
theorem exec_eql_std {o : Oper} {a : Act} (w : World) (x y : Operand) (t : TypeId) (ho : o.op = .binOp .eql 36 x y t) (s : Std) (hx : a.eval x = .agg s.vals) (hy : a.eval y = .agg s.vals) :
    (execOp a.eval o).run Try.prog w = .ok (.value (.bool true)) w := by
  unfold execOp
  simp only [ho, hx, hy, Sem.run_bind, run_eqGuard_agg w _ _ _ _ _ _ std_guard, Result.andThen_ok, std_eql s w]
  rfl
theorem exec_neq_std {o : Oper} {a : Act} (w : World) (x y : Operand) (t : TypeId) (ho : o.op = .binOp .neq 36 x y t) (s : Std) (hx : a.eval x = .agg s.vals) (hy : a.eval y = .agg s.vals) :
    (execOp a.eval o).run Try.prog w = .ok (.value (.bool false)) w := by
  unfold execOp
  simp only [ho, hx, hy, Sem.run_bind, run_eqGuard_agg w _ _ _ _ _ _ std_guard, Result.andThen_ok, std_neq s w]
  rfl
section
variable {ops : Array Oper} {rest : List Oper} {o : Oper} {a : Act} {w : World} {Q : Exit → Act → World → Prop}
theorem load_std (x : Operand) (ho : o.op = .load 36 x) (hgd : Region.wanted o (yielded ops a.tmps) = true) (g : Nat) (s : Std) (T : TypeId) (hx : a.eval x = .pointer (some ⟨g, 0, none⟩)) (hS : StdAt w g s T)
    (h : wpList Try.prog ops Q rest (a.put o.dst (.agg s.vals)) w) : wpList Try.prog ops Q (o :: rest) a w :=
  wpList_step fun K hK => by
    rw [if_pos hgd]
    exact wp_load_row 36 x ho g hx T s.vals (0, 0) _ hS Try.underlying36 rfl (by kernel_rfl) (hK _ _ h)
theorem store_std (x y : Operand) (ho : o.op = .store 36 x y) (hgd : Region.wanted o (yielded ops a.tmps) = true) (g : Nat) (s old : Std) (T : TypeId) (hx : a.eval x = .pointer (some ⟨g, 0, none⟩)) (hy : a.eval y = .agg s.vals) (hS : StdAt w g old T)
    (h : ∀ w', StdAt w' g s T → Below g w w' → wpList Try.prog ops Q rest (a.put o.dst undef) w') : wpList Try.prog ops Q (o :: rest) a w :=
  wpList_step fun K hK => by
    rw [if_pos hgd]
    exact wp_store_row 36 x y ho g s.vals hx hy T old.vals hS std_size rfl (svals_one s) (hK _ _ (h _ (StdAt.set hS) (below_setRow (Below.refl _ _) (Nat.le_refl _) _)))
/-- Another block keeps what it holds. -/
theorem store_std' (x y : Operand) (ho : o.op = .store 36 x y) (hgd : Region.wanted o (yielded ops a.tmps) = true) (g : Nat) (s old : Std) (T : TypeId) (hx : a.eval x = .pointer (some ⟨g, 0, none⟩)) (hy : a.eval y = .agg s.vals) (hS : StdAt w g old T)
    (h : ∀ w', StdAt w' g s T → Below g w w' → w'.heap.size = w.heap.size → (∀ k, k ≠ g → w'.heap[k]? = w.heap[k]?) → wpList Try.prog ops Q rest (a.put o.dst undef) w') : wpList Try.prog ops Q (o :: rest) a w :=
  wpList_step fun K hK => by
    rw [if_pos hgd]
    exact wp_store_row 36 x y ho g s.vals hx hy T old.vals hS std_size rfl (svals_one s) (hK _ _ (h _ (StdAt.set hS) (below_setRow (Below.refl _ _) (Nat.le_refl _) _) (by simp) (fun k hk => setRow_other _ _ _ _ hk)))
theorem field_std (x : Operand) (ho : o.op = .field 36 x 2) (hgd : Region.wanted o (yielded ops a.tmps) = true) (s : Std) (n : Int) (hn : (s.score : Int) = n) (hx : a.eval x = .agg s.vals)
    (h : wpList Try.prog ops Q rest (a.put o.dst (.int .u64 n)) w) : wpList Try.prog ops Q (o :: rest) a w :=
  wpList_step fun K hK => by
    subst hn
    rw [if_pos hgd]
    unfold Oper.wp execOp
    simp only [ho, hx]
    unfold Instr.field
    rw [Sem.run_bind, Sem.run_bind, run_underlying Try.underlying36 w]
    have hp : ∀ w, (part 22 s.vals 2).run Try.prog w = .ok (.int .u64 (s.score : Int)) w := fun w => run_part_int Try.underlying22 rfl w
    simp [asAgg, hp]
    exact hK _ _ h
theorem build_std (parts : Array (Nat × Operand)) (ho : o.op = .build 36 parts) (hgd : Region.wanted o (yielded ops a.tmps) = true) (s : Std) (hb : Try.prog.built 36 (parts.map fun (i, x) => (i, a.eval x)).toList = some s.vals)
    (h : wpList Try.prog ops Q rest (a.put o.dst (.agg s.vals)) w) : wpList Try.prog ops Q (o :: rest) a w :=
  wpList_step fun K hK => by
    rw [if_pos hgd]
    refine wp_build 36 parts ho (by rw [hb]; rfl) ?_
    rw [hb]
    exact hK _ _ h
theorem op_eql_std (x y : Operand) (t : TypeId) (ho : o.op = .binOp .eql 36 x y t) (hgd : Region.wanted o (yielded ops a.tmps) = true) (s : Std) (hx : a.eval x = .agg s.vals) (hy : a.eval y = .agg s.vals)
    (h : wpList Try.prog ops Q rest (a.put o.dst (.bool true)) w) : wpList Try.prog ops Q (o :: rest) a w :=
  wpList_step fun K hK => by
    rw [if_pos hgd]
    unfold Oper.wp
    rw [exec_eql_std w x y t ho s hx hy]
    exact hK _ _ h
theorem op_neq_std (x y : Operand) (t : TypeId) (ho : o.op = .binOp .neq 36 x y t) (hgd : Region.wanted o (yielded ops a.tmps) = true) (s : Std) (hx : a.eval x = .agg s.vals) (hy : a.eval y = .agg s.vals)
    (h : wpList Try.prog ops Q rest (a.put o.dst (.bool false)) w) : wpList Try.prog ops Q (o :: rest) a w :=
  wpList_step fun K hK => by
    rw [if_pos hgd]
    unfold Oper.wp
    rw [exec_neq_std w x y t ho s hx hy]
    exact hK _ _ h
end
section
variable {fn : Func} {s : Nat} {T : TypeId} {x : Std} {g : Nat} {tmps : Array Value} {w : World}
theorem res_std (h : fn.results = #[.cell s 36]) (hp : tmps.getD s undef = .pointer (some ⟨g, 0, none⟩)) (hS : StdAt w g x T) : (results fn tmps).run Try.prog w = .ok (.agg x.vals) w :=
  results_cell_row h tmps w g T x.vals (0, 0) _ hp hS Try.underlying36 rfl std_size
end

theorem rst_size : (Try.prog.info? 37).map (·.size) = some 4 := by kernel_rfl
theorem rst_fields : (Try.prog.fieldsOf 37).toList.zipIdx.all (fun x => x.1.offset == x.2 && (x.1.type == (if x.2 < 3 then 22 else 3))) = true ∧ (Try.prog.fieldsOf 37).size = 4 := by
  constructor <;> kernel_rfl
theorem rst_under : Try.prog.underlying 37 = some (.struct (Try.prog.fieldsOf 37)) := by kernel_rfl
theorem rst_guard : Try.prog.eqGuardType Try.prog.depth 37 = false := by kernel_rfl
theorem rst_eql (s : Std) (w : World) : (binOp .eql 37 (.agg s.vals) (.agg s.vals)).run Try.prog w = .ok (.bool true) w := by
  rw [run_eql_struct, run_equalIn_struct w 9999 37 _ _ rst_under (by kernel_rfl), eqFields_same 9998 s.vals w _ (svals_fit s _ rst_fields.1 (by simpa using rst_fields.2))]
  rfl
theorem rst_neq (s : Std) (w : World) : (binOp .neq 37 (.agg s.vals) (.agg s.vals)).run Try.prog w = .ok (.bool false) w := by
  rw [run_neq_struct, run_equalIn_struct w 9999 37 _ _ rst_under (by kernel_rfl), eqFields_same 9998 s.vals w _ (svals_fit s _ rst_fields.1 (by simpa using rst_fields.2))]
  rfl
theorem exec_load_rst {o : Oper} {a : Act} {w : World} (x : Operand) (ho : o.op = .load 37 x) (g : Nat) (s : Std) (T : TypeId) (hx : a.eval x = .pointer (some ⟨g, 0, none⟩)) (hS : StdAt w g s T) :
    (execOp a.eval o).run Try.prog w = .ok (.value (.agg s.vals)) w := by
  unfold execOp
  simp only [ho, hx, Instr.loadAt, Instr.sureAddr, Sem.run_bind, Sem.run_pure, Result.andThen_ok, run_loadVar_row w g T 37 s.vals (0, 0) _ hS Try.underlying37 rfl (by kernel_rfl)]
theorem exec_eql_rst {o : Oper} {a : Act} (w : World) (x y : Operand) (t : TypeId) (ho : o.op = .binOp .eql 37 x y t) (s : Std) (hx : a.eval x = .agg s.vals) (hy : a.eval y = .agg s.vals) :
    (execOp a.eval o).run Try.prog w = .ok (.value (.bool true)) w := by
  unfold execOp
  simp only [ho, hx, hy, Sem.run_bind, run_eqGuard_agg w _ _ _ _ _ _ rst_guard, Result.andThen_ok, rst_eql s w]
  rfl
theorem exec_neq_rst {o : Oper} {a : Act} (w : World) (x y : Operand) (t : TypeId) (ho : o.op = .binOp .neq 37 x y t) (s : Std) (hx : a.eval x = .agg s.vals) (hy : a.eval y = .agg s.vals) :
    (execOp a.eval o).run Try.prog w = .ok (.value (.bool false)) w := by
  unfold execOp
  simp only [ho, hx, hy, Sem.run_bind, run_eqGuard_agg w _ _ _ _ _ _ rst_guard, Result.andThen_ok, rst_neq s w]
  rfl
section
variable {ops : Array Oper} {rest : List Oper} {o : Oper} {a : Act} {w : World} {Q : Exit → Act → World → Prop}
theorem load_rst (x : Operand) (ho : o.op = .load 37 x) (hgd : Region.wanted o (yielded ops a.tmps) = true) (g : Nat) (s : Std) (T : TypeId) (hx : a.eval x = .pointer (some ⟨g, 0, none⟩)) (hS : StdAt w g s T)
    (h : wpList Try.prog ops Q rest (a.put o.dst (.agg s.vals)) w) : wpList Try.prog ops Q (o :: rest) a w :=
  wpList_step fun K hK => by
    rw [if_pos hgd]
    exact wp_load_row 37 x ho g hx T s.vals (0, 0) _ hS Try.underlying37 rfl (by kernel_rfl) (hK _ _ h)
theorem store_rst (x y : Operand) (ho : o.op = .store 37 x y) (hgd : Region.wanted o (yielded ops a.tmps) = true) (g : Nat) (s old : Std) (T : TypeId) (hx : a.eval x = .pointer (some ⟨g, 0, none⟩)) (hy : a.eval y = .agg s.vals) (hS : StdAt w g old T)
    (h : ∀ w', StdAt w' g s T → Below g w w' → wpList Try.prog ops Q rest (a.put o.dst undef) w') : wpList Try.prog ops Q (o :: rest) a w :=
  wpList_step fun K hK => by
    rw [if_pos hgd]
    exact wp_store_row 37 x y ho g s.vals hx hy T old.vals hS rst_size rfl (svals_one s) (hK _ _ (h _ (StdAt.set hS) (below_setRow (Below.refl _ _) (Nat.le_refl _) _)))
/-- Another block keeps what it holds. -/
theorem store_rst' (x y : Operand) (ho : o.op = .store 37 x y) (hgd : Region.wanted o (yielded ops a.tmps) = true) (g : Nat) (s old : Std) (T : TypeId) (hx : a.eval x = .pointer (some ⟨g, 0, none⟩)) (hy : a.eval y = .agg s.vals) (hS : StdAt w g old T)
    (h : ∀ w', StdAt w' g s T → Below g w w' → w'.heap.size = w.heap.size → (∀ k, k ≠ g → w'.heap[k]? = w.heap[k]?) → wpList Try.prog ops Q rest (a.put o.dst undef) w') : wpList Try.prog ops Q (o :: rest) a w :=
  wpList_step fun K hK => by
    rw [if_pos hgd]
    exact wp_store_row 37 x y ho g s.vals hx hy T old.vals hS rst_size rfl (svals_one s) (hK _ _ (h _ (StdAt.set hS) (below_setRow (Below.refl _ _) (Nat.le_refl _) _) (by simp) (fun k hk => setRow_other _ _ _ _ hk)))
theorem field_rst (x : Operand) (ho : o.op = .field 37 x 2) (hgd : Region.wanted o (yielded ops a.tmps) = true) (s : Std) (n : Int) (hn : (s.score : Int) = n) (hx : a.eval x = .agg s.vals)
    (h : wpList Try.prog ops Q rest (a.put o.dst (.int .u64 n)) w) : wpList Try.prog ops Q (o :: rest) a w :=
  wpList_step fun K hK => by
    subst hn
    rw [if_pos hgd]
    unfold Oper.wp execOp
    simp only [ho, hx]
    unfold Instr.field
    rw [Sem.run_bind, Sem.run_bind, run_underlying Try.underlying37 w]
    have hp : ∀ w, (part 22 s.vals 2).run Try.prog w = .ok (.int .u64 (s.score : Int)) w := fun w => run_part_int Try.underlying22 rfl w
    simp [asAgg, hp]
    exact hK _ _ h
theorem build_rst (parts : Array (Nat × Operand)) (ho : o.op = .build 37 parts) (hgd : Region.wanted o (yielded ops a.tmps) = true) (s : Std) (hb : Try.prog.built 37 (parts.map fun (i, x) => (i, a.eval x)).toList = some s.vals)
    (h : wpList Try.prog ops Q rest (a.put o.dst (.agg s.vals)) w) : wpList Try.prog ops Q (o :: rest) a w :=
  wpList_step fun K hK => by
    rw [if_pos hgd]
    refine wp_build 37 parts ho (by rw [hb]; rfl) ?_
    rw [hb]
    exact hK _ _ h
theorem op_eql_rst (x y : Operand) (t : TypeId) (ho : o.op = .binOp .eql 37 x y t) (hgd : Region.wanted o (yielded ops a.tmps) = true) (s : Std) (hx : a.eval x = .agg s.vals) (hy : a.eval y = .agg s.vals)
    (h : wpList Try.prog ops Q rest (a.put o.dst (.bool true)) w) : wpList Try.prog ops Q (o :: rest) a w :=
  wpList_step fun K hK => by
    rw [if_pos hgd]
    unfold Oper.wp
    rw [exec_eql_rst w x y t ho s hx hy]
    exact hK _ _ h
theorem op_neq_rst (x y : Operand) (t : TypeId) (ho : o.op = .binOp .neq 37 x y t) (hgd : Region.wanted o (yielded ops a.tmps) = true) (s : Std) (hx : a.eval x = .agg s.vals) (hy : a.eval y = .agg s.vals)
    (h : wpList Try.prog ops Q rest (a.put o.dst (.bool false)) w) : wpList Try.prog ops Q (o :: rest) a w :=
  wpList_step fun K hK => by
    rw [if_pos hgd]
    unfold Oper.wp
    rw [exec_neq_rst w x y t ho s hx hy]
    exact hK _ _ h
end
section
variable {fn : Func} {s : Nat} {T : TypeId} {x : Std} {g : Nat} {tmps : Array Value} {w : World}
theorem res_rst (h : fn.results = #[.cell s 37]) (hp : tmps.getD s undef = .pointer (some ⟨g, 0, none⟩)) (hS : StdAt w g x T) : (results fn tmps).run Try.prog w = .ok (.agg x.vals) w :=
  results_cell_row h tmps w g T x.vals (0, 0) _ hp hS Try.underlying37 rfl rst_size
end

section
variable {ops : Array Oper} {rest : List Oper} {o : Oper} {a : Act} {w : World} {Q : Exit → Act → World → Prop}
/-- The standing out of its working copy. -/
theorem load_wstd (x : Operand) (ho : o.op = .load 36 x) (hgd : Region.wanted o (yielded ops a.tmps) = true) (g : Nat) (s : Std) (p : Par) (T : TypeId) (hx : a.eval x = .pointer (some ⟨g, 0, none⟩)) (hW : WorkAt w g s p T)
    (h : wpList Try.prog ops Q rest (a.put o.dst (.agg s.vals)) w) : wpList Try.prog ops Q (o :: rest) a w :=
  wpList_step fun K hK => by
    rw [if_pos hgd]
    refine wp_load_mid 36 x ho g 0 hx s.vals.toList _ hW.std Try.underlying36 rfl (by rw [Array.length_toList, svals_size]; exact std_size) ?_
    rw [Array.toArray_toList]
    exact hK _ _ h
end
end Go.Proofs.Ytijenmkhbkbnfaa
