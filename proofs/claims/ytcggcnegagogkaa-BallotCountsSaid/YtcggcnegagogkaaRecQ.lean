/- Records held against themselves: structs of whole numbers and of yes and no. -/
import Derived.Test.YtcggcnegagogkaaRec
import Derived.Test.YtcggcnegagogkaaSeq
namespace Go.Proofs.Ytcggcnegagogkaa
open Go.RowKit Go.Deep
set_option linter.unusedVariables false
set_option linter.unusedSimpArgs false

section
variable {P : Program}
/-- A field's value is a whole number or a yes or no, as its type says. -/
def OneField (P : Program) (cs : Array Value) (f : Field) : Prop := (∃ k k' n, P.underlying f.type = some (.int k') ∧ cs[f.offset]? = some (.int k n)) ∨ ∃ b, P.underlying f.type = some .bool ∧ cs[f.offset]? = some (.bool b)
theorem part_one {t : TypeId} {d : TypeDesc} (hd : (match d with | .struct _ | .array _ _ => true | _ => false) = false) {xs : Array Value} {j : Nat} {v : Value} (ht : P.underlying t = some d) (hx : xs[j]? = some v) (w : World) : (part t xs j).run P w = .ok v w := by
  have hagg : (isAgg t).run P w = .ok false w := by
    unfold isAgg
    rw [Sem.run_bind, run_underlying ht w]
    cases d <;> simp_all
  unfold part
  simp only [Sem.run_bind, hagg, Result.andThen_ok, Bool.false_eq_true, if_false, hx, Sem.run_pure]
theorem eq_fields (d : Nat) (xs : Array Value) (w : World) : ∀ (fs : List Field), (∀ f ∈ fs, OneField P xs f) → (Op.eqFields (d + 1) xs xs fs).run P w = .ok true w
  | [], _ => by simp [Op.eqFields]
  | f :: fs, h => by
    have ih := eq_fields d xs w fs (fun g hg => h g (List.mem_cons_of_mem _ hg))
    unfold Op.eqFields
    rcases h f List.mem_cons_self with ⟨k, k', n, ht, hx⟩ | ⟨b, ht, hx⟩
    · split
      · simp only [Sem.run_bind, part_one rfl ht hx, Result.andThen_ok, run_equalIn_int w d f.type k k' n n ht]
        simpa using ih
      · exact ih
    · split
      · simp only [Sem.run_bind, part_one rfl ht hx, Result.andThen_ok, run_equalIn_bool' w d f.type b b ht]
        simpa using ih
      · exact ih
variable {T : TypeId} {fs : Array Field}
theorem rec_eql (hu : P.underlying T = some (.struct fs)) (hs : P.stoodInHeld T = false) (cs : Array Value) (h : ∀ f ∈ fs.toList, OneField P cs f) (w : World) : (binOp .eql T (.agg cs) (.agg cs)).run P w = .ok (.bool true) w := by
  have hf : P.fieldsOf T = fs := by simp [Program.fieldsOf, hu]
  rw [run_eql_struct, run_equalIn_struct w 9999 T _ _ (by rw [hf]; exact hu) hs, hf, eq_fields 9998 cs w _ h]
  rfl
theorem rec_neq (hu : P.underlying T = some (.struct fs)) (hs : P.stoodInHeld T = false) (cs : Array Value) (h : ∀ f ∈ fs.toList, OneField P cs f) (w : World) : (binOp .neq T (.agg cs) (.agg cs)).run P w = .ok (.bool false) w := by
  have hf : P.fieldsOf T = fs := by simp [Program.fieldsOf, hu]
  rw [run_neq_struct, run_equalIn_struct w 9999 T _ _ (by rw [hf]; exact hu) hs, hf, eq_fields 9998 cs w _ h]
  rfl
theorem exec_eql_rec {o : Oper} {a : Act} (w : World) (x y : Operand) (t : TypeId) (ho : o.op = .binOp .eql T x y t) (cs : Array Value) (hx : a.eval x = .agg cs) (hy : a.eval y = .agg cs) (hg : P.eqGuardType P.depth T = false)
    (hu : P.underlying T = some (.struct fs)) (hs : P.stoodInHeld T = false) (h : ∀ f ∈ fs.toList, OneField P cs f) : (execOp a.eval o).run P w = .ok (.value (.bool true)) w := by
  unfold execOp
  simp only [ho, hx, hy, Sem.run_bind, run_eqGuard_agg w _ _ _ _ _ _ hg, Result.andThen_ok, rec_eql hu hs cs h w]
  rfl
theorem exec_neq_rec {o : Oper} {a : Act} (w : World) (x y : Operand) (t : TypeId) (ho : o.op = .binOp .neq T x y t) (cs : Array Value) (hx : a.eval x = .agg cs) (hy : a.eval y = .agg cs) (hg : P.eqGuardType P.depth T = false)
    (hu : P.underlying T = some (.struct fs)) (hs : P.stoodInHeld T = false) (h : ∀ f ∈ fs.toList, OneField P cs f) : (execOp a.eval o).run P w = .ok (.value (.bool false)) w := by
  unfold execOp
  simp only [ho, hx, hy, Sem.run_bind, run_eqGuard_agg w _ _ _ _ _ _ hg, Result.andThen_ok, rec_neq hu hs cs h w]
  rfl
variable {ops : Array Oper} {rest : List Oper} {o : Oper} {a : Act} {w : World} {Q : Exit → Act → World → Prop}
theorem op_eql_rec (x y : Operand) (t : TypeId) (ho : o.op = .binOp .eql T x y t) (hgd : Region.wanted o (yielded ops a.tmps) = true) (cs : Array Value) (hx : a.eval x = .agg cs) (hy : a.eval y = .agg cs) (hg : P.eqGuardType P.depth T = false)
    (hu : P.underlying T = some (.struct fs)) (hs : P.stoodInHeld T = false) (hf : ∀ f ∈ fs.toList, OneField P cs f)
    (h : wpList P ops Q rest (a.put o.dst (.bool true)) w) : wpList P ops Q (o :: rest) a w :=
  wpList_step fun K hK => by
    rw [if_pos hgd]
    unfold Oper.wp
    rw [exec_eql_rec w x y t ho cs hx hy hg hu hs hf]
    exact hK _ _ h
end
end Go.Proofs.Ytcggcnegagogkaa
