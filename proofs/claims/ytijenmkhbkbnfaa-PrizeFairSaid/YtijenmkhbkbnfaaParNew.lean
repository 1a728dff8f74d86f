/- Parameters stored whole, the world behind it under a new name; parameters loaded in a region that draws. -/
import Derived.Test.YtijenmkhbkbnfaaParC
import Derived.Test.YtijenmkhbkbnfaaParL
import Derived.Test.YtijenmkhbkbnfaaParR
import Derived.Test.YtijenmkhbkbnfaaSeq
namespace Go.Proofs.Ytijenmkhbkbnfaa
open Go.RowKit
set_option linter.unusedVariables false
set_option linter.unusedSimpArgs false

section
variable {ops : Array Oper} {rest : List Oper} {o : Oper} {a : Act} {w : World} {Q : Exit → Act → World → Prop}
/-- A whole block written over; the world behind it has a new name. -/
theorem store_par_new (x y : Operand) (ho : o.op = .store 24 x y) (hgd : Region.wanted o (yielded ops a.tmps) = true) (g : Nat) (p old : Par) (T : TypeId) (hx : a.eval x = .pointer (some ⟨g, 0, none⟩)) (hy : a.eval y = .agg p.vals) (hP : ParAt w g old T)
    (h : ∀ w', ParAt w' g p T → Below g w w' → wpList Try.prog ops Q rest (a.put o.dst undef) w') : wpList Try.prog ops Q (o :: rest) a w :=
  store_par x y ho hgd g p old T hx hy hP (h _ (ParAt.set hP) (below_setRow (Below.refl _ _) (Nat.le_refl _) _))
theorem store_ref_new (x y : Operand) (ho : o.op = .store 31 x y) (hgd : Region.wanted o (yielded ops a.tmps) = true) (g : Nat) (p old : Par) (T : TypeId) (hx : a.eval x = .pointer (some ⟨g, 0, none⟩)) (hy : a.eval y = .agg p.vals) (hP : ParAt w g old T)
    (h : ∀ w', ParAt w' g p T → Below g w w' → wpList Try.prog ops Q rest (a.put o.dst undef) w') : wpList Try.prog ops Q (o :: rest) a w :=
  store_ref x y ho hgd g p old T hx hy hP (h _ (ParAt.set hP) (below_setRow (Below.refl _ _) (Nat.le_refl _) _))
end
/-- Made and written at once. -/
theorem below_made {w0 w w' : World} {o : Obj} (hB : Below w0.heap.size w0 w) (h : Below w.heap.size (w.alloc o) w') : Below w0.heap.size w0 w' :=
  hB.trans ((((Below.refl _ _).alloc (Nat.le_refl _) _).trans h).mono hB.size)

theorem exec_load_par {o : Oper} {a : Act} {w : World} (x : Operand) (ho : o.op = .load 24 x) (g : Nat) (p : Par) (T : TypeId) (hx : a.eval x = .pointer (some ⟨g, 0, none⟩)) (hP : ParAt w g p T) :
    (execOp a.eval o).run Try.prog w = .ok (.value (.agg p.vals)) w := by
  unfold execOp
  simp only [ho, hx, Instr.loadAt, Instr.sureAddr, Sem.run_bind, Sem.run_pure, Result.andThen_ok, run_loadVar_row w g T 24 p.vals (0, 0) _ hP Try.underlying24 rfl (by kernel_rfl)]
theorem exec_load_rpar {o : Oper} {a : Act} {w : World} (x : Operand) (ho : o.op = .load 31 x) (g : Nat) (p : Par) (T : TypeId) (hx : a.eval x = .pointer (some ⟨g, 0, none⟩)) (hP : ParAt w g p T) :
    (execOp a.eval o).run Try.prog w = .ok (.value (.agg p.vals)) w := by
  unfold execOp
  simp only [ho, hx, Instr.loadAt, Instr.sureAddr, Sem.run_bind, Sem.run_pure, Result.andThen_ok, run_loadVar_row w g T 31 p.vals (0, 0) _ hP Try.underlying31 rfl (by kernel_rfl)]
end Go.Proofs.Ytijenmkhbkbnfaa
