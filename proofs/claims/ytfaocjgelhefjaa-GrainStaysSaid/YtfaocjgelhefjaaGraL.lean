/- Layer 10 (grain): what the laws share: two balances in a block, parameters loaded in a region that draws. -/
import Derived.Test.YtfaocjgelhefjaaAwake10
import Derived.Test.YtfaocjgelhefjaaSeq
import Derived.Test.YtfaocjgelhefjaaParR
namespace Go.Proofs.Ytfaocjgelhefjaa
open Go.RowKit
set_option linter.unusedVariables false
set_option linter.unusedSimpArgs false

/-- In block b lie two balances. -/
def TwoAt (w : World) (b x y : Nat) (T : TypeId) : Prop := w.heap[b]? = some (.cells #[.int .u64 (x : Int), .int .u64 (y : Int)] T (0, 0))
theorem TwoAt.lt {w : World} {b x y : Nat} {T : TypeId} (h : TwoAt w b x y T) : b < w.heap.size := (Array.getElem?_eq_some_iff.1 h).1
theorem TwoAt.up {w w' : World} {b x y : Nat} {T : TypeId} (h : TwoAt w b x y T) (hb : Below w.heap.size w w') : TwoAt w' b x y T := by
  unfold TwoAt; rw [hb.block b h.lt]; exact h
theorem TwoAt.new (w : World) (x y : Nat) (T : TypeId) {b : Nat} (hb : b = w.heap.size) : TwoAt (w.alloc (.cells #[.int .u64 (x : Int), .int .u64 (y : Int)] T)) b x y T := by
  subst hb; exact heap_alloc_new w _
theorem TwoAt.c0 {w : World} {b x y : Nat} {T : TypeId} (h : TwoAt w b x y T) : w.cell? ⟨b, 0, none⟩ = some (.int .u64 (x : Int)) := cell_of_row w b 0 _ _ _ h
theorem TwoAt.c1 {w : World} {b x y : Nat} {T : TypeId} (h : TwoAt w b x y T) : w.cell? ⟨b, 1, none⟩ = some (.int .u64 (y : Int)) := cell_of_row w b 1 _ _ _ h

theorem exec_load_par {o : Oper} {a : Act} {w : World} (x : Operand) (ho : o.op = .load 24 x) (g : Nat) (p : Par) (T : TypeId) (hx : a.eval x = .pointer (some ⟨g, 0, none⟩)) (hP : ParAt w g p T) :
    (execOp a.eval o).run Try.prog w = .ok (.value (.agg p.vals)) w := by
  unfold execOp
  simp only [ho, hx, Instr.loadAt, Instr.sureAddr, Sem.run_bind, Sem.run_pure, Result.andThen_ok, run_loadVar_row w g T 24 p.vals (0, 0) _ hP Try.underlying24 rfl (by kernel_rfl)]
theorem exec_load_rpar {o : Oper} {a : Act} {w : World} (x : Operand) (ho : o.op = .load 28 x) (g : Nat) (p : Par) (T : TypeId) (hx : a.eval x = .pointer (some ⟨g, 0, none⟩)) (hP : ParAt w g p T) :
    (execOp a.eval o).run Try.prog w = .ok (.value (.agg p.vals)) w := by
  unfold execOp
  simp only [ho, hx, Instr.loadAt, Instr.sureAddr, Sem.run_bind, Sem.run_pure, Result.andThen_ok, run_loadVar_row w g T 28 p.vals (0, 0) _ hP Try.underlying28 rfl (by kernel_rfl)]
end Go.Proofs.Ytfaocjgelhefjaa
