/- Layer 7 (param): what is asked beyond the spans. By contracts. -/
import Derived.Test.YtioghkkpdkkedaaDoorParA
import Derived.Test.YtioghkkpdkkedaaDoorRatioB
import Derived.Deep.QuietTactic
import Derived.BigQuiet
import Derived.StillTailTactics
import Derived.IntWalk
namespace Go.Proofs.YtioghkkpdkkedaaDoor
open Go.RowKit
set_option linter.unusedVariables false

theorem Par.v0 (p : Par) : p.vals[0]? = some (.int .u64 (p.inc : Int)) := rfl
theorem Par.v1 (p : Par) : p.vals[1]? = some (.int .u64 (p.maxEff : Int)) := rfl
theorem Par.v2 (p : Par) : p.vals[2]? = some (.int .u64 (p.floor : Int)) := rfl
theorem Par.v3 (p : Par) : p.vals[3]? = some (.int .u64 (p.cap : Int)) := rfl
theorem Par.v4 (p : Par) : p.vals[4]? = some (.int .u64 (p.up : Int)) := rfl
theorem Par.v5 (p : Par) : p.vals[5]? = some (.int .u64 (p.down : Int)) := rfl
theorem Par.v6 (p : Par) : p.vals[6]? = some (.int .u64 (p.bias : Int)) := rfl
theorem Par.v7 (p : Par) : p.vals[7]? = some (.int .u64 (p.quot : Int)) := rfl
theorem Par.v8 (p : Par) : p.vals[8]? = some (.int .u64 (p.biasEm : Int)) := rfl
theorem Par.v9 (p : Par) : p.vals[9]? = some (.int .u64 (p.quotEm : Int)) := rfl
theorem Par.v10 (p : Par) : p.vals[10]? = some (.int .u64 (p.recover : Int)) := rfl
theorem Par.v11 (p : Par) : p.vals[11]? = some (.int .u64 (p.scoreCap : Int)) := rfl
theorem Par.v12 (p : Par) : p.vals[12]? = some (.int .u64 (p.rate : Int)) := rfl
theorem Par.v13 (p : Par) : p.vals[13]? = some (.int .u64 (p.bond : Int)) := rfl
theorem Par.v14 (p : Par) : p.vals[14]? = some (.int .i64 p.delay) := rfl
theorem Par.v15 (p : Par) : p.vals[15]? = some (.int .i64 p.streak) := rfl
theorem Par.v16 (p : Par) : p.vals[16]? = some (.int .i64 p.boost) := rfl
theorem Par.v17 (p : Par) : p.vals[17]? = some (.int .i64 p.absent) := rfl
theorem Par.v18 (p : Par) : p.vals[18]? = some (.int .i64 p.burn) := rfl
theorem Par.v19 (p : Par) : p.vals[19]? = some (.int .i64 p.churn) := rfl
theorem Par.v20 (p : Par) : p.vals[20]? = some (.int .i64 p.wait) := rfl
theorem Par.v21 (p : Par) : p.vals[21]? = some (.int .i64 p.poll) := rfl
theorem Par.v22 (p : Par) : p.vals[22]? = some (.int .i64 p.enact) := rfl
theorem Par.v23 (p : Par) : p.vals[23]? = some (.int .i64 p.quorum) := rfl
/-- All of them at once, out of their block. -/
theorem load_par {ops : Array Oper} {rest : List Oper} {o : Oper} {a : Act} {w : World} {Q : Exit → Act → World → Prop} (x : Operand) (ho : o.op = .load 24 x) (hgd : Region.wanted o (yielded ops a.tmps) = true) (b : Nat) (p : Par) (T : TypeId) (hx : a.eval x = .pointer (some ⟨b, 0, none⟩)) (hP : ParAt w b p T)
    (h : wpList Tryd.prog ops Q rest (a.put o.dst (.agg p.vals)) w) : wpList Tryd.prog ops Q (o :: rest) a w :=
  wpList_step fun K hK => by
    rw [if_pos hgd]
    exact wp_load_row 24 x ho b hx T p.vals (0, 0) _ hP Tryd.underlying24 rfl (by kernel_rfl) (hK _ _ h)

theorem still_load_par {ops : Array Oper} {rest : List Oper} {o : Oper} {a : Act} {w : World} {Q : Act → Prop} (hgd : o.guard = none) (x : Operand) (ho : o.op = .load 24 x) (b : Nat) (p : Par) (T : TypeId) (hx : a.eval x = .pointer (some ⟨b, 0, none⟩)) (hP : ParAt w b p T)
    (h : wpStill Tryd.prog ops w Q rest (a.put o.dst (.agg p.vals))) : wpStill Tryd.prog ops w Q (o :: rest) a := by
  refine wpStill_step (fun K hK => ?_)
  have hw : Region.wanted o (yielded ops a.tmps) = true := by simp [Region.wanted, hgd]
  rw [if_pos hw]
  unfold Oper.still execOp
  simp only [ho, hx, Instr.loadAt, Instr.sureAddr, Sem.run_bind, Sem.run_pure, Result.andThen_ok, run_loadVar_row w b T 24 p.vals (0, 0) _ hP Tryd.underlying24 rfl (by kernel_rfl), Oper.stillUpon]
  exact ⟨trivial, hK _ h⟩

end Go.Proofs.YtioghkkpdkkedaaDoor
