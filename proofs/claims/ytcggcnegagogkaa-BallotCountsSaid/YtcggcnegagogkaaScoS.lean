/- Layer 11 (score): standings in memory. · Layer 11 (score): standings moved whole: out of their block, into it, built, handed back, held against themselves. · A standing written word by word, and handed back beside words. -/
import Derived.Test.YtcggcnegagogkaaPlM
import Derived.Test.YtcggcnegagogkaaMoneySum
import Derived.Test.YtcggcnegagogkaaParL
import Derived.Test.YtcggcnegagogkaaSeq
import Derived.Deep.MidRow
namespace Go.Proofs.Ytcggcnegagogkaa
open Go.RowKit
set_option linter.unusedVariables false
set_option linter.unusedSimpArgs false

/-- The values of a standing, in the order of its fields. -/
def Std.vals (s : Std) : Array Value := #[.int .u64 (s.bal : Int), .int .u64 (s.eff : Int), .int .u64 (s.score : Int), .int .i64 s.streak]
/-- In block b lies the standing. -/
def StdAt (w : World) (b : Nat) (s : Std) (T : TypeId) : Prop := w.heap[b]? = some (.cells s.vals T (0, 0))
theorem StdAt.lt {w : World} {b : Nat} {s : Std} {T : TypeId} (h : StdAt w b s T) : b < w.heap.size := (Array.getElem?_eq_some_iff.1 h).1
theorem StdAt.cell {w : World} {b : Nat} {s : Std} {T : TypeId} (h : StdAt w b s T) (k : Nat) : w.cell? ⟨b, k, none⟩ = s.vals[k]? := cell_of_row w b k _ _ _ h
theorem StdAt.below {w w' : World} {B b : Nat} {s : Std} {T : TypeId} (h : StdAt w b s T) (hb : Below B w w') (hB : b < B) : StdAt w' b s T := (hb.block b hB).trans h
theorem StdAt.up {w w' : World} {b : Nat} {s : Std} {T : TypeId} (h : StdAt w b s T) (hb : Below w.heap.size w w') : StdAt w' b s T := h.below hb h.lt
theorem StdAt.new (w : World) (s : Std) (T : TypeId) {b : Nat} (hb : b = w.heap.size) : StdAt (w.alloc (.cells s.vals T)) b s T := by subst hb; exact heap_alloc_new w _
theorem StdAt.c0 {w : World} {b : Nat} {s : Std} {T : TypeId} (h : StdAt w b s T) : w.cell? ⟨b, 0, none⟩ = some (.int .u64 (s.bal : Int)) := h.cell 0
theorem StdAt.c1 {w : World} {b : Nat} {s : Std} {T : TypeId} (h : StdAt w b s T) : w.cell? ⟨b, 1, none⟩ = some (.int .u64 (s.eff : Int)) := h.cell 1
theorem StdAt.c2 {w : World} {b : Nat} {s : Std} {T : TypeId} (h : StdAt w b s T) : w.cell? ⟨b, 2, none⟩ = some (.int .u64 (s.score : Int)) := h.cell 2
theorem StdAt.c3 {w : World} {b : Nat} {s : Std} {T : TypeId} (h : StdAt w b s T) : w.cell? ⟨b, 3, none⟩ = some (.int .i64 s.streak) := h.cell 3
theorem svals_size (s : Std) : s.vals.size = 4 := rfl
theorem svals_one (s : Std) : s.vals.all (·.oneCell') = true := by simp [Std.vals, Value.oneCell']
theorem std_size : (Try.prog.info? 48).map (·.size) = some 4 := by kernel_rfl

/-- The values of a working copy: the standing, and what it goes by. -/
def wvals (s : Std) (p : Par) : Array Value := #[.int .u64 (s.bal : Int), .int .u64 (s.eff : Int), .int .u64 (s.score : Int), .int .i64 s.streak, .int .u64 (p.inc : Int), .int .u64 (p.maxEff : Int), .int .u64 (p.floor : Int), .int .u64 (p.cap : Int), .int .u64 (p.up : Int), .int .u64 (p.down : Int), .int .u64 (p.bias : Int), .int .u64 (p.quot : Int), .int .u64 (p.biasEm : Int), .int .u64 (p.quotEm : Int), .int .u64 (p.recover : Int), .int .u64 (p.scoreCap : Int), .int .u64 (p.rate : Int), .int .u64 (p.bond : Int), .int .i64 p.delay, .int .i64 p.streak, .int .i64 p.boost, .int .i64 p.absent, .int .i64 p.burn, .int .i64 p.churn, .int .i64 p.wait, .int .i64 p.poll, .int .i64 p.enact, .int .i64 p.quorum]
def WorkAt (w : World) (b : Nat) (s : Std) (p : Par) (T : TypeId) : Prop := w.heap[b]? = some (.cells (wvals s p) T (0, 0))
theorem WorkAt.lt {w : World} {b : Nat} {s : Std} {p : Par} {T : TypeId} (h : WorkAt w b s p T) : b < w.heap.size := (Array.getElem?_eq_some_iff.1 h).1
theorem WorkAt.cell {w : World} {b : Nat} {s : Std} {p : Par} {T : TypeId} (h : WorkAt w b s p T) (k : Nat) : w.cell? ⟨b, k, none⟩ = (wvals s p)[k]? := cell_of_row w b k _ _ _ h
theorem WorkAt.below {w w' : World} {B b : Nat} {s : Std} {p : Par} {T : TypeId} (h : WorkAt w b s p T) (hb : Below B w w') (hB : b < B) : WorkAt w' b s p T := (hb.block b hB).trans h
theorem WorkAt.up {w w' : World} {b : Nat} {s : Std} {p : Par} {T : TypeId} (h : WorkAt w b s p T) (hb : Below w.heap.size w w') : WorkAt w' b s p T := h.below hb h.lt
theorem WorkAt.new (w : World) (s : Std) (p : Par) (T : TypeId) : WorkAt (w.alloc (.cells (wvals s p) T)) w.heap.size s p T := heap_alloc_new w _
theorem WorkAt.score {w : World} {b : Nat} {s : Std} {p : Par} {T : TypeId} (h : WorkAt w b s p T) : w.cell? ⟨b, 2, none⟩ = some (.int .u64 (s.score : Int)) := h.cell 2
theorem WorkAt.streak {w : World} {b : Nat} {s : Std} {p : Par} {T : TypeId} (h : WorkAt w b s p T) : w.cell? ⟨b, 3, none⟩ = some (.int .i64 s.streak) := h.cell 3
theorem WorkAt.bias {w : World} {b : Nat} {s : Std} {p : Par} {T : TypeId} (h : WorkAt w b s p T) : w.cell? ⟨b, 10, none⟩ = some (.int .u64 (p.bias : Int)) := h.cell 10
theorem WorkAt.biasEm {w : World} {b : Nat} {s : Std} {p : Par} {T : TypeId} (h : WorkAt w b s p T) : w.cell? ⟨b, 12, none⟩ = some (.int .u64 (p.biasEm : Int)) := h.cell 12
theorem WorkAt.recover {w : World} {b : Nat} {s : Std} {p : Par} {T : TypeId} (h : WorkAt w b s p T) : w.cell? ⟨b, 14, none⟩ = some (.int .u64 (p.recover : Int)) := h.cell 14
theorem WorkAt.scoreCap {w : World} {b : Nat} {s : Std} {p : Par} {T : TypeId} (h : WorkAt w b s p T) : w.cell? ⟨b, 15, none⟩ = some (.int .u64 (p.scoreCap : Int)) := h.cell 15
theorem WorkAt.most {w : World} {b : Nat} {s : Std} {p : Par} {T : TypeId} (h : WorkAt w b s p T) : w.cell? ⟨b, 19, none⟩ = some (.int .i64 p.streak) := h.cell 19
theorem wvals_size (s : Std) (p : Par) : (wvals s p).size = 28 := rfl
theorem wvals_one (s : Std) (p : Par) : (wvals s p).all (·.oneCell') = true := by simp [wvals, Value.oneCell']
theorem WorkAt.std {w : World} {b : Nat} {s : Std} {p : Par} {T : TypeId} (h : WorkAt w b s p T) : w.rangeAt b 0 s.vals.toList := by
  intro j v hv
  rw [h.cell, ← hv, Array.getElem?_toList]
  have hj : j < 4 := by have := (List.getElem?_eq_some_iff.1 hv).1; rw [Array.length_toList, svals_size] at this; exact this
  match j, hj with
  | 0, _ | 1, _ | 2, _ | 3, _ => rfl
theorem WorkAt.there {w : World} {b : Nat} {s : Std} {p : Par} {T : TypeId} (h : WorkAt w b s p T) : w.there b 0 4 := fun j hj => by
  refine ⟨?_, frozen_of_row w b _ _ _ h⟩
  rw [h.cell]
  have : 0 + j < (wvals s p).size := by rw [wvals_size]; omega
  rw [Array.getElem?_eq_getElem this]; rfl
theorem WorkAt.set {w : World} {b : Nat} {s old : Std} {p q : Par} {T : TypeId} (h : WorkAt w b old q T) : WorkAt (w.setRow b (wvals s p)) b s p T := setRow_heap w b _ _ T (0, 0) h
theorem StdAt.set {w : World} {b : Nat} {s old : Std} {T : TypeId} (h : StdAt w b old T) : StdAt (w.setRow b s.vals) b s T := setRow_heap w b _ _ T (0, 0) h
end Go.Proofs.Ytcggcnegagogkaa
namespace Go.Proofs.Ytcggcnegagogkaa
open Go.RowKit Go.Deep
set_option linter.unusedVariables false
set_option linter.unusedSimpArgs false

theorem svals_fit (s : Std) (fs : List Field) (h : fs.zipIdx.all (fun x => x.1.offset == x.2 && (x.1.type == (if x.2 < 3 then 26 else 3))) = true) (hl : fs.length = 4) :
    ∀ f ∈ fs, ∃ k k' n, Try.prog.underlying f.type = some (.int k') ∧ s.vals[f.offset]? = some (.int k n) := by
  intro f hf
  obtain ⟨i, hi, rfl⟩ := List.getElem_of_mem hf
  have hm : (fs[i], i) ∈ fs.zipIdx := by
    rw [List.mem_zipIdx_iff_getElem?]
    simp [hi]
  have hx := List.all_eq_true.1 h _ hm
  simp only [Bool.and_eq_true, beq_iff_eq] at hx
  rw [hx.1, hx.2]
  rw [hl] at hi
  match i, hi with
  | 0, _ | 1, _ | 2, _ => exact ⟨_, _, _, Try.underlying26, rfl⟩
  | 3, _ => exact ⟨_, _, _, Try.underlying3, rfl⟩

theorem std_fields : (Try.prog.fieldsOf 48).toList.zipIdx.all (fun x => x.1.offset == x.2 && (x.1.type == (if x.2 < 3 then 26 else 3))) = true ∧ (Try.prog.fieldsOf 48).size = 4 := by
  constructor <;> kernel_rfl
theorem std_under : Try.prog.underlying 48 = some (.struct (Try.prog.fieldsOf 48)) := by kernel_rfl
theorem std_guard : Try.prog.eqGuardType Try.prog.depth 48 = false := by kernel_rfl
theorem std_eql (s : Std) (w : World) : (binOp .eql 48 (.agg s.vals) (.agg s.vals)).run Try.prog w = .ok (.bool true) w := by
  rw [run_eql_struct, run_equalIn_struct w 9999 48 _ _ std_under (by kernel_rfl), eqFields_same 9998 s.vals w _ (svals_fit s _ std_fields.1 (by simpa using std_fields.2))]
  rfl
theorem std_neq (s : Std) (w : World) : (binOp .neq 48 (.agg s.vals) (.agg s.vals)).run Try.prog w = .ok (.bool false) w := by
  rw [run_neq_struct, run_equalIn_struct w 9999 48 _ _ std_under (by kernel_rfl), eqFields_same 9998 s.vals w _ (svals_fit s _ std_fields.1 (by simpa using std_fields.2))]
  rfl
theorem exec_load_std {o : Oper} {a : Act} {w : World} (x : Operand) (ho : o.op = .load 48 x) (g : Nat) (s : Std) (T : TypeId) (hx : a.eval x = .pointer (some ⟨g, 0, none⟩)) (hS : StdAt w g s T) :
    (execOp a.eval o).run Try.prog w = .ok (.value (.agg s.vals)) w := by
  unfold execOp
  simp only [ho, hx, Instr.loadAt, Instr.sureAddr, Sem.run_bind, Sem.run_pure, Result.andThen_ok, run_loadVar_row w g T 48 s.vals (0, 0) _ hS Try.underlying48 rfl (by kernel_rfl)]
theorem exec_eql_std {o : Oper} {a : Act} (w : World) (x y : Operand) (t : TypeId) (ho : o.op = .binOp .eql 48 x y t) (s : Std) (hx : a.eval x = .agg s.vals) (hy : a.eval y = .agg s.vals) :
    (execOp a.eval o).run Try.prog w = .ok (.value (.bool true)) w := by
  unfold execOp
  simp only [ho, hx, hy, Sem.run_bind, run_eqGuard_agg w _ _ _ _ _ _ std_guard, Result.andThen_ok, std_eql s w]
  rfl
theorem exec_neq_std {o : Oper} {a : Act} (w : World) (x y : Operand) (t : TypeId) (ho : o.op = .binOp .neq 48 x y t) (s : Std) (hx : a.eval x = .agg s.vals) (hy : a.eval y = .agg s.vals) :
    (execOp a.eval o).run Try.prog w = .ok (.value (.bool false)) w := by
  unfold execOp
  simp only [ho, hx, hy, Sem.run_bind, run_eqGuard_agg w _ _ _ _ _ _ std_guard, Result.andThen_ok, std_neq s w]
  rfl
section
variable {ops : Array Oper} {rest : List Oper} {o : Oper} {a : Act} {w : World} {Q : Exit → Act → World → Prop}
theorem load_std (x : Operand) (ho : o.op = .load 48 x) (hgd : Region.wanted o (yielded ops a.tmps) = true) (g : Nat) (s : Std) (T : TypeId) (hx : a.eval x = .pointer (some ⟨g, 0, none⟩)) (hS : StdAt w g s T)
    (h : wpList Try.prog ops Q rest (a.put o.dst (.agg s.vals)) w) : wpList Try.prog ops Q (o :: rest) a w :=
  wpList_step fun K hK => by
    rw [if_pos hgd]
    exact wp_load_row 48 x ho g hx T s.vals (0, 0) _ hS Try.underlying48 rfl (by kernel_rfl) (hK _ _ h)
theorem store_std (x y : Operand) (ho : o.op = .store 48 x y) (hgd : Region.wanted o (yielded ops a.tmps) = true) (g : Nat) (s old : Std) (T : TypeId) (hx : a.eval x = .pointer (some ⟨g, 0, none⟩)) (hy : a.eval y = .agg s.vals) (hS : StdAt w g old T)
    (h : ∀ w', StdAt w' g s T → Below g w w' → wpList Try.prog ops Q rest (a.put o.dst undef) w') : wpList Try.prog ops Q (o :: rest) a w :=
  wpList_step fun K hK => by
    rw [if_pos hgd]
    exact wp_store_row 48 x y ho g s.vals hx hy T old.vals hS std_size rfl (svals_one s) (hK _ _ (h _ (StdAt.set hS) (below_setRow (Below.refl _ _) (Nat.le_refl _) _)))
/-- Another block keeps what it holds. -/
theorem store_std' (x y : Operand) (ho : o.op = .store 48 x y) (hgd : Region.wanted o (yielded ops a.tmps) = true) (g : Nat) (s old : Std) (T : TypeId) (hx : a.eval x = .pointer (some ⟨g, 0, none⟩)) (hy : a.eval y = .agg s.vals) (hS : StdAt w g old T)
    (h : ∀ w', StdAt w' g s T → Below g w w' → w'.heap.size = w.heap.size → (∀ k, k ≠ g → w'.heap[k]? = w.heap[k]?) → wpList Try.prog ops Q rest (a.put o.dst undef) w') : wpList Try.prog ops Q (o :: rest) a w :=
  wpList_step fun K hK => by
    rw [if_pos hgd]
    exact wp_store_row 48 x y ho g s.vals hx hy T old.vals hS std_size rfl (svals_one s) (hK _ _ (h _ (StdAt.set hS) (below_setRow (Below.refl _ _) (Nat.le_refl _) _) (by simp) (fun k hk => setRow_other _ _ _ _ hk)))
theorem field_std (x : Operand) (ho : o.op = .field 48 x 2) (hgd : Region.wanted o (yielded ops a.tmps) = true) (s : Std) (n : Int) (hn : (s.score : Int) = n) (hx : a.eval x = .agg s.vals)
    (h : wpList Try.prog ops Q rest (a.put o.dst (.int .u64 n)) w) : wpList Try.prog ops Q (o :: rest) a w :=
  wpList_step fun K hK => by
    subst hn
    rw [if_pos hgd]
    unfold Oper.wp execOp
    simp only [ho, hx]
    unfold Instr.field
    rw [Sem.run_bind, Sem.run_bind, run_underlying Try.underlying48 w]
    have hp : ∀ w, (part 26 s.vals 2).run Try.prog w = .ok (.int .u64 (s.score : Int)) w := fun w => run_part_int Try.underlying26 rfl w
    simp [asAgg, hp]
    exact hK _ _ h
theorem build_std (parts : Array (Nat × Operand)) (ho : o.op = .build 48 parts) (hgd : Region.wanted o (yielded ops a.tmps) = true) (s : Std) (hb : Try.prog.built 48 (parts.map fun (i, x) => (i, a.eval x)).toList = some s.vals)
    (h : wpList Try.prog ops Q rest (a.put o.dst (.agg s.vals)) w) : wpList Try.prog ops Q (o :: rest) a w :=
  wpList_step fun K hK => by
    rw [if_pos hgd]
    refine wp_build 48 parts ho (by rw [hb]; rfl) ?_
    rw [hb]
    exact hK _ _ h
theorem op_eql_std (x y : Operand) (t : TypeId) (ho : o.op = .binOp .eql 48 x y t) (hgd : Region.wanted o (yielded ops a.tmps) = true) (s : Std) (hx : a.eval x = .agg s.vals) (hy : a.eval y = .agg s.vals)
    (h : wpList Try.prog ops Q rest (a.put o.dst (.bool true)) w) : wpList Try.prog ops Q (o :: rest) a w :=
  wpList_step fun K hK => by
    rw [if_pos hgd]
    unfold Oper.wp
    rw [exec_eql_std w x y t ho s hx hy]
    exact hK _ _ h
theorem op_neq_std (x y : Operand) (t : TypeId) (ho : o.op = .binOp .neq 48 x y t) (hgd : Region.wanted o (yielded ops a.tmps) = true) (s : Std) (hx : a.eval x = .agg s.vals) (hy : a.eval y = .agg s.vals)
    (h : wpList Try.prog ops Q rest (a.put o.dst (.bool false)) w) : wpList Try.prog ops Q (o :: rest) a w :=
  wpList_step fun K hK => by
    rw [if_pos hgd]
    unfold Oper.wp
    rw [exec_neq_std w x y t ho s hx hy]
    exact hK _ _ h
end
section
variable {fn : Func} {s : Nat} {T : TypeId} {x : Std} {g : Nat} {tmps : Array Value} {w : World}
theorem res_std (h : fn.results = #[.cell s 48]) (hp : tmps.getD s undef = .pointer (some ⟨g, 0, none⟩)) (hS : StdAt w g x T) : (results fn tmps).run Try.prog w = .ok (.agg x.vals) w :=
  results_cell_row h tmps w g T x.vals (0, 0) _ hp hS Try.underlying48 rfl std_size
end

theorem rst_size : (Try.prog.info? 59).map (·.size) = some 4 := by kernel_rfl
theorem rst_fields : (Try.prog.fieldsOf 59).toList.zipIdx.all (fun x => x.1.offset == x.2 && (x.1.type == (if x.2 < 3 then 26 else 3))) = true ∧ (Try.prog.fieldsOf 59).size = 4 := by
  constructor <;> kernel_rfl
theorem rst_under : Try.prog.underlying 59 = some (.struct (Try.prog.fieldsOf 59)) := by kernel_rfl
theorem rst_guard : Try.prog.eqGuardType Try.prog.depth 59 = false := by kernel_rfl
theorem rst_eql (s : Std) (w : World) : (binOp .eql 59 (.agg s.vals) (.agg s.vals)).run Try.prog w = .ok (.bool true) w := by
  rw [run_eql_struct, run_equalIn_struct w 9999 59 _ _ rst_under (by kernel_rfl), eqFields_same 9998 s.vals w _ (svals_fit s _ rst_fields.1 (by simpa using rst_fields.2))]
  rfl
theorem rst_neq (s : Std) (w : World) : (binOp .neq 59 (.agg s.vals) (.agg s.vals)).run Try.prog w = .ok (.bool false) w := by
  rw [run_neq_struct, run_equalIn_struct w 9999 59 _ _ rst_under (by kernel_rfl), eqFields_same 9998 s.vals w _ (svals_fit s _ rst_fields.1 (by simpa using rst_fields.2))]
  rfl
theorem exec_load_rst {o : Oper} {a : Act} {w : World} (x : Operand) (ho : o.op = .load 59 x) (g : Nat) (s : Std) (T : TypeId) (hx : a.eval x = .pointer (some ⟨g, 0, none⟩)) (hS : StdAt w g s T) :
    (execOp a.eval o).run Try.prog w = .ok (.value (.agg s.vals)) w := by
  unfold execOp
  simp only [ho, hx, Instr.loadAt, Instr.sureAddr, Sem.run_bind, Sem.run_pure, Result.andThen_ok, run_loadVar_row w g T 59 s.vals (0, 0) _ hS Try.underlying59 rfl (by kernel_rfl)]
theorem exec_eql_rst {o : Oper} {a : Act} (w : World) (x y : Operand) (t : TypeId) (ho : o.op = .binOp .eql 59 x y t) (s : Std) (hx : a.eval x = .agg s.vals) (hy : a.eval y = .agg s.vals) :
    (execOp a.eval o).run Try.prog w = .ok (.value (.bool true)) w := by
  unfold execOp
  simp only [ho, hx, hy, Sem.run_bind, run_eqGuard_agg w _ _ _ _ _ _ rst_guard, Result.andThen_ok, rst_eql s w]
  rfl
theorem exec_neq_rst {o : Oper} {a : Act} (w : World) (x y : Operand) (t : TypeId) (ho : o.op = .binOp .neq 59 x y t) (s : Std) (hx : a.eval x = .agg s.vals) (hy : a.eval y = .agg s.vals) :
    (execOp a.eval o).run Try.prog w = .ok (.value (.bool false)) w := by
  unfold execOp
  simp only [ho, hx, hy, Sem.run_bind, run_eqGuard_agg w _ _ _ _ _ _ rst_guard, Result.andThen_ok, rst_neq s w]
  rfl
section
variable {ops : Array Oper} {rest : List Oper} {o : Oper} {a : Act} {w : World} {Q : Exit → Act → World → Prop}
theorem load_rst (x : Operand) (ho : o.op = .load 59 x) (hgd : Region.wanted o (yielded ops a.tmps) = true) (g : Nat) (s : Std) (T : TypeId) (hx : a.eval x = .pointer (some ⟨g, 0, none⟩)) (hS : StdAt w g s T)
    (h : wpList Try.prog ops Q rest (a.put o.dst (.agg s.vals)) w) : wpList Try.prog ops Q (o :: rest) a w :=
  wpList_step fun K hK => by
    rw [if_pos hgd]
    exact wp_load_row 59 x ho g hx T s.vals (0, 0) _ hS Try.underlying59 rfl (by kernel_rfl) (hK _ _ h)
theorem store_rst (x y : Operand) (ho : o.op = .store 59 x y) (hgd : Region.wanted o (yielded ops a.tmps) = true) (g : Nat) (s old : Std) (T : TypeId) (hx : a.eval x = .pointer (some ⟨g, 0, none⟩)) (hy : a.eval y = .agg s.vals) (hS : StdAt w g old T)
    (h : ∀ w', StdAt w' g s T → Below g w w' → wpList Try.prog ops Q rest (a.put o.dst undef) w') : wpList Try.prog ops Q (o :: rest) a w :=
  wpList_step fun K hK => by
    rw [if_pos hgd]
    exact wp_store_row 59 x y ho g s.vals hx hy T old.vals hS rst_size rfl (svals_one s) (hK _ _ (h _ (StdAt.set hS) (below_setRow (Below.refl _ _) (Nat.le_refl _) _)))
/-- Another block keeps what it holds. -/
theorem store_rst' (x y : Operand) (ho : o.op = .store 59 x y) (hgd : Region.wanted o (yielded ops a.tmps) = true) (g : Nat) (s old : Std) (T : TypeId) (hx : a.eval x = .pointer (some ⟨g, 0, none⟩)) (hy : a.eval y = .agg s.vals) (hS : StdAt w g old T)
    (h : ∀ w', StdAt w' g s T → Below g w w' → w'.heap.size = w.heap.size → (∀ k, k ≠ g → w'.heap[k]? = w.heap[k]?) → wpList Try.prog ops Q rest (a.put o.dst undef) w') : wpList Try.prog ops Q (o :: rest) a w :=
  wpList_step fun K hK => by
    rw [if_pos hgd]
    exact wp_store_row 59 x y ho g s.vals hx hy T old.vals hS rst_size rfl (svals_one s) (hK _ _ (h _ (StdAt.set hS) (below_setRow (Below.refl _ _) (Nat.le_refl _) _) (by simp) (fun k hk => setRow_other _ _ _ _ hk)))
theorem field_rst (x : Operand) (ho : o.op = .field 59 x 2) (hgd : Region.wanted o (yielded ops a.tmps) = true) (s : Std) (n : Int) (hn : (s.score : Int) = n) (hx : a.eval x = .agg s.vals)
    (h : wpList Try.prog ops Q rest (a.put o.dst (.int .u64 n)) w) : wpList Try.prog ops Q (o :: rest) a w :=
  wpList_step fun K hK => by
    subst hn
    rw [if_pos hgd]
    unfold Oper.wp execOp
    simp only [ho, hx]
    unfold Instr.field
    rw [Sem.run_bind, Sem.run_bind, run_underlying Try.underlying59 w]
    have hp : ∀ w, (part 26 s.vals 2).run Try.prog w = .ok (.int .u64 (s.score : Int)) w := fun w => run_part_int Try.underlying26 rfl w
    simp [asAgg, hp]
    exact hK _ _ h
theorem build_rst (parts : Array (Nat × Operand)) (ho : o.op = .build 59 parts) (hgd : Region.wanted o (yielded ops a.tmps) = true) (s : Std) (hb : Try.prog.built 59 (parts.map fun (i, x) => (i, a.eval x)).toList = some s.vals)
    (h : wpList Try.prog ops Q rest (a.put o.dst (.agg s.vals)) w) : wpList Try.prog ops Q (o :: rest) a w :=
  wpList_step fun K hK => by
    rw [if_pos hgd]
    refine wp_build 59 parts ho (by rw [hb]; rfl) ?_
    rw [hb]
    exact hK _ _ h
theorem op_eql_rst (x y : Operand) (t : TypeId) (ho : o.op = .binOp .eql 59 x y t) (hgd : Region.wanted o (yielded ops a.tmps) = true) (s : Std) (hx : a.eval x = .agg s.vals) (hy : a.eval y = .agg s.vals)
    (h : wpList Try.prog ops Q rest (a.put o.dst (.bool true)) w) : wpList Try.prog ops Q (o :: rest) a w :=
  wpList_step fun K hK => by
    rw [if_pos hgd]
    unfold Oper.wp
    rw [exec_eql_rst w x y t ho s hx hy]
    exact hK _ _ h
theorem op_neq_rst (x y : Operand) (t : TypeId) (ho : o.op = .binOp .neq 59 x y t) (hgd : Region.wanted o (yielded ops a.tmps) = true) (s : Std) (hx : a.eval x = .agg s.vals) (hy : a.eval y = .agg s.vals)
    (h : wpList Try.prog ops Q rest (a.put o.dst (.bool false)) w) : wpList Try.prog ops Q (o :: rest) a w :=
  wpList_step fun K hK => by
    rw [if_pos hgd]
    unfold Oper.wp
    rw [exec_neq_rst w x y t ho s hx hy]
    exact hK _ _ h
end
section
variable {fn : Func} {s : Nat} {T : TypeId} {x : Std} {g : Nat} {tmps : Array Value} {w : World}
theorem res_rst (h : fn.results = #[.cell s 59]) (hp : tmps.getD s undef = .pointer (some ⟨g, 0, none⟩)) (hS : StdAt w g x T) : (results fn tmps).run Try.prog w = .ok (.agg x.vals) w :=
  results_cell_row h tmps w g T x.vals (0, 0) _ hp hS Try.underlying59 rfl rst_size
end

section
variable {ops : Array Oper} {rest : List Oper} {o : Oper} {a : Act} {w : World} {Q : Exit → Act → World → Prop}
/-- The standing out of its working copy. -/
theorem load_wstd (x : Operand) (ho : o.op = .load 48 x) (hgd : Region.wanted o (yielded ops a.tmps) = true) (g : Nat) (s : Std) (p : Par) (T : TypeId) (hx : a.eval x = .pointer (some ⟨g, 0, none⟩)) (hW : WorkAt w g s p T)
    (h : wpList Try.prog ops Q rest (a.put o.dst (.agg s.vals)) w) : wpList Try.prog ops Q (o :: rest) a w :=
  wpList_step fun K hK => by
    rw [if_pos hgd]
    refine wp_load_mid 48 x ho g 0 hx s.vals.toList _ hW.std Try.underlying48 rfl (by rw [Array.length_toList, svals_size]; exact std_size) ?_
    rw [Array.toArray_toList]
    exact hK _ _ h
end
end Go.Proofs.Ytcggcnegagogkaa
namespace Go.Proofs.Ytcggcnegagogkaa
open Go.RowKit
set_option linter.unusedVariables false
set_option linter.unusedSimpArgs false

theorem std_zero_new (w : World) (T : TypeId) : StdAt (w.alloc (.cells #[.int .u64 0, .int .u64 0, .int .u64 0, .int .i64 0] T)) w.heap.size Std.none T := StdAt.new w Std.none T rfl
section
variable {ops : Array Oper} {rest : List Oper} {o : Oper} {a : Act} {w : World} {Q : Exit → Act → World → Prop}
theorem StdAt.frz {w : World} {b : Nat} {s : Std} {T : TypeId} (h : StdAt w b s T) (k : Nat) : w.frozen? ⟨b, k, none⟩ = false := frozen_of_row w b k _ _ h
/-- A balance into its block; the world behind it has a new name. -/
theorem store_bal (x y : Operand) (ho : o.op = .store 26 x y) (hgd : Region.wanted o (yielded ops a.tmps) = true) (g : Nat) (s : Std) (T : TypeId) (v : Nat) (hx : a.eval x = .pointer (some ⟨g, 0, none⟩)) (hy : a.eval y = .int .u64 (v : Int)) (hS : StdAt w g s T)
    (h : ∀ w', StdAt w' g ⟨v, s.eff, s.score, s.streak⟩ T → Below g w w' → w'.heap.size = w.heap.size → (∀ k, k ≠ g → w'.heap[k]? = w.heap[k]?) → wpList Try.prog ops Q rest (a.put o.dst undef) w') : wpList Try.prog ops Q (o :: rest) a w :=
  wpList_step fun K hK => by
    rw [if_pos hgd]
    have hc := hS.c0
    have hf := hS.frz 0
    have hK' : K (a.put o.dst undef) (w.setCell ⟨g, 0, none⟩ (.int .u64 (v : Int))) := by
     refine hK _ _ (h _ ?_ (Below.setCell (p := ⟨g, 0, none⟩) (Below.refl g w) (Nat.le_refl _) _) (by simp) (fun k hk => heap_setCell_other _ _ _ _ hk))
     exact heap_setCell_same w g 0 _ _ _ hS
    unfold Oper.wp execOp
    simp only [ho, hx, hy]
    go_simp
    exact hK'
/-- Likewise a score. -/
theorem store_score1 (x y : Operand) (ho : o.op = .store 26 x y) (hgd : Region.wanted o (yielded ops a.tmps) = true) (g : Nat) (s : Std) (T : TypeId) (v : Nat) (hx : a.eval x = .pointer (some ⟨g, 2, none⟩)) (hy : a.eval y = .int .u64 (v : Int)) (hS : StdAt w g s T)
    (h : ∀ w', StdAt w' g ⟨s.bal, s.eff, v, s.streak⟩ T → Below g w w' → w'.heap.size = w.heap.size → (∀ k, k ≠ g → w'.heap[k]? = w.heap[k]?) → wpList Try.prog ops Q rest (a.put o.dst undef) w') : wpList Try.prog ops Q (o :: rest) a w :=
  wpList_step fun K hK => by
    rw [if_pos hgd]
    have hc := hS.c2
    have hf := hS.frz 2
    have hK' : K (a.put o.dst undef) (w.setCell ⟨g, 2, none⟩ (.int .u64 (v : Int))) := by
     refine hK _ _ (h _ ?_ (Below.setCell (p := ⟨g, 2, none⟩) (Below.refl g w) (Nat.le_refl _) _) (by simp) (fun k hk => heap_setCell_other _ _ _ _ hk))
     exact heap_setCell_same w g 2 _ _ _ hS
    unfold Oper.wp execOp
    simp only [ho, hx, hy]
    go_simp
    exact hK'
end
section
variable {fn : Func} {s k j : Nat} {T : TypeId} {x : Std} {g : Nat} {tmps : Array Value} {w : World}
theorem res_std2 (h : fn.results = #[.cell s 48, .tmp k]) (hp : tmps.getD s undef = .pointer (some ⟨g, 0, none⟩)) (hS : StdAt w g x T) : (results fn tmps).run Try.prog w = .ok (.tuple #[.agg x.vals, tmps.getD k undef]) w := by
  have hp' : tmps[s]?.getD undef = .pointer (some ⟨g, 0, none⟩) := by simpa using hp
  simp [results, h, hp', asAddr, run_loadVar_row w g T 48 x.vals (0, 0) _ hS Try.underlying48 rfl std_size]
theorem res_std3 (h : fn.results = #[.cell s 48, .tmp k, .tmp j]) (hp : tmps.getD s undef = .pointer (some ⟨g, 0, none⟩)) (hS : StdAt w g x T) : (results fn tmps).run Try.prog w = .ok (.tuple #[.agg x.vals, tmps.getD k undef, tmps.getD j undef]) w := by
  have hp' : tmps[s]?.getD undef = .pointer (some ⟨g, 0, none⟩) := by simpa using hp
  simp [results, h, hp', asAddr, run_loadVar_row w g T 48 x.vals (0, 0) _ hS Try.underlying48 rfl std_size]
end
end Go.Proofs.Ytcggcnegagogkaa
