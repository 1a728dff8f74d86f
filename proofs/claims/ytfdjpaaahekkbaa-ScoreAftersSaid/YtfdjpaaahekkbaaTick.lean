/- Layer 11 (score): ticks: out of a list, into a block of their own. -/
import Derived.Test.YtfdjpaaahekkbaaLawS
import Derived.Test.YtfdjpaaahekkbaaScoS
namespace Go.Proofs.Ytfdjpaaahekkbaa
open Go.RowKit Go.Deep
set_option linter.unusedVariables false
set_option linter.unusedSimpArgs false

def tvals (x : Bool × Int) : Array Value := #[.bool x.1, .int .i64 x.2]
/-- In block b lies a tick. -/
def TickAt (w : World) (b : Nat) (x : Bool × Int) (T : TypeId) : Prop := w.heap[b]? = some (.cells (tvals x) T (0, 0))
theorem TickAt.lt {w : World} {b : Nat} {x : Bool × Int} {T : TypeId} (h : TickAt w b x T) : b < w.heap.size := (Array.getElem?_eq_some_iff.1 h).1
theorem TickAt.up {w w' : World} {b : Nat} {x : Bool × Int} {T : TypeId} (h : TickAt w b x T) (hb : Below w.heap.size w w') : TickAt w' b x T := (hb.block b h.lt).trans h
theorem TickAt.new (w : World) (x : Bool × Int) (T : TypeId) {b : Nat} (hb : b = w.heap.size) : TickAt (w.alloc (.cells (tvals x) T)) b x T := by subst hb; exact heap_alloc_new w _
theorem TickAt.c0 {w : World} {b : Nat} {x : Bool × Int} {T : TypeId} (h : TickAt w b x T) : w.cell? ⟨b, 0, none⟩ = some (.bool x.1) := cell_of_row w b 0 _ _ _ h
theorem TickAt.c1 {w : World} {b : Nat} {x : Bool × Int} {T : TypeId} (h : TickAt w b x T) : w.cell? ⟨b, 1, none⟩ = some (.int .i64 x.2) := cell_of_row w b 1 _ _ _ h
theorem tick_size : (Try.prog.info? 28).map (·.size) = some 2 := by kernel_rfl
section
variable {ops : Array Oper} {rest : List Oper} {o : Oper} {a : Act} {w : World} {Q : Exit → Act → World → Prop}
/-- A tick out of the midst of a list. -/
theorem load_tick_at (x : Operand) (ho : o.op = .load 28 x) (hgd : Region.wanted o (yielded ops a.tmps) = true) (ad : Addr) (t : Bool × Int) (hx : a.eval x = .pointer (some ad)) (h0 : w.cell? ad = some (.bool t.1)) (h1 : w.cell? (ad.add 1) = some (.int .i64 t.2))
    (h : wpList Try.prog ops Q rest (a.put o.dst (.agg (tvals t))) w) : wpList Try.prog ops Q (o :: rest) a w :=
  wpList_step fun K hK => by
    rw [if_pos hgd]
    have hD : ∀ (j : Nat) v, (tvals t).toList[j]? = some v → w.cell? (ad.add j) = some v := fun j v hj => by
      match j, hj with
      | 0, hj => cases hj; rw [Addr.add_zero']; exact h0
      | 1, hj => cases hj; exact h1
    have hl : (loadCells ad (tvals t).toList.length).run Try.prog w = .ok (tvals t).toList.toArray w := run_loadCells_list (P := Try.prog) w ad (tvals t).toList hD
    rw [Array.toArray_toList, show (tvals t).toList.length = 2 from rfl] at hl
    have hi := tick_size
    cases hq : Try.prog.info? 28 with
    | none => simp [hq] at hi
    | some i =>
      have hs : i.size = 2 := by simpa [hq] using hi
      have hagg : (isAgg 28).run Try.prog w = .ok true w := by
        unfold isAgg
        rw [Sem.run_bind, run_underlying Try.underlying28 w]
        rfl
      have hr : (loadVar 28 ad).run Try.prog w = .ok (.agg (tvals t)) w := by
        simp [loadVar, Sem.run_bind, hagg, sizeOf, typeInfo, hq, hs, hl]
      unfold Oper.wp execOp
      simp only [ho, hx, Instr.loadAt, Instr.sureAddr, Sem.run_bind, Sem.run_pure, Result.andThen_ok, hr]
      exact hK _ _ h
theorem store_tick (x y : Operand) (ho : o.op = .store 28 x y) (hgd : Region.wanted o (yielded ops a.tmps) = true) (g : Nat) (t old : Bool × Int) (T : TypeId) (hx : a.eval x = .pointer (some ⟨g, 0, none⟩)) (hy : a.eval y = .agg (tvals t)) (hS : TickAt w g old T)
    (h : ∀ w', TickAt w' g t T → Below g w w' → wpList Try.prog ops Q rest (a.put o.dst undef) w') : wpList Try.prog ops Q (o :: rest) a w :=
  wpList_step fun K hK => by
    rw [if_pos hgd]
    exact wp_store_row 28 x y ho g (tvals t) hx hy T (tvals old) hS tick_size rfl (by simp [tvals, Value.oneCell']) (hK _ _ (h _ (setRow_heap w g _ _ T (0, 0) hS) (below_setRow (Below.refl _ _) (Nat.le_refl _) _)))
end
end Go.Proofs.Ytfdjpaaahekkbaa
