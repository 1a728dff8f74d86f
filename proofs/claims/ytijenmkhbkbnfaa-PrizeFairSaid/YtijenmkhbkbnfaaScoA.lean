/- Layer 11 (score): standings in memory. -/
import Derived.Test.YtijenmkhbkbnfaaScoM
import Derived.Test.YtijenmkhbkbnfaaMoney
import Derived.Test.YtijenmkhbkbnfaaParC
import Derived.Test.YtijenmkhbkbnfaaParL
import Derived.Test.YtijenmkhbkbnfaaSeq
import Derived.Deep.MidRow
namespace Go.Proofs.Ytijenmkhbkbnfaa
open Go.RowKit
set_option linter.unusedVariables false
set_option linter.unusedSimpArgs false

/-- The values of a standing, in the order of its fields. -/
def Std.vals (s : Std) : Array Value := #[.int .u64 (s.bal : Int), .int .u64 (s.eff : Int), .int .u64 (s.score : Int), .int .i64 s.streak]
/-- In block b lies the standing. -/
def StdAt (w : World) (b : Nat) (s : Std) (T : TypeId) : Prop := w.heap[b]? = some (.cells s.vals T (0, 0))
theorem StdAt.lt {w : World} {b : Nat} {s : Std} {T : TypeId} (h : StdAt w b s T) : b < w.heap.size := (Array.getElem?_eq_some_iff.1 h).1
theorem StdAt.cell {w : World} {b : Nat} {s : Std} {T : TypeId} (h : StdAt w b s T) (k : Nat) : w.cell? ⟨b, k, none⟩ = s.vals[k]? := cell_of_row w b k _ _ _ h
theorem StdAt.below {w w' : World} {B b : Nat} {s : Std} {T : TypeId} (h : StdAt w b s T) (hb : Below B w w') (hB : b < B) : StdAt w' b s T := (hb.block b hB).trans h
theorem StdAt.up {w w' : World} {b : Nat} {s : Std} {T : TypeId} (h : StdAt w b s T) (hb : Below w.heap.size w w') : StdAt w' b s T := h.below hb h.lt
theorem StdAt.new (w : World) (s : Std) (T : TypeId) {b : Nat} (hb : b = w.heap.size) : StdAt (w.alloc (.cells s.vals T)) b s T := by subst hb; exact heap_alloc_new w _
theorem StdAt.c0 {w : World} {b : Nat} {s : Std} {T : TypeId} (h : StdAt w b s T) : w.cell? ⟨b, 0, none⟩ = some (.int .u64 (s.bal : Int)) := h.cell 0
theorem StdAt.c1 {w : World} {b : Nat} {s : Std} {T : TypeId} (h : StdAt w b s T) : w.cell? ⟨b, 1, none⟩ = some (.int .u64 (s.eff : Int)) := h.cell 1
theorem StdAt.c2 {w : World} {b : Nat} {s : Std} {T : TypeId} (h : StdAt w b s T) : w.cell? ⟨b, 2, none⟩ = some (.int .u64 (s.score : Int)) := h.cell 2
theorem StdAt.c3 {w : World} {b : Nat} {s : Std} {T : TypeId} (h : StdAt w b s T) : w.cell? ⟨b, 3, none⟩ = some (.int .i64 s.streak) := h.cell 3
theorem svals_size (s : Std) : s.vals.size = 4 := rfl
theorem svals_one (s : Std) : s.vals.all (·.oneCell') = true := by simp [Std.vals, Value.oneCell']
theorem std_size : (Try.prog.info? 36).map (·.size) = some 4 := by kernel_rfl

/-- The values of a working copy: the standing, and what it goes by. -/
def wvals (s : Std) (p : Par) : Array Value := #[.int .u64 (s.bal : Int), .int .u64 (s.eff : Int), .int .u64 (s.score : Int), .int .i64 s.streak, .int .u64 (p.inc : Int), .int .u64 (p.maxEff : Int), .int .u64 (p.floor : Int), .int .u64 (p.cap : Int), .int .u64 (p.up : Int), .int .u64 (p.down : Int), .int .u64 (p.bias : Int), .int .u64 (p.quot : Int), .int .u64 (p.biasEm : Int), .int .u64 (p.quotEm : Int), .int .u64 (p.recover : Int), .int .u64 (p.scoreCap : Int), .int .u64 (p.rate : Int), .int .u64 (p.bond : Int), .int .i64 p.delay, .int .i64 p.streak, .int .i64 p.boost, .int .i64 p.absent, .int .i64 p.burn, .int .i64 p.churn, .int .i64 p.wait, .int .i64 p.poll, .int .i64 p.enact, .int .i64 p.quorum]
def WorkAt (w : World) (b : Nat) (s : Std) (p : Par) (T : TypeId) : Prop := w.heap[b]? = some (.cells (wvals s p) T (0, 0))
theorem WorkAt.lt {w : World} {b : Nat} {s : Std} {p : Par} {T : TypeId} (h : WorkAt w b s p T) : b < w.heap.size := (Array.getElem?_eq_some_iff.1 h).1
theorem WorkAt.cell {w : World} {b : Nat} {s : Std} {p : Par} {T : TypeId} (h : WorkAt w b s p T) (k : Nat) : w.cell? ⟨b, k, none⟩ = (wvals s p)[k]? := cell_of_row w b k _ _ _ h
theorem WorkAt.below {w w' : World} {B b : Nat} {s : Std} {p : Par} {T : TypeId} (h : WorkAt w b s p T) (hb : Below B w w') (hB : b < B) : WorkAt w' b s p T := (hb.block b hB).trans h
theorem WorkAt.up {w w' : World} {b : Nat} {s : Std} {p : Par} {T : TypeId} (h : WorkAt w b s p T) (hb : Below w.heap.size w w') : WorkAt w' b s p T := h.below hb h.lt
theorem WorkAt.new (w : World) (s : Std) (p : Par) (T : TypeId) : WorkAt (w.alloc (.cells (wvals s p) T)) w.heap.size s p T := heap_alloc_new w _
theorem WorkAt.score {w : World} {b : Nat} {s : Std} {p : Par} {T : TypeId} (h : WorkAt w b s p T) : w.cell? ⟨b, 2, none⟩ = some (.int .u64 (s.score : Int)) := h.cell 2
theorem WorkAt.streak {w : World} {b : Nat} {s : Std} {p : Par} {T : TypeId} (h : WorkAt w b s p T) : w.cell? ⟨b, 3, none⟩ = some (.int .i64 s.streak) := h.cell 3
theorem WorkAt.bias {w : World} {b : Nat} {s : Std} {p : Par} {T : TypeId} (h : WorkAt w b s p T) : w.cell? ⟨b, 10, none⟩ = some (.int .u64 (p.bias : Int)) := h.cell 10
theorem WorkAt.biasEm {w : World} {b : Nat} {s : Std} {p : Par} {T : TypeId} (h : WorkAt w b s p T) : w.cell? ⟨b, 12, none⟩ = some (.int .u64 (p.biasEm : Int)) := h.cell 12
theorem WorkAt.recover {w : World} {b : Nat} {s : Std} {p : Par} {T : TypeId} (h : WorkAt w b s p T) : w.cell? ⟨b, 14, none⟩ = some (.int .u64 (p.recover : Int)) := h.cell 14
theorem WorkAt.scoreCap {w : World} {b : Nat} {s : Std} {p : Par} {T : TypeId} (h : WorkAt w b s p T) : w.cell? ⟨b, 15, none⟩ = some (.int .u64 (p.scoreCap : Int)) := h.cell 15
theorem WorkAt.most {w : World} {b : Nat} {s : Std} {p : Par} {T : TypeId} (h : WorkAt w b s p T) : w.cell? ⟨b, 19, none⟩ = some (.int .i64 p.streak) := h.cell 19
theorem wvals_size (s : Std) (p : Par) : (wvals s p).size = 28 := rfl
theorem wvals_one (s : Std) (p : Par) : (wvals s p).all (·.oneCell') = true := by simp [wvals, Value.oneCell']
theorem WorkAt.std {w : World} {b : Nat} {s : Std} {p : Par} {T : TypeId} (h : WorkAt w b s p T) : w.rangeAt b 0 s.vals.toList := by
  intro j v hv
  rw [h.cell, ← hv, Array.getElem?_toList]
  have hj : j < 4 := by have := (List.getElem?_eq_some_iff.1 hv).1; rw [Array.length_toList, svals_size] at this; exact this
  match j, hj with
  | 0, _ | 1, _ | 2, _ | 3, _ => rfl
theorem WorkAt.there {w : World} {b : Nat} {s : Std} {p : Par} {T : TypeId} (h : WorkAt w b s p T) : w.there b 0 4 := fun j hj => by
  refine ⟨?_, frozen_of_row w b _ _ _ h⟩
  rw [h.cell]
  have : 0 + j < (wvals s p).size := by rw [wvals_size]; omega
  rw [Array.getElem?_eq_getElem this]; rfl
theorem WorkAt.set {w : World} {b : Nat} {s old : Std} {p q : Par} {T : TypeId} (h : WorkAt w b old q T) : WorkAt (w.setRow b (wvals s p)) b s p T := setRow_heap w b _ _ T (0, 0) h
theorem StdAt.set {w : World} {b : Nat} {s old : Std} {T : TypeId} (h : StdAt w b old T) : StdAt (w.setRow b s.vals) b s T := setRow_heap w b _ _ T (0, 0) h
end Go.Proofs.Ytijenmkhbkbnfaa
