/- Layer 7 (param): parameters in memory and the lists of their fields. By contracts. -/
import Derived.Test.YtcggcnegagogkaaPlM
import Derived.Test.YtcggcnegagogkaaCore
import Derived.Test.YtcggcnegagogkaaBytes
import Derived.Test.YtcggcnegagogkaaProg
import Derived.OwnWalk
import Derived.Laws.Rows
import Derived.Laws.Tables
import Derived.Laws.StructEq
import Derived.StillTailTactics
import Derived.Deep.RegionHeld3
namespace Go.Proofs.Ytcggcnegagogkaa
open Go.RowKit
set_option linter.unusedVariables false

/-- The values of parameters, in the order of their fields. -/
def Par.vals (p : Par) : Array Value := #[.int .u64 (p.inc : Int), .int .u64 (p.maxEff : Int), .int .u64 (p.floor : Int), .int .u64 (p.cap : Int), .int .u64 (p.up : Int), .int .u64 (p.down : Int), .int .u64 (p.bias : Int), .int .u64 (p.quot : Int), .int .u64 (p.biasEm : Int), .int .u64 (p.quotEm : Int), .int .u64 (p.recover : Int), .int .u64 (p.scoreCap : Int), .int .u64 (p.rate : Int), .int .u64 (p.bond : Int), .int .i64 p.delay, .int .i64 p.streak, .int .i64 p.boost, .int .i64 p.absent, .int .i64 p.burn, .int .i64 p.churn, .int .i64 p.wait, .int .i64 p.poll, .int .i64 p.enact, .int .i64 p.quorum]

/-- In block b lie the parameters. -/
def ParAt (w : World) (b : Nat) (p : Par) (T : TypeId) : Prop := w.heap[b]? = some (.cells p.vals T (0, 0))

theorem ParAt.lt {w : World} {b : Nat} {p : Par} {T : TypeId} (h : ParAt w b p T) : b < w.heap.size := (Array.getElem?_eq_some_iff.1 h).1
theorem ParAt.cell {w : World} {b : Nat} {p : Par} {T : TypeId} (h : ParAt w b p T) (k : Nat) : w.cell? ⟨b, k, none⟩ = p.vals[k]? := cell_of_row w b k _ _ _ h
theorem ParAt.below {w w' : World} {B b : Nat} {p : Par} {T : TypeId} (h : ParAt w b p T) (hb : Below B w w') (hB : b < B) : ParAt w' b p T := by
  unfold ParAt; rw [hb.block b hB]; exact h
theorem ParAt.up {w w' : World} {b : Nat} {p : Par} {T : TypeId} (h : ParAt w b p T) (hb : Below w.heap.size w w') : ParAt w' b p T := h.below hb h.lt
theorem ParAt.new (w : World) (p : Par) (T : TypeId) : ParAt (w.alloc (.cells p.vals T)) w.heap.size p T := heap_alloc_new w _

/-- The fields of parameters in block b, with their spans, lie in block g one behind the other. -/
def FieldsW (w : World) (g b : Nat) (l : List (Nat × Nat × Nat)) : Prop :=
  ∀ k x, l[k]? = some x → w.cell? ⟨g, k * 3, none⟩ = some (.pointer (some ⟨b, k, none⟩)) ∧ w.cell? ⟨g, k * 3 + 1, none⟩ = some (.int .u64 (x.2.1 : Int)) ∧ w.cell? ⟨g, k * 3 + 2, none⟩ = some (.int .u64 (x.2.2 : Int))
def FieldsI (w : World) (g b : Nat) (l : List (Int × Int × Int)) : Prop :=
  ∀ k x, l[k]? = some x → w.cell? ⟨g, k * 3, none⟩ = some (.pointer (some ⟨b, 14 + k, none⟩)) ∧ w.cell? ⟨g, k * 3 + 1, none⟩ = some (.int .i64 x.2.1) ∧ w.cell? ⟨g, k * 3 + 2, none⟩ = some (.int .i64 x.2.2)
theorem ParAt.four {w : World} {b : Nat} {p : Par} {T : TypeId} (h : ParAt w b p T) : w.cell? ⟨b, 0, none⟩ = some (.int .u64 (p.inc : Int)) ∧ w.cell? ⟨b, 1, none⟩ = some (.int .u64 (p.maxEff : Int)) ∧ w.cell? ⟨b, 6, none⟩ = some (.int .u64 (p.bias : Int)) ∧ w.cell? ⟨b, 7, none⟩ = some (.int .u64 (p.quot : Int)) :=
  ⟨h.cell 0, h.cell 1, h.cell 6, h.cell 7⟩
theorem ParAt.first {w : World} {b : Nat} {p : Par} {T : TypeId} (h : ParAt w b p T) : w.cell? ⟨b, 0, none⟩ = some (.int .u64 (p.inc : Int)) ∧ True := ⟨h.cell 0, trivial⟩

/-- The two lists of fields, cell by cell. -/
def wrow (b : Nat) (p : Par) : Array Value := #[.pointer (some ⟨b, 0, none⟩), .int .u64 1, .int .u64 2147483648, .pointer (some ⟨b, 1, none⟩), .int .u64 (p.inc : Int), .int .u64 1099511627776, .pointer (some ⟨b, 2, none⟩), .int .u64 (p.inc : Int), .int .u64 1099511627776, .pointer (some ⟨b, 3, none⟩), .int .u64 (p.maxEff : Int), .int .u64 1099511627776, .pointer (some ⟨b, 4, none⟩), .int .u64 (p.inc : Int), .int .u64 1099511627776, .pointer (some ⟨b, 5, none⟩), .int .u64 0, .int .u64 1099511627776, .pointer (some ⟨b, 6, none⟩), .int .u64 1, .int .u64 4294967296, .pointer (some ⟨b, 7, none⟩), .int .u64 1, .int .u64 1099511627776, .pointer (some ⟨b, 8, none⟩), .int .u64 (p.bias : Int), .int .u64 4294967296, .pointer (some ⟨b, 9, none⟩), .int .u64 1, .int .u64 (p.quot : Int), .pointer (some ⟨b, 10, none⟩), .int .u64 0, .int .u64 4294967296, .pointer (some ⟨b, 11, none⟩), .int .u64 1, .int .u64 72057594037927936, .pointer (some ⟨b, 12, none⟩), .int .u64 0, .int .u64 4294967296, .pointer (some ⟨b, 13, none⟩), .int .u64 0, .int .u64 1099511627776]
def irow (b : Nat) : Array Value := #[.pointer (some ⟨b, 14, none⟩), .int .i64 0, .int .i64 1000, .pointer (some ⟨b, 15, none⟩), .int .i64 0, .int .i64 64, .pointer (some ⟨b, 16, none⟩), .int .i64 0, .int .i64 1000, .pointer (some ⟨b, 17, none⟩), .int .i64 0, .int .i64 10000, .pointer (some ⟨b, 18, none⟩), .int .i64 0, .int .i64 10000, .pointer (some ⟨b, 19, none⟩), .int .i64 1, .int .i64 64, .pointer (some ⟨b, 20, none⟩), .int .i64 0, .int .i64 50, .pointer (some ⟨b, 21, none⟩), .int .i64 1, .int .i64 1000, .pointer (some ⟨b, 22, none⟩), .int .i64 0, .int .i64 1000, .pointer (some ⟨b, 23, none⟩), .int .i64 0, .int .i64 10000]

set_option maxRecDepth 10000 in
theorem wrow_fields (w : World) (b : Nat) (p : Par) (T : TypeId) : FieldsW (w.alloc (.cells (wrow b p) T)) w.heap.size b p.wspan := by
  intro k x h
  have e : ∀ j, (w.alloc (.cells (wrow b p) T)).cell? ⟨w.heap.size, j, none⟩ = (wrow b p)[j]? := fun j => cell_of_row _ _ _ _ _ _ (heap_alloc_new w _)
  rw [e, e, e]
  match k, h with
  | 0, h => cases h; exact ⟨rfl, rfl, rfl⟩
  | 1, h => cases h; exact ⟨rfl, rfl, rfl⟩
  | 2, h => cases h; exact ⟨rfl, rfl, rfl⟩
  | 3, h => cases h; exact ⟨rfl, rfl, rfl⟩
  | 4, h => cases h; exact ⟨rfl, rfl, rfl⟩
  | 5, h => cases h; exact ⟨rfl, rfl, rfl⟩
  | 6, h => cases h; exact ⟨rfl, rfl, rfl⟩
  | 7, h => cases h; exact ⟨rfl, rfl, rfl⟩
  | 8, h => cases h; exact ⟨rfl, rfl, rfl⟩
  | 9, h => cases h; exact ⟨rfl, rfl, rfl⟩
  | 10, h => cases h; exact ⟨rfl, rfl, rfl⟩
  | 11, h => cases h; exact ⟨rfl, rfl, rfl⟩
  | 12, h => cases h; exact ⟨rfl, rfl, rfl⟩
  | 13, h => cases h; exact ⟨rfl, rfl, rfl⟩
  | k + 14, h => simp [Par.wspan] at h
set_option maxRecDepth 10000 in
theorem irow_fields (w : World) (b : Nat) (p : Par) (T : TypeId) : FieldsI (w.alloc (.cells (irow b) T)) w.heap.size b p.ispan := by
  intro k x h
  have e : ∀ j, (w.alloc (.cells (irow b) T)).cell? ⟨w.heap.size, j, none⟩ = (irow b)[j]? := fun j => cell_of_row _ _ _ _ _ _ (heap_alloc_new w _)
  rw [e, e, e]
  match k, h with
  | 0, h => cases h; exact ⟨rfl, rfl, rfl⟩
  | 1, h => cases h; exact ⟨rfl, rfl, rfl⟩
  | 2, h => cases h; exact ⟨rfl, rfl, rfl⟩
  | 3, h => cases h; exact ⟨rfl, rfl, rfl⟩
  | 4, h => cases h; exact ⟨rfl, rfl, rfl⟩
  | 5, h => cases h; exact ⟨rfl, rfl, rfl⟩
  | 6, h => cases h; exact ⟨rfl, rfl, rfl⟩
  | 7, h => cases h; exact ⟨rfl, rfl, rfl⟩
  | 8, h => cases h; exact ⟨rfl, rfl, rfl⟩
  | 9, h => cases h; exact ⟨rfl, rfl, rfl⟩
  | k + 10, h => simp [Par.ispan] at h
end Go.Proofs.Ytcggcnegagogkaa
