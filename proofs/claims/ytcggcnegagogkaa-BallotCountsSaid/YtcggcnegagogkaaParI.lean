/- Layer 7 (param): is each field within its span? By contracts. · Layer 7 (param): the list of the ints' fields. By contracts. -/
import Derived.Test.YtcggcnegagogkaaParA
import Derived.Deep.QuietTactic
import Derived.BigQuiet
import Derived.Deep.RegionHeld3
namespace Go.Proofs.Ytcggcnegagogkaa
open Go.RowKit
set_option linter.unusedVariables false

/-- The words that stand in block b: what the fields of a list are. -/
def ParWordsAt (w : World) (b : Nat) (l : List (Nat × Nat × Nat)) : Prop := ∀ k x, l[k]? = some x → w.cell? ⟨b, k, none⟩ = some (.int .u64 (x.1 : Int))
def IntsAt (w : World) (b : Nat) (l : List (Int × Int × Int)) : Prop := ∀ k x, l[k]? = some x → w.cell? ⟨b, 14 + k, none⟩ = some (.int .i64 x.1)

theorem FieldsW.below {w w' : World} {B g b : Nat} {l : List (Nat × Nat × Nat)} (h : FieldsW w g b l) (hb : Below B w w') (hg : g < B) : FieldsW w' g b l := fun k x hk => by
  obtain ⟨h1, h2, h3⟩ := h k x hk
  exact ⟨(hb.cell (p := ⟨g, _, none⟩) hg).trans h1, (hb.cell (p := ⟨g, _, none⟩) hg).trans h2, (hb.cell (p := ⟨g, _, none⟩) hg).trans h3⟩
theorem FieldsI.below {w w' : World} {B g b : Nat} {l : List (Int × Int × Int)} (h : FieldsI w g b l) (hb : Below B w w') (hg : g < B) : FieldsI w' g b l := fun k x hk => by
  obtain ⟨h1, h2, h3⟩ := h k x hk
  exact ⟨(hb.cell (p := ⟨g, _, none⟩) hg).trans h1, (hb.cell (p := ⟨g, _, none⟩) hg).trans h2, (hb.cell (p := ⟨g, _, none⟩) hg).trans h3⟩
theorem ParWordsAt.below {w w' : World} {B b : Nat} {l : List (Nat × Nat × Nat)} (h : ParWordsAt w b l) (hb : Below B w w') (hg : b < B) : ParWordsAt w' b l := fun k x hk => (hb.cell (p := ⟨b, _, none⟩) hg).trans (h k x hk)
theorem IntsAt.below {w w' : World} {B b : Nat} {l : List (Int × Int × Int)} (h : IntsAt w b l) (hb : Below B w w') (hg : b < B) : IntsAt w' b l := fun k x hk => (hb.cell (p := ⟨b, _, none⟩) hg).trans (h k x hk)

theorem all_take {α : Type} {f : α → Bool} {l : List α} {k : Nat} {x : α} (hx : l[k]? = some x) (h : (l.take k).all f = true) (hf : f x = true) : (l.take (k + 1)).all f = true := by
  obtain ⟨hk, rfl⟩ := List.getElem?_eq_some_iff.1 hx
  rw [List.take_succ_eq_append_getElem hk, List.all_append, h]
  simpa using hf
theorem all_no {α : Type} {f : α → Bool} {l : List α} {k : Nat} {x : α} (hx : l[k]? = some x) (hf : f x = false) : l.all f = false := by
  obtain ⟨hk, rfl⟩ := List.getElem?_eq_some_iff.1 hx
  rw [List.all_eq_false]
  exact ⟨_, List.getElem_mem hk, by simpa using hf⟩

end Go.Proofs.Ytcggcnegagogkaa
namespace Go.Proofs.Ytcggcnegagogkaa
open Go.RowKit
set_option linter.unusedVariables false

theorem size_next {w w1 w2 : World} (h : w.heap.size ≤ w1.heap.size ∧ Below w.heap.size w w1) (h2 : Below w1.heap.size w1 w2) : w.heap.size ≤ w2.heap.size ∧ Below w.heap.size w w2 := ⟨Nat.le_trans h.1 h2.size, Below.then h.2 h2⟩
end Go.Proofs.Ytcggcnegagogkaa
