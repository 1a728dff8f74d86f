/- Layer 13 (budget): three words and an int, in a block and as they come in with a law's arguments. -/
import Derived.Test.YtkimgkpjbfijmaaCore
import Derived.Test.YtkimgkpjbfijmaaLawP
namespace Go.Proofs.Ytkimgkpjbfijmaa
open Go.ChangeShapes Go.WideShapes Go.ChangeAt Go.RowKit Go.Deep
set_option linter.unusedVariables false

/-- In block b lie three words and an int. -/
def IssAt (w : World) (b x y z : Nat) (m : Int) (T : TypeId) : Prop := w.heap[b]? = some (.cells #[.int .u64 (x : Int), .int .u64 (y : Int), .int .u64 (z : Int), .int .i64 m] T (0, 0))
theorem IssAt.lt {w : World} {b x y z : Nat} {m : Int} {T : TypeId} (h : IssAt w b x y z m T) : b < w.heap.size := (Array.getElem?_eq_some_iff.1 h).1
theorem IssAt.below {w w' : World} {B b x y z : Nat} {m : Int} {T : TypeId} (h : IssAt w b x y z m T) (hb : Below B w w') (hB : b < B) : IssAt w' b x y z m T := by
  unfold IssAt; rw [hb.block b hB]; exact h
theorem IssAt.up {w w' : World} {b x y z : Nat} {m : Int} {T : TypeId} (h : IssAt w b x y z m T) (hb : Below w.heap.size w w') : IssAt w' b x y z m T := h.below hb h.lt
theorem IssAt.new (w : World) (x y z : Nat) (m : Int) (T : TypeId) {b : Nat} (hb : b = w.heap.size) : IssAt (w.alloc (.cells #[.int .u64 (x : Int), .int .u64 (y : Int), .int .u64 (z : Int), .int .i64 m] T)) b x y z m T := by
  subst hb; exact heap_alloc_new w _
theorem IssAt.c0 {w : World} {b x y z : Nat} {m : Int} {T : TypeId} (h : IssAt w b x y z m T) : w.cell? ⟨b, 0, none⟩ = some (.int .u64 (x : Int)) := cell_of_row w b 0 _ _ _ h
theorem IssAt.c1 {w : World} {b x y z : Nat} {m : Int} {T : TypeId} (h : IssAt w b x y z m T) : w.cell? ⟨b, 1, none⟩ = some (.int .u64 (y : Int)) := cell_of_row w b 1 _ _ _ h
theorem IssAt.c2 {w : World} {b x y z : Nat} {m : Int} {T : TypeId} (h : IssAt w b x y z m T) : w.cell? ⟨b, 2, none⟩ = some (.int .u64 (z : Int)) := cell_of_row w b 2 _ _ _ h
theorem IssAt.c3 {w : World} {b x y z : Nat} {m : Int} {T : TypeId} (h : IssAt w b x y z m T) : w.cell? ⟨b, 3, none⟩ = some (.int .i64 m) := cell_of_row w b 3 _ _ _ h

section
variable {H : Type} {enc : TypeId × Value → H} {w : World} {base : Nat} {held : Bool}
set_option maxRecDepth 100000 in
theorem open_issue {r : Reach} {b0 : Nat} {v : Value} {d : DataW H} {pl : List MemPlace}
    (hv : Value.okWide Try.prog w r b0 26 v) (h : DataW.Trod enc Try.prog w base (fun _ => true) held 26 v d pl) :
    ∃ (x y z : Nat) (m : Int), v = .agg #[.int .u64 (x : Int), .int .u64 (y : Int), .int .u64 (z : Int), .int .i64 m] ∧ x < 18446744073709551616 ∧ y < 18446744073709551616 ∧ z < 18446744073709551616 := by
  obtain ⟨x0, x1, x2, x3, y0, y1, y2, y3, m, rfl, rfl, rfl, h0, h1, h2, h3⟩ := Joins.open_agg4 Try.underlying26 (by kernel_rfl) (by kernel_rfl) hv h
  obtain ⟨a0, e0, rfl, u0⟩ := DataW.trod_int Try.underlying22 h0
  obtain ⟨a1, e1, rfl, u1⟩ := DataW.trod_int Try.underlying22 h1
  obtain ⟨a2, e2, rfl, u2⟩ := DataW.trod_int Try.underlying22 h2
  obtain ⟨a3, e3, rfl, u3⟩ := DataW.trod_int Try.underlying3 h3
  simp only [List.cons.injEq, and_true] at e0 e1 e2 e3
  have b0 := u64_fits u0
  have b1 := u64_fits u1
  have b2 := u64_fits u2
  exact ⟨a0.toNat, a1.toNat, a2.toNat, a3, by rw [Int.toNat_of_nonneg b0.1, Int.toNat_of_nonneg b1.1, Int.toNat_of_nonneg b2.1, e0, e1, e2, e3], by omega, by omega, by omega⟩
end
end Go.Proofs.Ytkimgkpjbfijmaa
