/- Layer 12 (mode): stakes, in a block and as they come in with a law's arguments. -/
import Derived.Test.YtioghkkpdkkedaaDoorAwake12
import Derived.Test.YtioghkkpdkkedaaDoorLawP
namespace Go.Proofs.YtioghkkpdkkedaaDoor
open Go.ChangeShapes Go.WideShapes Go.ChangeAt Go.RowKit Go.Deep
set_option linter.unusedVariables false

/-- In block b lie stakes. -/
def StakeAt (w : World) (b x y : Nat) (e : Bool) (T : TypeId) : Prop := w.heap[b]? = some (.cells #[.int .u64 (x : Int), .int .u64 (y : Int), .bool e] T (0, 0))
theorem StakeAt.lt {w : World} {b x y : Nat} {e : Bool} {T : TypeId} (h : StakeAt w b x y e T) : b < w.heap.size := (Array.getElem?_eq_some_iff.1 h).1
theorem StakeAt.below {w w' : World} {B b x y : Nat} {e : Bool} {T : TypeId} (h : StakeAt w b x y e T) (hb : Below B w w') (hB : b < B) : StakeAt w' b x y e T := by
  unfold StakeAt; rw [hb.block b hB]; exact h
theorem StakeAt.up {w w' : World} {b x y : Nat} {e : Bool} {T : TypeId} (h : StakeAt w b x y e T) (hb : Below w.heap.size w w') : StakeAt w' b x y e T := h.below hb h.lt
theorem StakeAt.new (w : World) (x y : Nat) (e : Bool) (T : TypeId) {b : Nat} (hb : b = w.heap.size) : StakeAt (w.alloc (.cells #[.int .u64 (x : Int), .int .u64 (y : Int), .bool e] T)) b x y e T := by
  subst hb; exact heap_alloc_new w _
theorem StakeAt.c0 {w : World} {b x y : Nat} {e : Bool} {T : TypeId} (h : StakeAt w b x y e T) : w.cell? ⟨b, 0, none⟩ = some (.int .u64 (x : Int)) := cell_of_row w b 0 _ _ _ h
theorem StakeAt.c1 {w : World} {b x y : Nat} {e : Bool} {T : TypeId} (h : StakeAt w b x y e T) : w.cell? ⟨b, 1, none⟩ = some (.int .u64 (y : Int)) := cell_of_row w b 1 _ _ _ h
theorem StakeAt.c2 {w : World} {b x y : Nat} {e : Bool} {T : TypeId} (h : StakeAt w b x y e T) : w.cell? ⟨b, 2, none⟩ = some (.bool e) := cell_of_row w b 2 _ _ _ h

section
variable {H : Type} {enc : TypeId × Value → H} {w : World} {base : Nat} {held : Bool}
theorem open_stakes {r : Reach} {b0 : Nat} {v : Value} {d : DataW H} {pl : List MemPlace}
    (hv : Value.okWide Tryd.prog w r b0 26 v) (h : DataW.Trod enc Tryd.prog w base (fun _ => true) held 26 v d pl) :
    ∃ (x y : Nat) (e : Bool), v = .agg #[.int .u64 (x : Int), .int .u64 (y : Int), .bool e] ∧ x < 18446744073709551616 ∧ y < 18446744073709551616 := by
  obtain ⟨x0, x1, x2, y0, y1, y2, m, rfl, rfl, rfl, h0, h1, h2⟩ := Joins.open_agg3 Tryd.underlying26 (by kernel_rfl) (by kernel_rfl) hv h
  obtain ⟨a0, e0, rfl, u0⟩ := DataW.trod_int Tryd.underlying22 h0
  obtain ⟨a1, e1, rfl, u1⟩ := DataW.trod_int Tryd.underlying22 h1
  obtain ⟨b, e2, _⟩ := DataW.trod_bool Tryd.underlying4 h2
  simp only [List.cons.injEq, and_true] at e0 e1 e2
  have b0 := u64_fits u0
  have b1 := u64_fits u1
  exact ⟨a0.toNat, a1.toNat, b, by rw [Int.toNat_of_nonneg b0.1, Int.toNat_of_nonneg b1.1, e0, e1, e2], by omega, by omega⟩
end
end Go.Proofs.YtioghkkpdkkedaaDoor
