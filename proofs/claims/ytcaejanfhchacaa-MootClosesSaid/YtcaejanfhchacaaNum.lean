/- Whole numbers of the document, whole, in memory that is there: what makes them, what keeps them. -/
import Derived.Test.YtcaejanfhchacaaRec
import Derived.Test.YtcaejanfhchacaaLawB
import Derived.Test.YtcaejanfhchacaaNatG
import Derived.Test.YtcaejanfhchacaaRecW
namespace Go.Proofs.Ytcaejanfhchacaa
open Go.ChangeShapes Go.WideShapes Go.ChangeAt Go.RowKit Go.Deep
set_option linter.unusedVariables false
set_option linter.unusedSimpArgs false

theorem size_nat21 : (Try.prog.info? 109).map (·.size) = some 1 := by kernel_rfl
/-- A list of words in memory that is there, not too many. -/
structure WordsAt (w : World) (s : SlR Nat) : Prop where
  row : Row w w.heap.size s.A (u64s s.l)
  few : s.l.length ≤ 100000
  all : ∀ x ∈ s.l, x ≤ 18446744073709551615
theorem WordsAt.up {w w' : World} {s : SlR Nat} (h : WordsAt w s) (hb : Below w.heap.size w w') : WordsAt w' s := ⟨row_kept h.row hb, h.few, h.all⟩
theorem WordsAt.tot {w : World} {s : SlR Nat} (h : WordsAt w s) : tot s.l ≤ 10000000000000000000000000 := by
  have h1 := tot_le s.l _ h.all
  have h2 := Nat.mul_le_mul_right 18446744073709551615 h.few
  omega
theorem one_slice (A : Option Addr) (n c : Nat) : (#[Value.slice A n c]).all (·.oneCell') = true := by simp [Value.oneCell']
/-- A number, whole, in memory that is there. -/
def Num (N : Nat) (v : Value) (w : World) : Prop := NatV w w.heap.size v N
theorem Num.up {N : Nat} {v : Value} {w w' : World} (h : Num N v w) (hb : Below w.heap.size w w') : Num N v w' := NatV.up (NatV.below h hb) hb.size
/-- A row of whole numbers doesn't lie in a block that holds a slice. -/
theorem row_off {w w' : World} {B g : Nat} {A : Option Addr} {ds : List Nat} {A0 : Option Addr} {n0 c0 : Nat} {T : TypeId} (h : Row w B A (ints ds)) (hS : RecAt w g #[.slice A0 n0 c0] T) (hk : ∀ k, k ≠ g → w'.heap[k]? = w.heap[k]?) : Row w' B A (ints ds) := fun k v hv => by
  obtain ⟨a, hA, hb, hc⟩ := h k v hv
  refine ⟨a, hA, hb, ?_⟩
  have hne : (a.add k).block ≠ g := fun e => by
    unfold World.cell? at hc
    rw [e, show w.heap[g]? = some (.cells #[.slice A0 n0 c0] T (0, 0)) from hS] at hc
    simp only at hc
    split at hc
    · cases hc
    · unfold ints at hv
      rw [List.getElem?_map] at hv
      obtain ⟨d, _, rfl⟩ := Option.map_eq_some_iff.1 hv
      have := Array.mem_of_getElem? hc
      simp at this
  rw [← hc]
  unfold World.cell?
  rw [hk _ hne]
theorem Num.off {N g : Nat} {v : Value} {w w' : World} {A0 : Option Addr} {n0 c0 : Nat} {T : TypeId} (h : Num N v w) (hS : RecAt w g #[.slice A0 n0 c0] T) (hk : ∀ k, k ≠ g → w'.heap[k]? = w.heap[k]?) (hz : w'.heap.size = w.heap.size) : Num N v w' := by
  obtain ⟨A, c, hv, hl, hm, hr⟩ := h
  exact ⟨A, c, hv, hl, hm, by rw [hz]; exact row_off hr hS hk⟩
theorem num_of {w0 w1 : World} {P : Program} (hS : Below w0.heap.size w0 w1) {f : FuncId} {args : Array Value} {N : Nat} (k : Calls P f args w1 fun e w' => ∃ v, e = .returned v ∧ Num N v w' ∧ Below w1.heap.size w1 w') :
    Calls P f args w1 fun e w' => ∃ v, e = .returned v ∧ Num N v w' ∧ Below w0.heap.size w0 w' ∧ Below w1.heap.size w1 w' :=
  k.mono (by rintro e w' ⟨v, h1, h2, h3⟩; exact ⟨v, h1, h2, Below.then hS h3, h3⟩)
theorem num_word (N : Nat) (w : World) (hN : N ≤ 18446744073709551615) : Calls Try.prog 91 #[.int .u64 (N : Int)] w fun e w' => ∃ v, e = .returned v ∧ Num N v w' ∧ Below w.heap.size w w' :=
  (of_any N w hN).mono (by rintro e w' ⟨v, h1, h2, _, h3⟩; exact ⟨v, h1, h2, h3⟩)
theorem digs_small {n : Nat} (h : n ≤ 1000000000000000000000000000) : (digs n).length ≤ 1000000 := Nat.le_trans (digs_len (k := 28) (by omega)) (by decide)
theorem num_uint (a : Nat) (v : Value) (w : World) (h : Num a v w) : Calls Try.prog 58 #[v] w fun e w' => e = .returned (.tuple #[.int .u64 (tx a : Nat), .bool (decide (a ≤ 18446744073709551615))]) ∧ Below w.heap.size w w' := by
  by_cases g : a ≤ 18446744073709551615
  · rw [tx_in g, decide_eq_true g]; exact uint_fits a v _ w h (Nat.le_refl _) g
  · rw [tx_out (by omega), decide_eq_false g]; exact uint_big a v _ w h (Nat.le_refl _) (by omega)
end Go.Proofs.Ytcaejanfhchacaa
