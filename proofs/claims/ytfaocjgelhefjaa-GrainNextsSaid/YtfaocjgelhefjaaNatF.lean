/- The reference's numbers (layer 1): as a word, if it is one. By contracts. -/
import Derived.Test.YtfaocjgelhefjaaNatE
import Derived.Deep.RegionHeld3
namespace Go.Proofs.Ytfaocjgelhefjaa
open Go.RowKit
set_option linter.unusedVariables false

theorem of_most (w : World) :
    Calls Try.prog 33 #[.int .u64 18446744073709551615] w fun e w' => ∃ v, e = .returned v ∧ NatV w' w'.heap.size v 18446744073709551615 ∧ Fresh w.heap.size v ∧ Below w.heap.size w w' := by
  have h := of_any 18446744073709551615 w (Nat.le_refl _)
  rwa [show ((18446744073709551615 : Nat) : Int) = 18446744073709551615 from rfl] at h

/-- The one cell of a boxed number. -/
theorem boxed1 {w wr : World} {x : Value} {t : TypeId} (hb : Below (w.heap.size + 1) (w.alloc (.cells #[x] t)) wr) : wr.cell? ⟨w.heap.size, 0, none⟩ = some x := (result_cell hb).1

/-- A boxed number's cell, and all that was there ahead of it, kept: what a region that draws its order holds fast. -/
theorem keep0 {w : World} {x : Value} {t : TypeId} : (w.alloc (.cells #[x] t)).drew.cell? ⟨w.heap.size, 0, none⟩ = some x ∧ Below (w.heap.size + 1) (w.alloc (.cells #[x] t)) (w.alloc (.cells #[x] t)).drew :=
  ⟨boxed1 (Below.refl _ _).drew, (Below.refl _ _).drew⟩
theorem keep1_nat {w W1 w' : World} {x : Value} {t : TypeId} (h : W1.cell? ⟨w.heap.size, 0, none⟩ = some x ∧ Below (w.heap.size + 1) (w.alloc (.cells #[x] t)) W1) (hb : Below W1.heap.size W1 w') :
    w'.cell? ⟨w.heap.size, 0, none⟩ = some x ∧ Below (w.heap.size + 1) (w.alloc (.cells #[x] t)) w' := by
  have h1 := h.2.trans (hb.mono (by have := h.2.size; simpa using this))
  exact ⟨boxed1 h1, h1⟩
theorem keep_old {w w' : World} {x : Value} {t : TypeId} (h : w'.cell? ⟨w.heap.size, 0, none⟩ = some x ∧ Below (w.heap.size + 1) (w.alloc (.cells #[x] t)) w') : Below w.heap.size w w' :=
  ((Below.refl _ _).alloc (Nat.le_refl _) _).trans (h.2.mono (by omega))
theorem keep_nat {w w' : World} {x y : Value} {t : TypeId} {B N : Nat} (hn : NatV w B y N) (hB : B ≤ w.heap.size) (h : w'.cell? ⟨w.heap.size, 0, none⟩ = some x ∧ Below (w.heap.size + 1) (w.alloc (.cells #[x] t)) w') : NatV w' w'.heap.size y N :=
  (hn.below ((keep_old h).mono hB)).up (Nat.le_trans hB (keep_old h).size)

theorem cmp_upto (a b : Nat) (va vb : Value) (B : Nat) (w : World) (ha : NatV w B va a) (hb : NatV w B vb b) (hB : B ≤ w.heap.size) (h : a ≤ b) :
    Calls Try.prog 34 #[va, vb] w fun e w' => ∃ z : Int, z ≤ 0 ∧ e = .returned (.int .i64 z) ∧ Below w.heap.size w w' := by
  refine (cmp_any a b va vb B w ha hb hB).mono ?_
  rintro e w' ⟨rfl, hb⟩
  refine ⟨_, ?_, rfl, hb⟩
  unfold cmpZ
  split
  · omega
  · rw [if_neg (by omega)]; omega

end Go.Proofs.Ytfaocjgelhefjaa
