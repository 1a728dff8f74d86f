/- Layer 7 (param): Check, by a contract for each way that it ends. · Layer 7 (param): what is lost at least, the leak, and in how many ticks a quorum is back. By contracts. -/
import Derived.Test.YtcggcnegagogkaaParI
import Derived.Test.YtcggcnegagogkaaParL
import Derived.Test.YtcggcnegagogkaaParW
import Derived.Test.YtcggcnegagogkaaMoneySum
import Derived.Deep.QuietTactic
import Derived.BigQuiet
import Derived.Shelf.Abstract
namespace Go.Proofs.Ytcggcnegagogkaa
open Go.RowKit
set_option linter.unusedVariables false

theorem ParAt.words {w : World} {b : Nat} {p : Par} {T : TypeId} (h : ParAt w b p T) : ParWordsAt w b p.wspan := by
  intro k x hx
  rw [h.cell]
  match k, hx with
  | 0, hx => cases hx; rfl
  | 1, hx => cases hx; rfl
  | 2, hx => cases hx; rfl
  | 3, hx => cases hx; rfl
  | 4, hx => cases hx; rfl
  | 5, hx => cases hx; rfl
  | 6, hx => cases hx; rfl
  | 7, hx => cases hx; rfl
  | 8, hx => cases hx; rfl
  | 9, hx => cases hx; rfl
  | 10, hx => cases hx; rfl
  | 11, hx => cases hx; rfl
  | 12, hx => cases hx; rfl
  | 13, hx => cases hx; rfl
  | k + 14, hx => simp [Par.wspan] at hx
theorem ParAt.ints {w : World} {b : Nat} {p : Par} {T : TypeId} (h : ParAt w b p T) : IntsAt w b p.ispan := by
  intro k x hx
  rw [h.cell]
  match k, hx with
  | 0, hx => cases hx; rfl
  | 1, hx => cases hx; rfl
  | 2, hx => cases hx; rfl
  | 3, hx => cases hx; rfl
  | 4, hx => cases hx; rfl
  | 5, hx => cases hx; rfl
  | 6, hx => cases hx; rfl
  | 7, hx => cases hx; rfl
  | 8, hx => cases hx; rfl
  | 9, hx => cases hx; rfl
  | k + 10, hx => simp [Par.ispan] at hx

theorem FieldsW.lt {w : World} {g b : Nat} {p : Par} (h : FieldsW w g b p.wspan) : g < w.heap.size := World.block_lt_of_cell? w ⟨g, 0 * 3, none⟩ (h 0 _ rfl).1
theorem FieldsI.lt {w : World} {g b : Nat} {p : Par} (h : FieldsI w g b p.ispan) : g < w.heap.size := World.block_lt_of_cell? w ⟨g, 0 * 3, none⟩ (h 0 _ rfl).1
end Go.Proofs.Ytcggcnegagogkaa
namespace Go.Proofs.Ytcggcnegagogkaa
open Go.RowKit
set_option linter.unusedVariables false

/-- n is the whole number next above X / c. -/
structure Ceil (X c n : Nat) : Prop where
  enough : X ≤ n * c
  less : n * c < X + c
theorem ceil_is (X c : Nat) (hc : 0 < c) : ∃ n, Ceil X c n := by
  have h := Nat.div_add_mod' X c
  have hr := Nat.mod_lt X hc
  rcases Nat.eq_zero_or_pos (X % c) with h0 | h0
  · exact ⟨X / c, by omega, by omega⟩
  · refine ⟨X / c + 1, ?_, ?_⟩ <;> rw [Nat.add_mul] <;> omega
theorem Ceil.parts {X c n : Nat} (h : Ceil X c n) (hc : 0 < c) : X = n * c + 0 ∨ ∃ q r, n = q + 1 ∧ X = q * c + r ∧ r < c ∧ 0 < r := by
  rcases Nat.eq_or_lt_of_le h.enough with e | e
  · exact .inl (by omega)
  · have hn : n ≠ 0 := fun e0 => by subst e0; simp at e
    obtain ⟨q, rfl⟩ : ∃ q, n = q + 1 := ⟨n - 1, by omega⟩
    have h2 := h.less
    rw [Nat.add_mul] at e h2
    exact .inr ⟨q, X - q * c, rfl, by omega, by omega, by omega⟩
theorem Ceil.le {X c n m : Nat} (h : Ceil X c n) (hm : X ≤ m * c) : n ≤ m := by
  rcases Nat.lt_or_ge m n with hl | hl
  · have := h.less
    have h3 : (m + 1) * c ≤ n * c := Nat.mul_le_mul_right _ hl
    rw [Nat.add_mul] at h3
    omega
  · exact hl
theorem Ceil.pos {X c n : Nat} (h : Ceil X c n) (hX : 0 < X) : 0 < n := by
  rcases Nat.eq_zero_or_pos n with e | e
  · have := h.enough; subst e; omega
  · exact e
theorem lim_next {p : Par} {m : Nat} (h : Par.Right p (m + 1)) (i : Nat) : decide (p.lim (i + 1)) = decide (m ≤ i) := by
  apply decide_eq_decide.2
  constructor
  · intro hl
    rcases Nat.lt_or_ge i m with h1 | h1
    · exact absurd hl (h.halt.below (by omega))
    · exact h1
  · intro hi
    exact Par.lim_up h.lim (by omega)

end Go.Proofs.Ytcggcnegagogkaa
