/- The reference's numbers (layer 1): a long division, what its world holds between its steps. -/
import Derived.Test.YtfaocjgelhefjaaNatH
import Derived.Test.YtfaocjgelhefjaaMathC
import Derived.Laws.AppendOwnNone
import Derived.Deep.RegionWith
import Derived.Deep.CutBlock
namespace Go.Proofs.Ytfaocjgelhefjaa
open Go.RowKit
set_option linter.unusedVariables false

/-- Between two steps of a division: the quotient's digits lie in block p, what is left in the cell behind it. -/
structure DivW (p : Nat) (wr : World) (qs : List Nat) (R : Nat) (A : Option Addr) (c : Nat) : Prop where
  row : ∀ k, k < qs.length → wr.cell? ⟨p, k, none⟩ = some (.int .i64 ((qs.getD k 0 : Nat) : Int))
  frz : ∀ k, wr.frozen? ⟨p, k, none⟩ = false
  size : p + 2 ≤ wr.heap.size
  cell : wr.cell? ⟨p + 1, 0, none⟩ = some (.slice A (digs R).length c)
  frz1 : wr.frozen? ⟨p + 1, 0, none⟩ = false
  nat : NatV wr wr.heap.size (.agg #[.slice A (digs R).length c]) R
  fresh : Fresh (p + 2) (.agg #[.slice A (digs R).length c])

theorem DivW.keep {p R c : Nat} {wr w' : World} {qs : List Nat} {A : Option Addr} (h : DivW p wr qs R A c) (hb : Below wr.heap.size wr w') : DivW p w' qs R A c := by
  have hp : p < wr.heap.size := by have := h.size; omega
  have hp1 : p + 1 < wr.heap.size := by have := h.size; omega
  exact ⟨fun k hk => (hb.cell (p := ⟨p, k, none⟩) hp).trans (h.row k hk), fun k => (hb.frozen (p := ⟨p, k, none⟩) hp).trans (h.frz k), Nat.le_trans h.size hb.size,
    (hb.cell (p := ⟨p + 1, 0, none⟩) hp1).trans h.cell, (hb.frozen (p := ⟨p + 1, 0, none⟩) hp1).trans h.frz1, (h.nat.below hb).up hb.size, h.fresh⟩

theorem DivW.drew {p R c : Nat} {wr : World} {qs : List Nat} {A : Option Addr} (h : DivW p wr qs R A c) : DivW p wr.drew qs R A c := ⟨h.row, h.frz, h.size, h.cell, h.frz1, h.nat, h.fresh⟩

/-- Another number is left. -/
theorem DivW.left {p R R' L c c' : Nat} {w' : World} {qs : List Nat} {A A' : Option Addr} (h : DivW p w' qs R A c) (hL : p + 2 ≤ L)
    (hv : NatV w' w'.heap.size (.agg #[.slice A' (digs R').length c']) R') (hf : Fresh L (.agg #[.slice A' (digs R').length c'])) :
    DivW p (w'.setCell ⟨p + 1, 0, none⟩ (.slice A' (digs R').length c')) qs R' A' c' := by
  refine ⟨fun k hk => ?_, fun k => ?_, ?_, World.cell?_setCell_same _ _ _ h.cell, ?_, ?_, hf.down hL⟩
  · rw [World.cell?_setCell_other]
    · exact h.row k hk
    · intro e; injection e with e1; omega
  · rw [World.frozen?_setCell]; exact h.frz k
  · have := h.size; simpa [World.setCell] using this
  · rw [World.frozen?_setCell]; exact h.frz1
  · exact (hv.setCell hf (by show p + 1 < L; omega) _).up (by simp [World.setCell])

/-- Another digit of the quotient. -/
theorem DivW.digit {p R i x c : Nat} {wr : World} {qs : List Nat} {A : Option Addr} (h : DivW p wr qs R A c) (hi : i < qs.length) :
    DivW p (wr.setCell ⟨p, i, none⟩ (.int .i64 (x : Int))) (qs.set i x) R A c := by
  refine ⟨fun k hk => ?_, fun k => ?_, ?_, ?_, ?_, ?_, h.fresh⟩
  · rw [List.length_set] at hk
    by_cases e : k = i
    · subst e
      rw [World.cell?_setCell_same _ _ _ (h.row k hk)]
      simp [hi]
    · rw [World.cell?_setCell_other]
      · rw [h.row k hk]
        simp [List.getD, Ne.symm e]
      · intro e2; injection e2 with _ e3; omega
  · rw [World.frozen?_setCell]; exact h.frz k
  · have := h.size; simpa [World.setCell] using this
  · rw [World.cell?_setCell_other]
    · exact h.cell
    · intro e; injection e with e1; omega
  · rw [World.frozen?_setCell]; exact h.frz1
  · exact (h.nat.setCell h.fresh (by show p < p + 2; omega) _).up (by simp [World.setCell])

/-- The quotient's digits, as a row. -/
theorem DivW.digits {p R c : Nat} {wr : World} {qs : List Nat} {A : Option Addr} (h : DivW p wr qs R A c) : Row wr wr.heap.size (some ⟨p, 0, none⟩) (ints qs) := by
  intro k v hv
  have hk : k < qs.length := by
    have := (List.getElem?_eq_some_iff.1 hv).1
    rwa [ints_len] at this
  refine ⟨_, rfl, by have := h.size; show p < _; omega, ?_⟩
  have e : (⟨p, 0, none⟩ : Addr).add k = ⟨p, k, none⟩ := by
    unfold Addr.add
    by_cases hz : k = 0
    · rw [if_pos hz, hz]
    · rw [if_neg hz]; simp
  rw [e, h.row k hk]
  simp [ints, hk] at hv
  rw [← hv]
  simp [hk]

/-- One step of a division, digit by digit. -/
theorem div_round {A b d j R : Nat} (h0 : 0 < b) (h : R + j * b = 10 * (A % b) + d) (hR : R < b) : (10 * A + d) / b = 10 * (A / b) + j ∧ (10 * A + d) % b = R := by
  refine div_of (?_) hR
  have e := Nat.div_add_mod A b
  have e1 : b * (10 * (A / b) + j) = 10 * (b * (A / b)) + j * b := by rw [Nat.mul_add, Nat.mul_left_comm, Nat.mul_comm b j]
  rw [e1]
  omega
theorem div_digit {A b d j R : Nat} (h0 : 0 < b) (hd : d < 10) (h : R + j * b = 10 * (A % b) + d) (hR : b ≤ R) : j + 1 ≤ 9 := by
  have hm := Nat.mod_lt A h0
  rcases Nat.lt_or_ge j 9 with k | k
  · omega
  · have := Nat.mul_le_mul_right b k
    omega
theorem div_less {b j R : Nat} (hR : b ≤ R) : R - b + (j + 1) * b = R + j * b := by rw [Nat.succ_mul]; omega
/-- A place of the quotient that no step has come to holds nought. -/
theorem div_blank {qs : List Nat} {i X : Nat} (hd : ∀ d ∈ qs, d < 10) (h : val qs = X * 10 ^ (i + 1)) : qs.getD i 0 = 0 := by
  rw [val_get qs hd, h, Nat.pow_succ, ← Nat.mul_assoc, Nat.mul_right_comm, Nat.mul_div_cancel _ (Nat.pow_pos (by omega)), Nat.mul_mod_left]
end Go.Proofs.Ytfaocjgelhefjaa
