/- The reference's numbers (layer 1): a long division, what its world holds between its steps. · The reference's numbers (layer 1): a long division. By contracts. · The reference of layer 2 (ratio): a product by a number, in its parts. By contracts. -/
import Derived.Test.YtcggcnegagogkaaRefNumB
import Derived.Test.YtcggcnegagogkaaRatioB
import Derived.Laws.AppendOwnNone
import Derived.Deep.RegionWith
import Derived.Deep.CutBlock
namespace Go.Proofs.Ytcggcnegagogkaa
open Go.RowKit
set_option linter.unusedVariables false

/-- Between two steps of a division: the quotient's digits lie in block p, what is left in the cell behind it. -/
structure DivW (p : Nat) (wr : World) (qs : List Nat) (R : Nat) (A : Option Addr) (c : Nat) : Prop where
  row : ∀ k, k < qs.length → wr.cell? ⟨p, k, none⟩ = some (.int .i64 ((qs.getD k 0 : Nat) : Int))
  frz : ∀ k, wr.frozen? ⟨p, k, none⟩ = false
  size : p + 2 ≤ wr.heap.size
  cell : wr.cell? ⟨p + 1, 0, none⟩ = some (.slice A (digs R).length c)
  frz1 : wr.frozen? ⟨p + 1, 0, none⟩ = false
  nat : NatV wr wr.heap.size (.agg #[.slice A (digs R).length c]) R
  fresh : Fresh (p + 2) (.agg #[.slice A (digs R).length c])

theorem DivW.keep {p R c : Nat} {wr w' : World} {qs : List Nat} {A : Option Addr} (h : DivW p wr qs R A c) (hb : Below wr.heap.size wr w') : DivW p w' qs R A c := by
  have hp : p < wr.heap.size := by have := h.size; omega
  have hp1 : p + 1 < wr.heap.size := by have := h.size; omega
  exact ⟨fun k hk => (hb.cell (p := ⟨p, k, none⟩) hp).trans (h.row k hk), fun k => (hb.frozen (p := ⟨p, k, none⟩) hp).trans (h.frz k), Nat.le_trans h.size hb.size,
    (hb.cell (p := ⟨p + 1, 0, none⟩) hp1).trans h.cell, (hb.frozen (p := ⟨p + 1, 0, none⟩) hp1).trans h.frz1, (h.nat.below hb).up hb.size, h.fresh⟩

theorem DivW.drew {p R c : Nat} {wr : World} {qs : List Nat} {A : Option Addr} (h : DivW p wr qs R A c) : DivW p wr.drew qs R A c := ⟨h.row, h.frz, h.size, h.cell, h.frz1, h.nat, h.fresh⟩

/-- Another number is left. -/
theorem DivW.left {p R R' L c c' : Nat} {w' : World} {qs : List Nat} {A A' : Option Addr} (h : DivW p w' qs R A c) (hL : p + 2 ≤ L)
    (hv : NatV w' w'.heap.size (.agg #[.slice A' (digs R').length c']) R') (hf : Fresh L (.agg #[.slice A' (digs R').length c'])) :
    DivW p (w'.setCell ⟨p + 1, 0, none⟩ (.slice A' (digs R').length c')) qs R' A' c' := by
  refine ⟨fun k hk => ?_, fun k => ?_, ?_, World.cell?_setCell_same _ _ _ h.cell, ?_, ?_, hf.down hL⟩
  · rw [World.cell?_setCell_other]
    · exact h.row k hk
    · intro e; injection e with e1; omega
  · rw [World.frozen?_setCell]; exact h.frz k
  · have := h.size; simpa [World.setCell] using this
  · rw [World.frozen?_setCell]; exact h.frz1
  · exact (hv.setCell hf (by show p + 1 < L; omega) _).up (by simp [World.setCell])

/-- Another digit of the quotient. -/
theorem DivW.digit {p R i x c : Nat} {wr : World} {qs : List Nat} {A : Option Addr} (h : DivW p wr qs R A c) (hi : i < qs.length) :
    DivW p (wr.setCell ⟨p, i, none⟩ (.int .i64 (x : Int))) (qs.set i x) R A c := by
  refine ⟨fun k hk => ?_, fun k => ?_, ?_, ?_, ?_, ?_, h.fresh⟩
  · rw [List.length_set] at hk
    by_cases e : k = i
    · subst e
      rw [World.cell?_setCell_same _ _ _ (h.row k hk)]
      simp [hi]
    · rw [World.cell?_setCell_other]
      · rw [h.row k hk]
        simp [List.getD, Ne.symm e]
      · intro e2; injection e2 with _ e3; omega
  · rw [World.frozen?_setCell]; exact h.frz k
  · have := h.size; simpa [World.setCell] using this
  · rw [World.cell?_setCell_other]
    · exact h.cell
    · intro e; injection e with e1; omega
  · rw [World.frozen?_setCell]; exact h.frz1
  · exact (h.nat.setCell h.fresh (by show p < p + 2; omega) _).up (by simp [World.setCell])

/-- The quotient's digits, as a row. -/
theorem DivW.digits {p R c : Nat} {wr : World} {qs : List Nat} {A : Option Addr} (h : DivW p wr qs R A c) : Row wr wr.heap.size (some ⟨p, 0, none⟩) (ints qs) := by
  intro k v hv
  have hk : k < qs.length := by
    have := (List.getElem?_eq_some_iff.1 hv).1
    rwa [ints_len] at this
  refine ⟨_, rfl, by have := h.size; show p < _; omega, ?_⟩
  have e : (⟨p, 0, none⟩ : Addr).add k = ⟨p, k, none⟩ := by
    unfold Addr.add
    by_cases hz : k = 0
    · rw [if_pos hz, hz]
    · rw [if_neg hz]; simp
  rw [e, h.row k hk]
  simp [ints, hk] at hv
  rw [← hv]
  simp [hk]

/-- One step of a division, digit by digit. -/
theorem div_round {A b d j R : Nat} (h0 : 0 < b) (h : R + j * b = 10 * (A % b) + d) (hR : R < b) : (10 * A + d) / b = 10 * (A / b) + j ∧ (10 * A + d) % b = R := by
  refine div_of (?_) hR
  have e := Nat.div_add_mod A b
  have e1 : b * (10 * (A / b) + j) = 10 * (b * (A / b)) + j * b := by rw [Nat.mul_add, Nat.mul_left_comm, Nat.mul_comm b j]
  rw [e1]
  omega
theorem div_digit {A b d j R : Nat} (h0 : 0 < b) (hd : d < 10) (h : R + j * b = 10 * (A % b) + d) (hR : b ≤ R) : j + 1 ≤ 9 := by
  have hm := Nat.mod_lt A h0
  rcases Nat.lt_or_ge j 9 with k | k
  · omega
  · have := Nat.mul_le_mul_right b k
    omega
theorem div_less {b j R : Nat} (hR : b ≤ R) : R - b + (j + 1) * b = R + j * b := by rw [Nat.succ_mul]; omega
/-- A place of the quotient that no step has come to holds nought. -/
theorem div_blank {qs : List Nat} {i X : Nat} (hd : ∀ d ∈ qs, d < 10) (h : val qs = X * 10 ^ (i + 1)) : qs.getD i 0 = 0 := by
  rw [val_get qs hd, h, Nat.pow_succ, ← Nat.mul_assoc, Nat.mul_right_comm, Nat.mul_div_cancel _ (Nat.pow_pos (by omega)), Nat.mul_mod_left]
end Go.Proofs.Ytcggcnegagogkaa
namespace Go.Proofs.Ytcggcnegagogkaa
open Go.RowKit
set_option linter.unusedVariables false

theorem cmp_from (a b : Nat) (va vb : Value) (B : Nat) (w : World) (ha : NatV w B va a) (hb : NatV w B vb b) (hB : B ≤ w.heap.size) (h : b ≤ a) :
    Calls Try.prog 25 #[va, vb] w fun e w' => ∃ z : Int, 0 ≤ z ∧ e = .returned (.int .i64 z) ∧ Below w.heap.size w w' := by
  refine (cmp_any a b va vb B w ha hb hB).mono ?_
  rintro e w' ⟨rfl, hb⟩
  refine ⟨_, ?_, rfl, hb⟩
  unfold cmpZ
  rw [if_neg (by omega)]
  split <;> omega

/-- Both numbers boxed, two cells for the results: what lies there, behind all that was laid since. -/
theorem boxed4 {w wr : World} {x y z u : Value} {t : TypeId} (hb : Below (w.heap.size + 4) ((((w.alloc (.cells #[x] t)).alloc (.cells #[y] t)).alloc (.cells #[z] t)).alloc (.cells #[u] t)) wr) :
    wr.cell? ⟨w.heap.size, 0, none⟩ = some x ∧ wr.cell? ⟨w.heap.size + 1, 0, none⟩ = some y ∧ (wr.cell? ⟨w.heap.size + 1 + 1, 0, none⟩ = some z ∧ wr.frozen? ⟨w.heap.size + 1 + 1, 0, none⟩ = false) ∧
      (wr.cell? ⟨w.heap.size + 1 + 1 + 1, 0, none⟩ = some u ∧ wr.frozen? ⟨w.heap.size + 1 + 1 + 1, 0, none⟩ = false) ∧ Below w.heap.size w wr := by
  refine ⟨(hb.cell (p := ⟨w.heap.size, 0, none⟩) (by show w.heap.size < _; omega)).trans ?_, (hb.cell (p := ⟨w.heap.size + 1, 0, none⟩) (by show w.heap.size + 1 < _; omega)).trans ?_,
    ⟨(hb.cell (p := ⟨w.heap.size + 1 + 1, 0, none⟩) (by show w.heap.size + 1 + 1 < _; omega)).trans ?_, (hb.frozen (p := ⟨w.heap.size + 1 + 1, 0, none⟩) (by show w.heap.size + 1 + 1 < _; omega)).trans ?_⟩,
    ⟨(hb.cell (p := ⟨w.heap.size + 1 + 1 + 1, 0, none⟩) (by show w.heap.size + 1 + 1 + 1 < _; omega)).trans ?_, (hb.frozen (p := ⟨w.heap.size + 1 + 1 + 1, 0, none⟩) (by show w.heap.size + 1 + 1 + 1 < _; omega)).trans ?_⟩, ?_⟩
  · rw [World.cell?_alloc_past _ _ _ (by simp <;> omega), World.cell?_alloc_past _ _ _ (by simp <;> omega), World.cell?_alloc_past _ _ _ (by simp), World.cell?_alloc_at _ _ _ _ rfl]; rfl
  · rw [World.cell?_alloc_past _ _ _ (by simp <;> omega), World.cell?_alloc_past _ _ _ (by simp), World.cell?_alloc_at _ _ _ _ (by simp)]; rfl
  · rw [World.cell?_alloc_past _ _ _ (by simp), World.cell?_alloc_at _ _ _ _ (by simp)]; rfl
  · rw [World.frozen?_alloc_past _ _ _ (by simp)]; exact World.frozen?_alloc_at _ _ _ _ (by simp)
  · rw [World.cell?_alloc_at _ _ _ _ (by simp)]; rfl
  · exact World.frozen?_alloc_at _ _ _ _ (by simp)
  · exact (((((Below.refl _ _).alloc (Nat.le_refl _) _).alloc (by simp) _).alloc (by simp <;> omega) _).alloc (by simp <;> omega) _).trans (hb.mono (by omega))

theorem divW_start (W : World) (n : Nat) (t u : TypeId) :
    DivW W.heap.size ((W.alloc (.cells (madeCells #[.int .i64 0] n) t)).alloc (.cells #[.slice none 0 0] u)) (List.replicate n 0) 0 none 0 := by
  have hz : (digs 0).length = 0 := by rw [digs_zero]; rfl
  refine ⟨fun k hk => ?_, fun k => ?_, by simp, ?_, ?_, ?_, fresh_of (fun a e => by cases e) (fun _ => rfl)⟩
  · rw [List.length_replicate] at hk
    rw [World.cell?_alloc_past _ _ _ (by simp), World.cell?_alloc_at _ _ _ _ rfl, ← Array.getElem?_toList, ints_zeros]
    simp [ints, hk]
  · rw [World.frozen?_alloc_past _ _ _ (by simp)]
    exact World.frozen?_alloc_at _ _ _ _ rfl
  · rw [World.cell?_alloc_at _ _ _ _ (by simp), hz]; rfl
  · exact World.frozen?_alloc_at _ _ _ _ (by simp)
  · rw [hz]; exact NatV.zero _ _

theorem DivW.nowhere {p R c : Nat} {wr : World} {qs : List Nat} (h : DivW p wr qs R none c) : digs R = [] ∧ c = 0 := by
  refine ⟨?_, h.fresh.2 _ _ rfl⟩
  obtain ⟨A, c1, e, _, _, hr⟩ := h.nat
  injection e with e
  have e1 := congrArg (fun x : Array Value => x[0]?) e
  simp at e1
  obtain ⟨rfl, rfl⟩ := e1
  rcases List.eq_nil_or_concat (digs R) with h0 | ⟨l, x, h0⟩
  · exact h0
  · obtain ⟨a, ha, _⟩ := hr.get (k := 0) (by rw [ints_len, h0]; simp)
    cases ha
theorem DivW.source {p R c : Nat} {wr : World} {qs : List Nat} {ar : Addr} (h : DivW p wr qs R (some ar) c) : ∀ j u, (ints (digs R))[j]? = some u → wr.cell? (ar.add j) = some u := by
  obtain ⟨A, c1, e, _, _, hr⟩ := h.nat
  injection e with e
  have e1 := congrArg (fun x : Array Value => x[0]?) e
  simp at e1
  obtain ⟨rfl, rfl⟩ := e1
  intro j u hu
  obtain ⟨a, ha, _, hc⟩ := hr j u hu
  injection ha with ha
  rw [ha]
  exact hc

end Go.Proofs.Ytcggcnegagogkaa
namespace Go.Proofs.Ytcggcnegagogkaa
open Go.RowKit
set_option linter.unusedVariables false

/-- Two cells that a call lays first: what lies there, behind all that was laid since. -/
theorem boxed2 {w wr : World} {x y : Value} {t : TypeId} (hb : Below ((w.alloc (.cells #[x] t)).alloc (.cells #[y] t)).heap.size ((w.alloc (.cells #[x] t)).alloc (.cells #[y] t)) wr) :
    (wr.cell? ⟨w.heap.size, 0, none⟩ = some x ∧ wr.frozen? ⟨w.heap.size, 0, none⟩ = false) ∧ (wr.cell? ⟨w.heap.size + 1, 0, none⟩ = some y ∧ wr.frozen? ⟨w.heap.size + 1, 0, none⟩ = false) ∧
      Below w.heap.size w wr ∧ w.heap.size + 2 ≤ wr.heap.size := by
  have hs : ((w.alloc (.cells #[x] t)).alloc (.cells #[y] t)).heap.size = w.heap.size + 2 := by simp
  rw [hs] at hb
  refine ⟨⟨(hb.cell (p := ⟨w.heap.size, 0, none⟩) (by show w.heap.size < _; omega)).trans ?_, (hb.frozen (p := ⟨w.heap.size, 0, none⟩) (by show w.heap.size < _; omega)).trans ?_⟩,
    ⟨(hb.cell (p := ⟨w.heap.size + 1, 0, none⟩) (by show w.heap.size + 1 < _; omega)).trans ?_, (hb.frozen (p := ⟨w.heap.size + 1, 0, none⟩) (by show w.heap.size + 1 < _; omega)).trans ?_⟩, ?_, by have := hb.size; omega⟩
  · rw [World.cell?_alloc_past _ _ _ (by simp), World.cell?_alloc_at _ _ _ _ rfl]; rfl
  · rw [World.frozen?_alloc_past _ _ _ (by simp)]; exact World.frozen?_alloc_at _ _ _ _ rfl
  · rw [World.cell?_alloc_at _ _ _ _ (by simp)]; rfl
  · exact World.frozen?_alloc_at _ _ _ _ (by simp)
  · exact (((Below.refl _ _).alloc (Nat.le_refl _) _).alloc (by simp) _).trans (hb.mono (by omega))

end Go.Proofs.Ytcggcnegagogkaa
