/- The reference's numbers (layer 1): a long division. By contracts. -/
import Derived.Test.YtfaocjgelhefjaaNatI
namespace Go.Proofs.Ytfaocjgelhefjaa
open Go.RowKit
set_option linter.unusedVariables false

theorem cmp_from (a b : Nat) (va vb : Value) (B : Nat) (w : World) (ha : NatV w B va a) (hb : NatV w B vb b) (hB : B ≤ w.heap.size) (h : b ≤ a) :
    Calls Try.prog 34 #[va, vb] w fun e w' => ∃ z : Int, 0 ≤ z ∧ e = .returned (.int .i64 z) ∧ Below w.heap.size w w' := by
  refine (cmp_any a b va vb B w ha hb hB).mono ?_
  rintro e w' ⟨rfl, hb⟩
  refine ⟨_, ?_, rfl, hb⟩
  unfold cmpZ
  rw [if_neg (by omega)]
  split <;> omega

/-- Both numbers boxed, two cells for the results: what lies there, behind all that was laid since. -/
theorem boxed4 {w wr : World} {x y z u : Value} {t : TypeId} (hb : Below (w.heap.size + 4) ((((w.alloc (.cells #[x] t)).alloc (.cells #[y] t)).alloc (.cells #[z] t)).alloc (.cells #[u] t)) wr) :
    wr.cell? ⟨w.heap.size, 0, none⟩ = some x ∧ wr.cell? ⟨w.heap.size + 1, 0, none⟩ = some y ∧ (wr.cell? ⟨w.heap.size + 1 + 1, 0, none⟩ = some z ∧ wr.frozen? ⟨w.heap.size + 1 + 1, 0, none⟩ = false) ∧
      (wr.cell? ⟨w.heap.size + 1 + 1 + 1, 0, none⟩ = some u ∧ wr.frozen? ⟨w.heap.size + 1 + 1 + 1, 0, none⟩ = false) ∧ Below w.heap.size w wr := by
  refine ⟨(hb.cell (p := ⟨w.heap.size, 0, none⟩) (by show w.heap.size < _; omega)).trans ?_, (hb.cell (p := ⟨w.heap.size + 1, 0, none⟩) (by show w.heap.size + 1 < _; omega)).trans ?_,
    ⟨(hb.cell (p := ⟨w.heap.size + 1 + 1, 0, none⟩) (by show w.heap.size + 1 + 1 < _; omega)).trans ?_, (hb.frozen (p := ⟨w.heap.size + 1 + 1, 0, none⟩) (by show w.heap.size + 1 + 1 < _; omega)).trans ?_⟩,
    ⟨(hb.cell (p := ⟨w.heap.size + 1 + 1 + 1, 0, none⟩) (by show w.heap.size + 1 + 1 + 1 < _; omega)).trans ?_, (hb.frozen (p := ⟨w.heap.size + 1 + 1 + 1, 0, none⟩) (by show w.heap.size + 1 + 1 + 1 < _; omega)).trans ?_⟩, ?_⟩
  · rw [World.cell?_alloc_past _ _ _ (by simp <;> omega), World.cell?_alloc_past _ _ _ (by simp <;> omega), World.cell?_alloc_past _ _ _ (by simp), World.cell?_alloc_at _ _ _ _ rfl]; rfl
  · rw [World.cell?_alloc_past _ _ _ (by simp <;> omega), World.cell?_alloc_past _ _ _ (by simp), World.cell?_alloc_at _ _ _ _ (by simp)]; rfl
  · rw [World.cell?_alloc_past _ _ _ (by simp), World.cell?_alloc_at _ _ _ _ (by simp)]; rfl
  · rw [World.frozen?_alloc_past _ _ _ (by simp)]; exact World.frozen?_alloc_at _ _ _ _ (by simp)
  · rw [World.cell?_alloc_at _ _ _ _ (by simp)]; rfl
  · exact World.frozen?_alloc_at _ _ _ _ (by simp)
  · exact (((((Below.refl _ _).alloc (Nat.le_refl _) _).alloc (by simp) _).alloc (by simp <;> omega) _).alloc (by simp <;> omega) _).trans (hb.mono (by omega))

theorem divW_start (W : World) (n : Nat) (t u : TypeId) :
    DivW W.heap.size ((W.alloc (.cells (madeCells #[.int .i64 0] n) t)).alloc (.cells #[.slice none 0 0] u)) (List.replicate n 0) 0 none 0 := by
  have hz : (digs 0).length = 0 := by rw [digs_zero]; rfl
  refine ⟨fun k hk => ?_, fun k => ?_, by simp, ?_, ?_, ?_, fresh_of (fun a e => by cases e) (fun _ => rfl)⟩
  · rw [List.length_replicate] at hk
    rw [World.cell?_alloc_past _ _ _ (by simp), World.cell?_alloc_at _ _ _ _ rfl, ← Array.getElem?_toList, ints_zeros]
    simp [ints, hk]
  · rw [World.frozen?_alloc_past _ _ _ (by simp)]
    exact World.frozen?_alloc_at _ _ _ _ rfl
  · rw [World.cell?_alloc_at _ _ _ _ (by simp), hz]; rfl
  · exact World.frozen?_alloc_at _ _ _ _ (by simp)
  · rw [hz]; exact NatV.zero _ _

theorem DivW.nowhere {p R c : Nat} {wr : World} {qs : List Nat} (h : DivW p wr qs R none c) : digs R = [] ∧ c = 0 := by
  refine ⟨?_, h.fresh.2 _ _ rfl⟩
  obtain ⟨A, c1, e, _, _, hr⟩ := h.nat
  injection e with e
  have e1 := congrArg (fun x : Array Value => x[0]?) e
  simp at e1
  obtain ⟨rfl, rfl⟩ := e1
  rcases List.eq_nil_or_concat (digs R) with h0 | ⟨l, x, h0⟩
  · exact h0
  · obtain ⟨a, ha, _⟩ := hr.get (k := 0) (by rw [ints_len, h0]; simp)
    cases ha
theorem DivW.source {p R c : Nat} {wr : World} {qs : List Nat} {ar : Addr} (h : DivW p wr qs R (some ar) c) : ∀ j u, (ints (digs R))[j]? = some u → wr.cell? (ar.add j) = some u := by
  obtain ⟨A, c1, e, _, _, hr⟩ := h.nat
  injection e with e
  have e1 := congrArg (fun x : Array Value => x[0]?) e
  simp at e1
  obtain ⟨rfl, rfl⟩ := e1
  intro j u hu
  obtain ⟨a, ha, _, hc⟩ := hr j u hu
  injection ha with ha
  rw [ha]
  exact hc

end Go.Proofs.Ytfaocjgelhefjaa
