/- The reference of layer 2 (ratio): a product by a number, in its parts. By contracts. -/
import Derived.Test.YtilnlmfhnjplhaaNatJ
import Derived.Test.YtilnlmfhnjplhaaRatioB
namespace Go.Proofs.Ytilnlmfhnjplhaa
open Go.RowKit
set_option linter.unusedVariables false

/-- Two cells that a call lays first: what lies there, behind all that was laid since. -/
theorem boxed2 {w wr : World} {x y : Value} {t : TypeId} (hb : Below ((w.alloc (.cells #[x] t)).alloc (.cells #[y] t)).heap.size ((w.alloc (.cells #[x] t)).alloc (.cells #[y] t)) wr) :
    (wr.cell? ⟨w.heap.size, 0, none⟩ = some x ∧ wr.frozen? ⟨w.heap.size, 0, none⟩ = false) ∧ (wr.cell? ⟨w.heap.size + 1, 0, none⟩ = some y ∧ wr.frozen? ⟨w.heap.size + 1, 0, none⟩ = false) ∧
      Below w.heap.size w wr ∧ w.heap.size + 2 ≤ wr.heap.size := by
  have hs : ((w.alloc (.cells #[x] t)).alloc (.cells #[y] t)).heap.size = w.heap.size + 2 := by simp
  rw [hs] at hb
  refine ⟨⟨(hb.cell (p := ⟨w.heap.size, 0, none⟩) (by show w.heap.size < _; omega)).trans ?_, (hb.frozen (p := ⟨w.heap.size, 0, none⟩) (by show w.heap.size < _; omega)).trans ?_⟩,
    ⟨(hb.cell (p := ⟨w.heap.size + 1, 0, none⟩) (by show w.heap.size + 1 < _; omega)).trans ?_, (hb.frozen (p := ⟨w.heap.size + 1, 0, none⟩) (by show w.heap.size + 1 < _; omega)).trans ?_⟩, ?_, by have := hb.size; omega⟩
  · rw [World.cell?_alloc_past _ _ _ (by simp), World.cell?_alloc_at _ _ _ _ rfl]; rfl
  · rw [World.frozen?_alloc_past _ _ _ (by simp)]; exact World.frozen?_alloc_at _ _ _ _ rfl
  · rw [World.cell?_alloc_at _ _ _ _ (by simp)]; rfl
  · exact World.frozen?_alloc_at _ _ _ _ (by simp)
  · exact (((Below.refl _ _).alloc (Nat.le_refl _) _).alloc (by simp) _).trans (hb.mono (by omega))

set_option maxRecDepth 100000 in
theorem part_nat (a b c : Nat) (w : World) (ha : a < 18446744073709551616) (hb : b < 18446744073709551616) (hc : c < 18446744073709551616) (h0 : 0 < c) :
    Calls Try.prog 62 #[.int .u64 a, .int .u64 b, .int .u64 c] w fun e w' => ∃ u v, e = .returned (.tuple #[u, v]) ∧ NatV w' w'.heap.size u (a * b / c) ∧ NatV w' w'.heap.size v (a * b % c) ∧
      Fresh w.heap.size u ∧ Fresh w.heap.size v ∧ Below w.heap.size w w' := by
  have la := word_digs ha
  have lb := word_digs hb
  have lc := word_digs hc
  have lp := prod_digs ha hb
  have k1 := fun w => of_any a w (by omega)
  have k2 := fun w => of_any b w (by omega)
  have k3 := fun w => of_any c w (by omega)
  obtain ⟨p, hp⟩ : ∃ p, Hid (a * b = p) := ⟨_, rfl⟩
  have km : ∀ (v1 v2 : Value) (w : World), NatV w w.heap.size v1 a → NatV w w.heap.size v2 b → Calls Try.prog 38 #[v1, v2] w fun e w' => ∃ v, e = .returned v ∧ NatV w' w'.heap.size v p ∧ Fresh w.heap.size v ∧ Below w.heap.size w w' := by
    intro v1 v2 w h1 h2
    rw [← hp.out]
    exact mul_nat a b v1 v2 w.heap.size w h1 h2 (Nat.le_refl _) (by omega) (by omega)
  rw [hp.out] at lp ⊢
  go_enter Try.func62, Try.ntmps62
  go_wp2_with (first
    | (go_at_call 39; refine (k1 _).mono ?_; clear k1; rintro e w1 ⟨v1, rfl, hv1, hf1, hb1⟩)
    | (go_at_call 39; refine (k2 _).mono ?_; clear k2; rintro e w2 ⟨v2, rfl, hv2, hf2, hb2⟩)
    | (go_at_call 38; refine (km v1 v2 w2 ((hv1.below hb2).up hb2.size) hv2).mono ?_; rintro e w3 ⟨v3, rfl, hv3, hf3, hb3⟩)
    | (go_at_call 39; refine (k3 _).mono ?_; clear k3; rintro e w4 ⟨v4, rfl, hv4, hf4, hb4⟩)
    | (go_at_call 79; refine (div_nat p c v3 v4 w4.heap.size w4 ((hv3.below hb4).up hb4.size) hv4 (Nat.le_refl _) h0 (by omega) (by omega)).mono ?_; rintro e w5 ⟨u, v, rfl, hu, hv, hfu, hfv, hb5⟩; obtain ⟨Au, cu, rfl, _⟩ := id hu; obtain ⟨Av, cv, rfl, _⟩ := id hv; obtain ⟨⟨hc1, hz1⟩, ⟨hc2, hz2⟩, hall, hs5⟩ := boxed2 (Below.then (Below.then (Below.then (Below.then hb1 hb2) hb3) hb4) hb5); have hs4 := (boxed2 (Below.then (Below.then (Below.then hb1 hb2) hb3) hb4)).2.2.2))
  refine bodyPost_ret (v := .tuple #[.agg #[.slice Au (digs (p / c)).length cu], .agg #[.slice Av (digs (p % c)).length cv]]) (by simp [results, Try.results62, go_sem, hc1, hc2]) rfl ⟨_, _, rfl, ?_⟩
  refine ⟨((hu.setCell hfu ?_ _).setCell hfu ?_ _).up ?_, ((hv.setCell hfv ?_ _).setCell hfv ?_ _).up ?_, hfu.down (by omega), hfv.down (by omega), (hall.setCell ?_ _).setCell ?_ _⟩
  all_goals (try simp [World.setCell])
  all_goals omega
end Go.Proofs.Ytilnlmfhnjplhaa
