/- The reference of layer 2 (ratio): down, up, what is left; products held against each other. By contracts. -/
import Derived.Test.YtioghkkpdkkedaaDoorRefNumC
import Derived.Test.YtioghkkpdkkedaaDoorTell
namespace Go.Proofs.YtioghkkpdkkedaaDoor
open Go.RowKit
set_option linter.unusedVariables false

theorem of_one (w : World) :
    Calls Tryd.prog 20 #[.int .u64 1] w fun e w' => ∃ v, e = .returned v ∧ NatV w' w'.heap.size v 1 ∧ Fresh w.heap.size v ∧ Below w.heap.size w w' := of_any 1 w (by omega)

set_option maxRecDepth 100000 in
theorem ref_less (a b c d : Nat) (w : World) (ha : a < 18446744073709551616) (hb : b < 18446744073709551616) (hc : c < 18446744073709551616) (hd : d < 18446744073709551616) :
    Calls Tryd.prog 15 #[.int .u64 a, .int .u64 b, .int .u64 c, .int .u64 d] w fun e w' => e = .returned (.bool (decide (a * b < c * d))) ∧ Below w.heap.size w w' := by
  have la := word_digs ha
  have lb := word_digs hb
  have lc := word_digs hc
  have ld := word_digs hd
  have k1 := fun w => of_any a w (by omega)
  have k2 := fun w => of_any b w (by omega)
  have k3 := fun w => of_any c w (by omega)
  have k4 := fun w => of_any d w (by omega)
  obtain ⟨p, hp⟩ : ∃ p, Hid (a * b = p) := ⟨_, rfl⟩
  obtain ⟨q, hq⟩ : ∃ q, Hid (c * d = q) := ⟨_, rfl⟩
  have m1 : ∀ (v1 v2 : Value) (w : World), NatV w w.heap.size v1 a → NatV w w.heap.size v2 b → Calls Tryd.prog 19 #[v1, v2] w fun e w' => ∃ v, e = .returned v ∧ NatV w' w'.heap.size v p ∧ Fresh w.heap.size v ∧ Below w.heap.size w w' := by
    intro v1 v2 w h1 h2
    rw [← hp.out]
    exact mul_nat a b v1 v2 w.heap.size w h1 h2 (Nat.le_refl _) (by omega) (by omega)
  have m2 : ∀ (v1 v2 : Value) (w : World), NatV w w.heap.size v1 c → NatV w w.heap.size v2 d → Calls Tryd.prog 19 #[v1, v2] w fun e w' => ∃ v, e = .returned v ∧ NatV w' w'.heap.size v q ∧ Fresh w.heap.size v ∧ Below w.heap.size w w' := by
    intro v1 v2 w h1 h2
    rw [← hq.out]
    exact mul_nat c d v1 v2 w.heap.size w h1 h2 (Nat.le_refl _) (by omega) (by omega)
  have kc : ∀ (v1 v2 : Value) (w : World), NatV w w.heap.size v1 p → NatV w w.heap.size v2 q → Calls Tryd.prog 18 #[v1, v2] w fun e w' => ∃ z : Int, decide (z < 0) = decide (p < q) ∧ e = .returned (.int .i64 z) ∧ Below w.heap.size w w' := by
    intro v1 v2 w h1 h2
    rcases Nat.lt_or_ge p q with h | h
    · refine (cmp_less p q v1 v2 w.heap.size w h1 h2 (Nat.le_refl _) h).mono ?_
      rintro e w' ⟨rfl, hb⟩
      exact ⟨-1, by simp [h], rfl, hb⟩
    · refine (cmp_from p q v1 v2 w.heap.size w h1 h2 (Nat.le_refl _) h).mono ?_
      rintro e w' ⟨z, hz, rfl, hb⟩
      exact ⟨z, by rw [decide_eq_false (by omega), decide_eq_false (by omega)], rfl, hb⟩
  rw [hp.out, hq.out]
  go_enter Tryd.func15, Tryd.ntmps15
  go_wp2_with (first
    | (go_at_call 20; refine (k1 _).mono ?_; clear k1; rintro e w1 ⟨v1, rfl, hv1, hf1, hb1⟩)
    | (go_at_call 20; refine (k2 _).mono ?_; clear k2; rintro e w2 ⟨v2, rfl, hv2, hf2, hb2⟩)
    | (go_at_call 19; refine (m1 v1 v2 w2 ((hv1.below hb2).up hb2.size) hv2).mono ?_; clear m1; rintro e w3 ⟨v3, rfl, hv3, hf3, hb3⟩)
    | (go_at_call 20; refine (k3 _).mono ?_; clear k3; rintro e w4 ⟨v4, rfl, hv4, hf4, hb4⟩)
    | (go_at_call 20; refine (k4 _).mono ?_; clear k4; rintro e w5 ⟨v5, rfl, hv5, hf5, hb5⟩)
    | (go_at_call 19; refine (m2 v4 v5 w5 ((hv4.below hb5).up hb5.size) hv5).mono ?_; clear m2; rintro e w6 ⟨v6, rfl, hv6, hf6, hb6⟩)
    | (go_at_call 18; refine (kc v3 v6 w6 ((((((hv3.below hb4).up hb4.size).below hb5).up hb5.size).below hb6).up hb6.size) hv6).mono ?_; rintro e w7 ⟨z, hz, rfl, hb7⟩))
  go_ret
  exact ⟨by rw [← hz]; rfl, Below.then (Below.then (Below.then (Below.then (Below.then (Below.then hb1 hb2) hb3) hb4) hb5) hb6) hb7⟩

theorem ref_two (p a : Nat) (w : World) (hp : p < 18446744073709551616) (ha : a < 18446744073709551616) :
    Calls Tryd.prog 13 #[.int .u64 p, .int .u64 a] w fun e w' => e = .returned (.bool (decide (0 < a ∧ 2 * a < 3 * p))) ∧ Below w.heap.size w w' := by
  rcases Nat.eq_zero_or_pos a with rfl | h0
  · go_enter Tryd.func13, Tryd.ntmps13
    go_wp2_with fail
    go_ret
    exact ⟨by simp, Below.refl _ _⟩
  · have k := fun w => ref_less 2 a 3 p w (by omega) ha (by omega) hp
    rw [show decide (2 * a < 3 * p) = decide (0 < a ∧ 2 * a < 3 * p) by simp [h0]] at k
    obtain ⟨t, ht⟩ : ∃ t, Hid (decide (0 < a ∧ 2 * a < 3 * p) = t) := ⟨_, rfl⟩
    rw [ht.out] at k ⊢
    have h1 : 0 < (a : Int) := by omega
    go_enter Tryd.func13, Tryd.ntmps13
    go_wp2_with (go_at_call 15; refine (k _).mono ?_; rintro e w1 ⟨rfl, hb1⟩)
    go_ret
    exact ⟨rfl, hb1⟩
end Go.Proofs.YtioghkkpdkkedaaDoor
