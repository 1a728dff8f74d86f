/- The reference of layer 3 (root). By contracts. -/
import Derived.Test.YtkimgkpjbfijmaaRefNumB
import Derived.Test.YtkimgkpjbfijmaaMathR
namespace Go.Proofs.Ytkimgkpjbfijmaa
open Go.RowKit
set_option linter.unusedVariables false

theorem sq_digs {m : Nat} (hm : m ≤ 4294967296) : (digs m).length ≤ 20 ∧ (digs (m * m)).length ≤ 20 := by
  refine ⟨digs_len (by omega), digs_len ?_⟩
  have := Nat.mul_le_mul hm hm
  omega

theorem ref_square (m M : Nat) (w : World) (hm : m ≤ 4294967296) (hM : Hid (m * m = M)) :
    Calls Try.prog 43 #[.int .u64 m] w fun e w' => ∃ v, e = .returned v ∧ NatV w' w'.heap.size v M ∧ Fresh w.heap.size v ∧ Below w.heap.size w w' := by
  have lm := (sq_digs hm).1
  have k1 := fun w => of_any m w (by omega)
  have km : ∀ (v1 v2 : Value) (w : World), NatV w w.heap.size v1 m → NatV w w.heap.size v2 m → Calls Try.prog 40 #[v1, v2] w fun e w' => ∃ v, e = .returned v ∧ NatV w' w'.heap.size v M ∧ Fresh w.heap.size v ∧ Below w.heap.size w w' := by
    intro v1 v2 w h1 h2
    rw [← hM.out]
    exact mul_nat m m v1 v2 w.heap.size w h1 h2 (Nat.le_refl _) (by omega) (by omega)
  go_enter Try.func43, Try.ntmps43
  go_wp2_with fail
  refine (k1 _).mono ?_; rintro e w1 ⟨v1, rfl, hv1, hf1, hb1⟩
  go_wp2_with fail
  refine (k1 _).mono ?_; rintro e w2 ⟨v2, rfl, hv2, hf2, hb2⟩
  go_wp2_with (go_at_call 40; refine (km v1 v2 w2 ((hv1.below hb2).up hb2.size) hv2).mono ?_; rintro e w3 ⟨v3, rfl, hv3, hf3, hb3⟩; obtain ⟨A2, c2, rfl, _⟩ := id hv3; obtain ⟨hc, hf⟩ := result_cell ((Below.then (Below.then hb1 hb2) hb3).mono (by simp)); have hsz := (Below.then (Below.then hb1 hb2) hb3).size; have hs2 := (Below.then hb1 hb2).size)
  refine bodyPost_ret (v := .agg #[.slice A2 (digs M).length c2]) (by simp [results, Try.results43, go_sem, hc]) rfl ⟨_, rfl, ?_⟩
  exact result_nat _ hv3 hf3 (Nat.le_refl _) (Nat.le_refl _) (by simp at hs2 ⊢; omega) (((Below.refl _ _).alloc (Nat.le_refl _) _).trans ((Below.then (Below.then hb1 hb2) hb3).mono (by simp))) _

theorem half_int (a b : Nat) (h : a ≤ b) : (a : Int) + ((b : Int) - a) / 2 = ((a + (b - a) / 2 : Nat) : Int) := by omega

set_option maxRecDepth 100000 in
theorem ref_root (n r : Nat) (w : World) (hn : n < 18446744073709551616) (h : Hid (IsRoot n r)) :
    Calls Try.prog 26 #[.int .u64 n] w fun e w' => e = .returned (.int .u64 r) ∧ Below w.heap.size w w' := by
  have hr := h.out.word hn
  go_enter Try.func26, Try.ntmps26
  go_wp2
  go_loopw [3, 4] (fun lv hv wr => ∃ a b : Nat, a ≤ r ∧ r < b ∧ b ≤ 4294967296 ∧ lv = .int .u64 (a : Int) ∧ hv = .int .u64 (b : Int) ∧ Below w.heap.size w wr) (fun lv hv _ => (intOf hv).toNat - (intOf lv).toNat)
  case atStart => exact ⟨0, 4294967296, by omega, by omega, by omega, rfl, rfl, Below.refl _ _⟩
  case round =>
    obtain ⟨a, b, ha, hb, hb2, rfl, rfl, hw⟩ := hrel
    by_cases hc : 1 < b - a
    · obtain ⟨m, hm⟩ : ∃ m : Nat, m = a + (b - a) / 2 := ⟨_, rfl⟩
      have e1 : (a : Int) + ((b : Int) - a) / 2 = (m : Int) := by omega
      have hm1 : a < m := by omega
      have hm2 : m < b := by omega
      obtain ⟨M, hM⟩ : ∃ M, Hid (m * m = M) := ⟨_, rfl⟩
      have k1 := fun w => ref_square m M w (by omega) hM
      have k2 := fun w => of_any n w (by omega)
      have c1 : 1 < (b : Int) - (a : Int) := by omega
      have c2 : (a : Int) ≤ (b : Int) := by omega
      have c3 : 0 ≤ ((b : Int) - (a : Int)) / 2 := by omega
      have c4 : (a : Int) + ((b : Int) - (a : Int)) / 2 ≤ 18446744073709551615 := by omega
      clear hm
      by_cases hle : M ≤ n
      · have hmr : m ≤ r := h.out.upto (by rw [hM.out]; exact hle)
        have kc : ∀ (v1 v2 : Value) (w : World), NatV w w.heap.size v1 M → NatV w w.heap.size v2 n → Calls Try.prog 27 #[v1, v2] w fun e w' => ∃ z : Int, z ≤ 0 ∧ e = .returned (.int .i64 z) ∧ Below w.heap.size w w' :=
          fun v1 v2 w h1 h2 => cmp_upto M n v1 v2 w.heap.size w h1 h2 (Nat.le_refl _) hle
        go_wp2_with (first
          | (go_at_call 43; refine (k1 _).mono ?_; rintro e w1 ⟨v1, rfl, hv1, hf1, hb1⟩)
          | (go_at_call 29; refine (k2 _).mono ?_; rintro e w2 ⟨v2, rfl, hv2, hf2, hb2⟩)
          | (go_at_call 27; refine (kc v1 v2 w2 ((hv1.below hb2).up hb2.size) hv2).mono ?_; rintro e w3 ⟨z, hz, rfl, hb3⟩))
        go_roundw
        case rel => exact ⟨m, b, hmr, hb, by omega, rfl, rfl, Below.then (Below.then (Below.then hw hb1) hb2) hb3⟩
        case measure => simp [intOf]; omega
      · have hmr : r < m := h.out.less (by rw [hM.out]; omega)
        have kc : ∀ (v1 v2 : Value) (w : World), NatV w w.heap.size v1 M → NatV w w.heap.size v2 n → Calls Try.prog 27 #[v1, v2] w fun e w' => e = .returned (.int .i64 1) ∧ Below w.heap.size w w' :=
          fun v1 v2 w h1 h2 => cmp_more M n v1 v2 w.heap.size w h1 h2 (Nat.le_refl _) (by omega)
        go_wp2_with (first
          | (go_at_call 43; refine (k1 _).mono ?_; rintro e w1 ⟨v1, rfl, hv1, hf1, hb1⟩)
          | (go_at_call 29; refine (k2 _).mono ?_; rintro e w2 ⟨v2, rfl, hv2, hf2, hb2⟩)
          | (go_at_call 27; refine (kc v1 v2 w2 ((hv1.below hb2).up hb2.size) hv2).mono ?_; rintro e w3 ⟨rfl, hb3⟩))
        go_roundw
        case rel => exact ⟨a, m, ha, hmr, by omega, rfl, rfl, Below.then (Below.then (Below.then hw hb1) hb2) hb3⟩
        case measure => simp [intOf]; omega
    · obtain rfl : a = r := by omega
      obtain rfl : b = a + 1 := by omega
      go_wp2
      go_ret
      exact ⟨rfl, hw⟩
end Go.Proofs.Ytkimgkpjbfijmaa
