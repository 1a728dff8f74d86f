/- Layer 8 (deed), the document's: a deed is right just if the document's tests say so. By contracts. -/
import Derived.Test.YtcaejanfhchacaaDeedX
namespace Go.Proofs.Ytcaejanfhchacaa
open Go.RowKit
set_option linter.unusedVariables false
set_option linter.unusedSimpArgs false

theorem inN_is (n lo hi : Int) : inN n lo hi = true ↔ lo ≤ n ∧ n ≤ hi := by simp [inN]
theorem used_or (u : Bool) (n lo hi : Int) (h : lo ≤ n ∧ n ≤ hi) (hz : (!u && (n != 0)) = false) : inI u n lo hi = true := by
  cases u with
  | true => exact (inI_yes _ _ _).2 h
  | false => exact (inI_not _ _ _).2 (by simpa using hz)
theorem mask_some (d : Dd) (h : 1 ≤ d.kind ∧ d.kind ≤ 7) : (d.mask != 0) = true := by
  unfold Dd.mask
  by_cases h1 : d.kind = 1
  · rw [if_pos h1]; decide
  rw [if_neg h1]
  by_cases h2 : d.kind = 2
  · rw [if_pos h2]; decide
  rw [if_neg h2]
  by_cases h3 : d.kind = 3
  · rw [if_pos h3]; decide
  rw [if_neg h3]
  by_cases h4 : d.kind = 4
  · rw [if_pos h4]; decide
  rw [if_neg h4]
  by_cases h5 : d.kind = 5
  · rw [if_pos h5]; decide
  rw [if_neg h5]
  by_cases h6 : d.kind = 6
  · rw [if_pos h6]
    by_cases k1 : d.what = 1
    · rw [if_pos k1]; decide
    rw [if_neg k1]
    by_cases k2 : d.what = 2
    · rw [if_pos k2]; decide
    rw [if_neg k2]; decide
  rw [if_neg h6, if_pos (by omega)]
  decide

theorem right_iff (d : Dd) (hf : d.Fits) : d.Right ↔ (((((((((!inN d.kind 1 7) || (!inN d.account 0 63)) || (!inN d.member 0 127)) || (!inN d.dest 0 63)) || (!inN d.epoch 0 1073741824)) || (!inN d.motion 0 31)) || decide ((32 : Int) < (d.bits.length : Int))) || decide ((4611686018427387904 : Int) < (d.amount : Int))) = false ∧ (((((!hb d.mask 1) && (d.account != 0)) || ((!hb d.mask 2) && (d.member != 0))) || ((!hb d.mask 32) && (d.dest != 0))) || ((!hb d.mask 4) && ((d.epoch != 0) || ((d.bits.length : Int) != 0)))) = false ∧ ((hb d.mask 64 != decide ((0 : Int) < (d.amount : Int))) || ((!hb d.mask 128) && ((d.motion != 0) || d.yes))) = false ∧ ((hb d.mask 8 != (d.what != 0)) || (!inN d.what 0 4)) = false ∧ okP (hb d.mask 16) d.par) := by
  constructor
  · intro h
    cases h with
    | send a t m g0 g1 g2 g3 =>
      have hm : Dd.mask ⟨1, a, 0, t, m, 0, [], 0, Par.none, 0, false⟩ = 97 := rfl
      rw [hm]
      simp only [hb97_1, hb97_2, hb97_4, hb97_8, hb97_16, hb97_32, hb97_64, hb97_128]
      refine ⟨?_, ?_, ?_, ?_, by unfold okP; rw [if_neg (by decide)]⟩ <;> (simp [inN]; try omega)
    | stake a m g0 g1 g2 =>
      have hm : Dd.mask ⟨2, a, 0, 0, m, 0, [], 0, Par.none, 0, false⟩ = 65 := rfl
      rw [hm]
      simp only [hb65_1, hb65_2, hb65_4, hb65_8, hb65_16, hb65_32, hb65_64, hb65_128]
      refine ⟨?_, ?_, ?_, ?_, by unfold okP; rw [if_neg (by decide)]⟩ <;> (simp [inN]; try omega)
    | top a b m g0 g1 g2 g3 =>
      have hm : Dd.mask ⟨3, a, b, 0, m, 0, [], 0, Par.none, 0, false⟩ = 67 := rfl
      rw [hm]
      simp only [hb67_1, hb67_2, hb67_4, hb67_8, hb67_16, hb67_32, hb67_64, hb67_128]
      refine ⟨?_, ?_, ?_, ?_, by unfold okP; rw [if_neg (by decide)]⟩ <;> (simp [inN]; try omega)
    | leave a b g0 g1 =>
      have hm : Dd.mask ⟨4, a, b, 0, 0, 0, [], 0, Par.none, 0, false⟩ = 3 := rfl
      rw [hm]
      simp only [hb3_1, hb3_2, hb3_4, hb3_8, hb3_16, hb3_32, hb3_64, hb3_128]
      refine ⟨?_, ?_, ?_, ?_, by unfold okP; rw [if_neg (by decide)]⟩ <;> (simp [inN]; try omega)
    | mark e xs g0 g1 g2 =>
      have hm : Dd.mask ⟨5, 0, 0, 0, 0, e, xs, 0, Par.none, 0, false⟩ = 4 := rfl
      rw [hm]
      simp only [hb4_1, hb4_2, hb4_4, hb4_8, hb4_16, hb4_32, hb4_64, hb4_128]
      refine ⟨?_, ?_, ?_, ?_, by unfold okP; rw [if_neg (by decide)]⟩ <;> (simp [inN]; try omega)
    | params a p T g0 g1 g2 =>
      have hm : Dd.mask ⟨6, a, 0, 0, 0, 0, [], 1, p, 0, false⟩ = 25 := rfl
      rw [hm]
      simp only [hb25_1, hb25_2, hb25_4, hb25_8, hb25_16, hb25_32, hb25_64, hb25_128]
      refine ⟨?_, ?_, ?_, ?_, by unfold okP; rw [if_pos rfl]; exact ⟨T, g1⟩⟩ <;> (simp [inN]; try omega)
    | spend a t m g0 g1 g2 g3 =>
      have hm : Dd.mask ⟨6, a, 0, t, m, 0, [], 2, Par.none, 0, false⟩ = 105 := rfl
      rw [hm]
      simp only [hb105_1, hb105_2, hb105_4, hb105_8, hb105_16, hb105_32, hb105_64, hb105_128]
      refine ⟨?_, ?_, ?_, ?_, by unfold okP; rw [if_neg (by decide)]⟩ <;> (simp [inN]; try omega)
    | other a k g0 g1 g2 =>
      have hm : Dd.mask ⟨6, a, 0, 0, 0, 0, [], k, Par.none, 0, false⟩ = 9 := by
        show (if (k : Int) = 1 then (25 : Int) else if (k : Int) = 2 then 105 else 9) = 9
        rw [if_neg (by omega), if_neg (by omega)]
      rw [hm]
      simp only [hb9_1, hb9_2, hb9_4, hb9_8, hb9_16, hb9_32, hb9_64, hb9_128]
      refine ⟨?_, ?_, ?_, ?_, by unfold okP; rw [if_neg (by decide)]⟩ <;> (simp [inN]; try omega)
    | vote a b n y g0 g1 g2 =>
      have hm : Dd.mask ⟨7, a, b, 0, 0, 0, [], 0, Par.none, n, y⟩ = 131 := rfl
      rw [hm]
      simp only [hb131_1, hb131_2, hb131_4, hb131_8, hb131_16, hb131_32, hb131_64, hb131_128]
      refine ⟨?_, ?_, ?_, ?_, by unfold okP; rw [if_neg (by decide)]⟩ <;> (simp [inN]; try omega)
  · rintro ⟨c1, c3, c5, c7, c9⟩
    simp only [Bool.or_eq_false_iff, Bool.not_eq_false', inN_is, decide_eq_false_iff_not] at c1
    obtain ⟨⟨⟨⟨⟨⟨⟨a0, a1⟩, a2⟩, a3⟩, a4⟩, a5⟩, a6⟩, a7⟩ := c1
    obtain ⟨c31, c34⟩ := Bool.or_eq_false_iff.1 c3
    obtain ⟨c31, c33⟩ := Bool.or_eq_false_iff.1 c31
    obtain ⟨c31, c32⟩ := Bool.or_eq_false_iff.1 c31
    obtain ⟨c51, c52⟩ := Bool.or_eq_false_iff.1 c5
    obtain ⟨c71, c72⟩ := Bool.or_eq_false_iff.1 c7
    simp only [Bool.not_eq_false', inN_is] at c72
    refine right_of hf rfl ⟨mask_some d a0, used_or _ _ _ _ a1 c31, used_or _ _ _ _ a2 c32, ?_, ?_, ?_, c9, used_or _ _ _ _ a3 c33, ?_, ?_, ?_⟩
    · refine used_or _ _ _ _ a4 ?_
      revert c34
      cases hb d.mask 4 <;> cases (d.epoch != 0) <;> simp
    · cases hu : hb d.mask 4 with
      | true => exact (inI_yes _ _ _).2 (by omega)
      | false =>
        rw [hu] at c34
        exact (inI_not _ _ _).2 (by simp at c34; simp [c34.2])
    · cases hu : hb d.mask 8 with
      | true =>
        rw [hu] at c71
        exact (inI_yes _ _ _).2 (by simp at c71; omega)
      | false =>
        rw [hu] at c71
        exact (inI_not _ _ _).2 (by simp at c71; omega)
    · cases hu : hb d.mask 64 with
      | true =>
        rw [hu] at c51
        exact (inI_yes _ _ _).2 (by simp at c51; omega)
      | false =>
        rw [hu] at c51
        exact (inI_not _ _ _).2 (by simp at c51; omega)
    · refine used_or _ _ _ _ a5 ?_
      revert c52
      cases hb d.mask 128 <;> cases (d.motion != 0) <;> simp
    · cases hu : hb d.mask 128 with
      | true => exact .inl rfl
      | false =>
        rw [hu] at c52
        exact .inr (by simp at c52; exact c52.2)

theorem rright_is (d : Dd) (A : Option Addr) (c : Nat) (w : World) (r : Bool) (hf : d.Fits) (hr : r = true ↔ d.Right) :
    Calls Try.prog 50 #[.agg (d.vals A c)] w fun e w' => e = .returned (.bool r) ∧ Below w.heap.size w w' :=
  rright_sym d A c w r _ rfl _ rfl _ rfl _ rfl _ rfl _ rfl _ rfl _ rfl _ rfl _ rfl _ rfl _ rfl _ rfl _ rfl _ rfl _ rfl _ rfl _ rfl _ rfl _ rfl _ rfl _ rfl _ rfl _ rfl _ rfl _ rfl (hr.trans (right_iff d hf))
end Go.Proofs.Ytcaejanfhchacaa
