/- Layer 8 (deed): whether a deed is right. By contracts. -/
import Derived.Test.YtcaejanfhchacaaDeedD
namespace Go.Proofs.Ytcaejanfhchacaa
open Go.RowKit
set_option linter.unusedVariables false
set_option linter.unusedSimpArgs false

theorem inI_yes (n lo hi : Int) : inI true n lo hi = true ↔ lo ≤ n ∧ n ≤ hi := by simp [inI]
theorem inI_not (n lo hi : Int) : inI false n lo hi = true ↔ n = 0 := by simp [inI]

/-- All that is asked of a deed. -/
structure Tests (d : Dd) (f : Int) : Prop where
  h0 : (f != 0) = true
  h1 : inI (hb f 1) d.account 0 63 = true
  h2 : inI (hb f 2) d.member 0 127 = true
  h3 : inI (hb f 4) d.epoch 0 1073741824 = true
  h4 : inI (hb f 4) (d.bits.length : Int) 0 32 = true
  h5 : inI (hb f 8) d.what 1 4 = true
  h6 : okP (hb f 16) d.par
  h7 : inI (hb f 32) d.dest 0 63 = true
  h8 : inI (hb f 64) (d.amount : Int) 1 4611686018427387904 = true
  h9 : inI (hb f 128) d.motion 0 31 = true
  h10 : hb f 128 = true ∨ d.yes = false

theorem hb97_1 : hb 97 1 = true := by decide +kernel
theorem hb97_2 : hb 97 2 = false := by decide +kernel
theorem hb97_4 : hb 97 4 = false := by decide +kernel
theorem hb97_8 : hb 97 8 = false := by decide +kernel
theorem hb97_16 : hb 97 16 = false := by decide +kernel
theorem hb97_32 : hb 97 32 = true := by decide +kernel
theorem hb97_64 : hb 97 64 = true := by decide +kernel
theorem hb97_128 : hb 97 128 = false := by decide +kernel
theorem hb65_1 : hb 65 1 = true := by decide +kernel
theorem hb65_2 : hb 65 2 = false := by decide +kernel
theorem hb65_4 : hb 65 4 = false := by decide +kernel
theorem hb65_8 : hb 65 8 = false := by decide +kernel
theorem hb65_16 : hb 65 16 = false := by decide +kernel
theorem hb65_32 : hb 65 32 = false := by decide +kernel
theorem hb65_64 : hb 65 64 = true := by decide +kernel
theorem hb65_128 : hb 65 128 = false := by decide +kernel
theorem hb67_1 : hb 67 1 = true := by decide +kernel
theorem hb67_2 : hb 67 2 = true := by decide +kernel
theorem hb67_4 : hb 67 4 = false := by decide +kernel
theorem hb67_8 : hb 67 8 = false := by decide +kernel
theorem hb67_16 : hb 67 16 = false := by decide +kernel
theorem hb67_32 : hb 67 32 = false := by decide +kernel
theorem hb67_64 : hb 67 64 = true := by decide +kernel
theorem hb67_128 : hb 67 128 = false := by decide +kernel
theorem hb3_1 : hb 3 1 = true := by decide +kernel
theorem hb3_2 : hb 3 2 = true := by decide +kernel
theorem hb3_4 : hb 3 4 = false := by decide +kernel
theorem hb3_8 : hb 3 8 = false := by decide +kernel
theorem hb3_16 : hb 3 16 = false := by decide +kernel
theorem hb3_32 : hb 3 32 = false := by decide +kernel
theorem hb3_64 : hb 3 64 = false := by decide +kernel
theorem hb3_128 : hb 3 128 = false := by decide +kernel
theorem hb4_1 : hb 4 1 = false := by decide +kernel
theorem hb4_2 : hb 4 2 = false := by decide +kernel
theorem hb4_4 : hb 4 4 = true := by decide +kernel
theorem hb4_8 : hb 4 8 = false := by decide +kernel
theorem hb4_16 : hb 4 16 = false := by decide +kernel
theorem hb4_32 : hb 4 32 = false := by decide +kernel
theorem hb4_64 : hb 4 64 = false := by decide +kernel
theorem hb4_128 : hb 4 128 = false := by decide +kernel
theorem hb25_1 : hb 25 1 = true := by decide +kernel
theorem hb25_2 : hb 25 2 = false := by decide +kernel
theorem hb25_4 : hb 25 4 = false := by decide +kernel
theorem hb25_8 : hb 25 8 = true := by decide +kernel
theorem hb25_16 : hb 25 16 = true := by decide +kernel
theorem hb25_32 : hb 25 32 = false := by decide +kernel
theorem hb25_64 : hb 25 64 = false := by decide +kernel
theorem hb25_128 : hb 25 128 = false := by decide +kernel
theorem hb105_1 : hb 105 1 = true := by decide +kernel
theorem hb105_2 : hb 105 2 = false := by decide +kernel
theorem hb105_4 : hb 105 4 = false := by decide +kernel
theorem hb105_8 : hb 105 8 = true := by decide +kernel
theorem hb105_16 : hb 105 16 = false := by decide +kernel
theorem hb105_32 : hb 105 32 = true := by decide +kernel
theorem hb105_64 : hb 105 64 = true := by decide +kernel
theorem hb105_128 : hb 105 128 = false := by decide +kernel
theorem hb9_1 : hb 9 1 = true := by decide +kernel
theorem hb9_2 : hb 9 2 = false := by decide +kernel
theorem hb9_4 : hb 9 4 = false := by decide +kernel
theorem hb9_8 : hb 9 8 = true := by decide +kernel
theorem hb9_16 : hb 9 16 = false := by decide +kernel
theorem hb9_32 : hb 9 32 = false := by decide +kernel
theorem hb9_64 : hb 9 64 = false := by decide +kernel
theorem hb9_128 : hb 9 128 = false := by decide +kernel
theorem hb131_1 : hb 131 1 = true := by decide +kernel
theorem hb131_2 : hb 131 2 = true := by decide +kernel
theorem hb131_4 : hb 131 4 = false := by decide +kernel
theorem hb131_8 : hb 131 8 = false := by decide +kernel
theorem hb131_16 : hb 131 16 = false := by decide +kernel
theorem hb131_32 : hb 131 32 = false := by decide +kernel
theorem hb131_64 : hb 131 64 = false := by decide +kernel
theorem hb131_128 : hb 131 128 = true := by decide +kernel
theorem mask_of {d : Dd} (h : d.Right) : ∃ f, d.mask = f ∧ Tests d f := by
  cases h with
  | send a t m g0 g1 g2 g3 =>
    exact ⟨97, rfl, ⟨(by decide), (by rw [hb97_1]; exact (inI_yes _ _ _).2 (by constructor <;> simp only <;> omega)), (by rw [hb97_2]; exact (inI_not _ _ _).2 rfl), (by rw [hb97_4]; exact (inI_not _ _ _).2 rfl), (by rw [hb97_4]; exact (inI_not _ _ _).2 rfl), (by rw [hb97_8]; exact (inI_not _ _ _).2 rfl), (by rw [hb97_16]; rfl), (by rw [hb97_32]; exact (inI_yes _ _ _).2 (by constructor <;> simp only <;> omega)), (by rw [hb97_64]; exact (inI_yes _ _ _).2 (by constructor <;> simp only <;> omega)), (by rw [hb97_128]; exact (inI_not _ _ _).2 rfl), Or.inr rfl⟩⟩
  | stake a m g0 g1 g2 =>
    exact ⟨65, rfl, ⟨(by decide), (by rw [hb65_1]; exact (inI_yes _ _ _).2 (by constructor <;> simp only <;> omega)), (by rw [hb65_2]; exact (inI_not _ _ _).2 rfl), (by rw [hb65_4]; exact (inI_not _ _ _).2 rfl), (by rw [hb65_4]; exact (inI_not _ _ _).2 rfl), (by rw [hb65_8]; exact (inI_not _ _ _).2 rfl), (by rw [hb65_16]; rfl), (by rw [hb65_32]; exact (inI_not _ _ _).2 rfl), (by rw [hb65_64]; exact (inI_yes _ _ _).2 (by constructor <;> simp only <;> omega)), (by rw [hb65_128]; exact (inI_not _ _ _).2 rfl), Or.inr rfl⟩⟩
  | top a b m g0 g1 g2 g3 =>
    exact ⟨67, rfl, ⟨(by decide), (by rw [hb67_1]; exact (inI_yes _ _ _).2 (by constructor <;> simp only <;> omega)), (by rw [hb67_2]; exact (inI_yes _ _ _).2 (by constructor <;> simp only <;> omega)), (by rw [hb67_4]; exact (inI_not _ _ _).2 rfl), (by rw [hb67_4]; exact (inI_not _ _ _).2 rfl), (by rw [hb67_8]; exact (inI_not _ _ _).2 rfl), (by rw [hb67_16]; rfl), (by rw [hb67_32]; exact (inI_not _ _ _).2 rfl), (by rw [hb67_64]; exact (inI_yes _ _ _).2 (by constructor <;> simp only <;> omega)), (by rw [hb67_128]; exact (inI_not _ _ _).2 rfl), Or.inr rfl⟩⟩
  | leave a b g0 g1 =>
    exact ⟨3, rfl, ⟨(by decide), (by rw [hb3_1]; exact (inI_yes _ _ _).2 (by constructor <;> simp only <;> omega)), (by rw [hb3_2]; exact (inI_yes _ _ _).2 (by constructor <;> simp only <;> omega)), (by rw [hb3_4]; exact (inI_not _ _ _).2 rfl), (by rw [hb3_4]; exact (inI_not _ _ _).2 rfl), (by rw [hb3_8]; exact (inI_not _ _ _).2 rfl), (by rw [hb3_16]; rfl), (by rw [hb3_32]; exact (inI_not _ _ _).2 rfl), (by rw [hb3_64]; exact (inI_not _ _ _).2 rfl), (by rw [hb3_128]; exact (inI_not _ _ _).2 rfl), Or.inr rfl⟩⟩
  | mark e xs g0 g1 g2 =>
    exact ⟨4, rfl, ⟨(by decide), (by rw [hb4_1]; exact (inI_not _ _ _).2 rfl), (by rw [hb4_2]; exact (inI_not _ _ _).2 rfl), (by rw [hb4_4]; exact (inI_yes _ _ _).2 (by constructor <;> simp only <;> omega)), (by rw [hb4_4]; exact (inI_yes _ _ _).2 (by constructor <;> simp only <;> omega)), (by rw [hb4_8]; exact (inI_not _ _ _).2 rfl), (by rw [hb4_16]; rfl), (by rw [hb4_32]; exact (inI_not _ _ _).2 rfl), (by rw [hb4_64]; exact (inI_not _ _ _).2 rfl), (by rw [hb4_128]; exact (inI_not _ _ _).2 rfl), Or.inr rfl⟩⟩
  | params a p T g0 g1 g2 =>
    exact ⟨25, rfl, ⟨(by decide), (by rw [hb25_1]; exact (inI_yes _ _ _).2 (by constructor <;> simp only <;> omega)), (by rw [hb25_2]; exact (inI_not _ _ _).2 rfl), (by rw [hb25_4]; exact (inI_not _ _ _).2 rfl), (by rw [hb25_4]; exact (inI_not _ _ _).2 rfl), (by rw [hb25_8]; exact (inI_yes _ _ _).2 (by constructor <;> simp only <;> omega)), (by rw [hb25_16]; exact ⟨T, g1⟩), (by rw [hb25_32]; exact (inI_not _ _ _).2 rfl), (by rw [hb25_64]; exact (inI_not _ _ _).2 rfl), (by rw [hb25_128]; exact (inI_not _ _ _).2 rfl), Or.inr rfl⟩⟩
  | spend a t m g0 g1 g2 g3 =>
    exact ⟨105, rfl, ⟨(by decide), (by rw [hb105_1]; exact (inI_yes _ _ _).2 (by constructor <;> simp only <;> omega)), (by rw [hb105_2]; exact (inI_not _ _ _).2 rfl), (by rw [hb105_4]; exact (inI_not _ _ _).2 rfl), (by rw [hb105_4]; exact (inI_not _ _ _).2 rfl), (by rw [hb105_8]; exact (inI_yes _ _ _).2 (by constructor <;> simp only <;> omega)), (by rw [hb105_16]; rfl), (by rw [hb105_32]; exact (inI_yes _ _ _).2 (by constructor <;> simp only <;> omega)), (by rw [hb105_64]; exact (inI_yes _ _ _).2 (by constructor <;> simp only <;> omega)), (by rw [hb105_128]; exact (inI_not _ _ _).2 rfl), Or.inr rfl⟩⟩
  | other a k g0 g1 g2 =>
    exact ⟨9, (by show (if (k : Int) = 1 then (25 : Int) else if (k : Int) = 2 then 105 else 9) = 9; rw [if_neg (by omega), if_neg (by omega)]), ⟨(by decide), (by rw [hb9_1]; exact (inI_yes _ _ _).2 (by constructor <;> simp only <;> omega)), (by rw [hb9_2]; exact (inI_not _ _ _).2 rfl), (by rw [hb9_4]; exact (inI_not _ _ _).2 rfl), (by rw [hb9_4]; exact (inI_not _ _ _).2 rfl), (by rw [hb9_8]; exact (inI_yes _ _ _).2 (by constructor <;> simp only <;> omega)), (by rw [hb9_16]; rfl), (by rw [hb9_32]; exact (inI_not _ _ _).2 rfl), (by rw [hb9_64]; exact (inI_not _ _ _).2 rfl), (by rw [hb9_128]; exact (inI_not _ _ _).2 rfl), Or.inr rfl⟩⟩
  | vote a b n y g0 g1 g2 =>
    exact ⟨131, rfl, ⟨(by decide), (by rw [hb131_1]; exact (inI_yes _ _ _).2 (by constructor <;> simp only <;> omega)), (by rw [hb131_2]; exact (inI_yes _ _ _).2 (by constructor <;> simp only <;> omega)), (by rw [hb131_4]; exact (inI_not _ _ _).2 rfl), (by rw [hb131_4]; exact (inI_not _ _ _).2 rfl), (by rw [hb131_8]; exact (inI_not _ _ _).2 rfl), (by rw [hb131_16]; rfl), (by rw [hb131_32]; exact (inI_not _ _ _).2 rfl), (by rw [hb131_64]; exact (inI_not _ _ _).2 rfl), (by rw [hb131_128]; exact (inI_yes _ _ _).2 (by constructor <;> simp only <;> omega)), Or.inl hb131_128⟩⟩

theorem right_of {d : Dd} (hf : d.Fits) {f : Int} (hm : d.mask = f) (h : Tests d f) : d.Right := by
  obtain ⟨kd, a, b, t, m, e, xs, k, p, n, y⟩ := d
  obtain ⟨h0, h1, h2, h3, h4, h5, h6, h7, h8, h9, h10⟩ := h
  have hbits := hf.bits
  have hpar := hf.par
  simp only at h1 h2 h3 h4 h5 h6 h7 h8 h9 h10 hbits hpar
  unfold Dd.mask at hm
  simp only at hm
  by_cases q1 : kd = 1
  · rw [if_pos q1] at hm
    subst hm; subst q1
    rw [hb97_1, inI_yes] at h1
    rw [hb97_2, inI_not] at h2
    rw [hb97_4, inI_not] at h3
    rw [hb97_4, inI_not] at h4
    rw [hb97_8, inI_not] at h5
    rw [hb97_32, inI_yes] at h7
    rw [hb97_64, inI_yes] at h8
    rw [hb97_128, inI_not] at h9
    rw [hb97_16] at h6
    rw [hb97_128] at h10
    obtain ⟨a, rfl⟩ := Int.eq_ofNat_of_zero_le h1.1
    subst h2
    subst h3
    obtain ⟨t, rfl⟩ := Int.eq_ofNat_of_zero_le h7.1
    subst h9
    obtain rfl : xs = [] := List.eq_nil_of_length_eq_zero (by omega)
    subst h5
    obtain rfl : p = Par.none := h6
    obtain rfl : y = false := h10.resolve_left (by simp)
    exact .send a t m (by omega) (by omega) (by omega) (by omega)
  · skip
    by_cases q2 : kd = 2
    · rw [if_neg q1, if_pos q2] at hm
      subst hm; subst q2
      rw [hb65_1, inI_yes] at h1
      rw [hb65_2, inI_not] at h2
      rw [hb65_4, inI_not] at h3
      rw [hb65_4, inI_not] at h4
      rw [hb65_8, inI_not] at h5
      rw [hb65_32, inI_not] at h7
      rw [hb65_64, inI_yes] at h8
      rw [hb65_128, inI_not] at h9
      rw [hb65_16] at h6
      rw [hb65_128] at h10
      obtain ⟨a, rfl⟩ := Int.eq_ofNat_of_zero_le h1.1
      subst h2
      subst h3
      subst h7
      subst h9
      obtain rfl : xs = [] := List.eq_nil_of_length_eq_zero (by omega)
      subst h5
      obtain rfl : p = Par.none := h6
      obtain rfl : y = false := h10.resolve_left (by simp)
      exact .stake a m (by omega) (by omega) (by omega)
    · skip
      by_cases q3 : kd = 3
      · rw [if_neg q1, if_neg q2, if_pos q3] at hm
        subst hm; subst q3
        rw [hb67_1, inI_yes] at h1
        rw [hb67_2, inI_yes] at h2
        rw [hb67_4, inI_not] at h3
        rw [hb67_4, inI_not] at h4
        rw [hb67_8, inI_not] at h5
        rw [hb67_32, inI_not] at h7
        rw [hb67_64, inI_yes] at h8
        rw [hb67_128, inI_not] at h9
        rw [hb67_16] at h6
        rw [hb67_128] at h10
        obtain ⟨a, rfl⟩ := Int.eq_ofNat_of_zero_le h1.1
        obtain ⟨b, rfl⟩ := Int.eq_ofNat_of_zero_le h2.1
        subst h3
        subst h7
        subst h9
        obtain rfl : xs = [] := List.eq_nil_of_length_eq_zero (by omega)
        subst h5
        obtain rfl : p = Par.none := h6
        obtain rfl : y = false := h10.resolve_left (by simp)
        exact .top a b m (by omega) (by omega) (by omega) (by omega)
      · skip
        by_cases q4 : kd = 4
        · rw [if_neg q1, if_neg q2, if_neg q3, if_pos q4] at hm
          subst hm; subst q4
          rw [hb3_1, inI_yes] at h1
          rw [hb3_2, inI_yes] at h2
          rw [hb3_4, inI_not] at h3
          rw [hb3_4, inI_not] at h4
          rw [hb3_8, inI_not] at h5
          rw [hb3_32, inI_not] at h7
          rw [hb3_64, inI_not] at h8
          rw [hb3_128, inI_not] at h9
          rw [hb3_16] at h6
          rw [hb3_128] at h10
          obtain ⟨a, rfl⟩ := Int.eq_ofNat_of_zero_le h1.1
          obtain ⟨b, rfl⟩ := Int.eq_ofNat_of_zero_le h2.1
          subst h3
          subst h7
          subst h9
          obtain rfl : xs = [] := List.eq_nil_of_length_eq_zero (by omega)
          subst h5
          obtain rfl : m = 0 := by omega
          obtain rfl : p = Par.none := h6
          obtain rfl : y = false := h10.resolve_left (by simp)
          exact .leave a b (by omega) (by omega)
        · skip
          by_cases q5 : kd = 5
          · rw [if_neg q1, if_neg q2, if_neg q3, if_neg q4, if_pos q5] at hm
            subst hm; subst q5
            rw [hb4_1, inI_not] at h1
            rw [hb4_2, inI_not] at h2
            rw [hb4_4, inI_yes] at h3
            rw [hb4_4, inI_yes] at h4
            rw [hb4_8, inI_not] at h5
            rw [hb4_32, inI_not] at h7
            rw [hb4_64, inI_not] at h8
            rw [hb4_128, inI_not] at h9
            rw [hb4_16] at h6
            rw [hb4_128] at h10
            subst h1
            subst h2
            obtain ⟨e, rfl⟩ := Int.eq_ofNat_of_zero_le h3.1
            subst h7
            subst h9
            subst h5
            obtain rfl : m = 0 := by omega
            obtain rfl : p = Par.none := h6
            obtain rfl : y = false := h10.resolve_left (by simp)
            exact .mark e xs (by omega) (by omega) hbits
          · skip
            by_cases q6 : kd = 6
            · rw [if_neg q1, if_neg q2, if_neg q3, if_neg q4, if_neg q5, if_pos q6] at hm
              by_cases k1 : k = 1
              · rw [if_pos k1] at hm
                subst hm; subst q6; subst k1
                rw [hb25_1, inI_yes] at h1
                rw [hb25_2, inI_not] at h2
                rw [hb25_4, inI_not] at h3
                rw [hb25_4, inI_not] at h4
                rw [hb25_8, inI_yes] at h5
                rw [hb25_32, inI_not] at h7
                rw [hb25_64, inI_not] at h8
                rw [hb25_128, inI_not] at h9
                rw [hb25_16] at h6
                rw [hb25_128] at h10
                obtain ⟨a, rfl⟩ := Int.eq_ofNat_of_zero_le h1.1
                subst h2
                subst h3
                subst h7
                subst h9
                obtain rfl : xs = [] := List.eq_nil_of_length_eq_zero (by omega)
                obtain rfl : m = 0 := by omega
                obtain ⟨T, h6⟩ := h6
                obtain rfl : y = false := h10.resolve_left (by simp)
                exact .params a p T (by omega) h6 hpar
              · by_cases k2 : k = 2
                · rw [if_neg k1, if_pos k2] at hm
                  subst hm; subst q6; subst k2
                  rw [hb105_1, inI_yes] at h1
                  rw [hb105_2, inI_not] at h2
                  rw [hb105_4, inI_not] at h3
                  rw [hb105_4, inI_not] at h4
                  rw [hb105_8, inI_yes] at h5
                  rw [hb105_32, inI_yes] at h7
                  rw [hb105_64, inI_yes] at h8
                  rw [hb105_128, inI_not] at h9
                  rw [hb105_16] at h6
                  rw [hb105_128] at h10
                  obtain ⟨a, rfl⟩ := Int.eq_ofNat_of_zero_le h1.1
                  subst h2
                  subst h3
                  obtain ⟨t, rfl⟩ := Int.eq_ofNat_of_zero_le h7.1
                  subst h9
                  obtain rfl : xs = [] := List.eq_nil_of_length_eq_zero (by omega)
                  obtain rfl : p = Par.none := h6
                  obtain rfl : y = false := h10.resolve_left (by simp)
                  exact .spend a t m (by omega) (by omega) (by omega) (by omega)
                · rw [if_neg k1, if_neg k2] at hm
                  subst hm; subst q6
                  rw [hb9_1, inI_yes] at h1
                  rw [hb9_2, inI_not] at h2
                  rw [hb9_4, inI_not] at h3
                  rw [hb9_4, inI_not] at h4
                  rw [hb9_8, inI_yes] at h5
                  rw [hb9_32, inI_not] at h7
                  rw [hb9_64, inI_not] at h8
                  rw [hb9_128, inI_not] at h9
                  rw [hb9_16] at h6
                  rw [hb9_128] at h10
                  obtain ⟨a, rfl⟩ := Int.eq_ofNat_of_zero_le h1.1
                  subst h2
                  subst h3
                  subst h7
                  subst h9
                  obtain rfl : xs = [] := List.eq_nil_of_length_eq_zero (by omega)
                  obtain rfl : m = 0 := by omega
                  obtain rfl : p = Par.none := h6
                  obtain rfl : y = false := h10.resolve_left (by simp)
                  obtain ⟨k, rfl⟩ := Int.eq_ofNat_of_zero_le (show 0 ≤ k by omega)
                  exact .other a k (by omega) (by omega) (by omega)
            · skip
              by_cases q7 : kd = 7
              · rw [if_neg q1, if_neg q2, if_neg q3, if_neg q4, if_neg q5, if_neg q6, if_pos q7] at hm
                subst hm; subst q7
                rw [hb131_1, inI_yes] at h1
                rw [hb131_2, inI_yes] at h2
                rw [hb131_4, inI_not] at h3
                rw [hb131_4, inI_not] at h4
                rw [hb131_8, inI_not] at h5
                rw [hb131_32, inI_not] at h7
                rw [hb131_64, inI_not] at h8
                rw [hb131_128, inI_yes] at h9
                rw [hb131_16] at h6
                rw [hb131_128] at h10
                obtain ⟨a, rfl⟩ := Int.eq_ofNat_of_zero_le h1.1
                obtain ⟨b, rfl⟩ := Int.eq_ofNat_of_zero_le h2.1
                subst h3
                subst h7
                obtain ⟨n, rfl⟩ := Int.eq_ofNat_of_zero_le h9.1
                obtain rfl : xs = [] := List.eq_nil_of_length_eq_zero (by omega)
                subst h5
                obtain rfl : m = 0 := by omega
                obtain rfl : p = Par.none := h6
                exact .vote a b n y (by omega) (by omega) (by omega)
              · skip
                rw [if_neg q1, if_neg q2, if_neg q3, if_neg q4, if_neg q5, if_neg q6, if_neg q7] at hm
                subst hm
                exact absurd h0 (by decide)

theorem dnone_fits : Par.none.Fits := ⟨by decide, by decide⟩
theorem right_ok (d : Dd) (A : Option Addr) (c : Nat) (w : World) (h : d.Right) :
    Calls Try.prog 45 #[.agg (d.vals A c)] w fun e w' => e = .returned (.bool true) ∧ Below w.heap.size w w' := by
  obtain ⟨f, hm, t⟩ := mask_of h
  have hp : d.par.Fits := by
    cases h with
    | params a p T g0 g1 g2 => exact g2
    | _ => exact dnone_fits
  have H6 := fun w => rp_is (hb f 16) true d.par w hp ⟨fun _ => t.h6, fun _ => rfl⟩
  cases hv : hb f 128 with
  | true => exact right_y1 d A c f w hm t.h0 t.h1 t.h2 t.h3 t.h4 t.h5 H6 t.h7 t.h8 t.h9 hv
  | false =>
    have hy := t.h10
    rw [hv] at hy
    exact right_y0 d A c f w hm t.h0 t.h1 t.h2 t.h3 t.h4 t.h5 H6 t.h7 t.h8 t.h9 hv (hy.resolve_left (by simp))

theorem right_no (d : Dd) (A : Option Addr) (c : Nat) (w : World) (hf : d.Fits) (h : ¬ d.Right) :
    Calls Try.prog 45 #[.agg (d.vals A c)] w fun e w' => e = .returned (.bool false) ∧ Below w.heap.size w w' := by
  obtain ⟨f, hm⟩ : ∃ f, d.mask = f := ⟨_, rfl⟩
  cases h0 : (f != 0) with
  | false => exact right_n0 d A c f w hm h0
  | true =>
  cases h1 : inI (hb f 1) d.account 0 63 with
  | false => exact right_n1 d A c f w hm h0 h1
  | true =>
  cases h2 : inI (hb f 2) d.member 0 127 with
  | false => exact right_n2 d A c f w hm h0 h1 h2
  | true =>
  cases h3 : inI (hb f 4) d.epoch 0 1073741824 with
  | false => exact right_n3 d A c f w hm h0 h1 h2 h3
  | true =>
  cases h4 : inI (hb f 4) (d.bits.length : Int) 0 32 with
  | false => exact right_n4 d A c f w hm h0 h1 h2 h3 h4
  | true =>
  cases h5 : inI (hb f 8) d.what 1 4 with
  | false => exact right_n5 d A c f w hm h0 h1 h2 h3 h4 h5
  | true =>
  by_cases h6 : okP (hb f 16) d.par
  · have H6 := fun w => rp_is (hb f 16) true d.par w hf.par ⟨fun _ => h6, fun _ => rfl⟩
    cases h7 : inI (hb f 32) d.dest 0 63 with
    | false => exact right_n7 d A c f w hm h0 h1 h2 h3 h4 h5 H6 h7
    | true =>
    cases h8 : inI (hb f 64) (d.amount : Int) 1 4611686018427387904 with
    | false => exact right_n8 d A c f w hm h0 h1 h2 h3 h4 h5 H6 h7 h8
    | true =>
    cases h9 : inI (hb f 128) d.motion 0 31 with
    | false => exact right_n9 d A c f w hm h0 h1 h2 h3 h4 h5 H6 h7 h8 h9
    | true =>
    cases hv : hb f 128 with
    | true => exact absurd (right_of hf hm ⟨h0, h1, h2, h3, h4, h5, h6, h7, h8, h9, .inl hv⟩) h
    | false =>
      cases hy : d.yes with
      | false => exact absurd (right_of hf hm ⟨h0, h1, h2, h3, h4, h5, h6, h7, h8, h9, .inr hy⟩) h
      | true => exact right_n10 d A c f w hm h0 h1 h2 h3 h4 h5 H6 h7 h8 h9 hv hy
  · have H6 := fun w => rp_is (hb f 16) false d.par w hf.par ⟨fun e => (by cases e), fun e => absurd e h6⟩
    exact right_n6 d A c f w hm h0 h1 h2 h3 h4 h5 H6
end Go.Proofs.Ytcaejanfhchacaa
