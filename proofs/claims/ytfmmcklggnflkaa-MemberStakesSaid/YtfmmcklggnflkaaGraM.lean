/- Layer 10 (grain): an effective balance, and what follows: plain mathematics, nothing of a program. -/
import Derived.Test.YtfmmcklggnflkaaParM
namespace Go.Proofs.Ytfmmcklggnflkaa
set_option linter.unusedVariables false
namespace Par
/-- A balance in whole steps. -/
def whole (p : Par) (b : Nat) : Nat := min (b - b % p.inc) p.maxEff
/-- Is the balance too far from its effective balance? -/
def far (p : Par) (e b : Nat) : Bool := decide (p.down < e - b) || decide (p.up < b - e)
/-- The effective balance that follows. -/
def next (p : Par) (e b : Nat) : Nat := if p.far e b = true then p.whole b else e
/-- May this be an effective balance at all? -/
def isStep (p : Par) (e : Nat) : Bool := decide (p.inc ≤ e) && (decide (e ≤ p.maxEff) && decide (e % p.inc = 0))
def fit (p : Par) (e b : Nat) : Bool := p.isStep e && decide (p.next e b = e)

theorem far_no {p : Par} {e b : Nat} : p.far e b = false ↔ e - b ≤ p.down ∧ b - e ≤ p.up := by
  simp [far]
theorem far_yes {p : Par} {e b : Nat} : p.far e b = true ↔ p.down < e - b ∨ p.up < b - e := by
  simp [far]
theorem next_far {p : Par} {e b : Nat} (h : p.far e b = true) : p.next e b = p.whole b := by simp [next, h]
theorem next_near {p : Par} {e b : Nat} (h : p.far e b = false) : p.next e b = e := by simp [next, h]
theorem whole_le (p : Par) (b : Nat) : p.whole b ≤ b := Nat.le_trans (Nat.min_le_left _ _) (Nat.sub_le _ _)
theorem whole_most (p : Par) (b : Nat) : p.whole b ≤ p.maxEff := Nat.min_le_right _ _
theorem next_bound {p : Par} {e b M : Nat} (he : e ≤ M) (hb : b ≤ M) : p.next e b ≤ M := by
  cases h : p.far e b with
  | true => rw [next_far h]; exact Nat.le_trans (whole_le p b) hb
  | false => rw [next_near h]; exact he
theorem isStep_iff {p : Par} {e : Nat} : p.isStep e = true ↔ p.inc ≤ e ∧ e ≤ p.maxEff ∧ e % p.inc = 0 := by
  simp [isStep]
theorem fit_iff {p : Par} {e b : Nat} : p.fit e b = true ↔ p.isStep e = true ∧ p.next e b = e := by
  simp [fit]
theorem next_next (p : Par) (e b : Nat) : p.next (p.next e b) b = p.next e b := by
  cases h : p.far e b with
  | false => rw [next_near h, next_near h]
  | true =>
    rw [next_far h]
    cases h2 : p.far (p.whole b) b with
    | false => rw [next_near h2]
    | true => rw [next_far h2]
theorem steps_of (b i : Nat) : b - b % i = i * (b / i) := by
  have := Nat.div_add_mod b i
  omega
theorem step_below {i e b : Nat} (hi : 1 ≤ i) (he : e % i = 0) (hb : e ≤ b) : e ≤ b - b % i := by
  rw [steps_of, ← Nat.mul_div_cancel' (Nat.dvd_of_mod_eq_zero he)]
  exact Nat.mul_le_mul_left _ (Nat.div_le_div_right hb)
theorem whole_step {p : Par} {b : Nat} (s : Spans p) (hb : p.inc ≤ b) : p.isStep (p.whole b) = true := by
  have h1 := s.inc0
  refine isStep_iff.2 ⟨?_, whole_most p b, ?_⟩
  · unfold whole
    have := step_below h1 (Nat.mod_self p.inc) hb
    have := s.eff0
    omega
  · unfold whole
    rcases Nat.le_total (b - b % p.inc) p.maxEff with h | h
    · rw [Nat.min_eq_left h, steps_of]; exact Nat.mul_mod_right _ _
    · rw [Nat.min_eq_right h]; exact s.whole
theorem whole_fit {p : Par} {b : Nat} (s : Spans p) (hb : p.floor < b) : p.fit (p.whole b) b = true := by
  refine fit_iff.2 ⟨whole_step s (by have := s.floor0; omega), ?_⟩
  cases h2 : p.far (p.whole b) b with
  | false => rw [next_near h2]
  | true => rw [next_far h2]
theorem next_fit {p : Par} {e a b : Nat} (s : Spans p) (hb : p.floor < b) (h : p.fit e a = true) : p.fit (p.next e b) b = true := by
  cases h2 : p.far e b with
  | true => rw [next_far h2]; exact whole_fit s hb
  | false => rw [next_near h2]; exact fit_iff.2 ⟨(fit_iff.1 h).1, next_near h2⟩
/-- As a balance rises what fits never falls. -/
theorem rises {p : Par} {e a b : Nat} (s : Spans p) (h : p.fit e a = true) (hab : a ≤ b) : e ≤ p.next e b ∧ p.next e b ≤ p.maxEff ∧ (e ≤ a ∨ e - a ≤ p.down) := by
  obtain ⟨h1, h2⟩ := fit_iff.1 h
  obtain ⟨i0, i1, i2⟩ := isStep_iff.1 h1
  have hd : e ≤ a ∨ e - a ≤ p.down := by
    cases h3 : p.far e a with
    | true => rw [next_far h3] at h2; left; rw [← h2]; exact whole_le p a
    | false => right; exact (far_no.1 h3).1
  refine ⟨?_, ?_, hd⟩
  · cases h3 : p.far e b with
    | false => rw [next_near h3]; exact Nat.le_refl _
    | true =>
      rw [next_far h3]
      rcases far_yes.1 h3 with h4 | h4
      · omega
      · exact Nat.le_min.2 ⟨step_below s.inc0 i2 (by omega), i1⟩
  · cases h3 : p.far e b with
    | false => rw [next_near h3]; exact i1
    | true => rw [next_far h3]; exact whole_most p b
/-- The document's way to say the same. -/
theorem ref_whole (p : Par) (b : Nat) : p.whole b = if p.maxEff < b / p.inc * p.inc then p.maxEff else b / p.inc * p.inc := by
  unfold whole
  rw [steps_of, Nat.mul_comm]
  split <;> omega
theorem ref_far {p : Par} {e b : Nat} : p.far e b = ((decide (b < e) && decide (p.down < e - b)) || (decide (e < b) && decide (p.up < b - e))) := by
  by_cases h1 : b < e
  · have h2 : ¬ e < b := by omega
    have h3 : b - e = 0 := by omega
    simp [far, h1, h2, h3]
  · have h3 : e - b = 0 := by omega
    by_cases h2 : e < b
    · simp [far, h1, h2, h3]
    · have h4 : b - e = 0 := by omega
      simp [far, h1, h2, h3, h4]
end Par
end Go.Proofs.Ytfmmcklggnflkaa
