/- Layer 11 (score): a standing behind a tick: plain mathematics, nothing of a program. -/
import Derived.Test.YtfmmcklggnflkaaParM
namespace Go.Proofs.Ytfmmcklggnflkaa
set_option linter.unusedVariables false
/-- A standing: three words, and an int. -/
structure Std where
  bal : Nat
  eff : Nat
  score : Nat
  streak : Int
namespace Std
def none : Std := ⟨0, 0, 0, 0⟩
structure Fits (s : Std) : Prop where
  bal : s.bal < 18446744073709551616
  eff : s.eff < 18446744073709551616
  score : s.score < 18446744073709551616
  lo : -9223372036854775808 ≤ s.streak
  hi : s.streak ≤ 9223372036854775807
/-- Does a mode leak? -/
def leaky (m : Int) : Bool := m == 3 || m == 4
/-- What a tick of a mode that leaks adds. -/
def gain (p : Par) (m : Int) : Nat := bif m == 4 then p.biasEm else p.bias
def there (p : Par) (s : Std) : Std := ⟨s.bal, s.eff, s.score - p.recover, min (max s.streak 0) (p.streak - 1) + 1⟩
def away (p : Par) (m : Int) (s : Std) : Std := ⟨s.bal, s.eff, bif leaky m then min (s.score + gain p m) p.scoreCap else s.score, 0⟩
/-- Behind a tick. -/
def after (p : Par) (x : Bool × Int) (s : Std) : Std := bif x.1 then there p s else away p x.2 s
/-- Within the parameters. -/
def trim (p : Par) (s : Std) : Std := ⟨s.bal, s.eff, min s.score p.scoreCap, min (max s.streak 0) p.streak⟩

theorem bal_after (p : Par) (x : Bool × Int) (s : Std) : (after p x s).bal = s.bal := by
  unfold after; cases x.1 <;> rfl
theorem eff_after (p : Par) (x : Bool × Int) (s : Std) : (after p x s).eff = s.eff := by
  unfold after; cases x.1 <;> rfl
theorem gain_le {p : Par} (h : Par.Spans p) (m : Int) : p.bias ≤ gain p m ∧ gain p m ≤ 4294967296 := by
  have := h.bias1
  have := h.biasEm0
  have := h.biasEm1
  unfold gain
  cases m == 4 <;> simp only [cond_true, cond_false] <;> omega
theorem fits_there {p : Par} {s : Std} (h : Par.Spans p) (f : s.Fits) : (there p s).Fits := by
  have := h.streak0
  have := h.streak1
  have := f.score
  refine ⟨f.bal, f.eff, ?_, ?_, ?_⟩ <;> simp only [there] <;> omega
theorem fits_away {p : Par} {s : Std} (m : Int) (h : Par.Spans p) (f : s.Fits) : (away p m s).Fits := by
  have := h.score1
  have := f.score
  refine ⟨f.bal, f.eff, ?_, ?_, ?_⟩
  · simp only [away]; cases leaky m <;> simp only [cond_true, cond_false] <;> omega
  · simp only [away]; omega
  · simp only [away]; omega
theorem fits_after {p : Par} {s : Std} (x : Bool × Int) (h : Par.Spans p) (f : s.Fits) : (after p x s).Fits := by
  unfold after
  cases x.1 with
  | true => exact fits_there h f
  | false => exact fits_away _ h f
theorem fits_trim {p : Par} {s : Std} (h : Par.Spans p) (f : s.Fits) : (trim p s).Fits := by
  have := h.streak0
  have := h.streak1
  have := f.score
  refine ⟨f.bal, f.eff, ?_, ?_, ?_⟩ <;> simp only [trim] <;> omega
/-- Is it within the parameters? -/
def within (p : Par) (s : Std) : Prop := s.score ≤ p.scoreCap ∧ 0 ≤ s.streak ∧ s.streak ≤ p.streak
theorem trim_within {p : Par} (h : Par.Spans p) (s : Std) : within p (trim p s) := by
  have := h.streak0
  refine ⟨?_, ?_, ?_⟩ <;> simp only [trim] <;> omega
theorem trim_of {p : Par} {s : Std} (h : within p s) : trim p s = s := by
  obtain ⟨h1, h2, h3⟩ := h
  obtain ⟨b, e, x, y⟩ := s
  simp only [trim, Std.mk.injEq, true_and] at *
  omega
theorem after_within {p : Par} {s : Std} (x : Bool × Int) (hp : Par.Spans p) (h : within p s) : within p (after p x s) := by
  have := hp.streak0
  obtain ⟨h1, h2, h3⟩ := h
  unfold after
  cases x.1 with
  | true => refine ⟨?_, ?_, ?_⟩ <;> simp only [cond_true, there] <;> omega
  | false =>
    refine ⟨?_, ?_, ?_⟩
    · simp only [cond_false, away]; cases leaky x.2 <;> simp only [cond_true, cond_false] <;> omega
    · simp only [cond_false, away]; omega
    · simp only [cond_false, away]; omega
/-- So long there, so long the streak. -/
theorem there_long {p : Par} {s : Std} {n : Int} (h : min n p.streak ≤ s.streak) : min (n + 1) p.streak ≤ (there p s).streak := by
  simp only [there]; omega
theorem there_within {p : Par} {s : Std} (hp : Par.Spans p) (h : within p s) : within p (there p s) := after_within (true, 1) hp h
/-- Away in a leak again and again. -/
theorem away_mounts {p : Par} {s : Std} {m : Int} {j : Nat} (hp : Par.Spans p) (hm : leaky m = true) (h : min p.scoreCap (p.bias * j) ≤ s.score) :
    min p.scoreCap (p.bias * (j + 1)) ≤ (away p m s).score ∧ min s.score p.scoreCap ≤ (away p m s).score ∧ (away p m s).score ≤ p.scoreCap := by
  have := (gain_le hp m).1
  have e : p.bias * (j + 1) = p.bias * j + p.bias := Nat.mul_succ _ _
  simp only [away, hm, cond_true]
  omega
end Std
end Go.Proofs.Ytfmmcklggnflkaa
