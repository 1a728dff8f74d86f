/- Layer 14 (prize): weights and prizes: plain mathematics, nothing of a program. -/
import Derived.Test.YtijenmkhbkbnfaaScoM
namespace Go.Proofs.Ytijenmkhbkbnfaa
set_option linter.unusedVariables false
namespace Std
/-- The streak that counts. -/
def counts (p : Par) (s : Std) : Int := min (max s.streak 0) p.streak
/-- What each coin weighs. -/
def times (p : Par) (s : Std) : Int := 1000 + p.boost * counts p s
def weight (p : Par) (s : Std) : Nat := if p.maxEff < s.eff then 0 else s.eff * (times p s).toNat
/-- With a prize of n; n - (p.cap - s.bal) of it is too much. -/
def paid (p : Par) (s : Std) (n : Nat) : Std := ⟨s.bal + min n (p.cap - s.bal), s.eff, s.score, s.streak⟩
theorem counts_in {p : Par} (h : Par.Spans p) (s : Std) : 0 ≤ counts p s ∧ counts p s ≤ 64 := by
  have := h.streak0
  have := h.streak1
  unfold counts
  omega
theorem boosted_in {p : Par} (h : Par.Spans p) (s : Std) : 0 ≤ p.boost * counts p s ∧ p.boost * counts p s ≤ 64000 := by
  have c := counts_in h s
  have h0 := h.boost0
  have h1 := h.boost1
  refine ⟨Int.mul_nonneg h0 c.1, ?_⟩
  have a := Int.mul_le_mul h1 c.2 c.1 (by omega : (0 : Int) ≤ 1000)
  omega
theorem times_in {p : Par} (h : Par.Spans p) (s : Std) : 1000 ≤ times p s ∧ times p s ≤ 65000 := by
  have := boosted_in h s
  unfold times
  omega
theorem weight_le {p : Par} (h : Par.Spans p) (s : Std) : weight p s ≤ 71468255805440000 := by
  have t := times_in h s
  have e := h.eff1
  unfold weight
  split
  · omega
  · have a := Nat.mul_le_mul (show s.eff ≤ 1099511627776 by omega) (show (times p s).toNat ≤ 65000 by omega)
    omega
theorem weight_none (p : Par) {s : Std} (h : s.eff = 0) : weight p s = 0 := by
  unfold weight
  split
  · rfl
  · rw [h, Nat.zero_mul]
theorem weight_rises {p : Par} (h : Par.Spans p) {a b : Std} (he : b.eff = a.eff) (hs : a.streak ≤ b.streak) : weight p a ≤ weight p b := by
  unfold weight
  rw [he]
  split
  · omega
  · refine Nat.mul_le_mul_left _ ?_
    have hc : counts p a ≤ counts p b := by unfold counts; omega
    have hm := Int.mul_le_mul_of_nonneg_left hc h.boost0
    have := times_in h a
    unfold times at *
    omega
/-- Step by step, as the document reckons it. -/
theorem weight_steps {p : Par} (h : Par.Spans p) {s : Std} (he : ¬ p.maxEff < s.eff) : weight p s = 1000 * s.eff + (counts p s).toNat * (p.boost.toNat * s.eff) := by
  have c := counts_in h s
  have b0 := h.boost0
  unfold weight
  rw [if_neg he]
  obtain ⟨k, hk⟩ := Int.eq_ofNat_of_zero_le c.1
  obtain ⟨b, hb⟩ := Int.eq_ofNat_of_zero_le b0
  unfold times
  rw [hk, hb]
  have e : (1000 + (b : Int) * (k : Int)).toNat = 1000 + b * k := by
    have h2 : ((b * k : Nat) : Int) = (b : Int) * (k : Int) := Int.natCast_mul b k
    generalize b * k = x at *
    omega
  simp only [Int.toNat_natCast]
  rw [e, Nat.mul_add, Nat.mul_comm s.eff 1000, Nat.mul_comm s.eff (b * k), Nat.mul_comm b k, Nat.mul_assoc]
theorem paid_fits {p : Par} {s : Std} (hp : p.cap < 18446744073709551616) (f : s.Fits) (n : Nat) : (paid p s n).Fits := by
  have := f.bal
  exact ⟨by simp only [paid]; omega, f.eff, f.score, f.lo, f.hi⟩
end Std
end Go.Proofs.Ytijenmkhbkbnfaa
