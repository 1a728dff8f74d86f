/- Layer 15 (fine): what is lost by being away: plain mathematics, nothing of a program. -/
import Derived.Test.YtklempnebhcoiaaScoM
import Derived.Test.YtklempnebhcoiaaParE
import Derived.Test.YtklempnebhcoiaaShareC
namespace Go.Proofs.Ytklempnebhcoiaa
set_option linter.unusedVariables false
/-- The whole number next above X / c. -/
def over (X c : Nat) : Nat := (X + (c - 1)) / c
theorem ceil_over (X c : Nat) (hc : 0 < c) : Ceil X c (over X c) := by
  have h := Nat.div_add_mod' (X + (c - 1)) c
  have hr := Nat.mod_lt (X + (c - 1)) hc
  refine ⟨?_, ?_⟩ <;> unfold over <;> omega
theorem over_rises {X Y c d : Nat} (h : X ≤ Y) (hc : 0 < c) (hd : 0 < d) (hdc : d ≤ c) : over X c ≤ over Y d := by
  have a := ceil_over X c hc
  have b := ceil_over Y d hd
  refine a.le ?_
  have := b.enough
  have := Nat.mul_le_mul_left (over Y d) hdc
  omega
namespace Std
/-- What is lost by the numbers of a mode, whatever the balance. -/
def lost (p : Par) (m : Int) (s : Std) : Nat := if m = 3 then over (s.eff * s.score) p.quot else if m = 4 then over (s.eff * s.score) p.quotEm else prt s.eff 10000 p.absent.toNat
def fine (p : Par) (m : Int) (s : Std) : Nat := min (lost p m s) s.bal
/-- Without so much. -/
def less (s : Std) (n : Nat) : Std := ⟨s.bal - n, s.eff, s.score, s.streak⟩
theorem fine_le (p : Par) (m : Int) (s : Std) : fine p m s ≤ s.bal := Nat.min_le_right _ _
theorem less_fits {s : Std} (f : s.Fits) (n : Nat) : (less s n).Fits := ⟨Nat.lt_of_le_of_lt (Nat.sub_le _ _) f.bal, f.eff, f.score, f.lo, f.hi⟩
/-- In a leak, with the bias and a step at least: at least the least, or all. -/
theorem fine_least {p : Par} (h : Par.Spans p) {m : Int} (hm : leaky m = true) {s : Std} (h1 : p.bias ≤ s.score) (h2 : p.inc ≤ s.eff) : min (over (p.inc * p.bias) p.quot) s.bal ≤ fine p m s := by
  have hp : p.inc * p.bias ≤ s.eff * s.score := Nat.mul_le_mul h2 h1
  have q0 := h.quot0
  have e0 := h.quotEm0
  have e1 := h.quotEm1
  have a := over_rises hp q0 q0 (Nat.le_refl _)
  have b := over_rises hp q0 e0 e1
  unfold fine lost
  unfold leaky at hm
  split
  · omega
  · split
    · omega
    · rename_i n3 n4
      simp [n3, n4] at hm
end Std
/-- What of a fine is burned. -/
def burned (p : Par) (n : Nat) : Nat := prt n 10000 p.burn.toNat
theorem burned_le {p : Par} (h : Par.Spans p) (n : Nat) : burned p n ≤ n := prt_le (by have := h.burn1; omega)
/-- Who was away in each of k ticks of a leak, with a score that rose by the bias each time, and one step at stake. -/
structure Drained (p : Par) (k : Nat) (s : Std) : Prop where
  eff : s.eff = p.inc
  score : s.score = p.bias * k
  bal : s.bal ≤ p.cap
  least : s.bal = 0 ∨ p.inc * p.bias * (k * (k + 1)) ≤ 2 * p.quot * (p.cap - s.bal)
theorem Drained.next {p : Par} {k : Nat} {s : Std} (h : Drained p k s) (hp : Par.Spans p) {m : Int} (hm : Std.leaky m = true) :
    Drained p (k + 1) (Std.less ⟨s.bal, s.eff, s.score + p.bias, s.streak⟩ (Std.fine p m ⟨s.bal, s.eff, s.score + p.bias, s.streak⟩)) := by
  have e : s.score + p.bias = p.bias * (k + 1) := by rw [h.score, Nat.mul_add, Nat.mul_one]
  have hb := h.bal
  refine ⟨h.eff, e, ?_, ?_⟩
  · show s.bal - _ ≤ _
    omega
  · show s.bal - Std.fine p m _ = 0 ∨ _ ≤ 2 * p.quot * (p.cap - (s.bal - Std.fine p m _))
    have q0 := hp.quot0
    have e0 := hp.quotEm0
    have e1 := hp.quotEm1
    have c1 := ceil_over (s.eff * (s.score + p.bias)) p.quot q0
    have ho := over_rises (Nat.le_refl (s.eff * (s.score + p.bias))) q0 e0 e1
    have hf : min (over (s.eff * (s.score + p.bias)) p.quot) s.bal ≤ Std.fine p m ⟨s.bal, s.eff, s.score + p.bias, s.streak⟩ := by
      unfold Std.fine Std.lost
      unfold Std.leaky at hm
      split
      · exact Nat.le_refl _
      · split
        · show min _ s.bal ≤ min (over (s.eff * (s.score + p.bias)) p.quotEm) s.bal
          omega
        · rename_i n3 n4
          simp [n3, n4] at hm
    generalize Std.fine p m ⟨s.bal, s.eff, s.score + p.bias, s.streak⟩ = f at *
    have h1 := c1.enough
    clear c1 ho
    generalize over (s.eff * (s.score + p.bias)) p.quot = O at *
    rcases Nat.lt_or_ge f s.bal with hl | hl
    · refine .inr ?_
      have hof : O ≤ f := by omega
      have h1' := Nat.mul_le_mul_right p.quot hof
      rw [h.eff, e, ← Nat.mul_assoc] at h1
      have h2 : p.inc * p.bias * (k * (k + 1)) ≤ 2 * p.quot * (p.cap - s.bal) := by
        rcases h.least with h0 | h0
        · omega
        · exact h0
      have e1 : p.inc * p.bias * ((k + 1) * (k + 1 + 1)) = p.inc * p.bias * (k * (k + 1)) + 2 * (p.inc * p.bias * (k + 1)) := by
        rw [← Nat.mul_assoc 2, Nat.mul_comm 2, Nat.mul_assoc _ 2, ← Nat.mul_add]
        congr 1
        rw [Nat.mul_comm (k + 1) (k + 1 + 1), show k + 1 + 1 = k + 2 by omega, Nat.add_mul]
      have e2 : 2 * p.quot * (p.cap - (s.bal - f)) = 2 * p.quot * (p.cap - s.bal) + 2 * (f * p.quot) := by
        rw [show p.cap - (s.bal - f) = (p.cap - s.bal) + f by omega, Nat.mul_add, Nat.mul_assoc 2 p.quot f, Nat.mul_comm p.quot f]
      omega
    · exact .inl (by omega)
theorem Drained.all {p : Par} {N : Nat} {s : Std} (h : Drained p N s) (hR : Par.Right p N) : s.bal ≤ p.floor := by
  rcases h.least with h0 | h0
  · omega
  · have hl := hR.lim
    unfold Par.lim at hl
    have h1 : p.cap - p.floor ≤ p.cap - s.bal := Nat.le_of_mul_le_mul_left (Nat.le_trans hl h0) (by have := hR.spans.quot0; omega)
    have := hR.spans.over
    have := h.bal
    omega
end Go.Proofs.Ytklempnebhcoiaa
