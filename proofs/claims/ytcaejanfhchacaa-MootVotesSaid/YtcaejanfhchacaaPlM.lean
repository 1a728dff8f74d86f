/- Parameters as plain numbers, their spans, and how long a leak takes: plain mathematics, nothing of a program. · Layer 11 (score): a standing behind a tick: plain mathematics, nothing of a program. · Layer 10 (grain): an effective balance, and what follows: plain mathematics, nothing of a program. -/

namespace Go.Proofs.Ytcaejanfhchacaa
set_option linter.unusedVariables false

/-- The numbers of parameters: fourteen words, then ten that are Go's int. -/
structure Par where
  inc : Nat
  maxEff : Nat
  floor : Nat
  cap : Nat
  up : Nat
  down : Nat
  bias : Nat
  quot : Nat
  biasEm : Nat
  quotEm : Nat
  recover : Nat
  scoreCap : Nat
  rate : Nat
  bond : Nat
  delay : Int
  streak : Int
  boost : Int
  absent : Int
  burn : Int
  churn : Int
  wait : Int
  poll : Int
  enact : Int
  quorum : Int

namespace Par
def us (p : Par) : List Nat := [p.inc, p.maxEff, p.floor, p.cap, p.up, p.down, p.bias, p.quot, p.biasEm, p.quotEm, p.recover, p.scoreCap, p.rate, p.bond]
def is (p : Par) : List Int := [p.delay, p.streak, p.boost, p.absent, p.burn, p.churn, p.wait, p.poll, p.enact, p.quorum]
/-- Nothing. -/
def none : Par := ⟨0, 0, 0, 0, 0, 0, 0, 0, 0, 0, 0, 0, 0, 0, 0, 0, 0, 0, 0, 0, 0, 0, 0, 0⟩
/-- Each word has 64 bits, each int is Go's. -/
structure Fits (p : Par) : Prop where
  us : ∀ x ∈ p.us, x < 18446744073709551616
  is : ∀ x ∈ p.is, -9223372036854775808 ≤ x ∧ x ≤ 9223372036854775807

/-- A word's span: the word, its least, its most. -/
def wspan (p : Par) : List (Nat × Nat × Nat) :=
  [(p.inc, 1, 2147483648), (p.maxEff, p.inc, 1099511627776), (p.floor, p.inc, 1099511627776), (p.cap, p.maxEff, 1099511627776), (p.up, p.inc, 1099511627776), (p.down, 0, 1099511627776), (p.bias, 1, 4294967296), (p.quot, 1, 1099511627776), (p.biasEm, p.bias, 4294967296), (p.quotEm, 1, p.quot), (p.recover, 0, 4294967296), (p.scoreCap, 1, 72057594037927936), (p.rate, 0, 4294967296), (p.bond, 0, 1099511627776)]
def ispan (p : Par) : List (Int × Int × Int) :=
  [(p.delay, 0, 1000), (p.streak, 0, 64), (p.boost, 0, 1000), (p.absent, 0, 10000), (p.burn, 0, 10000), (p.churn, 1, 64), (p.wait, 0, 50), (p.poll, 1, 1000), (p.enact, 0, 1000), (p.quorum, 0, 10000)]
def okW (x : Nat × Nat × Nat) : Bool := decide (x.2.1 ≤ x.1) && decide (x.1 ≤ x.2.2)
def okI (x : Int × Int × Int) : Bool := decide (x.2.1 ≤ x.1) && decide (x.1 ≤ x.2.2)
def allW (p : Par) : Bool := p.wspan.all okW
def allI (p : Par) : Bool := p.ispan.all okI

/-- All that is asked but the leak. -/
structure Spans (p : Par) : Prop where
  inc0 : 1 ≤ p.inc
  inc1 : p.inc ≤ 2147483648
  eff0 : p.inc ≤ p.maxEff
  eff1 : p.maxEff ≤ 1099511627776
  floor0 : p.inc ≤ p.floor
  cap0 : p.maxEff ≤ p.cap
  cap1 : p.cap ≤ 1099511627776
  up0 : p.inc ≤ p.up
  up1 : p.up ≤ 1099511627776
  down1 : p.down ≤ 1099511627776
  bias0 : 1 ≤ p.bias
  bias1 : p.bias ≤ 4294967296
  quot0 : 1 ≤ p.quot
  quot1 : p.quot ≤ 1099511627776
  biasEm0 : p.bias ≤ p.biasEm
  biasEm1 : p.biasEm ≤ 4294967296
  quotEm0 : 1 ≤ p.quotEm
  quotEm1 : p.quotEm ≤ p.quot
  recover1 : p.recover ≤ 4294967296
  score0 : 1 ≤ p.scoreCap
  score1 : p.scoreCap ≤ 72057594037927936
  rate1 : p.rate ≤ 4294967296
  bond1 : p.bond ≤ 1099511627776
  delay0 : 0 ≤ p.delay
  delay1 : p.delay ≤ 1000
  streak0 : 0 ≤ p.streak
  streak1 : p.streak ≤ 64
  boost0 : 0 ≤ p.boost
  boost1 : p.boost ≤ 1000
  absent0 : 0 ≤ p.absent
  absent1 : p.absent ≤ 10000
  burn0 : 0 ≤ p.burn
  burn1 : p.burn ≤ 10000
  churn0 : 1 ≤ p.churn
  churn1 : p.churn ≤ 64
  wait0 : 0 ≤ p.wait
  wait1 : p.wait ≤ 50
  poll0 : 1 ≤ p.poll
  poll1 : p.poll ≤ 1000
  enact0 : 0 ≤ p.enact
  enact1 : p.enact ≤ 1000
  quorum0 : 0 ≤ p.quorum
  quorum1 : p.quorum ≤ 10000
  whole : p.maxEff % p.inc = 0
  over : p.floor < p.cap

theorem okW_iff (x : Nat × Nat × Nat) : okW x = true ↔ x.2.1 ≤ x.1 ∧ x.1 ≤ x.2.2 := by simp [okW]
theorem okI_iff (x : Int × Int × Int) : okI x = true ↔ x.2.1 ≤ x.1 ∧ x.1 ≤ x.2.2 := by simp [okI]

theorem spans_of {p : Par} (h1 : p.allW = true) (h2 : p.allI = true) (h3 : p.maxEff % p.inc = 0) (h4 : p.floor < p.cap) : Spans p := by
  simp only [allW, wspan, List.all_cons, List.all_nil, Bool.and_true, Bool.and_eq_true, okW_iff] at h1
  simp only [allI, ispan, List.all_cons, List.all_nil, Bool.and_true, Bool.and_eq_true, okI_iff] at h2
  constructor <;> omega
theorem Spans.allW {p : Par} (h : Spans p) : p.allW = true := by
  obtain ⟨_, _, _, _, _, _, _, _, _, _, _, _, _, _, _, _, _, _, _, _, _, _, _, _, _, _, _, _, _, _, _, _, _, _, _, _, _, _, _, _, _, _, _, _, _⟩ := h
  simp only [Par.allW, wspan, List.all_cons, List.all_nil, Bool.and_true, Bool.and_eq_true, okW_iff]
  omega
theorem Spans.allI {p : Par} (h : Spans p) : p.allI = true := by
  obtain ⟨_, _, _, _, _, _, _, _, _, _, _, _, _, _, _, _, _, _, _, _, _, _, _, _, _, _, _, _, _, _, _, _, _, _, _, _, _, _, _, _, _, _, _, _, _⟩ := h
  simp only [Par.allI, ispan, List.all_cons, List.all_nil, Bool.and_true, Bool.and_eq_true, okI_iff]
  omega

/-- So many ticks of a leak take all between the most and the floor. -/
def lim (p : Par) (t : Nat) : Prop := 2 * p.quot * (p.cap - p.floor) ≤ p.inc * p.bias * (t * (t + 1))
instance limDec (p : Par) (t : Nat) : Decidable (p.lim t) := inferInstanceAs (Decidable (_ ≤ _))
theorem lim_up {p : Par} {t u : Nat} (h : p.lim t) (hu : t ≤ u) : p.lim u :=
  Nat.le_trans h (Nat.mul_le_mul_left _ (Nat.mul_le_mul hu (by omega)))
theorem lim_zero {p : Par} (hq : 1 ≤ p.quot) (hc : p.floor < p.cap) : ¬ p.lim 0 := by
  unfold lim
  intro h
  have : 0 < 2 * p.quot * (p.cap - p.floor) := Nat.mul_pos (by omega) (by omega)
  simp at h
  omega

/-- T is the leak, or one more than may be. -/
structure Halt (p : Par) (T : Nat) : Prop where
  pos : 1 ≤ T
  most : T ≤ 1048577
  yes : T = 1048577 ∨ p.lim T
  no : ¬ p.lim (T - 1)

theorem Halt.below {p : Par} {T : Nat} (h : Halt p T) {t : Nat} (ht : t < T) : ¬ p.lim t := fun hl => h.no (lim_up hl (by omega))
theorem Halt.one {p : Par} {T U : Nat} (h : Halt p T) (k : Halt p U) : T = U := by
  rcases Nat.lt_trichotomy T U with hl | hl | hl
  · rcases h.yes with e | e
    · have := k.most; omega
    · exact absurd e (k.below hl)
  · exact hl
  · rcases k.yes with e | e
    · have := h.most; omega
    · exact absurd e (h.below hl)
theorem halt_or {p : Par} (h0 : ¬ p.lim 0) : ∀ n, (∃ T, 1 ≤ T ∧ T ≤ n ∧ p.lim T ∧ ¬ p.lim (T - 1)) ∨ ¬ p.lim n
  | 0 => .inr h0
  | n + 1 => by
    rcases halt_or h0 n with ⟨T, h1, h2, h3, h4⟩ | h
    · exact .inl ⟨T, h1, by omega, h3, h4⟩
    · by_cases hl : p.lim (n + 1)
      · exact .inl ⟨n + 1, by omega, Nat.le_refl _, hl, by simpa using h⟩
      · exact .inr hl
theorem halt_is {p : Par} (hq : 1 ≤ p.quot) (hc : p.floor < p.cap) : ∃ T, Halt p T := by
  rcases halt_or (lim_zero hq hc) 1048576 with ⟨T, h1, h2, h3, h4⟩ | h
  · exact ⟨T, h1, by omega, .inr h3, h4⟩
  · exact ⟨1048577, by omega, Nat.le_refl _, .inl rfl, by simpa using h⟩

/-- Soon enough over: asked of the tick that is the most that may be. -/
theorem soon {p : Par} {T : Nat} (h : Halt p T) (hb : 1 ≤ p.bias) : p.lim (min 1048576 (p.scoreCap / p.bias)) ↔ T ≤ 1048576 ∧ p.bias * T ≤ p.scoreCap := by
  have hd : ∀ t, t ≤ p.scoreCap / p.bias ↔ p.bias * t ≤ p.scoreCap := fun t => by rw [Nat.le_div_iff_mul_le hb, Nat.mul_comm]
  rw [← hd]
  constructor
  · intro hl
    rcases Nat.lt_or_ge (min 1048576 (p.scoreCap / p.bias)) T with h1 | h1
    · exact absurd hl (h.below h1)
    · omega
  · rintro ⟨h1, h2⟩
    rcases h.yes with e | e
    · omega
    · exact lim_up e (by omega)

/-- Parameters that are right, and their leak. -/
structure Right (p : Par) (T : Nat) : Prop where
  spans : Spans p
  halt : Halt p T
  most : T ≤ 1048576
  score : p.bias * T ≤ p.scoreCap

theorem Right.lim {p : Par} {T : Nat} (h : Right p T) : p.lim T := by
  rcases h.halt.yes with e | e
  · have := h.most; omega
  · exact e

end Par
end Go.Proofs.Ytcaejanfhchacaa
namespace Go.Proofs.Ytcaejanfhchacaa
set_option linter.unusedVariables false
/-- A standing: three words, and an int. -/
structure Std where
  bal : Nat
  eff : Nat
  score : Nat
  streak : Int
namespace Std
def none : Std := ⟨0, 0, 0, 0⟩
structure Fits (s : Std) : Prop where
  bal : s.bal < 18446744073709551616
  eff : s.eff < 18446744073709551616
  score : s.score < 18446744073709551616
  lo : -9223372036854775808 ≤ s.streak
  hi : s.streak ≤ 9223372036854775807
/-- Does a mode leak? -/
def leaky (m : Int) : Bool := m == 3 || m == 4
/-- What a tick of a mode that leaks adds. -/
def gain (p : Par) (m : Int) : Nat := bif m == 4 then p.biasEm else p.bias
def there (p : Par) (s : Std) : Std := ⟨s.bal, s.eff, s.score - p.recover, min (max s.streak 0) (p.streak - 1) + 1⟩
def away (p : Par) (m : Int) (s : Std) : Std := ⟨s.bal, s.eff, bif leaky m then min (s.score + gain p m) p.scoreCap else s.score, 0⟩
/-- Behind a tick. -/
def after (p : Par) (x : Bool × Int) (s : Std) : Std := bif x.1 then there p s else away p x.2 s
/-- Within the parameters. -/
def trim (p : Par) (s : Std) : Std := ⟨s.bal, s.eff, min s.score p.scoreCap, min (max s.streak 0) p.streak⟩

/-- Is it within the parameters? -/
def within (p : Par) (s : Std) : Prop := s.score ≤ p.scoreCap ∧ 0 ≤ s.streak ∧ s.streak ≤ p.streak
end Std
end Go.Proofs.Ytcaejanfhchacaa
namespace Go.Proofs.Ytcaejanfhchacaa
set_option linter.unusedVariables false
namespace Par
/-- A balance in whole steps. -/
def whole (p : Par) (b : Nat) : Nat := min (b - b % p.inc) p.maxEff
/-- Is the balance too far from its effective balance? -/
def far (p : Par) (e b : Nat) : Bool := decide (p.down < e - b) || decide (p.up < b - e)
/-- The effective balance that follows. -/
def next (p : Par) (e b : Nat) : Nat := if p.far e b = true then p.whole b else e
/-- May this be an effective balance at all? -/
def isStep (p : Par) (e : Nat) : Bool := decide (p.inc ≤ e) && (decide (e ≤ p.maxEff) && decide (e % p.inc = 0))
def fit (p : Par) (e b : Nat) : Bool := p.isStep e && decide (p.next e b = e)

end Par
end Go.Proofs.Ytcaejanfhchacaa
