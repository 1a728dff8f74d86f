/- Whole roots: plain mathematics. -/
import Derived.Lib.Hide
namespace Go.Proofs.Ytkimgkpjbfijmaa
set_option linter.unusedVariables false

/-- r is the root of n. -/
structure IsRoot (n r : Nat) : Prop where
  low : r * r ≤ n
  high : n < (r + 1) * (r + 1)

theorem root_ex (n : Nat) : ∃ r, IsRoot n r := by
  induction n with
  | zero => exact ⟨0, by omega, by omega⟩
  | succ n ih =>
    obtain ⟨r, h1, h2⟩ := ih
    by_cases h : (r + 1) * (r + 1) ≤ n + 1
    · refine ⟨r + 1, h, ?_⟩
      have : (r + 1 + 1) * (r + 1 + 1) = (r + 1) * (r + 1) + 2 * (r + 1) + 1 := by
        rw [Nat.add_mul (r + 1) 1, Nat.mul_add]; omega
      omega
    · exact ⟨r, by omega, by omega⟩

theorem sq_lt {a b : Nat} (h : a * a < b * b) : a < b := by
  rcases Nat.lt_or_ge a b with h1 | h1
  · exact h1
  · exact absurd (Nat.mul_le_mul h1 h1) (Nat.not_le_of_lt h)

theorem IsRoot.upto {n r m : Nat} (h : IsRoot n r) (hm : m * m ≤ n) : m ≤ r :=
  Nat.le_of_lt_succ (sq_lt (Nat.lt_of_le_of_lt hm h.high))
theorem IsRoot.less {n r m : Nat} (h : IsRoot n r) (hm : n < m * m) : r < m := sq_lt (Nat.lt_of_le_of_lt h.low hm)
theorem IsRoot.word {n r : Nat} (h : IsRoot n r) (hn : n < 18446744073709551616) : r < 4294967296 := h.less (by omega)
theorem IsRoot.one {n r s : Nat} (h : IsRoot n r) (k : IsRoot n s) : r = s := Nat.le_antisymm (k.upto h.low) (h.upto k.low)
theorem IsRoot.rises {n m r s : Nat} (h : IsRoot n r) (k : IsRoot m s) (hnm : n ≤ m) : r ≤ s := k.upto (Nat.le_trans h.low hnm)

theorem isRoot_mk {n r : Nat} (d : Nat) (h : n = r * r + d) (hd : d ≤ 2 * r) : IsRoot n r := by
  refine ⟨by omega, ?_⟩
  have : (r + 1) * (r + 1) = r * r + 2 * r + 1 := by rw [Nat.add_mul, Nat.mul_add]; omega
  omega

/-- A bit of the root tried: room for it. -/
theorem room {x p i : Nat} (hp : p = 2 ^ (i + 1)) (hi : i < 32) (hx : x % p = 0) (hx1 : x < 4294967296) : x + p ≤ 4294967296 := by
  have h1 : 4294967296 % p = 0 := by
    rw [hp, show (4294967296 : Nat) = 2 ^ (i + 1) * 2 ^ (31 - i) by rw [← Nat.pow_add, show i + 1 + (31 - i) = 32 by omega]]
    exact Nat.mul_mod_right _ _
  have hpp : 0 < p := by rw [hp]; exact Nat.two_pow_pos _
  obtain ⟨a, rfl⟩ := Nat.dvd_of_mod_eq_zero hx
  obtain ⟨b, hb⟩ := Nat.dvd_of_mod_eq_zero h1
  rw [hb] at hx1 ⊢
  have : a + 1 ≤ b := (Nat.mul_lt_mul_left hpp).1 hx1
  have := Nat.mul_le_mul_left p this
  rw [Nat.mul_add] at this
  omega

theorem half_mod {x p i : Nat} (hp : p = 2 ^ (i + 1)) (hx : x % p = 0) : p / 2 = 2 ^ i ∧ x % 2 ^ i = 0 ∧ (x + 2 ^ i) % 2 ^ i = 0 := by
  have h0 : 0 < 2 ^ i := Nat.two_pow_pos _
  have h1 : p = 2 ^ i * 2 := by rw [hp, Nat.pow_succ]
  subst h1
  have h2 : x % 2 ^ i = 0 := by
    obtain ⟨a, rfl⟩ := Nat.dvd_of_mod_eq_zero hx
    rw [Nat.mul_assoc]
    exact Nat.mul_mod_right _ _
  exact ⟨by omega, h2, by rw [Nat.add_mod_right]; exact h2⟩
end Go.Proofs.Ytkimgkpjbfijmaa
