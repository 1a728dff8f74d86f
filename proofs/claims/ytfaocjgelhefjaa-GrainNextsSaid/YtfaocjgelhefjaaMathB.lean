/- What multiplying digit by digit comes to: plain mathematics. -/
import Derived.Test.YtfaocjgelhefjaaMathA
namespace Go.Proofs.Ytfaocjgelhefjaa
set_option linter.unusedVariables false

theorem val_set (l : List Nat) (p x : Nat) (hp : p < l.length) : val (l.set p x) + 10 ^ p * l.getD p 0 = val l + 10 ^ p * x := by
  induction l generalizing p with
  | nil => simp at hp
  | cons d l ih =>
    cases p with
    | zero => simp [val]; omega
    | succ p =>
      have h := ih p (by simpa using hp)
      show d + 10 * val (l.set p x) + 10 ^ (p + 1) * l.getD p 0 = d + 10 * val l + 10 ^ (p + 1) * x
      rw [Nat.pow_succ, Nat.mul_comm (10 ^ p) 10, Nat.mul_assoc, Nat.mul_assoc]
      omega

theorem all_set {l : List Nat} {p x : Nat} (h : ∀ d ∈ l, d < 10) (hx : x < 10) : ∀ d ∈ l.set p x, d < 10 := by
  intro d hd
  rcases List.mem_or_eq_of_mem_set hd with h1 | h1
  · exact h d h1
  · omega

theorem getD_lt {l : List Nat} {p : Nat} (h : ∀ d ∈ l, d < 10) : l.getD p 0 < 10 := by
  rw [val_get l h]; omega

/-- One digit more of a row of a product. -/
theorem mul_step {a b i k cy da db dp : Nat} {ds : List Nat} (hp : i + k < ds.length) (hb : (digs b).getD k 0 = db) (hd : ds.getD (i + k) 0 = dp)
    (h : val ds + cy * 10 ^ (i + k) = a % 10 ^ i * b + da * (b % 10 ^ k) * 10 ^ i) :
    val (ds.set (i + k) ((dp + da * db + cy) % 10)) + (dp + da * db + cy) / 10 * 10 ^ (i + (k + 1)) = a % 10 ^ i * b + da * (b % 10 ^ (k + 1)) * 10 ^ i := by
  rw [digs_get] at hb
  have h1 := val_set ds (i + k) ((dp + da * db + cy) % 10) hp
  rw [hd] at h1
  have h2 : 10 ^ (i + k) * ((dp + da * db + cy) % 10) + (dp + da * db + cy) / 10 * 10 ^ (i + (k + 1)) = 10 ^ (i + k) * (dp + da * db + cy) := by
    rw [← Nat.add_assoc, Nat.pow_succ, Nat.mul_comm ((dp + da * db + cy) / 10), Nat.mul_assoc, ← Nat.mul_add, Nat.mod_add_div]
  have h3 : da * (b % 10 ^ (k + 1)) * 10 ^ i = da * (b % 10 ^ k) * 10 ^ i + 10 ^ (i + k) * (da * db) := by
    rw [mod_up b, hb, Nat.mul_add, Nat.add_mul, Nat.pow_add]
    congr 1
    simp only [Nat.mul_comm, Nat.mul_left_comm, Nat.mul_assoc]
  have h4 : 10 ^ (i + k) * (dp + da * db + cy) = 10 ^ (i + k) * dp + 10 ^ (i + k) * (da * db) + cy * 10 ^ (i + k) := by
    rw [Nat.mul_add, Nat.mul_add, Nat.mul_comm cy]
  omega

theorem mul_row {a b i k cy da : Nat} {ds : List Nat} (ha : (digs a).getD i 0 = da) (hk : (digs b).length ≤ k)
    (h : val ds + cy * 10 ^ (i + k) = a % 10 ^ i * b + da * (b % 10 ^ k) * 10 ^ i) : val ds + cy * 10 ^ (i + k) = a % 10 ^ (i + 1) * b := by
  rw [digs_get] at ha
  rw [h, mod_all hk, mod_up a, ha, Nat.add_mul]
  congr 1
  rw [Nat.mul_comm (10 ^ i), Nat.mul_assoc, Nat.mul_assoc, Nat.mul_comm (10 ^ i)]

/-- Where something is carried behind the last digit, that is the place just behind it. -/
theorem mul_carry {a b i k cy da : Nat} {ds : List Nat} (ha : (digs a).getD i 0 = da) (hk : (digs b).length ≤ k) (hc : 0 < cy)
    (h : val ds + cy * 10 ^ (i + k) = a % 10 ^ i * b + da * (b % 10 ^ k) * 10 ^ i) : k ≤ (digs b).length := by
  have h1 := mul_row ha hk h
  have h2 : a % 10 ^ (i + 1) < 10 ^ (i + 1) := Nat.mod_lt _ (Nat.pow_pos (by omega))
  have h3 := lt_pow_digs b
  have h4 : a % 10 ^ (i + 1) * b < 10 ^ (i + 1) * 10 ^ (digs b).length := Nat.mul_lt_mul'' h2 h3
  rw [← Nat.pow_add, ← h1] at h4
  have h5 : 10 ^ (i + k) ≤ cy * 10 ^ (i + k) := Nat.le_mul_of_pos_left _ hc
  have h6 : 10 ^ (i + k) < 10 ^ (i + 1 + (digs b).length) := by omega
  have h7 := (Nat.pow_lt_pow_iff_right (by omega)).1 h6
  omega

theorem mul_end {a b i : Nat} {ds : List Nat} (hi : (digs a).length ≤ i) (h : val ds = a % 10 ^ i * b) : val ds = a * b := by
  rw [h, mod_all hi]
theorem val_zeros (n : Nat) : val (List.replicate n 0) = 0 := by
  induction n with
  | zero => rfl
  | succ n ih => show 0 + 10 * val (List.replicate n 0) = 0; rw [ih]
end Go.Proofs.Ytfaocjgelhefjaa
