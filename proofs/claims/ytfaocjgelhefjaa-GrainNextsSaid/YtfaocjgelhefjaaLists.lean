/- Whole numbers from 0 on as lists of their decimal digits, the lowest first: plain mathematics, nothing of a program. -/
namespace Go.Proofs.Ytfaocjgelhefjaa
set_option linter.unusedVariables false

/-- What a list of digits is worth. -/
def val : List Nat → Nat
  | [] => 0
  | d :: r => d + 10 * val r

/-- A number's digits, without noughts at the upper end. -/
def digs (n : Nat) : List Nat := if h : n = 0 then [] else n % 10 :: digs (n / 10)
termination_by n
decreasing_by omega

theorem digs_zero : digs 0 = [] := by rw [digs]; simp
theorem digs_pos {n : Nat} (h : n ≠ 0) : digs n = n % 10 :: digs (n / 10) := by rw [digs]; simp [h]

theorem val_digs (n : Nat) : val (digs n) = n := by
  induction n using Nat.strongRecOn with
  | ind n ih =>
    by_cases h : n = 0
    · subst h; rw [digs_zero]; rfl
    · rw [digs_pos h]
      show n % 10 + 10 * val (digs (n / 10)) = n
      rw [ih (n / 10) (by omega)]
      omega

theorem digs_lt (n : Nat) : ∀ d ∈ digs n, d < 10 := by
  induction n using Nat.strongRecOn with
  | ind n ih =>
    by_cases h : n = 0
    · subst h; rw [digs_zero]; intro d hd; cases hd
    · rw [digs_pos h]
      intro d hd
      rcases List.mem_cons.1 hd with rfl | hd
      · omega
      · exact ih (n / 10) (by omega) d hd

theorem val_append (l r : List Nat) : val (l ++ r) = val l + 10 ^ l.length * val r := by
  induction l with
  | nil => simp [val]
  | cons d l ih =>
    show d + 10 * val (l ++ r) = d + 10 * val l + 10 ^ (l.length + 1) * val r
    rw [ih, Nat.pow_succ, Nat.mul_add, Nat.add_assoc, Nat.mul_comm (10 ^ l.length) 10, Nat.mul_assoc]

theorem val_lt (l : List Nat) (h : ∀ d ∈ l, d < 10) : val l < 10 ^ l.length := by
  induction l with
  | nil => simp [val]
  | cons d l ih =>
    have h1 := ih (fun x hx => h x (List.mem_cons_of_mem _ hx))
    have h2 := h d List.mem_cons_self
    show d + 10 * val l < 10 ^ (l.length + 1)
    rw [Nat.pow_succ]
    omega

theorem lt_pow_digs (n : Nat) : n < 10 ^ (digs n).length := by
  have h := val_lt (digs n) (digs_lt n)
  rwa [val_digs] at h

/-- Fewer digits than k, if the number is below 10^k. -/
theorem digs_len {n k : Nat} (h : n < 10 ^ k) : (digs n).length ≤ k := by
  induction k generalizing n with
  | zero =>
    have : n = 0 := by simpa using h
    subst this; simp [digs_zero]
  | succ k ih =>
    by_cases h0 : n = 0
    · subst h0; simp [digs_zero]
    · rw [digs_pos h0]
      have : n / 10 < 10 ^ k := by rw [Nat.pow_succ] at h; omega
      have := ih this
      simp only [List.length_cons]
      omega

/-- The digit at a place. -/
theorem digs_get (n k : Nat) : (digs n).getD k 0 = n / 10 ^ k % 10 := by
  induction k generalizing n with
  | zero =>
    by_cases h : n = 0
    · subst h; simp [digs_zero]
    · rw [digs_pos h]; simp
  | succ k ih =>
    by_cases h : n = 0
    · subst h; simp [digs_zero]
    · rw [digs_pos h]
      show (digs (n / 10)).getD k 0 = _
      rw [ih, Nat.div_div_eq_div_mul, Nat.pow_succ, Nat.mul_comm 10]

theorem val_get (l : List Nat) (h : ∀ d ∈ l, d < 10) (k : Nat) : l.getD k 0 = val l / 10 ^ k % 10 := by
  induction l generalizing k with
  | nil => simp [val]
  | cons d l ih =>
    have hd := h d List.mem_cons_self
    have hl := fun x hx => h x (List.mem_cons_of_mem _ hx)
    cases k with
    | zero => simp [val]; omega
    | succ k =>
      show l.getD k 0 = (d + 10 * val l) / 10 ^ (k + 1) % 10
      rw [ih hl, Nat.pow_succ, Nat.mul_comm _ 10, ← Nat.div_div_eq_div_mul]
      rw [show (d + 10 * val l) / 10 = val l by omega]

/-- How long a list is without noughts at the upper end. -/
def trimLen (l : List Nat) : Nat → Nat
  | 0 => 0
  | n + 1 => if l.getD n 0 = 0 then trimLen l n else n + 1

theorem trimLen_le (l : List Nat) (n : Nat) : trimLen l n ≤ n := by
  induction n with
  | zero => simp [trimLen]
  | succ n ih => unfold trimLen; split <;> omega

theorem val_snoc (l : List Nat) (d : Nat) : val (l ++ [d]) = val l + 10 ^ l.length * d := by
  rw [val_append]; simp [val]

theorem digs_val (l : List Nat) (h : ∀ d ∈ l, d < 10) (hl : l = [] ∨ l.getD (l.length - 1) 0 ≠ 0) : digs (val l) = l := by
  induction l with
  | nil => simp [val, digs_zero]
  | cons d r ih =>
    have hd := h d List.mem_cons_self
    have hr := fun x hx => h x (List.mem_cons_of_mem _ hx)
    have hlast : (d :: r).getD r.length 0 ≠ 0 := by
      rcases hl with h0 | h0
      · cases h0
      · simpa using h0
    have hr' : digs (val r) = r := by
      apply ih hr
      cases r with
      | nil => exact .inl rfl
      | cons e r => exact .inr (by simpa using hlast)
    have hpos : d + 10 * val r ≠ 0 := by
      intro h0
      have h1 : d = 0 := by omega
      have h2 : val r = 0 := by omega
      have h3 : r = [] := by rw [← hr', h2, digs_zero]
      subst h3
      subst h1
      simp at hlast
    show digs (d + 10 * val r) = d :: r
    rw [digs_pos hpos, show (d + 10 * val r) % 10 = d by omega, show (d + 10 * val r) / 10 = val r by omega, hr']

theorem take_getD (l : List Nat) (n k : Nat) (h : k < n) : (l.take n).getD k 0 = l.getD k 0 := by
  simp [List.getD, h]

theorem val_take_zero (l : List Nat) (n : Nat) (hn : n < l.length) (h0 : l.getD n 0 = 0) : val (l.take (n + 1)) = val (l.take n) := by
  have h1 : l.take (n + 1) = l.take n ++ [l[n]] := by rw [List.take_succ_eq_append_getElem hn]
  have h2 : l[n] = 0 := by simpa [List.getD, List.getElem?_eq_getElem hn] using h0
  rw [h1, val_snoc, h2]
  omega

/-- Trimmed, a list is its number's digits. -/
theorem trim_digs (l : List Nat) (h : ∀ d ∈ l, d < 10) (n : Nat) (hn : n ≤ l.length) : l.take (trimLen l n) = digs (val (l.take n)) := by
  induction n with
  | zero => simp [trimLen, val, digs_zero]
  | succ n ih =>
    unfold trimLen
    by_cases h0 : l.getD n 0 = 0
    · rw [if_pos h0, ih (by omega), val_take_zero l n (by omega) h0]
    · rw [if_neg h0]
      symm
      apply digs_val
      · intro d hd; exact h d (List.mem_of_mem_take hd)
      · right
        rw [List.length_take, Nat.min_eq_left hn, show n + 1 - 1 = n by omega, take_getD _ _ _ (by omega)]
        exact h0

theorem trim_all (l : List Nat) (h : ∀ d ∈ l, d < 10) : l.take (trimLen l l.length) = digs (val l) := by
  have := trim_digs l h l.length (Nat.le_refl _)
  rwa [List.take_length] at this

theorem word_digs {n : Nat} (h : n < 18446744073709551616) : (digs n).length ≤ 20 := digs_len (by omega)
theorem prod_digs {a b : Nat} (ha : a < 18446744073709551616) (hb : b < 18446744073709551616) : (digs (a * b)).length ≤ 40 := by
  apply digs_len
  exact Nat.lt_trans (Nat.mul_lt_mul'' ha hb) (by decide)
end Go.Proofs.Ytfaocjgelhefjaa
