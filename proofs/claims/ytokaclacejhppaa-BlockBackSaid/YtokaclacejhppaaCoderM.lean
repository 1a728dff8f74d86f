/- Numbers in bytes of seven bits each, written and read: plain mathematics, nothing of a program. -/
namespace Go.Proofs.Ytokaclacejhppaa
set_option linter.unusedVariables false

/-- A number's bytes. -/
def form (n : Nat) : List Nat := if h : n < 128 then [n] else (n % 128 + 128) :: form (n / 128)
termination_by n
decreasing_by omega

theorem form_small {n : Nat} (h : n < 128) : form n = [n] := by rw [form, dif_pos h]
theorem form_big {n : Nat} (h : 128 ≤ n) : form n = (n % 128 + 128) :: form (n / 128) := by rw [form, dif_neg (by omega)]

theorem form_lt (n : Nat) : ∀ x ∈ form n, x < 256 := by
  induction n using Nat.strongRecOn with
  | ind n ih =>
    by_cases h : n < 128
    · rw [form_small h]; intro x hx; simp at hx; omega
    · rw [form_big (by omega)]
      intro x hx
      rcases List.mem_cons.1 hx with rfl | hx
      · omega
      · exact ih (n / 128) (by omega) x hx

theorem form_pos (n : Nat) : 0 < (form n).length := by
  by_cases h : n < 128
  · rw [form_small h]; simp
  · rw [form_big (by omega)]; simp

theorem form_len : ∀ (k n : Nat), n < 128 ^ (k + 1) → (form n).length ≤ k + 1
  | 0, n, h => by rw [form_small (by simpa using h)]; simp
  | k + 1, n, h => by
    by_cases h1 : n < 128
    · rw [form_small h1]; simp
    · rw [form_big (by omega)]
      have := form_len k (n / 128) (by rw [Nat.pow_succ] at h; omega)
      simp only [List.length_cons]
      omega

theorem form_word {n : Nat} (h : n < 18446744073709551616) : (form n).length ≤ 10 := form_len 9 n (by omega)

/-- A number read off bytes, from its i-th byte on, so much being read: the number, how many bytes it has, the error. -/
def scan : Nat → Nat → List Nat → Nat × Nat × Nat
  | _, _, [] => (0, 0, 50)
  | i, m, b :: r => if (i = 9 ∧ 1 < b) ∨ (0 < i ∧ b = 0) then (0, 0, 51) else if b < 128 then (m + b * 128 ^ i, i + 1, 0) else scan (i + 1) (m + b % 128 * 128 ^ i) r

theorem scan_nil (i m : Nat) : scan i m [] = (0, 0, 50) := rfl
theorem scan_bad {i m b : Nat} {r : List Nat} (h : (i = 9 ∧ 1 < b) ∨ (0 < i ∧ b = 0)) : scan i m (b :: r) = (0, 0, 51) := by rw [scan, if_pos h]
theorem scan_last {i m b : Nat} {r : List Nat} (h : ¬ ((i = 9 ∧ 1 < b) ∨ (0 < i ∧ b = 0))) (hb : b < 128) : scan i m (b :: r) = (m + b * 128 ^ i, i + 1, 0) := by rw [scan, if_neg h, if_pos hb]
theorem scan_more {i m b : Nat} {r : List Nat} (h : ¬ ((i = 9 ∧ 1 < b) ∨ (0 < i ∧ b = 0))) (hb : 128 ≤ b) : scan i m (b :: r) = scan (i + 1) (m + b % 128 * 128 ^ i) r := by
  rw [scan, if_neg h, if_neg (by omega)]

theorem room9 {i n : Nat} (hi : i ≤ 9) (h : n < 2 ^ (64 - 7 * i)) (hn : 128 ≤ n) : i ≤ 8 := by
  rcases Nat.lt_or_ge i 9 with h9 | h9
  · omega
  · obtain rfl : i = 9 := by omega
    simp at h; omega
theorem room_next {i n : Nat} (hi : i ≤ 8) (h : n < 2 ^ (64 - 7 * i)) : n / 128 < 2 ^ (64 - 7 * (i + 1)) := by
  have e : 64 - 7 * i = (64 - 7 * (i + 1)) + 7 := by omega
  rw [e, Nat.pow_add] at h
  omega
theorem room_last {i n : Nat} (hi : i ≤ 9) (h : n < 2 ^ (64 - 7 * i)) : ¬ (i = 9 ∧ 1 < n) := fun ⟨h1, h2⟩ => by subst h1; simp at h; omega

theorem scan_form : ∀ (n i m : Nat) (r : List Nat), i ≤ 9 → n < 2 ^ (64 - 7 * i) → (0 < i → n ≠ 0) → scan i m (form n ++ r) = (m + n * 128 ^ i, i + (form n).length, 0) := by
  intro n
  induction n using Nat.strongRecOn with
  | ind n ih =>
    intro i m r hi hn h0
    have hl := room_last hi hn
    by_cases h : n < 128
    · rw [form_small h]
      exact scan_last (fun hx => by rcases hx with hx | hx; exact hl hx; exact h0 hx.1 hx.2) h
    · have h8 := room9 hi hn (by omega)
      rw [form_big (by omega)]
      show scan i m ((n % 128 + 128) :: (form (n / 128) ++ r)) = _
      rw [scan_more (by omega) (by omega), ih (n / 128) (by omega) (i + 1) _ r (by omega) (room_next h8 hn) (by omega)]
      have e : (n % 128 + 128) % 128 = n % 128 := by omega
      rw [e, Nat.pow_succ]
      have h2 : m + n % 128 * 128 ^ i + n / 128 * (128 ^ i * 128) = m + n * 128 ^ i := by
        have h3 : n = n % 128 + 128 * (n / 128) := by omega
        have h4 : n * 128 ^ i = (n % 128) * 128 ^ i + (128 * (n / 128)) * 128 ^ i := by rw [← Nat.add_mul, ← h3]
        rw [h4, Nat.mul_comm (128 ^ i) 128, ← Nat.mul_assoc, Nat.mul_comm (n / 128) 128, Nat.add_assoc]
      rw [h2]
      simp only [List.length_cons]
      congr 2
      omega

theorem scan_cut : ∀ (n i m j : Nat), i ≤ 9 → n < 2 ^ (64 - 7 * i) → j < (form n).length → scan i m ((form n).take j) = (0, 0, 50) := by
  intro n
  induction n using Nat.strongRecOn with
  | ind n ih =>
    intro i m j hi hn hj
    rcases Nat.eq_zero_or_pos j with rfl | hp
    · simp [scan_nil]
    · by_cases h : n < 128
      · rw [form_small h] at hj; simp at hj; omega
      · have h8 := room9 hi hn (by omega)
        obtain ⟨k, rfl⟩ : ∃ k, j = k + 1 := ⟨j - 1, by omega⟩
        rw [form_big (by omega)] at hj ⊢
        simp only [List.length_cons] at hj
        show scan i m ((n % 128 + 128) :: (form (n / 128)).take k) = _
        rw [scan_more (by omega) (by omega)]
        exact ih (n / 128) (by omega) (i + 1) _ k (by omega) (room_next h8 hn) (by omega)

/-- What was read off bytes is written in just these. -/
theorem scan_back : ∀ (l : List Nat) (i m n c : Nat), (∀ x ∈ l, x < 256) → i ≤ 9 → scan i m l = (n, c, 0) →
    ∃ x, n = m + x * 128 ^ i ∧ i < c ∧ c - i ≤ l.length ∧ form x = l.take (c - i) ∧ x < 2 ^ (64 - 7 * i) ∧ (0 < i → x ≠ 0)
  | [], i, m, n, c, _, _, h => by rw [scan_nil] at h; simp at h
  | b :: r, i, m, n, c, hb, hi, h => by
    by_cases h1 : (i = 9 ∧ 1 < b) ∨ (0 < i ∧ b = 0)
    · rw [scan_bad h1] at h; simp at h
    · have hb0 := hb b List.mem_cons_self
      by_cases h2 : b < 128
      · rw [scan_last h1 h2] at h
        simp only [Prod.mk.injEq, and_true] at h
        obtain ⟨rfl, rfl⟩ := h
        refine ⟨b, rfl, by omega, by simp, ?_, ?_, fun h3 h4 => h1 (.inr ⟨h3, h4⟩)⟩
        · rw [form_small h2, show i + 1 - i = 1 by omega]; rfl
        · rcases Nat.lt_or_ge i 9 with h9 | h9
          · exact Nat.lt_of_lt_of_le (show b < 2 ^ 7 from h2) (Nat.pow_le_pow_right (by omega) (by omega))
          · obtain rfl : i = 9 := by omega
            have : ¬ 1 < b := fun hx => h1 (.inl ⟨rfl, hx⟩)
            simp; omega
      · have h8 : i ≤ 8 := by
          rcases Nat.lt_or_ge i 9 with h9 | h9
          · omega
          · exact absurd (Or.inl ⟨by omega, by omega⟩) h1
        rw [scan_more h1 (by omega)] at h
        obtain ⟨x, hn, hc, hl, hf, hx, h0⟩ := scan_back r (i + 1) _ n c (fun y hy => hb y (List.mem_cons_of_mem _ hy)) (by omega) h
        have hx0 := h0 (by omega)
        refine ⟨b % 128 + 128 * x, ?_, by omega, ?_, ?_, ?_, fun _ => by omega⟩
        · rw [hn, Nat.pow_succ, Nat.add_mul, Nat.mul_comm (128 ^ i) 128, ← Nat.mul_assoc, Nat.mul_comm x 128, Nat.add_assoc]
        · simp only [List.length_cons]; omega
        · rw [form_big (by omega), show (b % 128 + 128 * x) % 128 + 128 = b by omega, show (b % 128 + 128 * x) / 128 = x by omega, hf, show c - i = (c - (i + 1)) + 1 by omega]
          rfl
        · have e : 64 - 7 * i = (64 - 7 * (i + 1)) + 7 := by omega
          rw [e, Nat.pow_add]
          omega

/-- What a writer has written, and its failure: behind some bytes more, put at once; behind an Int below 0. -/
def wput (s : List Nat × Nat) (ys : List Nat) : List Nat × Nat := if s.2 ≠ 0 then s else if 131072 < s.1.length + ys.length then (s.1, 3) else (s.1 ++ ys, 0)
def wneg (s : List Nat × Nat) : List Nat × Nat := if s.2 ≠ 0 then s else (s.1, 2)

/-- Where a reader is, and its failure: what it reads, and what it is then. -/
def rdNum (bs : List Nat) (s : Nat × Nat) (most : Nat) : Nat × (Nat × Nat) :=
  if s.2 ≠ 0 then (0, s) else
  if (scan 0 0 (bs.drop s.1)).2.2 ≠ 0 then (0, (s.1, (scan 0 0 (bs.drop s.1)).2.2)) else
  if most < (scan 0 0 (bs.drop s.1)).1 then (0, (s.1, 51)) else ((scan 0 0 (bs.drop s.1)).1, (s.1 + (scan 0 0 (bs.drop s.1)).2.1, 0))
def rdInt (bs : List Nat) (s : Nat × Nat) (most : Int) : Nat × (Nat × Nat) :=
  if s.2 ≠ 0 then (0, s) else
  if (scan 0 0 (bs.drop s.1)).2.2 ≠ 0 then (0, (s.1, (scan 0 0 (bs.drop s.1)).2.2)) else
  if most < 0 ∨ most < ((scan 0 0 (bs.drop s.1)).1 : Int) then (0, (s.1, 51)) else ((scan 0 0 (bs.drop s.1)).1, (s.1 + (scan 0 0 (bs.drop s.1)).2.1, 0))
def rdRaw (bs : List Nat) (s : Nat × Nat) (most : Int) : List Nat × (Nat × Nat) :=
  if s.2 ≠ 0 then ([], s) else
  if (rdInt bs s most).2.2 ≠ 0 then ([], (rdInt bs s most).2) else
  if bs.length - (rdInt bs s most).2.1 < (rdInt bs s most).1 then ([], (s.1, 50)) else
  ((bs.drop (rdInt bs s most).2.1).take (rdInt bs s most).1, ((rdInt bs s most).2.1 + (rdInt bs s most).1, 0))

/-- A number read off bytes is one of 64 bits, and its bytes are there. -/
theorem scan_fits {l : List Nat} (hl : ∀ x ∈ l, x < 256) {n c : Nat} (h : scan 0 0 l = (n, c, 0)) : n < 18446744073709551616 ∧ 0 < c ∧ c ≤ l.length ∧ form n = l.take c := by
  obtain ⟨x, hn, hc, hcl, hf, hx, _⟩ := scan_back l 0 0 n c hl (by omega) h
  simp at hn hx
  subst hn
  exact ⟨hx, hc, by omega, hf⟩
theorem scan_err : ∀ (l : List Nat) (i m : Nat), (scan i m l).2.2 = 0 ∨ ((scan i m l) = (0, 0, 50)) ∨ ((scan i m l) = (0, 0, 51))
  | [], i, m => .inr (.inl rfl)
  | b :: r, i, m => by
    by_cases h1 : (i = 9 ∧ 1 < b) ∨ (0 < i ∧ b = 0)
    · rw [scan_bad h1]; exact .inr (.inr rfl)
    · by_cases h2 : b < 128
      · rw [scan_last h1 h2]; exact .inl rfl
      · rw [scan_more h1 (by omega)]; exact scan_err r _ _
end Go.Proofs.Ytokaclacejhppaa
