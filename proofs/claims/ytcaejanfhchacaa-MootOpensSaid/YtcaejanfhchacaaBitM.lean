/- Bytes as fields of bits: plain mathematics, nothing of a program. -/
import Derived.Lib.BitFns
import Derived.Laws.BitsLemmas
namespace Go.Proofs.Ytcaejanfhchacaa
set_option linter.unusedVariables false

/-- The i-th bit of bytes. -/
def bitAt (xs : List Nat) (i : Nat) : Bool := (xs.getD (i / 8) 0).testBit (i % 8)

theorem getD_past {α : Type} {xs : List α} {k : Nat} (d : α) (h : xs.length ≤ k) : xs.getD k d = d := by rw [List.getD_eq_getElem?_getD, List.getElem?_eq_none h]; rfl
theorem bit_out {xs : List Nat} {i : Nat} (h : xs.length ≤ i / 8) : bitAt xs i = false := by
  unfold bitAt
  rw [getD_past _ h, Nat.zero_testBit]

theorem bit_byte (xs : List Nat) (j t : Nat) (ht : t < 8) : bitAt xs (8 * j + t) = (xs.getD j 0).testBit t := by
  unfold bitAt
  rw [show (8 * j + t) / 8 = j by omega, show (8 * j + t) % 8 = t by omega]

theorem getD_set (xs : List Nat) (j k v : Nat) (h : j < xs.length) : (xs.set j v).getD k 0 = if k = j then v else xs.getD k 0 := by
  simp only [List.getD_eq_getElem?_getD, List.getElem?_set]
  by_cases e : j = k
  · subst e; simp [h]
  · rw [if_neg e, if_neg (fun h => e h.symm)]

theorem bit_set {xs : List Nat} {i : Nat} (h : i / 8 < xs.length) (k : Nat) :
    bitAt (xs.set (i / 8) (xs.getD (i / 8) 0 ||| 2 ^ (i % 8))) k = (bitAt xs k || decide (k = i)) := by
  unfold bitAt
  rw [getD_set _ _ _ _ h]
  by_cases e : k / 8 = i / 8
  · rw [if_pos e, Nat.testBit_or, Nat.testBit_two_pow, e]
    congr 1
    by_cases e2 : k = i
    · subst e2; simp
    · have : i % 8 ≠ k % 8 := by omega
      simp [this, e2]
  · rw [if_neg e]
    have : k ≠ i := fun h => e (by rw [h])
    simp [this]

theorem byte_ext {x y : Nat} (hx : x < 256) (hy : y < 256) (h : ∀ t, t < 8 → x.testBit t = y.testBit t) : x = y := by
  apply Nat.eq_of_testBit_eq
  intro t
  by_cases ht : t < 8
  · exact h t ht
  · have e : (256 : Nat) ≤ 2 ^ t := Nat.le_trans (by decide : 256 ≤ 2 ^ 8) (Nat.pow_le_pow_right (by omega) (by omega))
    rw [Nat.testBit_lt_two_pow (by omega), Nat.testBit_lt_two_pow (by omega)]

theorem getD_byte {xs : List Nat} (h : ∀ x ∈ xs, x < 256) (j : Nat) : xs.getD j 0 < 256 := by
  rw [List.getD_eq_getElem?_getD]
  cases e : xs[j]? with
  | none => simp
  | some x => simpa using h x (List.mem_of_getElem? e)

theorem bits_ext {xs ys : List Nat} (hl : xs.length = ys.length) (hx : ∀ x ∈ xs, x < 256) (hy : ∀ x ∈ ys, x < 256) (h : ∀ k, bitAt xs k = bitAt ys k) : xs = ys := by
  apply List.ext_getElem hl
  intro j h1 h2
  have ex : xs.getD j 0 = xs[j] := by simp [h1]
  have ey : ys.getD j 0 = ys[j] := by simp [h2]
  rw [← ex, ← ey]
  apply byte_ext (getD_byte hx j) (getD_byte hy j)
  intro t ht
  rw [← bit_byte _ _ _ ht, ← bit_byte _ _ _ ht, h]

/-- A field of n bits. -/
def IsField (xs : List Nat) (n : Nat) : Prop := n ≤ 256 ∧ xs.length = (n + 7) / 8 ∧ ∀ k, n ≤ k → bitAt xs k = false

/-- What stands behind the n-th bit is 0, just if the last byte is small. -/
theorem behind_iff {xs : List Nat} {n : Nat} (hl : xs.length = (n + 7) / 8) (hb : ∀ x ∈ xs, x < 256) :
    (∀ k, n ≤ k → bitAt xs k = false) ↔ ¬ (0 < n % 8 ∧ 2 ^ (n % 8) ≤ xs.getD (n / 8) 0) := by
  constructor
  · intro h ⟨h0, h1⟩
    obtain ⟨t, ht, hb1⟩ := Nat.exists_ge_and_testBit_of_ge_two_pow h1
    have h8 : t < 8 := by
      rcases Nat.lt_or_ge t 8 with h | h
      · exact h
      · have e : (256 : Nat) ≤ 2 ^ t := Nat.le_trans (by decide : 256 ≤ 2 ^ 8) (Nat.pow_le_pow_right (by omega) (by omega))
        have := getD_byte hb (n / 8)
        rw [Nat.testBit_lt_two_pow (by omega)] at hb1
        cases hb1
    have := h (8 * (n / 8) + t) (by omega)
    rw [bit_byte _ _ _ h8] at this
    rw [this] at hb1
    cases hb1
  · intro h k hk
    by_cases e : k / 8 = n / 8
    · by_cases h0 : 0 < n % 8
      · have hlt : xs.getD (n / 8) 0 < 2 ^ (n % 8) := by
          rcases Nat.lt_or_ge (xs.getD (n / 8) 0) (2 ^ (n % 8)) with h2 | h2
          · exact h2
          · exact absurd ⟨h0, h2⟩ h
        unfold bitAt
        rw [e]
        exact Nat.testBit_lt_two_pow (Nat.lt_of_lt_of_le hlt (Nat.pow_le_pow_right (by omega) (by omega)))
      · exact bit_out (by omega)
    · exact bit_out (by omega)

/-- How many of the first k bits are 1. -/
def ones (xs : List Nat) (k : Nat) : Nat := (List.range k).countP (bitAt xs)
/-- Bytes in the midst of being packed from the end on: those from the i-th bit on are in. -/
def Tail (l : List Bool) (i : Nat) (ys : List Nat) : Prop := ∀ j t, (ys.getD j 0).testBit t = (decide (max i (8 * j) + t < 8 * j + 8) && l.getD (max i (8 * j) + t) false)
theorem Tail.start (l : List Bool) (m : Nat) : Tail l l.length (List.replicate m 0) := fun j t => by
  have e : (List.replicate m 0).getD j 0 = 0 := by rw [List.getD_eq_getElem?_getD, List.getElem?_replicate]; split <;> rfl
  rw [e, Nat.zero_testBit, getD_past _ (by omega)]
  simp
theorem Tail.small {l : List Bool} {i : Nat} {ys : List Nat} (h : Tail l (i + 1) ys) : ys.getD (i / 8) 0 < 128 := by
  apply Nat.lt_pow_two_of_testBit (n := 7)
  intro t ht
  rw [h]
  have : ¬ (max (i + 1) (8 * (i / 8)) + t < 8 * (i / 8) + 8) := by omega
  simp [this]
theorem Tail.step {l : List Bool} {i : Nat} {ys : List Nat} (h : Tail l (i + 1) ys) (hi : i / 8 < ys.length) : Tail l i (ys.set (i / 8) (2 * ys.getD (i / 8) 0 + (if l.getD i false then 1 else 0))) := fun j t => by
  rw [getD_set _ _ _ _ hi]
  by_cases e : j = i / 8
  · rw [if_pos e]
    subst e
    have hm : max i (8 * (i / 8)) = i := by omega
    rw [hm]
    cases t with
    | zero =>
      have : i + 0 < 8 * (i / 8) + 8 := by omega
      have e3 : decide (i + 0 < 8 * (i / 8) + 8) = true := decide_eq_true this
      rw [e3, Nat.testBit_zero, Nat.add_zero, Bool.true_and]
      cases l.getD i false
      · rw [if_neg (by simp)]; simp
      · rw [if_pos rfl]; simp
    | succ t =>
      rw [Nat.testBit_succ]
      have e2 : (2 * ys.getD (i / 8) 0 + (if l.getD i false then 1 else 0)) / 2 = ys.getD (i / 8) 0 := by split <;> omega
      rw [e2, h, show max (i + 1) (8 * (i / 8)) + t = i + (t + 1) by omega]
  · rw [if_neg e, h]
    by_cases hj : i / 8 < j
    · rw [show max (i + 1) (8 * j) = max i (8 * j) by omega]
    · have h1 : ¬ (max (i + 1) (8 * j) + t < 8 * j + 8) := by omega
      have h2 : ¬ (max i (8 * j) + t < 8 * j + 8) := by omega
      simp [h1, h2]
theorem Tail.done {l : List Bool} {ys : List Nat} (h : Tail l 0 ys) (k : Nat) : bitAt ys k = l.getD k false := by
  unfold bitAt
  rw [h, show max 0 (8 * (k / 8)) + k % 8 = k by omega]
  have : k < 8 * (k / 8) + 8 := by omega
  simp [this]

/-- What & and | of two bytes are. -/
theorem and_pow {x : Nat} (hx : x < 256) (k : Nat) (hk : k < 8) : bits .and .u8 (x : Int) ((2 ^ k : Nat) : Int) = ((x &&& 2 ^ k : Nat) : Int) :=
  (bits_nat .u8 8 (by decide) wraps_u8 x (2 ^ k) hx (Nat.pow_lt_pow_right (by omega) hk)).1
theorem or_bytes {x y : Nat} (hx : x < 256) (hy : y < 256) : bits .or .u8 (x : Int) (y : Int) = ((x ||| y : Nat) : Int) :=
  (bits_nat .u8 8 (by decide) wraps_u8 x y hx hy).2
theorem and_pow_zero (x k : Nat) : (x &&& 2 ^ k = 0) ↔ x.testBit k = false := by
  constructor
  · intro h
    have h2 := congrArg (fun z => z.testBit k) h
    simp only [Nat.testBit_and, Nat.testBit_two_pow, decide_true, Bool.and_true, Nat.zero_testBit] at h2
    exact h2
  · intro h
    apply Nat.eq_of_testBit_eq
    intro t
    rw [Nat.testBit_and, Nat.testBit_two_pow, Nat.zero_testBit]
    by_cases e : k = t
    · subst e; rw [h]; rfl
    · simp [e]
theorem or_lt {x y : Nat} (hx : x < 256) (hy : y < 256) : x ||| y < 256 := Nat.or_lt_two_pow (n := 8) hx hy
theorem pow_lt8 {k : Nat} (hk : k < 8) : 2 ^ k < 256 := Nat.pow_lt_pow_right (n := 8) (by omega) hk

end Go.Proofs.Ytcaejanfhchacaa
