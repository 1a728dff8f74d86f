/- Layer 17 (purse), plain: what is pdrawn, ppaid and pmoved of a list of words, with an error's number. -/
import Derived.Test.YtkophckfmdimbaaMoneySum
namespace Go.Proofs.Ytkophckfmdimbaa
open Go.RowKit
set_option linter.unusedVariables false

/-- There is no such account. -/
def NoPurse (xs : List Nat) (i : Int) : Prop := i < 0 ∨ (xs.length : Int) ≤ i
instance (xs : List Nat) (i : Int) : Decidable (NoPurse xs i) := inferInstanceAs (Decidable (i < 0 ∨ (xs.length : Int) ≤ i))
theorem purse_at {xs : List Nat} {i : Int} (h : ¬ NoPurse xs i) : ∃ k : Nat, i = (k : Int) ∧ k < xs.length := by
  unfold NoPurse at h
  exact ⟨i.toNat, by omega, by omega⟩
theorem purse_is {xs : List Nat} {k : Nat} (h : k < xs.length) : ¬ NoPurse xs (k : Int) := by
  unfold NoPurse
  omega

def pdrawn (xs : List Nat) (i : Int) (n : Nat) : List Nat × Nat :=
  if NoPurse xs i then ([], 170) else if xs.getD i.toNat 0 < n then ([], 171) else (xs.set i.toNat (xs.getD i.toNat 0 - n), 0)
def ppaid (xs : List Nat) (i : Int) (n : Nat) : List Nat × Nat :=
  if NoPurse xs i then ([], 170) else if 4611686018427387904 < xs.getD i.toNat 0 + n then ([], 10) else (xs.set i.toNat (xs.getD i.toNat 0 + n), 0)
def pmoved (xs : List Nat) (i j : Int) (n : Nat) : List Nat × Nat :=
  if NoPurse xs j then ([], 170) else if (pdrawn xs i n).2 ≠ 0 then ([], (pdrawn xs i n).2) else ppaid (pdrawn xs i n).1 j n

theorem pdrawn_no {xs : List Nat} {i : Int} (n : Nat) (h : NoPurse xs i) : pdrawn xs i n = ([], 170) := if_pos h
theorem pdrawn_less {xs : List Nat} {k n : Nat} (hk : k < xs.length) (h : xs[k] < n) : pdrawn xs (k : Int) n = ([], 171) := by
  have e : xs.getD ((k : Int).toNat) 0 = xs[k] := by simp [hk]
  unfold pdrawn
  rw [if_neg (purse_is hk), e, if_pos h]
theorem pdrawn_ok {xs : List Nat} {k n : Nat} (hk : k < xs.length) (h : ¬ xs[k] < n) : pdrawn xs (k : Int) n = (xs.set k (xs[k] - n), 0) := by
  have e : xs.getD ((k : Int).toNat) 0 = xs[k] := by simp [hk]
  unfold pdrawn
  rw [if_neg (purse_is hk), e, if_neg h]
  rfl
theorem ppaid_no {xs : List Nat} {i : Int} (n : Nat) (h : NoPurse xs i) : ppaid xs i n = ([], 170) := if_pos h
theorem ppaid_over {xs : List Nat} {k n : Nat} (hk : k < xs.length) (h : 4611686018427387904 < xs[k] + n) : ppaid xs (k : Int) n = ([], 10) := by
  have e : xs.getD ((k : Int).toNat) 0 = xs[k] := by simp [hk]
  unfold ppaid
  rw [if_neg (purse_is hk), e, if_pos h]
theorem ppaid_ok {xs : List Nat} {k n : Nat} (hk : k < xs.length) (h : ¬ 4611686018427387904 < xs[k] + n) : ppaid xs (k : Int) n = (xs.set k (xs[k] + n), 0) := by
  have e : xs.getD ((k : Int).toNat) 0 = xs[k] := by simp [hk]
  unfold ppaid
  rw [if_neg (purse_is hk), e, if_neg h]
  rfl
theorem pmoved_no {xs : List Nat} {i j : Int} (n : Nat) (h : NoPurse xs j) : pmoved xs i j n = ([], 170) := if_pos h
theorem pmoved_not {xs : List Nat} {i j : Int} {n : Nat} (h : ¬ NoPurse xs j) (hd : (pdrawn xs i n).2 ≠ 0) : pmoved xs i j n = ([], (pdrawn xs i n).2) := by
  unfold pmoved
  rw [if_neg h, if_pos hd]
theorem pmoved_paid {xs : List Nat} {i j : Int} {n : Nat} (h : ¬ NoPurse xs j) (hd : (pdrawn xs i n).2 = 0) : pmoved xs i j n = ppaid (pdrawn xs i n).1 j n := by
  unfold pmoved
  rw [if_neg h, if_neg (by simp [hd])]

/-- What an answer is: no list beside an error, or as many as there were. -/
def Answer (xs : List Nat) (r : List Nat × Nat) : Prop := (r.1 = [] ∧ (r.2 = 170 ∨ r.2 = 171 ∨ r.2 = 10)) ∨ (r.1.length = xs.length ∧ r.2 = 0 ∧ ((∀ x ∈ xs, x ≤ 18446744073709551615) → ∀ x ∈ r.1, x ≤ 18446744073709551615))
theorem pdrawn_answer (xs : List Nat) (i : Int) (n : Nat) : Answer xs (pdrawn xs i n) := by
  by_cases h : NoPurse xs i
  · rw [pdrawn_no n h]; exact .inl ⟨rfl, .inl rfl⟩
  · obtain ⟨k, rfl, hk⟩ := purse_at h
    by_cases hl : xs[k] < n
    · rw [pdrawn_less hk hl]; exact .inl ⟨rfl, .inr (.inl rfl)⟩
    · rw [pdrawn_ok hk hl]
      refine .inr ⟨by simp, rfl, fun hx x hm => ?_⟩
      rcases List.mem_or_eq_of_mem_set hm with h1 | rfl
      · exact hx x h1
      · have := hx xs[k] (List.getElem_mem hk); omega
theorem ppaid_answer (xs : List Nat) (i : Int) (n : Nat) : Answer xs (ppaid xs i n) := by
  by_cases h : NoPurse xs i
  · rw [ppaid_no n h]; exact .inl ⟨rfl, .inl rfl⟩
  · obtain ⟨k, rfl, hk⟩ := purse_at h
    by_cases hl : 4611686018427387904 < xs[k] + n
    · rw [ppaid_over hk hl]; exact .inl ⟨rfl, .inr (.inr rfl)⟩
    · rw [ppaid_ok hk hl]
      refine .inr ⟨by simp, rfl, fun hx x hm => ?_⟩
      rcases List.mem_or_eq_of_mem_set hm with h1 | rfl
      · exact hx x h1
      · omega
theorem pdrawn_stays {xs : List Nat} {i : Int} {n : Nat} (h : (pdrawn xs i n).2 = 0) (j : Int) : NoPurse (pdrawn xs i n).1 j ↔ NoPurse xs j := by
  rcases pdrawn_answer xs i n with ⟨_, h1⟩ | ⟨h1, _, _⟩
  · omega
  · unfold NoPurse; rw [h1]
theorem pmoved_answer (xs : List Nat) (i j : Int) (n : Nat) : Answer xs (pmoved xs i j n) := by
  by_cases h : NoPurse xs j
  · rw [pmoved_no n h]; exact .inl ⟨rfl, .inl rfl⟩
  · by_cases hd : (pdrawn xs i n).2 = 0
    · rw [pmoved_paid h hd]
      rcases pdrawn_answer xs i n with ⟨_, h1⟩ | ⟨h1, _, h3⟩
      · omega
      · rcases ppaid_answer (pdrawn xs i n).1 j n with h4 | ⟨h4, h5, h6⟩
        · exact .inl h4
        · exact .inr ⟨by rw [h4, h1], h5, fun hx => h6 (h3 hx)⟩
    · rw [pmoved_not h hd]
      rcases pdrawn_answer xs i n with ⟨_, h1⟩ | ⟨_, h1, _⟩
      · exact .inl ⟨rfl, h1⟩
      · exact absurd h1 hd
theorem Answer.small {xs : List Nat} {r : List Nat × Nat} (h : Answer xs r) : r.2 ≤ 171 := by
  rcases h with ⟨_, h⟩ | ⟨_, h, _⟩ <;> omega

/-- Moved: there were both accounts, the one had so much, and the other has room. -/
theorem pmoved_is {xs : List Nat} {i j : Int} {n : Nat} (h : (pmoved xs i j n).2 = 0) :
    ∃ (k m : Nat) (hk : k < xs.length) (hm : m < xs.length), i = (k : Int) ∧ j = (m : Int) ∧ n ≤ xs[k] ∧ (xs.set k (xs[k] - n)).getD m 0 + n ≤ 4611686018427387904 ∧
      (pmoved xs i j n).1 = (xs.set k (xs[k] - n)).set m ((xs.set k (xs[k] - n)).getD m 0 + n) := by
  by_cases hj : NoPurse xs j
  · rw [pmoved_no n hj] at h; simp at h
  · by_cases hd : (pdrawn xs i n).2 = 0
    · rw [pmoved_paid hj hd] at h ⊢
      by_cases hi : NoPurse xs i
      · rw [pdrawn_no n hi] at hd; simp at hd
      · obtain ⟨k, rfl, hk⟩ := purse_at hi
        obtain ⟨m, rfl, hm⟩ := purse_at hj
        by_cases hl : xs[k] < n
        · rw [pdrawn_less hk hl] at hd; simp at hd
        · rw [pdrawn_ok hk hl] at h ⊢
          simp only at h ⊢
          have hm' : m < (xs.set k (xs[k] - n)).length := by simpa using hm
          by_cases ho : 4611686018427387904 < (xs.set k (xs[k] - n))[m] + n
          · rw [ppaid_over hm' ho] at h; simp at h
          · rw [ppaid_ok hm' ho]
            have e : (xs.set k (xs[k] - n)).getD m 0 = (xs.set k (xs[k] - n))[m] := by simp [hm]
            exact ⟨k, m, hk, hm, rfl, rfl, by omega, by rw [e]; omega, by rw [e]⟩
    · rw [pmoved_not hj hd] at h
      exact absurd h hd
end Go.Proofs.Ytkophckfmdimbaa
