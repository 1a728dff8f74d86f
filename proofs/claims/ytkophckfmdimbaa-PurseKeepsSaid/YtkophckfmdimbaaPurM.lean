/- Layer 17 (purse), plain: what is drawn, paid and moved of a list of words, with an error's number. -/
import Derived.Test.YtkophckfmdimbaaMoneySum
namespace Go.Proofs.Ytkophckfmdimbaa
open Go.RowKit
set_option linter.unusedVariables false

/-- There is no such account. -/
def NoPurse (xs : List Nat) (i : Int) : Prop := i < 0 ∨ (xs.length : Int) ≤ i
theorem purse_at {xs : List Nat} {i : Int} (h : ¬ NoPurse xs i) : ∃ k : Nat, i = (k : Int) ∧ k < xs.length := by
  unfold NoPurse at h
  exact ⟨i.toNat, by omega, by omega⟩
theorem purse_is {xs : List Nat} {k : Nat} (h : k < xs.length) : ¬ NoPurse xs (k : Int) := by
  unfold NoPurse
  omega

open Classical in
noncomputable def drawn (xs : List Nat) (i : Int) (n : Nat) : List Nat × Nat :=
  if NoPurse xs i then ([], 170) else if xs.getD i.toNat 0 < n then ([], 171) else (xs.set i.toNat (xs.getD i.toNat 0 - n), 0)
open Classical in
noncomputable def paid (xs : List Nat) (i : Int) (n : Nat) : List Nat × Nat :=
  if NoPurse xs i then ([], 170) else if 4611686018427387904 < xs.getD i.toNat 0 + n then ([], 10) else (xs.set i.toNat (xs.getD i.toNat 0 + n), 0)
open Classical in
noncomputable def moved (xs : List Nat) (i j : Int) (n : Nat) : List Nat × Nat :=
  if NoPurse xs j then ([], 170) else if (drawn xs i n).2 ≠ 0 then ([], (drawn xs i n).2) else paid (drawn xs i n).1 j n

theorem drawn_no {xs : List Nat} {i : Int} (n : Nat) (h : NoPurse xs i) : drawn xs i n = ([], 170) := if_pos h
theorem drawn_less {xs : List Nat} {k n : Nat} (hk : k < xs.length) (h : xs[k] < n) : drawn xs (k : Int) n = ([], 171) := by
  have e : xs.getD ((k : Int).toNat) 0 = xs[k] := by simp [hk]
  unfold drawn
  rw [if_neg (purse_is hk), e, if_pos h]
theorem drawn_ok {xs : List Nat} {k n : Nat} (hk : k < xs.length) (h : ¬ xs[k] < n) : drawn xs (k : Int) n = (xs.set k (xs[k] - n), 0) := by
  have e : xs.getD ((k : Int).toNat) 0 = xs[k] := by simp [hk]
  unfold drawn
  rw [if_neg (purse_is hk), e, if_neg h]
  rfl
theorem paid_no {xs : List Nat} {i : Int} (n : Nat) (h : NoPurse xs i) : paid xs i n = ([], 170) := if_pos h
theorem paid_over {xs : List Nat} {k n : Nat} (hk : k < xs.length) (h : 4611686018427387904 < xs[k] + n) : paid xs (k : Int) n = ([], 10) := by
  have e : xs.getD ((k : Int).toNat) 0 = xs[k] := by simp [hk]
  unfold paid
  rw [if_neg (purse_is hk), e, if_pos h]
theorem paid_ok {xs : List Nat} {k n : Nat} (hk : k < xs.length) (h : ¬ 4611686018427387904 < xs[k] + n) : paid xs (k : Int) n = (xs.set k (xs[k] + n), 0) := by
  have e : xs.getD ((k : Int).toNat) 0 = xs[k] := by simp [hk]
  unfold paid
  rw [if_neg (purse_is hk), e, if_neg h]
  rfl
theorem moved_no {xs : List Nat} {i j : Int} (n : Nat) (h : NoPurse xs j) : moved xs i j n = ([], 170) := if_pos h
theorem moved_not {xs : List Nat} {i j : Int} {n : Nat} (h : ¬ NoPurse xs j) (hd : (drawn xs i n).2 ≠ 0) : moved xs i j n = ([], (drawn xs i n).2) := by
  unfold moved
  rw [if_neg h, if_pos hd]
theorem moved_paid {xs : List Nat} {i j : Int} {n : Nat} (h : ¬ NoPurse xs j) (hd : (drawn xs i n).2 = 0) : moved xs i j n = paid (drawn xs i n).1 j n := by
  unfold moved
  rw [if_neg h, if_neg (by simp [hd])]

/-- What an answer is: no list beside an error, or as many as there were. -/
def Answer (xs : List Nat) (r : List Nat × Nat) : Prop := (r.1 = [] ∧ (r.2 = 170 ∨ r.2 = 171 ∨ r.2 = 10)) ∨ (r.1.length = xs.length ∧ r.2 = 0 ∧ ((∀ x ∈ xs, x ≤ 18446744073709551615) → ∀ x ∈ r.1, x ≤ 18446744073709551615))
theorem drawn_answer (xs : List Nat) (i : Int) (n : Nat) : Answer xs (drawn xs i n) := by
  by_cases h : NoPurse xs i
  · rw [drawn_no n h]; exact .inl ⟨rfl, .inl rfl⟩
  · obtain ⟨k, rfl, hk⟩ := purse_at h
    by_cases hl : xs[k] < n
    · rw [drawn_less hk hl]; exact .inl ⟨rfl, .inr (.inl rfl)⟩
    · rw [drawn_ok hk hl]
      refine .inr ⟨by simp, rfl, fun hx x hm => ?_⟩
      rcases List.mem_or_eq_of_mem_set hm with h1 | rfl
      · exact hx x h1
      · have := hx xs[k] (List.getElem_mem hk); omega
theorem paid_answer (xs : List Nat) (i : Int) (n : Nat) : Answer xs (paid xs i n) := by
  by_cases h : NoPurse xs i
  · rw [paid_no n h]; exact .inl ⟨rfl, .inl rfl⟩
  · obtain ⟨k, rfl, hk⟩ := purse_at h
    by_cases hl : 4611686018427387904 < xs[k] + n
    · rw [paid_over hk hl]; exact .inl ⟨rfl, .inr (.inr rfl)⟩
    · rw [paid_ok hk hl]
      refine .inr ⟨by simp, rfl, fun hx x hm => ?_⟩
      rcases List.mem_or_eq_of_mem_set hm with h1 | rfl
      · exact hx x h1
      · omega
theorem drawn_stays {xs : List Nat} {i : Int} {n : Nat} (h : (drawn xs i n).2 = 0) (j : Int) : NoPurse (drawn xs i n).1 j ↔ NoPurse xs j := by
  rcases drawn_answer xs i n with ⟨_, h1⟩ | ⟨h1, _, _⟩
  · omega
  · unfold NoPurse; rw [h1]
theorem moved_answer (xs : List Nat) (i j : Int) (n : Nat) : Answer xs (moved xs i j n) := by
  by_cases h : NoPurse xs j
  · rw [moved_no n h]; exact .inl ⟨rfl, .inl rfl⟩
  · by_cases hd : (drawn xs i n).2 = 0
    · rw [moved_paid h hd]
      rcases drawn_answer xs i n with ⟨_, h1⟩ | ⟨h1, _, h3⟩
      · omega
      · rcases paid_answer (drawn xs i n).1 j n with h4 | ⟨h4, h5, h6⟩
        · exact .inl h4
        · exact .inr ⟨by rw [h4, h1], h5, fun hx => h6 (h3 hx)⟩
    · rw [moved_not h hd]
      rcases drawn_answer xs i n with ⟨_, h1⟩ | ⟨_, h1, _⟩
      · exact .inl ⟨rfl, h1⟩
      · exact absurd h1 hd
theorem Answer.small {xs : List Nat} {r : List Nat × Nat} (h : Answer xs r) : r.2 ≤ 171 := by
  rcases h with ⟨_, h⟩ | ⟨_, h, _⟩ <;> omega

/-- Moved: there were both accounts, the one had so much, and the other has room. -/
theorem moved_is {xs : List Nat} {i j : Int} {n : Nat} (h : (moved xs i j n).2 = 0) :
    ∃ (k m : Nat) (hk : k < xs.length) (hm : m < xs.length), i = (k : Int) ∧ j = (m : Int) ∧ n ≤ xs[k] ∧ (xs.set k (xs[k] - n)).getD m 0 + n ≤ 4611686018427387904 ∧
      (moved xs i j n).1 = (xs.set k (xs[k] - n)).set m ((xs.set k (xs[k] - n)).getD m 0 + n) := by
  by_cases hj : NoPurse xs j
  · rw [moved_no n hj] at h; simp at h
  · by_cases hd : (drawn xs i n).2 = 0
    · rw [moved_paid hj hd] at h ⊢
      by_cases hi : NoPurse xs i
      · rw [drawn_no n hi] at hd; simp at hd
      · obtain ⟨k, rfl, hk⟩ := purse_at hi
        obtain ⟨m, rfl, hm⟩ := purse_at hj
        by_cases hl : xs[k] < n
        · rw [drawn_less hk hl] at hd; simp at hd
        · rw [drawn_ok hk hl] at h ⊢
          simp only at h ⊢
          have hm' : m < (xs.set k (xs[k] - n)).length := by simpa using hm
          by_cases ho : 4611686018427387904 < (xs.set k (xs[k] - n))[m] + n
          · rw [paid_over hm' ho] at h; simp at h
          · rw [paid_ok hm' ho]
            have e : (xs.set k (xs[k] - n)).getD m 0 = (xs.set k (xs[k] - n))[m] := by simp [hm]
            exact ⟨k, m, hk, hm, rfl, rfl, by omega, by rw [e]; omega, by rw [e]⟩
    · rw [moved_not hj hd] at h
      exact absurd h hd
end Go.Proofs.Ytkophckfmdimbaa
