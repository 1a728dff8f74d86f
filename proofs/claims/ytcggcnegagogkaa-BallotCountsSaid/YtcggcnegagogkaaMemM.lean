/- Layer 19 (member), plain: who has something at stake; what of many is active, and what is present. -/
import Derived.Test.YtcggcnegagogkaaPlM
import Derived.Test.YtcggcnegagogkaaRec
import Derived.Test.YtcggcnegagogkaaBitM
import Derived.Test.YtcggcnegagogkaaMoneySum
namespace Go.Proofs.Ytcggcnegagogkaa
open Go.RowKit
set_option linter.unusedVariables false

/-- A standing, and whose it is. -/
structure Mem where
  s : Std
  owner : Int
  status : Int
def Mem.vals (m : Mem) : Array Value := #[.int .u64 (m.s.bal : Int), .int .u64 (m.s.eff : Int), .int .u64 (m.s.score : Int), .int .i64 m.s.streak, .int .i64 m.owner, .int .i64 m.status]
instance : Rec Mem := ⟨Mem.vals, 6, fun _ => rfl, by decide, fun d => by simp [Mem.vals, Value.oneCell']⟩
def Mem.zero : Mem := ⟨Std.none, 0, 0⟩
/-- A standing is within its parameters. -/
def Std.held (p : Par) (s : Std) : Bool := decide (s.score ≤ p.scoreCap) && (decide (0 ≤ s.streak) && decide (s.streak ≤ p.streak))
theorem Std.held_iff {p : Par} {s : Std} : s.held p = true ↔ Std.within p s := by simp [Std.held, Std.within]
theorem Std.held_trim {p : Par} {s : Std} (h : s.held p = true) : Std.trim p s = s := Std.trim_of (Std.held_iff.1 h)
theorem Std.trim_held {p : Par} {s : Std} (hp : Par.Spans p) (h : Std.trim p s = s) : s.held p = true := by
  have := Std.trim_within hp s
  rw [h] at this
  exact Std.held_iff.2 this

namespace Mem
def counts (m : Mem) : Bool := decide (m.status = 2) || decide (m.status = 3)
def owned (m : Mem) : Bool := decide (0 ≤ m.owner) && decide (m.owner < 64)
def gone (m : Mem) : Bool := decide (m.status = 4) || decide (m.status = 5)
def staked (p : Par) (m : Mem) : Bool := decide (p.floor < m.s.bal) && decide (m.s.bal ≤ p.cap)
/-- What it has is right for its status. -/
def holds (p : Par) (m : Mem) : Bool :=
  bif m.counts then m.staked p && p.fit m.s.eff m.s.bal
  else bif decide (m.status = 1) then decide (0 < m.s.bal) && (decide (m.s.bal ≤ p.cap) && decide (m.s.eff = 0))
  else bif m.gone then decide (m.s.bal = 0) && decide (m.s.eff = 0) else false
/-- Of parameters that are right: is the member? -/
def fits (p : Par) (m : Mem) : Bool := m.s.held p && (m.owned && m.holds p)
/-- A member that waited, active. -/
def starts (p : Par) (m : Mem) : Bool := decide (m.status = 1) && m.staked p
def begun (p : Par) (m : Mem) : Mem := ⟨⟨m.s.bal, p.whole m.s.bal, m.s.score, 0⟩, m.owner, 2⟩
/-- One that has nothing any more. -/
def ended (m : Mem) (k : Int) : Mem := ⟨⟨0, 0, m.s.score, 0⟩, m.owner, k⟩
/-- One with more, as far as there is room. -/
def room (p : Par) (m : Mem) (n : Nat) : Nat := min n (p.cap - m.s.bal)
def again (p : Par) (m : Mem) (n : Nat) : Bool := m.gone && decide (0 < m.s.bal + m.room p n)
def credited (p : Par) (m : Mem) (n : Nat) : Mem :=
  bif m.again p n then ⟨⟨m.s.bal + m.room p n, 0, m.s.score, m.s.streak⟩, m.owner, 1⟩ else ⟨⟨m.s.bal + m.room p n, m.s.eff, m.s.score, m.s.streak⟩, m.owner, m.status⟩

theorem counts_two {m : Mem} (h : m.status = 2) : m.counts = true := by simp [counts, h]
theorem counts_three {m : Mem} (h : m.status = 3) : m.counts = true := by simp [counts, h]
theorem counts_no {m : Mem} (h : ¬ m.status = 2) (h2 : ¬ m.status = 3) : m.counts = false := by simp [counts, h, h2]
theorem counts_iff {m : Mem} : m.counts = true ↔ m.status = 2 ∨ m.status = 3 := by simp [counts]
theorem gone_iff {m : Mem} : m.gone = true ↔ m.status = 4 ∨ m.status = 5 := by simp [gone]
theorem staked_iff {p : Par} {m : Mem} : m.staked p = true ↔ p.floor < m.s.bal ∧ m.s.bal ≤ p.cap := by simp [staked]
theorem starts_iff {p : Par} {m : Mem} : m.starts p = true ↔ m.status = 1 ∧ m.staked p = true := by simp [starts]
theorem fits_iff {p : Par} {m : Mem} : m.fits p = true ↔ m.s.held p = true ∧ m.owned = true ∧ m.holds p = true := by simp [fits]
theorem holds_counts {p : Par} {m : Mem} (h : m.counts = true) : m.holds p = (m.staked p && p.fit m.s.eff m.s.bal) := by simp [holds, h]
theorem holds_one {p : Par} {m : Mem} (h : m.status = 1) : m.holds p = (decide (0 < m.s.bal) && (decide (m.s.bal ≤ p.cap) && decide (m.s.eff = 0))) := by simp [holds, counts, h]
theorem holds_gone {p : Par} {m : Mem} (h : m.gone = true) : m.holds p = (decide (m.s.bal = 0) && decide (m.s.eff = 0)) := by
  rcases gone_iff.1 h with e | e <;> simp [holds, counts, gone, e]
theorem holds_else {p : Par} {m : Mem} (h1 : m.counts = false) (h2 : ¬ m.status = 1) (h3 : m.gone = false) : m.holds p = false := by simp [holds, h1, h2, h3]
/-- What a member that fits has at most. -/
theorem holds_cap {p : Par} {m : Mem} (h : m.holds p = true) : m.s.bal ≤ p.cap := by
  cases hc : m.counts with
  | true =>
    rw [holds_counts hc] at h
    simp only [Bool.and_eq_true] at h
    exact (staked_iff.1 h.1).2
  | false =>
    by_cases h1 : m.status = 1
    · rw [holds_one h1] at h
      simp at h
      exact h.2.1
    · cases hg : m.gone with
      | true =>
        rw [holds_gone hg] at h
        simp at h
        omega
      | false => rw [holds_else hc h1 hg] at h; cases h
/-- Who fits and starts, fits. -/
theorem begun_fits {p : Par} {m : Mem} (hp : Par.Spans p) (h : m.fits p = true) (hs : m.starts p = true) : (m.begun p).fits p = true ∧ (m.begun p).counts = true := by
  obtain ⟨h1, h2, h3⟩ := fits_iff.1 h
  obtain ⟨h4, h5⟩ := starts_iff.1 hs
  have hc : (m.begun p).counts = true := counts_two rfl
  refine ⟨fits_iff.2 ⟨?_, h2, ?_⟩, hc⟩
  · have a := Std.held_iff.1 h1
    have := hp.streak0
    exact Std.held_iff.2 ⟨a.1, Int.le_refl _, this⟩
  · rw [holds_counts hc]
    show (m.staked p && p.fit (p.whole m.s.bal) m.s.bal) = true
    rw [h5, Par.whole_fit hp (staked_iff.1 h5).1]
    rfl
/-- Who fits and ends, fits. -/
theorem ended_fits {p : Par} {m : Mem} {k : Int} (hp : Par.Spans p) (h : m.fits p = true) (hk : k = 4 ∨ k = 5) : (m.ended k).fits p = true := by
  obtain ⟨h1, h2, h3⟩ := fits_iff.1 h
  refine fits_iff.2 ⟨?_, h2, ?_⟩
  · have a := Std.held_iff.1 h1
    have := hp.streak0
    exact Std.held_iff.2 ⟨a.1, Int.le_refl _, this⟩
  · rw [holds_gone (gone_iff.2 hk)]
    rfl
theorem credited_bal (p : Par) (m : Mem) (n : Nat) : (m.credited p n).s.bal = m.s.bal + m.room p n := by
  unfold credited
  cases m.again p n <;> rfl
theorem credited_words {p : Par} {m : Mem} {n : Nat} (h : m.s.Fits) (e : (m.credited p n).s.bal < 18446744073709551616) : (m.credited p n).s.Fits := by
  rw [credited_bal] at e
  unfold credited
  cases m.again p n with
  | true => exact ⟨e, by show (0 : Nat) < _; omega, h.score, h.lo, h.hi⟩
  | false => exact ⟨e, h.eff, h.score, h.lo, h.hi⟩
/-- Who fits, doesn't count, and is credited, fits if it is pending then. -/
theorem credited_fits {p : Par} {m : Mem} {n : Nat} (h : m.fits p = true) (hc : m.counts = false) (hk : (m.credited p n).status = 1) : (m.credited p n).fits p = true := by
  obtain ⟨h1, h2, h3⟩ := fits_iff.1 h
  have hcap := holds_cap h3
  have hr : m.s.bal + m.room p n ≤ p.cap := by unfold room; omega
  cases ha : m.again p n with
  | true =>
    have e : m.credited p n = ⟨⟨m.s.bal + m.room p n, 0, m.s.score, m.s.streak⟩, m.owner, 1⟩ := by simp [credited, ha]
    rw [e]
    refine fits_iff.2 ⟨h1, h2, ?_⟩
    rw [holds_one rfl]
    simp only [again, Bool.and_eq_true] at ha
    have := of_decide_eq_true ha.2
    simp only [Bool.and_eq_true, decide_eq_true_eq]
    exact ⟨this, hr, by trivial⟩
  | false =>
    have e : m.credited p n = ⟨⟨m.s.bal + m.room p n, m.s.eff, m.s.score, m.s.streak⟩, m.owner, m.status⟩ := by simp [credited, ha]
    rw [e] at hk ⊢
    have hk' : m.status = 1 := hk
    refine fits_iff.2 ⟨h1, h2, ?_⟩
    rw [holds_one hk'] at h3
    rw [holds_one hk]
    simp only [Bool.and_eq_true, decide_eq_true_eq] at h3 ⊢
    exact ⟨by omega, hr, h3.2.2⟩
end Mem

/-- The effective balances of those that are picked, of the first k. -/
def picked (f : Nat → Mem → Bool) (l : List Mem) : Nat → List Nat
  | 0 => []
  | k + 1 => picked f l k ++ (match l[k]? with | some m => if f k m = true then [m.s.eff] else [] | none => [])
theorem picked_yes {f : Nat → Mem → Bool} {l : List Mem} {k : Nat} {m : Mem} (h : l[k]? = some m) (hf : f k m = true) : picked f l (k + 1) = picked f l k ++ [m.s.eff] := by
  show picked f l k ++ _ = _
  rw [h]
  simp [hf]
theorem picked_no {f : Nat → Mem → Bool} {l : List Mem} {k : Nat} {m : Mem} (h : l[k]? = some m) (hf : f k m = false) : picked f l (k + 1) = picked f l k := by
  show picked f l k ++ _ = _
  rw [h]
  simp [hf]
theorem tot_snoc (l : List Nat) (x : Nat) : tot (l ++ [x]) = tot l + x := by
  rw [tot_append]
  rfl
theorem picked_up (f : Nat → Mem → Bool) (l : List Mem) (k : Nat) : ∀ j, tot (picked f l k) ≤ tot (picked f l (k + j))
  | 0 => Nat.le_refl _
  | j + 1 => by
    have ih := picked_up f l k j
    refine Nat.le_trans ih ?_
    show _ ≤ tot (picked f l (k + j) ++ _)
    rw [tot_append]
    exact Nat.le_add_right _ _
theorem picked_mono (f : Nat → Mem → Bool) (l : List Mem) {k n : Nat} (h : k ≤ n) : tot (picked f l k) ≤ tot (picked f l n) := by
  obtain ⟨j, rfl⟩ : ∃ j, n = k + j := ⟨n - k, by omega⟩
  exact picked_up f l k j
theorem picked_less {f g : Nat → Mem → Bool} (h : ∀ k m, f k m = true → g k m = true) (l : List Mem) : ∀ k, tot (picked f l k) ≤ tot (picked g l k)
  | 0 => Nat.le_refl _
  | k + 1 => by
    have ih := picked_less h l k
    rcases hm : l[k]? with _ | m
    · show tot (picked f l k ++ _) ≤ tot (picked g l k ++ _)
      rw [hm]
      simpa using ih
    · cases hf : f k m with
      | true =>
        rw [picked_yes hm hf, picked_yes hm (h k m hf), tot_snoc, tot_snoc]
        omega
      | false =>
        rw [picked_no hm hf]
        exact Nat.le_trans ih (picked_up g l k 1)
theorem picked_len (f : Nat → Mem → Bool) (l : List Mem) : ∀ k, (picked f l k).length ≤ k
  | 0 => Nat.le_refl _
  | k + 1 => by
    have ih := picked_len f l k
    show (picked f l k ++ _).length ≤ _
    rw [List.length_append]
    split
    · split <;> simp <;> omega
    · simp; omega
theorem picked_most {f : Nat → Mem → Bool} {l : List Mem} {M : Nat} (h : ∀ m ∈ l, m.s.eff ≤ M) : ∀ k, ∀ n ∈ picked f l k, n ≤ M
  | 0, n, hn => by cases hn
  | k + 1, n, hn => by
    rcases List.mem_append.1 hn with h1 | h1
    · exact picked_most h k n h1
    · split at h1
      · rename_i m hm
        split at h1
        · simp at h1
          subst h1
          exact h m (List.mem_of_getElem? hm)
        · simp at h1
      · simp at h1
def isAct (_ : Nat) (m : Mem) : Bool := m.counts
def isThere (xs : List Nat) (k : Nat) (m : Mem) : Bool := m.counts && bitAt xs k
theorem there_act {xs : List Nat} (k : Nat) (m : Mem) (h : isThere xs k m = true) : isAct k m = true := by
  unfold isThere at h
  simp only [Bool.and_eq_true] at h
  exact h.1
/-- All that is active, all that is present. -/
def actives (l : List Mem) (k : Nat) : Nat := tot (picked isAct l k)
def presents (l : List Mem) (xs : List Nat) (k : Nat) : Nat := tot (picked (isThere xs) l k)
theorem presents_le (l : List Mem) (xs : List Nat) (k : Nat) : presents l xs k ≤ actives l k := picked_less there_act l k
/-- What comes of it: what is present, what is active, an error's number. -/
def stk (l : List Mem) (xs : List Nat) : Nat × Nat × Nat :=
  if actives l l.length ≤ 18446744073709551615 then (presents l xs l.length, actives l l.length, 0) else (0, 0, 10)
theorem stk_in {l : List Mem} {xs : List Nat} (h : actives l l.length ≤ 18446744073709551615) : stk l xs = (presents l xs l.length, actives l l.length, 0) := if_pos h
theorem stk_out {l : List Mem} {xs : List Nat} (h : ¬ actives l l.length ≤ 18446744073709551615) : stk l xs = (0, 0, 10) := if_neg h
theorem stk_le (l : List Mem) (xs : List Nat) : (stk l xs).1 ≤ (stk l xs).2.1 := by
  unfold stk
  split
  · exact presents_le l xs _
  · exact Nat.le_refl _
end Go.Proofs.Ytcggcnegagogkaa
