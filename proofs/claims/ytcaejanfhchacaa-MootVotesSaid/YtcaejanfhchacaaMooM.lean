/- Layer 23 (moot): motions as plain data: which fit, what a vote makes of them, what is counted, what is ripe, what is over. -/
import Derived.Test.YtcaejanfhchacaaSta
import Derived.Test.YtcaejanfhchacaaBal
namespace Go.Proofs.Ytcaejanfhchacaa
open Classical
set_option linter.unusedVariables false
set_option linter.unusedSimpArgs false

/-- Where the i-th of a list is, if there is one. -/
def motAt {α : Type} (L : List α) (i : Int) : Option α := if 0 ≤ i then L[i.toNat]? else none
theorem motAt_some {α : Type} {L : List α} {i : Int} {m : α} (h : motAt L i = some m) : ∃ j : Nat, i = (j : Int) ∧ L[j]? = some m := by
  unfold motAt at h
  split at h
  · rename_i h0
    exact ⟨i.toNat, by omega, h⟩
  · cases h
theorem motAt_none {α : Type} {L : List α} {i : Int} (h : motAt L i = none) : i < 0 ∨ (L.length : Int) ≤ i := by
  unfold motAt at h
  split at h
  · rw [List.getElem?_eq_none_iff] at h
    omega
  · omega
theorem motAt_nat {α : Type} {L : List α} {j : Nat} {m : α} (h : L[j]? = some m) : motAt L (j : Int) = some m := by
  unfold motAt
  rw [if_pos (by omega)]
  simpa using h

theorem motAt_map {α β : Type} (f : α → β) (L : List α) (i : Int) : motAt (L.map f) i = (motAt L i).map f := by
  unfold motAt
  split
  · rw [List.getElem?_map]
  · rfl
/-- A motion with one vote more. -/
def PMot.voted (m : PMot) (k : Nat) (y : Bool) : PMot := if y then { m with yes := setBit m.yes k } else { m with no := setBit m.no k }
/-- Whether a member may vote on it, as to its fields. -/
def PMot.has (m : PMot) (k : Int) : Prop := 0 ≤ k ∧ k ≤ 127 ∧ k.toNat / 8 < m.yes.length ∧ k.toNat / 8 < m.no.length
def PMot.twice (m : PMot) (k : Nat) : Bool := bitAt m.yes k || bitAt m.no k
/-- What comes of a vote: the motions, an error's number. -/
noncomputable def pvote (L : List PMot) (i k : Int) (y : Bool) : List PMot × Nat :=
  match motAt L i with
  | none => ([], 230)
  | some m => if m.st = 1 then (if m.has k then (if m.twice k.toNat = true then ([], 231) else (L.set i.toNat (m.voted k.toNat y), 0)) else ([], 2)) else ([], 232)
theorem pvote_none {L : List PMot} {i : Int} (k : Int) (y : Bool) (h : motAt L i = none) : pvote L i k y = ([], 230) := by unfold pvote; rw [h]
theorem pvote_closed {L : List PMot} {j : Nat} {m : PMot} (k : Int) (y : Bool) (h : L[j]? = some m) (h1 : ¬ m.st = 1) : pvote L (j : Int) k y = ([], 232) := by
  unfold pvote; rw [motAt_nat h]; simp only [if_neg h1]
theorem pvote_arg {L : List PMot} {j : Nat} {m : PMot} {k : Int} (y : Bool) (h : L[j]? = some m) (h1 : m.st = 1) (h2 : ¬ m.has k) : pvote L (j : Int) k y = ([], 2) := by
  unfold pvote; rw [motAt_nat h]; simp only [if_pos h1, if_neg h2]
theorem pvote_twice {L : List PMot} {j : Nat} {m : PMot} {k : Int} (y : Bool) (h : L[j]? = some m) (h1 : m.st = 1) (h2 : m.has k) (h3 : m.twice k.toNat = true) : pvote L (j : Int) k y = ([], 231) := by
  unfold pvote; rw [motAt_nat h]; simp only [if_pos h1, if_pos h2, if_pos h3]
theorem pvote_ok {L : List PMot} {j : Nat} {m : PMot} {k : Int} (y : Bool) (h : L[j]? = some m) (h1 : m.st = 1) (h2 : m.has k) (h3 : m.twice k.toNat = false) : pvote L (j : Int) k y = (L.set j (m.voted k.toNat y), 0) := by
  unfold pvote; rw [motAt_nat h]; simp only [if_pos h1, if_pos h2, h3, Bool.false_eq_true, if_false, Int.toNat_natCast]
theorem PMot.voted_twice {m : PMot} {k : Nat} {y : Bool} (h : k / 8 < m.yes.length) (h2 : k / 8 < m.no.length) : (m.voted k y).twice k = true := by
  unfold PMot.voted PMot.twice
  cases y
  · simp [setBit_at h2]
  · simp [setBit_at h]
theorem PMot.voted_st (m : PMot) (k : Nat) (y : Bool) : (m.voted k y).st = m.st := by unfold PMot.voted; cases y <;> rfl
theorem PMot.voted_has {m : PMot} {k : Int} (j : Nat) (y : Bool) (h : m.has k) : (m.voted j y).has k := by
  unfold PMot.has at *
  unfold PMot.voted
  cases y
  · simpa [setBit_len] using h
  · simpa [setBit_len] using h
/-- A vote that was taken. -/
theorem pvote_done {L L' : List PMot} {i k : Int} {y : Bool} (h : pvote L i k y = (L', 0)) : ∃ (j : Nat) (m : PMot), i = (j : Int) ∧ L[j]? = some m ∧ m.st = 1 ∧ m.has k ∧ m.twice k.toNat = false ∧ L' = L.set j (m.voted k.toNat y) := by
  cases hm : motAt L i with
  | none => rw [pvote_none k y hm] at h; simp at h
  | some m =>
    obtain ⟨j, rfl, hj⟩ := motAt_some hm
    by_cases h1 : m.st = 1
    · by_cases h2 : m.has k
      · cases h3 : m.twice k.toNat with
        | true => rw [pvote_twice y hj h1 h2 h3] at h; simp at h
        | false =>
          rw [pvote_ok y hj h1 h2 h3] at h
          simp only [Prod.mk.injEq, and_true] at h
          exact ⟨j, m, rfl, hj, h1, h2, h3, h.symm⟩
      · rw [pvote_arg y hj h1 h2] at h; simp at h
    · rw [pvote_closed k y hj h1] at h; simp at h
/-- Nobody votes twice. -/
theorem pvote_again {L L' : List PMot} {i k : Int} {y : Bool} (h : pvote L i k y = (L', 0)) (y' : Bool) : pvote L' i k y' = ([], 231) := by
  obtain ⟨j, m, rfl, hj, h1, h2, h3, rfl⟩ := pvote_done h
  have hl := (List.getElem?_eq_some_iff.1 hj).1
  refine pvote_twice (m := m.voted k.toNat y) y' (List.getElem?_set_self hl) ((m.voted_st _ _).trans h1) (PMot.voted_has _ _ h2) ?_
  have h4 := h2
  unfold PMot.has at h4
  exact PMot.voted_twice h4.2.2.1 h4.2.2.2
theorem pvote_len {L L' : List PMot} {i k : Int} {y : Bool} (h : pvote L i k y = (L', 0)) : L'.length = L.length := by
  obtain ⟨j, m, rfl, hj, h1, h2, h3, rfl⟩ := pvote_done h
  simp
/-- Words of an outcome. -/
theorem pvote_err {L : List PMot} {i k : Int} {y : Bool} : (pvote L i k y).2 = 0 ∨ ((pvote L i k y).1 = [] ∧ 0 < (pvote L i k y).2 ∧ (pvote L i k y).2 ≤ 300) := by
  cases hm : motAt L i with
  | none => rw [pvote_none k y hm]; exact .inr ⟨rfl, by simp, by simp⟩
  | some m =>
    obtain ⟨j, rfl, hj⟩ := motAt_some hm
    by_cases h1 : m.st = 1
    · by_cases h2 : m.has k
      · cases h3 : m.twice k.toNat with
        | true => rw [pvote_twice y hj h1 h2 h3]; exact .inr ⟨rfl, by simp, by simp⟩
        | false => rw [pvote_ok y hj h1 h2 h3]; exact .inl rfl
      · rw [pvote_arg y hj h1 h2]; exact .inr ⟨rfl, by simp, by simp⟩
    · rw [pvote_closed k y hj h1]; exact .inr ⟨rfl, by simp, by simp⟩

def PMot.over (m : PMot) : Bool := m.st == 3 || m.st == 4
def freeOf (L : List PMot) : Nat := (L.findIdx? PMot.over).getD L.length
theorem freeOf_le (L : List PMot) : freeOf L ≤ L.length := by
  unfold freeOf
  cases h : L.findIdx? PMot.over with
  | none => exact Nat.le_refl _
  | some k => have := (List.findIdx?_eq_some_iff_getElem.1 h).1; simp; omega
/-- Whether enough are for it. -/
def PMot.carried (q : Int) (mems : List Mem) (m : PMot) : Bool := decide (actives mems mems.length ≤ 18446744073709551615) && passes q ⟨presents mems m.yes mems.length, presents mems m.no mems.length, actives mems mems.length⟩
def dueOf (epoch enact : Int) : Int := min (epoch + enact) 2147483647
/-- A motion behind a count. -/
def PMot.closed (q enact : Int) (mems : List Mem) (epoch : Int) (m : PMot) : PMot :=
  if m.st = 1 ∧ m.ends ≤ epoch then (if m.carried q mems = true then { m with due := dueOf epoch enact, st := 2 } else { m with st := 4 }) else m
theorem closed_st (q enact : Int) (mems : List Mem) (epoch : Int) (m : PMot) : ((m.closed q enact mems epoch).st = 1 → epoch < (m.closed q enact mems epoch).ends) ∧ (m.st ≠ 1 → (m.closed q enact mems epoch).st = m.st) := by
  unfold PMot.closed
  split
  · rename_i h
    split
    · exact ⟨fun e => by simp at e, fun e => absurd h.1 e⟩
    · exact ⟨fun e => by simp at e, fun e => absurd h.1 e⟩
  · rename_i h
    exact ⟨fun e => by have : ¬ m.ends ≤ epoch := fun h2 => h ⟨e, h2⟩; omega, fun _ => rfl⟩

/-- Whether its time has come. -/
def PMot.ripe (epoch : Int) (q : Bool) (m : PMot) : Bool := decide (m.st = 2) && (decide (m.due ≤ epoch) && (q || (decide (m.what = 3) || decide (m.what = 4))))
/-- The places of those, of the first k. -/
def ripes (L : List PMot) (epoch : Int) (q : Bool) : Nat → List Int
  | 0 => []
  | k + 1 => ripes L epoch q k ++ (match L[k]? with | some m => if m.ripe epoch q = true then [(k : Int)] else [] | none => [])
theorem ripes_yes {L : List PMot} {epoch : Int} {q : Bool} {k : Nat} {m : PMot} (h : L[k]? = some m) (h1 : m.ripe epoch q = true) : ripes L epoch q (k + 1) = ripes L epoch q k ++ [(k : Int)] := by
  rw [ripes, h]; simp only [if_pos h1]
theorem ripes_no {L : List PMot} {epoch : Int} {q : Bool} {k : Nat} {m : PMot} (h : L[k]? = some m) (h1 : m.ripe epoch q = false) : ripes L epoch q (k + 1) = ripes L epoch q k := by
  rw [ripes, h]; simp [h1]
theorem ripes_len (L : List PMot) (epoch : Int) (q : Bool) : ∀ k, (ripes L epoch q k).length ≤ k
  | 0 => Nat.le_refl _
  | k + 1 => by
    have ih := ripes_len L epoch q k
    rw [ripes, List.length_append]
    split
    · split <;> simp <;> omega
    · simp; omega
theorem ripes_mem {L : List PMot} {epoch : Int} {q : Bool} {x : Int} : ∀ {k : Nat}, x ∈ ripes L epoch q k → ∃ (j : Nat) (m : PMot), x = (j : Int) ∧ j < k ∧ L[j]? = some m ∧ m.ripe epoch q = true
  | 0, h => by cases h
  | k + 1, h => by
    rw [ripes] at h
    rcases List.mem_append.1 h with h | h
    · obtain ⟨j, m, h1, h2, h3⟩ := ripes_mem h
      exact ⟨j, m, h1, by omega, h3⟩
    · split at h
      · rename_i m hm
        split at h
        · rename_i hr
          simp only [List.mem_cons, List.not_mem_nil, or_false] at h
          exact ⟨k, m, h, by omega, hm, hr⟩
        · cases h
      · cases h
theorem ripe_st {m : PMot} {epoch : Int} {q : Bool} (h : m.ripe epoch q = true) : m.st = 2 := by
  unfold PMot.ripe at h
  simp only [Bool.and_eq_true, decide_eq_true_eq] at h
  exact h.1

/-- What comes of what is over: the motions, an error's number. -/
def PMot.finished (m : PMot) (done : Bool) : PMot := { m with st := if done then 3 else 4 }
noncomputable def pfinish (L : List PMot) (i : Int) (done : Bool) : List PMot × Nat :=
  match motAt L i with
  | none => ([], 230)
  | some m => if m.st = 2 then (L.set i.toNat (m.finished done), 0) else ([], 291)
theorem pfinish_none {L : List PMot} {i : Int} (y : Bool) (h : motAt L i = none) : pfinish L i y = ([], 230) := by unfold pfinish; rw [h]
theorem pfinish_state {L : List PMot} {j : Nat} {m : PMot} (y : Bool) (h : L[j]? = some m) (h1 : ¬ m.st = 2) : pfinish L (j : Int) y = ([], 291) := by
  unfold pfinish; rw [motAt_nat h]; simp only [if_neg h1]
theorem pfinish_ok {L : List PMot} {j : Nat} {m : PMot} (y : Bool) (h : L[j]? = some m) (h1 : m.st = 2) : pfinish L (j : Int) y = (L.set j (m.finished y), 0) := by
  unfold pfinish; rw [motAt_nat h]; simp only [if_pos h1, Int.toNat_natCast]
/-- What is done is ripe no more. -/
theorem ripes_done {L : List PMot} {epoch : Int} {q : Bool} {j : Nat} {m : PMot} (h : L[j]? = some m) {x : Int} {n : Nat} (hx : x ∈ ripes (L.set j (m.finished true)) epoch q n) : x ≠ (j : Int) := by
  obtain ⟨k, m', rfl, h2, h3, h4⟩ := ripes_mem hx
  intro e
  have : k = j := by omega
  subst this
  rw [List.getElem?_set_self (List.getElem?_eq_some_iff.1 h).1] at h3
  cases h3
  have := ripe_st h4
  unfold PMot.finished at this
  simp at this

/-- One of a list changed, as a change of each by its place. -/
def oneF (j : Int) (G : PMot → PMot) (k : Nat) (m : PMot) : PMot := if (k : Int) = j then G m else m
theorem mapIdx_one {L : List PMot} {j : Nat} {m : PMot} {G : PMot → PMot} (h : L[j]? = some m) : L.mapIdx (oneF (j : Int) G) = L.set j (G m) := by
  apply List.ext_getElem?
  intro k
  rw [List.getElem?_mapIdx]
  by_cases hk : k = j
  · subst hk
    rw [h, List.getElem?_set_self (List.getElem?_eq_some_iff.1 h).1]
    simp [oneF]
  · rw [List.getElem?_set_ne (Ne.symm hk)]
    cases hl : L[k]? with
    | none => rfl
    | some x =>
      have : ¬ (k : Int) = (j : Int) := by omega
      simp [oneF, this]
theorem mapIdx_same (L : List PMot) (G : PMot → PMot) : L.mapIdx (fun _ m => G m) = L.map G := by
  apply List.ext_getElem?
  intro k
  rw [List.getElem?_mapIdx, List.getElem?_map]
theorem mapIdx_next {L : List PMot} {F : Nat → PMot → PMot} {k : Nat} {m : PMot} (h : L[k]? = some m) : (L.mapIdx F).take (k + 1) = (L.mapIdx F).take k ++ [F k m] := by
  rw [List.take_add_one, List.getElem?_mapIdx, h]
  rfl
end Go.Proofs.Ytcaejanfhchacaa
