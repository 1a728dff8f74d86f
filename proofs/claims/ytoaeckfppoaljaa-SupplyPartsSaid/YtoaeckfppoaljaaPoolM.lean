/- Layer 18 (pool), plain: deposits and what is due; one more of them, what is ripe, what they are together. -/
import Derived.Test.YtoaeckfppoaljaaRec
import Derived.Test.YtoaeckfppoaljaaMoneySum
namespace Go.Proofs.Ytoaeckfppoaljaa
open Go.RowKit
set_option linter.unusedVariables false

structure Dep where
  acc : Int
  mem : Int
  amt : Nat
  new : Bool
def Dep.vals (d : Dep) : Array Value := #[.int .i64 d.acc, .int .i64 d.mem, .int .u64 (d.amt : Int), .bool d.new]
instance : Rec Dep := ⟨Dep.vals, 4, fun _ => rfl, by decide, fun d => by simp [Dep.vals, Value.oneCell']⟩
structure Due where
  acc : Int
  tick : Int
  amt : Nat
def Due.vals (d : Due) : Array Value := #[.int .i64 d.acc, .int .i64 d.tick, .int .u64 (d.amt : Int)]
instance : Rec Due := ⟨Due.vals, 3, fun _ => rfl, by decide, fun d => by simp [Due.vals, Value.oneCell']⟩
def Dep.zero : Dep := ⟨0, 0, 0, false⟩
def Due.zero : Due := ⟨0, 0, 0⟩

/-- An account that there may be; a member that there may be, or none for a new one. -/
def Dep.placed (d : Dep) : Prop := (0 ≤ d.acc ∧ d.acc < 64) ∧ ((d.new = true ∧ d.mem = 0) ∨ (d.new = false ∧ 0 ≤ d.mem ∧ d.mem < 128))
instance (d : Dep) : Decidable d.placed := by unfold Dep.placed; exact inferInstance
/-- What comes of one deposit more. -/
def padded (l : List Dep) (d : Dep) : List Dep × Nat :=
  if ¬ (d.placed ∧ d.amt ≠ 0 ∧ d.amt ≤ 4611686018427387904) then ([], 2) else if 256 ≤ l.length then ([], 161) else (l ++ [d], 0)
theorem padded_no {l : List Dep} {d : Dep} (h : ¬ (d.placed ∧ d.amt ≠ 0 ∧ d.amt ≤ 4611686018427387904)) : padded l d = ([], 2) := if_pos h
theorem padded_full {l : List Dep} {d : Dep} (h : d.placed ∧ d.amt ≠ 0 ∧ d.amt ≤ 4611686018427387904) (hl : 256 ≤ l.length) : padded l d = ([], 161) := by
  unfold padded
  rw [if_neg (not_not_intro h), if_pos hl]
theorem padded_ok {l : List Dep} {d : Dep} (h : d.placed ∧ d.amt ≠ 0 ∧ d.amt ≤ 4611686018427387904) (hl : ¬ 256 ≤ l.length) : padded l d = (l ++ [d], 0) := by
  unfold padded
  rw [if_neg (not_not_intro h), if_neg hl]

/-- To the same account at the same tick. -/
def Due.same (d o : Due) : Bool := decide (o.acc = d.acc) && decide (o.tick = d.tick)
/-- How many of the first k there are up to the last one whose tick isn't above t. -/
def behindOf (l : List Due) (t : Int) : Nat → Nat
  | 0 => 0
  | k + 1 => if t < (l.getD k Due.zero).tick then behindOf l t k else k + 1
def Due.more (d : Due) (n : Nat) : Due := ⟨d.acc, d.tick, d.amt + n⟩
/-- One of them with so much more. -/
def pmore (l : List Due) (k n : Nat) : List Due × Nat :=
  if 4611686018427387904 < (l.getD k Due.zero).amt + n then ([], 10) else (l.set k ((l.getD k Due.zero).more n), 0)
def pbehind (l : List Due) (d : Due) : List Due := l.take (behindOf l d.tick l.length) ++ d :: l.drop (behindOf l d.tick l.length)
/-- What comes of one due more. -/
def powed (l : List Due) (d : Due) : List Due × Nat :=
  if ¬ ((0 ≤ d.acc ∧ d.acc < 64) ∧ 0 ≤ d.tick) then ([], 2) else if 4611686018427387904 < d.amt then ([], 10) else if d.amt = 0 then (l, 0) else
    match l.findIdx? d.same with
    | some k => pmore l k d.amt
    | none => (pbehind l d, 0)
theorem powed_no {l : List Due} {d : Due} (h : ¬ ((0 ≤ d.acc ∧ d.acc < 64) ∧ 0 ≤ d.tick)) : powed l d = ([], 2) := if_pos h
theorem powed_over {l : List Due} {d : Due} (h : (0 ≤ d.acc ∧ d.acc < 64) ∧ 0 ≤ d.tick) (ha : 4611686018427387904 < d.amt) : powed l d = ([], 10) := by
  unfold powed
  rw [if_neg (not_not_intro h), if_pos ha]
theorem powed_none {l : List Due} {d : Due} (h : (0 ≤ d.acc ∧ d.acc < 64) ∧ 0 ≤ d.tick) (ha : d.amt = 0) : powed l d = (l, 0) := by
  unfold powed
  rw [if_neg (not_not_intro h), if_neg (by omega), if_pos ha]
theorem powed_more {l : List Due} {d : Due} {k : Nat} (h : (0 ≤ d.acc ∧ d.acc < 64) ∧ 0 ≤ d.tick) (ha : ¬ 4611686018427387904 < d.amt) (h0 : d.amt ≠ 0) (hk : l.findIdx? d.same = some k) : powed l d = pmore l k d.amt := by
  unfold powed
  rw [if_neg (not_not_intro h), if_neg ha, if_neg h0, hk]
theorem powed_behind {l : List Due} {d : Due} (h : (0 ≤ d.acc ∧ d.acc < 64) ∧ 0 ≤ d.tick) (ha : ¬ 4611686018427387904 < d.amt) (h0 : d.amt ≠ 0) (hk : l.findIdx? d.same = none) : powed l d = (pbehind l d, 0) := by
  unfold powed
  rw [if_neg (not_not_intro h), if_neg ha, if_neg h0, hk]

theorem behindOf_le (l : List Due) (t : Int) : ∀ k, behindOf l t k ≤ k
  | 0 => Nat.le_refl _
  | k + 1 => by
    unfold behindOf
    split
    · exact Nat.le_succ_of_le (behindOf_le l t k)
    · exact Nat.le_refl _
theorem behindOf_zero (l : List Due) (t : Int) : behindOf l t 0 = 0 := rfl
theorem behindOf_back {l : List Due} {t : Int} {k : Nat} (hk : k < l.length) (h : t < l[k].tick) : behindOf l t (k + 1) = behindOf l t k := by
  show (if t < (l.getD k Due.zero).tick then behindOf l t k else k + 1) = _
  rw [if_pos (by simpa [List.getD, hk] using h)]
theorem behindOf_stop {l : List Due} {t : Int} {k : Nat} (hk : k < l.length) (h : ¬ t < l[k].tick) : behindOf l t (k + 1) = k + 1 := by
  show (if t < (l.getD k Due.zero).tick then behindOf l t k else k + 1) = _
  rw [if_neg (by simpa [List.getD, hk] using h)]
theorem behindOf_above (l : List Due) (t : Int) : ∀ (k j : Nat) (hk : k ≤ l.length) (hj : j < l.length), behindOf l t k ≤ j → j < k → t < l[j].tick
  | 0, j, _, hj, _, h => absurd h (Nat.not_lt_zero _)
  | k + 1, j, hk, hj, h1, h2 => by
    have hk' : k < l.length := hk
    by_cases ht : t < l[k].tick
    · rw [behindOf_back hk' ht] at h1
      by_cases e : j = k
      · subst e; exact ht
      · exact behindOf_above l t k j (by omega) hj h1 (by omega)
    · rw [behindOf_stop hk' ht] at h1
      omega
theorem behindOf_last (l : List Due) (t : Int) : ∀ (k : Nat), k ≤ l.length → 0 < behindOf l t k → ∀ (hj : behindOf l t k - 1 < l.length), l[behindOf l t k - 1].tick ≤ t
  | 0, _, h, _ => absurd h (Nat.lt_irrefl 0)
  | k + 1, hk, h, hj => by
    have hk' : k < l.length := hk
    by_cases ht : t < l[k].tick
    · have e := behindOf_back hk' ht
      simp only [e] at h hj ⊢
      exact behindOf_last l t k (by omega) h hj
    · have e := behindOf_stop hk' ht
      simp only [e, Nat.add_sub_cancel]
      exact Int.not_lt.1 ht

/-- What is to be paid at a tick, and what isn't yet. -/
def isRipe (now : Int) (d : Due) : Bool := decide (d.tick ≤ now)
def ripeOf (now : Int) (l : List Due) : List Due := l.filter (isRipe now)
def restOf (now : Int) (l : List Due) : List Due := l.filter (fun d => !isRipe now d)
/-- What all of a list amount to. -/
def totDep (l : List Dep) : Nat := tot (l.map Dep.amt)
def totDue (l : List Due) : Nat := tot (l.map Due.amt)
theorem totDue_append (a b : List Due) : totDue (a ++ b) = totDue a + totDue b := by unfold totDue; rw [List.map_append, tot_append]
theorem totDue_cons (x : Due) (l : List Due) : totDue (x :: l) = x.amt + totDue l := rfl
theorem totDue_set : ∀ (l : List Due) (k : Nat) (hk : k < l.length) (y : Due) (n : Nat), y.amt = l[k].amt + n → totDue (l.set k y) = totDue l + n
  | x :: l, 0, _, y, n, h => by
    show y.amt + totDue l = x.amt + totDue l + n
    have h' : y.amt = x.amt + n := h
    omega
  | x :: l, k + 1, hk, y, n, h => by
    have ih := totDue_set l k (by simpa using hk) y n h
    show x.amt + totDue (l.set k y) = x.amt + totDue l + n
    omega
theorem totDue_parts (now : Int) : ∀ (l : List Due), totDue (ripeOf now l) + totDue (restOf now l) = totDue l
  | [] => rfl
  | x :: l => by
    have ih := totDue_parts now l
    unfold ripeOf restOf at *
    by_cases h : isRipe now x = true
    · rw [List.filter_cons_of_pos h, List.filter_cons_of_neg (by simp [h]), totDue_cons, totDue_cons]
      omega
    · rw [List.filter_cons_of_neg h, List.filter_cons_of_pos (by simpa using h), totDue_cons, totDue_cons]
      omega
theorem len_parts (now : Int) : ∀ (l : List Due), (ripeOf now l).length + (restOf now l).length = l.length
  | [] => rfl
  | x :: l => by
    have ih := len_parts now l
    unfold ripeOf restOf at *
    by_cases h : isRipe now x = true
    · rw [List.filter_cons_of_pos h, List.filter_cons_of_neg (by simp [h]), List.length_cons, List.length_cons]
      omega
    · rw [List.filter_cons_of_neg h, List.filter_cons_of_pos (by simpa using h), List.length_cons, List.length_cons]
      omega
theorem ripeOf_take (now : Int) {l : List Due} {k : Nat} (hk : k < l.length) : ripeOf now (l.take (k + 1)) = ripeOf now (l.take k) ++ (if isRipe now l[k] = true then [l[k]] else []) := by
  unfold ripeOf
  rw [List.take_succ_eq_append_getElem hk, List.filter_append]
  congr 1
  by_cases h : isRipe now l[k] = true <;> simp [h]
theorem restOf_take (now : Int) {l : List Due} {k : Nat} (hk : k < l.length) : restOf now (l.take (k + 1)) = restOf now (l.take k) ++ (if isRipe now l[k] = true then [] else [l[k]]) := by
  unfold restOf
  rw [List.take_succ_eq_append_getElem hk, List.filter_append]
  congr 1
  by_cases h : isRipe now l[k] = true <;> simp [h]

/-- Dues in the order of their ticks, of more than nothing each. -/
structure DuesKept (l : List Due) : Prop where
  rise : ∀ (i : Nat) (h : i + 1 < l.length), l[i].tick ≤ l[i + 1].tick
  some : ∀ d ∈ l, d.amt ≠ 0
theorem DuesKept.nil : DuesKept [] := ⟨fun i h => absurd h (Nat.not_lt_zero _), fun d h => by simp at h⟩
theorem findIdx_some {l : List Due} {p : Due → Bool} {k : Nat} (h : l.findIdx? p = some k) : ∃ hk : k < l.length, p l[k] = true := by
  obtain ⟨hk, h1, _⟩ := List.findIdx?_eq_some_iff_getElem.1 h
  exact ⟨hk, h1⟩
/-- What was owed is there: the sum, the order, that none is of nothing, and how many they are. -/
theorem powed_kept {l m : List Due} {d : Due} (h : powed l d = (m, 0)) (hk : DuesKept l) : totDue m = totDue l + d.amt ∧ DuesKept m ∧ m.length ≤ l.length + 1 := by
  by_cases h1 : (0 ≤ d.acc ∧ d.acc < 64) ∧ 0 ≤ d.tick
  · by_cases h2 : 4611686018427387904 < d.amt
    · rw [powed_over h1 h2] at h; simp at h
    · by_cases h3 : d.amt = 0
      · rw [powed_none h1 h3] at h
        simp only [Prod.mk.injEq, and_true] at h
        subst h
        exact ⟨by omega, hk, by omega⟩
      · rcases hf : l.findIdx? d.same with _ | k
        · rw [powed_behind h1 h2 h3 hf] at h
          simp only [Prod.mk.injEq, and_true] at h
          subst h
          have hle := behindOf_le l d.tick l.length
          have hab := fun j hj => behindOf_above l d.tick l.length j (Nat.le_refl _) hj
          have hla := behindOf_last l d.tick l.length (Nat.le_refl _)
          unfold pbehind
          generalize behindOf l d.tick l.length = b at hle hab hla
          have ht : l.take b ++ l.drop b = l := List.take_append_drop b l
          have htl : (l.take b).length = b := by rw [List.length_take]; omega
          refine ⟨?_, ⟨fun i hi => ?_, fun x hx => ?_⟩, ?_⟩
          · have e := congrArg totDue ht
            rw [totDue_append] at e
            rw [totDue_append, totDue_cons]
            omega
          · have hi2 := hi
            simp only [List.length_append, List.length_cons, List.length_drop, htl] at hi2
            by_cases c1 : i + 1 < b
            · rw [List.getElem_append_left (by omega), List.getElem_append_left (by omega), List.getElem_take, List.getElem_take]
              exact hk.rise i (by omega)
            · by_cases c2 : i + 1 = b
              · rw [List.getElem_append_left (by omega), List.getElem_append_right (by omega), List.getElem_take]
                have e : i + 1 - (l.take b).length = 0 := by omega
                simp only [e, List.getElem_cons_zero]
                have := hla (by omega) (by omega)
                have e2 : b - 1 = i := by omega
                simpa only [e2] using this
              · by_cases c3 : i = b
                · rw [List.getElem_append_right (by omega), List.getElem_append_right (by omega)]
                  have e : i - (l.take b).length = 0 := by omega
                  have e2 : i + 1 - (l.take b).length = 0 + 1 := by omega
                  simp only [e, e2, List.getElem_cons_zero, List.getElem_cons_succ, List.getElem_drop]
                  have := hab (b + 0) (by omega) (by omega) (by omega)
                  exact Int.le_of_lt this
                · rw [List.getElem_append_right (by omega), List.getElem_append_right (by omega)]
                  obtain ⟨q, rfl⟩ : ∃ q, i = b + 1 + q := ⟨i - b - 1, by omega⟩
                  have e : b + 1 + q - (l.take b).length = q + 1 := by omega
                  have e2 : b + 1 + q + 1 - (l.take b).length = q + 1 + 1 := by omega
                  simp only [e, e2, List.getElem_cons_succ, List.getElem_drop]
                  have := hk.rise (b + q) (by omega)
                  simpa only [Nat.add_assoc] using this
          · rcases List.mem_append.1 hx with hx | hx
            · exact hk.some x (List.mem_of_mem_take hx)
            · rcases List.mem_cons.1 hx with rfl | hx
              · exact h3
              · exact hk.some x (List.mem_of_mem_drop hx)
          · rw [List.length_append, htl, List.length_cons, List.length_drop]
            omega
        · rw [powed_more h1 h2 h3 hf] at h
          obtain ⟨hkl, hp⟩ := findIdx_some hf
          have eg : l.getD k Due.zero = l[k] := by simp [List.getD, hkl]
          unfold pmore at h
          rw [eg] at h
          split at h
          · simp at h
          · simp only [Prod.mk.injEq, and_true] at h
            subst h
            refine ⟨totDue_set l k hkl _ _ rfl, ⟨fun i hi => ?_, fun x hx => ?_⟩, by simp⟩
            · rw [List.length_set] at hi
              have hr := hk.rise i hi
              rw [List.getElem_set, List.getElem_set]
              split <;> split
              · omega
              · rename_i a b; subst a; exact hr
              · rename_i a b; subst b; exact hr
              · exact hr
            · rcases List.mem_or_eq_of_mem_set hx with hx | rfl
              · exact hk.some x hx
              · show l[k].amt + d.amt ≠ 0
                omega
  · rw [powed_no h1] at h; simp at h
theorem ripe_last (now : Int) (l : List Due) (h : ripeOf now l ≠ []) (hj : (ripeOf now l).length - 1 < (ripeOf now l).length) : (ripeOf now l)[(ripeOf now l).length - 1].tick ≤ now := by
  have := (List.mem_filter.1 (List.getElem_mem hj)).2
  exact of_decide_eq_true this
theorem rest_first (now : Int) (l : List Due) (hj : 0 < (restOf now l).length) : now < (restOf now l)[0].tick := by
  have := (List.mem_filter.1 (List.getElem_mem hj)).2
  unfold isRipe at this
  simp at this
  exact this
end Go.Proofs.Ytoaeckfppoaljaa
