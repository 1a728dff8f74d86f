/- Layer 16 (line): lists of numbers, where one stands in them, who goes and who stays: plain mathematics, nothing of a program. -/
import Derived.Lib.Slices
import Derived.Lib.SlicesCompact
namespace Go.Proofs.Ytmpkhjbfanbfiaa
set_option linter.unusedVariables false

/-- None of the first k is x. -/
def Before (l : List Int) (x : Int) (k : Nat) : Prop := ∀ j, j < k → l[j]? ≠ some x
theorem Before.zero (l : List Int) (x : Int) : Before l x 0 := fun j hj => absurd hj (Nat.not_lt_zero _)
theorem Before.succ {l : List Int} {x : Int} {k : Nat} (h : Before l x k) (hk : k < l.length) (hne : l[k] ≠ x) : Before l x (k + 1) := fun j hj => by
  by_cases e : j = k
  · subst e
    rw [List.getElem?_eq_getElem hk]
    exact fun h => hne (Option.some.inj h)
  · exact h j (by omega)
theorem fnd_hit {l : List Int} {x : Int} {k : Nat} (h : Before l x k) (hk : k < l.length) (e : l[k] = x) : Go.Lib.idxOf l x = (k : Int) := by
  have hg : ∀ j, j < l.length → l.getD j 0 = l[j]! := fun j hj => by simp [List.getD, hj]
  have := Go.Lib.idxOf_hit l l.length k x hk (Nat.le_refl _) (by simp [List.getD, hk, e]) (fun j hj => by
    have h1 := h j hj
    rw [List.getElem?_eq_getElem (by omega)] at h1
    rw [List.getD, List.getElem?_eq_getElem (by omega)]
    exact fun h => h1 (congrArg some h))
  rwa [List.take_length] at this
theorem fnd_miss {l : List Int} {x : Int} (h : Before l x l.length) : Go.Lib.idxOf l x = -1 := by
  have := Go.Lib.idxOf_miss l l.length x (fun j hj => by
    have h1 := h j hj
    rw [List.getElem?_eq_getElem hj] at h1
    rw [List.getD, List.getElem?_eq_getElem hj]
    exact fun h => h1 (congrArg some h))
  rwa [List.take_length] at this
theorem before_of {l : List Int} {x : Int} (h : x ∉ l) (k : Nat) : Before l x k := fun j _ e => h (List.mem_of_getElem? e)
theorem Before.none {l : List Int} {x : Int} (h : Before l x l.length) : x ∉ l := fun hm => by
  obtain ⟨j, hj, e⟩ := List.getElem_of_mem hm
  exact h j hj (by rw [List.getElem?_eq_getElem hj, e])
theorem first_place : ∀ {l : List Int} {x : Int}, x ∈ l → ∃ k, k < l.length ∧ l[k]? = some x ∧ Before l x k
  | [], x, h => by simp at h
  | y :: l, x, h => by
    by_cases e : y = x
    · exact ⟨0, by simp, by simp [e], Before.zero _ _⟩
    · obtain ⟨k, hk, hx, hb⟩ := first_place (l := l) (x := x) (by simpa [Ne.symm e] using h)
      refine ⟨k + 1, by simpa using hk, by simpa using hx, fun j hj => ?_⟩
      cases j with
      | zero => simpa using e
      | succ j => simpa using hb j (by omega)
/-- Where somebody stands. -/
theorem fnd_cases (l : List Int) (x : Int) : (x ∉ l ∧ Go.Lib.idxOf l x = -1) ∨ ∃ k : Nat, k < l.length ∧ l[k]? = some x ∧ Go.Lib.idxOf l x = (k : Int) ∧ x ∈ l := by
  by_cases h : x ∈ l
  · obtain ⟨k, hk, hx, hb⟩ := first_place h
    refine .inr ⟨k, hk, hx, fnd_hit hb hk ?_, h⟩
    rw [List.getElem?_eq_getElem hk] at hx
    exact Option.some.inj hx
  · exact .inl ⟨h, fnd_miss (before_of h _)⟩

/-- A list without somebody. -/
def without (l : List Int) (x : Int) : List Int := l.filter fun y => decide (y ≠ x)
theorem without_none {l : List Int} {x : Int} (h : x ∉ l) : without l x = l := by
  refine List.filter_eq_self.2 fun y hy => ?_
  simp only [ne_eq, decide_eq_true_eq]
  exact fun e => h (e ▸ hy)
theorem without_cut {l : List Int} {x : Int} {k : Nat} (hn : l.Nodup) (hk : k < l.length) (hx : l[k]? = some x) : l.take k ++ l.drop (k + 1) = without l x := by
  have hx' : l[k] = x := by rw [List.getElem?_eq_getElem hk] at hx; exact Option.some.inj hx
  have hs : l = l.take k ++ x :: l.drop (k + 1) := by
    rw [← hx', ← List.drop_eq_getElem_cons hk, List.take_append_drop]
  have hn2 := hn
  rw [hs, List.nodup_append] at hn2
  obtain ⟨_, h2, h3⟩ := hn2
  have e : without l x = without (l.take k ++ x :: l.drop (k + 1)) x := by rw [← hs]
  rw [e]
  unfold without
  rw [List.filter_append, List.filter_cons]
  simp only [ne_eq, not_true_eq_false, decide_false, Bool.false_eq_true, if_false]
  rw [List.filter_eq_self.2, List.filter_eq_self.2]
  · intro y hy
    simp only [decide_eq_true_eq]
    exact fun e => (List.nodup_cons.1 h2).1 (e ▸ hy)
  · intro y hy
    simp only [decide_eq_true_eq]
    exact fun e => h3 y hy x (by simp) e
theorem without_nodup {l : List Int} (x : Int) (h : l.Nodup) : (without l x).Nodup := h.filter _
theorem without_len (l : List Int) (x : Int) : (without l x).length ≤ l.length := List.length_filter_le _ _
theorem without_take_succ (l : List Int) (x : Int) {k : Nat} (hk : k < l.length) : without (l.take (k + 1)) x = without (l.take k) x ++ (if l[k] ≠ x then [l[k]] else []) := by
  unfold without
  rw [List.take_succ_eq_append_getElem hk, List.filter_append]
  by_cases h : l[k] = x <;> simp [List.filter_cons, h]
theorem without_snoc_eq (l : List Int) {x : Int} {k : Nat} (hk : k < l.length) (h : l[k] = x) : without (l.take (k + 1)) x = without (l.take k) x := by
  rw [without_take_succ l x hk, if_neg (by simpa using h), List.append_nil]
theorem without_snoc_ne (l : List Int) {x : Int} {k : Nat} (hk : k < l.length) (h : l[k] ≠ x) : without (l.take (k + 1)) x = without (l.take k) x ++ [l[k]] := by
  rw [without_take_succ l x hk, if_pos h]

/-- Two are the same. -/
theorem sorted_perm (l : List Int) : (l.mergeSort fun x y => decide (x ≤ y)).Perm l := List.mergeSort_perm _ _
theorem sorted_le (l : List Int) : (l.mergeSort fun x y => decide (x ≤ y)).Pairwise (· ≤ ·) := by
  have := List.pairwise_mergeSort (le := fun (x y : Int) => decide (x ≤ y)) (fun a b c h1 h2 => by simp at *; omega) (fun a b => by simp; omega) l
  exact this.imp (by simp)
theorem compact_len_le (s : List Int) : (Go.Lib.compact s).length ≤ s.length := by
  unfold Go.Lib.compact Go.Lib.compactUpTo
  rw [List.length_map]
  have := List.length_filter_le (Go.Lib.keeps s.toArray) (List.range s.length)
  simpa using this
theorem compact_all_keeps {s : List Int} (h : ¬ (Go.Lib.compact s).length < s.length) : ∀ j, j < s.length → Go.Lib.keeps s.toArray j = true := by
  unfold Go.Lib.compact Go.Lib.compactUpTo at h
  rw [List.length_map] at h
  have h2 : ((List.range s.length).filter (Go.Lib.keeps s.toArray)).length = (List.range s.length).length := by
    have := List.length_filter_le (Go.Lib.keeps s.toArray) (List.range s.length)
    simp only [List.length_range] at *
    omega
  intro j hj
  exact List.length_filter_eq_length_iff.1 h2 j (List.mem_range.2 hj)
theorem le_climb {s : List Int} (h : ∀ j, j + 1 < s.length → s[j]! < s[j + 1]!) : ∀ (d i : Nat), i + d + 1 < s.length → s[i]! < s[i + d + 1]!
  | 0, i, hi => h i hi
  | d + 1, i, hi => by
    have h1 := le_climb h d i (by omega)
    have h2 := h (i + d + 1) (by omega)
    rw [show i + (d + 1) + 1 = i + d + 1 + 1 by omega]
    omega
theorem nodup_of_climb {s : List Int} (h : ∀ j, j + 1 < s.length → s[j]! < s[j + 1]!) : s.Nodup := by
  refine List.pairwise_iff_getElem.2 fun i j hi hj hij => ?_
  have := le_climb h (j - i - 1) i (by omega)
  rw [show i + (j - i - 1) + 1 = j by omega, List.getElem!_eq_getElem?_getD, List.getElem!_eq_getElem?_getD] at this
  simp [hi, hj] at this
  omega
theorem compact_lt (l : List Int) : (Go.Lib.compact (l.mergeSort fun x y => decide (x ≤ y))).length < l.length ↔ ¬ l.Nodup := by
  have hp := sorted_perm l
  have hs := sorted_le l
  generalize (l.mergeSort fun x y => decide (x ≤ y)) = s at hp hs
  rw [← hp.length_eq, ← hp.nodup_iff]
  constructor
  · intro h hn
    have hk : ∀ j, j < s.length → Go.Lib.keeps s.toArray j = true := by
      intro j hj
      by_cases e : j = 0
      · exact Go.Lib.keeps_lt_one _ _ (by omega)
      · refine Go.Lib.keeps_pos ?_
        have h1 := List.pairwise_iff_getElem.1 hn (j - 1) j (by omega) hj (by omega)
        simp [hj, show j - 1 < s.length by omega]
        exact fun e => h1 e.symm
    rw [Go.Lib.compact_all s hk] at h
    omega
  · intro hn
    apply Classical.byContradiction
    intro h
    have hk := compact_all_keeps h
    refine hn (nodup_of_climb fun j hj => ?_)
    have h1 := hk (j + 1) hj
    have h2 := List.pairwise_iff_getElem.1 hs j (j + 1) (by omega) hj (by omega)
    simp [Go.Lib.keeps, hj, show j < s.length by omega] at h1
    rw [List.getElem!_eq_getElem?_getD, List.getElem!_eq_getElem?_getD]
    simp [hj, show j < s.length by omega]
    omega

/-- What the document says of a list: an error's number. -/
def wrong (l : List Int) : Nat := if (∃ x ∈ l, x < 0) then 2 else if ¬ l.Nodup then 231 else if 256 < l.length then 161 else 0
theorem wrong_below {l : List Int} (h : ∃ x ∈ l, x < 0) : wrong l = 2 := by simp only [wrong, if_pos h]
theorem wrong_twice {l : List Int} (h : ¬ ∃ x ∈ l, x < 0) (h2 : ¬ l.Nodup) : wrong l = 231 := by rw [wrong, if_neg h, if_pos h2]
theorem wrong_full {l : List Int} (h : ¬ ∃ x ∈ l, x < 0) (h2 : l.Nodup) (h3 : 256 < l.length) : wrong l = 161 := by rw [wrong, if_neg h, if_neg (by simpa using h2), if_pos h3]
theorem wrong_none {l : List Int} (h : ¬ ∃ x ∈ l, x < 0) (h2 : l.Nodup) (h3 : ¬ 256 < l.length) : wrong l = 0 := by rw [wrong, if_neg h, if_neg (by simpa using h2), if_neg h3]
theorem wrong_cases (l : List Int) : ((∃ x ∈ l, x < 0) ∧ wrong l = 2) ∨ ((¬ ∃ x ∈ l, x < 0) ∧ ¬ l.Nodup ∧ wrong l = 231) ∨ ((¬ ∃ x ∈ l, x < 0) ∧ l.Nodup ∧ 256 < l.length ∧ wrong l = 161) ∨ ((¬ ∃ x ∈ l, x < 0) ∧ l.Nodup ∧ l.length ≤ 256 ∧ wrong l = 0) := by
  by_cases h : ∃ x ∈ l, x < 0
  · exact .inl ⟨h, wrong_below h⟩
  · by_cases h2 : l.Nodup
    · by_cases h3 : 256 < l.length
      · exact .inr (.inr (.inl ⟨h, h2, h3, wrong_full h h2 h3⟩))
      · exact .inr (.inr (.inr ⟨h, h2, by omega, wrong_none h h2 h3⟩))
    · exact .inr (.inl ⟨h, h2, wrong_twice h h2⟩)
theorem nodup_take_succ {l : List Int} {k : Nat} (hk : k < l.length) (h : (l.take k).Nodup) (hx : l[k] ∉ l.take k) : (l.take (k + 1)).Nodup := by
  rw [List.take_succ_eq_append_getElem hk, List.nodup_append]
  refine ⟨h, by simp, fun a ha b hb => ?_⟩
  simp at hb
  subst hb
  exact fun e => hx (e ▸ ha)
theorem twice_of_take {l : List Int} {k : Nat} (hk : k < l.length) (hx : l[k] ∈ l.take k) : ¬ l.Nodup := fun hn => by
  obtain ⟨j, hj, e⟩ := List.getElem_of_mem hx
  rw [List.length_take] at hj
  rw [List.getElem_take] at e
  exact List.pairwise_iff_getElem.1 hn j k (by omega) hk (by omega) e
theorem nodup_snoc {l : List Int} {x : Int} (h : l.Nodup) (hx : x ∉ l) : (l ++ [x]).Nodup := by
  rw [List.nodup_append]
  refine ⟨h, by simp, fun a ha b hb => ?_⟩
  simp at hb
  subst hb
  exact fun e => hx (e ▸ ha)
end Go.Proofs.Ytmpkhjbfanbfiaa
