/- What is written is read as it was: plain mathematics over the words of layer 5. -/
import Derived.Test.YtmagjfjmaojemaaFew5
import Derived.Test.YtmagjfjmaojemaaCoderM
namespace Go.Proofs.Ytmagjfjmaojemaa
set_option linter.unusedVariables false
set_option linter.unusedSimpArgs false

/-- A flag's number. -/
def flg (o : OpV) : Nat := if (o.i == 1) then 1 else 0
theorem flg_le (o : OpV) : flg o ≤ 1 := by unfold flg; split <;> omega

/-- What one of the list's is written as. -/
def item (o : OpV) : List Nat := form o.n ++ (form (flg o) ++ (form o.bs.length ++ o.bs))
def wop (s : List Nat × Nat) (o : OpV) : List Nat × Nat := wput (wput (wput s (form o.n)) (form (flg o))) (form o.bs.length ++ o.bs)
def wops (s : List Nat × Nat) (ops : List OpV) : List Nat × Nat := ops.foldl wop s

theorem wops_snoc (s : List Nat × Nat) (ops : List OpV) (o : OpV) : wops s (ops ++ [o]) = wop (wops s ops) o := by simp [wops]

theorem wput_zero {s : List Nat × Nat} {ys : List Nat} (h : (wput s ys).2 = 0) : s.2 = 0 ∧ wput s ys = (s.1 ++ ys, 0) := by
  unfold wput at h ⊢
  by_cases h1 : s.2 ≠ 0
  · rw [if_pos h1] at h; exact absurd h h1
  · rw [if_neg h1] at h ⊢
    by_cases h2 : 131072 < s.1.length + ys.length
    · rw [if_pos h2] at h; simp at h
    · rw [if_neg h2]; exact ⟨by simpa using h1, rfl⟩
theorem wput_two {s : List Nat × Nat} {ys : List Nat} (h : s.2 = 0 ∨ s.2 = 3) : (wput s ys).2 = 0 ∨ (wput s ys).2 = 3 := by
  unfold wput
  split
  · exact h
  · split
    · exact .inr rfl
    · exact .inl rfl
theorem wop_zero {s : List Nat × Nat} {o : OpV} (h : (wop s o).2 = 0) : s.2 = 0 ∧ wop s o = (s.1 ++ item o, 0) := by
  unfold wop at h ⊢
  obtain ⟨h1, e1⟩ := wput_zero h
  obtain ⟨h2, e2⟩ := wput_zero h1
  obtain ⟨h3, e3⟩ := wput_zero h2
  refine ⟨h3, ?_⟩
  rw [e1, e2, e3]
  simp [item]
theorem wops_zero : ∀ (ops : List OpV) (s : List Nat × Nat), (wops s ops).2 = 0 → s.2 = 0 ∧ wops s ops = (s.1 ++ ops.flatMap item, 0)
  | [], s, h => ⟨h, by show s = _; rw [show s = (s.1, s.2) from rfl]; simp; exact h⟩
  | o :: r, s, h => by
    have h1 := wops_zero r (wop s o) h
    obtain ⟨h2, e2⟩ := wop_zero h1.1
    refine ⟨h2, ?_⟩
    show wops (wop s o) r = _
    rw [h1.2, e2]
    simp
theorem wops_two : ∀ (ops : List OpV) (s : List Nat × Nat), s.2 = 0 ∨ s.2 = 3 → (wops s ops).2 = 0 ∨ (wops s ops).2 = 3
  | [], s, h => h
  | o :: r, s, h => wops_two r (wop s o) (wput_two (wput_two (wput_two h)))

theorem item_bytes {o : OpV} (h : ∀ x ∈ o.bs, x < 256) : ∀ x ∈ item o, x < 256 := by
  intro x hx
  unfold item at hx
  simp only [List.mem_append] at hx
  rcases hx with h1 | h1 | h1 | h1
  · exact form_lt _ x h1
  · exact form_lt _ x h1
  · exact form_lt _ x h1
  · exact h x h1

/-- A number that stands in a text is read as it is. -/
theorem rd_num {text pre post : List Nat} {n m : Nat} (ht : text = pre ++ (form n ++ post)) (hn : n < 18446744073709551616) (hm : n ≤ m) : rdNum text (pre.length, 0) m = (n, (pre.length + (form n).length, 0)) := by
  have hd : text.drop pre.length = form n ++ post := by rw [ht]; simp
  have hs := scan_form n 0 0 post (by omega) (by simpa using hn) (by omega)
  unfold rdNum
  rw [if_neg (by simp)]
  simp only [hd, hs]
  simp
  omega
/-- A text that ends within a number. -/
theorem rd_cut {text pre : List Nat} {n j m : Nat} (ht : text = pre ++ (form n).take j) (hn : n < 18446744073709551616) (hj : j < (form n).length) : rdNum text (pre.length, 0) m = (0, (pre.length, 50)) := by
  have hd : text.drop pre.length = (form n).take j := by rw [ht]; simp
  have hs := scan_cut n 0 0 j (by omega) (by simpa using hn) hj
  unfold rdNum
  rw [if_neg (by simp)]
  simp only [hd, hs]
  simp

theorem rd_int {text pre post : List Nat} {n : Nat} (ht : text = pre ++ (form n ++ post)) (hn : n < 18446744073709551616) : rdInt text (pre.length, 0) (n : Int) = (n, (pre.length + (form n).length, 0)) := by
  have hd : text.drop pre.length = form n ++ post := by rw [ht]; simp
  have hs := scan_form n 0 0 post (by omega) (by simpa using hn) (by omega)
  simp only [Nat.pow_zero, Nat.mul_one, Nat.zero_add] at hs
  unfold rdInt
  rw [if_neg (by simp)]
  simp only [hd, hs]
  rw [if_neg (by simp), if_neg (by omega)]
/-- Bytes that stand in a text are read as they are. -/
theorem rd_raw {text pre post bs : List Nat} (ht : text = pre ++ (form bs.length ++ (bs ++ post))) (hn : bs.length < 18446744073709551616) : rdRaw text (pre.length, 0) (bs.length : Int) = (bs, (pre.length + (form bs.length).length + bs.length, 0)) := by
  have hi := rd_int (post := bs ++ post) ht hn
  unfold rdRaw
  rw [if_neg (by simp), hi]
  have hl : text.length = pre.length + (form bs.length).length + bs.length + post.length := by rw [ht]; simp; omega
  have hd : text.drop (pre.length + (form bs.length).length) = bs ++ post := by
    rw [ht, ← List.append_assoc, ← List.length_append, List.drop_left]
  simp only [hd, hl]
  rw [if_neg (by simp), if_neg (by omega)]
  simp
theorem rd_raw_cut {text pre bs : List Nat} {j : Nat} (ht : text = pre ++ (form bs.length ++ bs).take j) (hn : bs.length < 18446744073709551616) (hj : j < (form bs.length ++ bs).length) : rdRaw text (pre.length, 0) (bs.length : Int) = ([], (pre.length, 50)) := by
  by_cases h : j < (form bs.length).length
  · have hd : text.drop pre.length = (form bs.length).take j := by rw [ht, List.take_append_of_le_length (by omega)]; simp
    have hs := scan_cut bs.length 0 0 j (by omega) (by simpa using hn) h
    have hi : rdInt text (pre.length, 0) (bs.length : Int) = (0, (pre.length, 50)) := by
      unfold rdInt
      rw [if_neg (by simp)]
      simp only [hd, hs]
      simp
    unfold rdRaw
    rw [if_neg (by simp), hi]
    simp
  · have e : (form bs.length ++ bs).take j = form bs.length ++ bs.take (j - (form bs.length).length) := by rw [List.take_append]; rw [List.take_of_length_le (by omega)]
    have hi := rd_int (text := text) (pre := pre) (post := bs.take (j - (form bs.length).length)) (n := bs.length) (by rw [ht, e]) hn
    rw [List.length_append] at hj
    have hl : text.length = pre.length + (form bs.length).length + (j - (form bs.length).length) := by rw [ht, e]; simp; omega
    unfold rdRaw
    rw [if_neg (by simp), hi]
    simp only [hl]
    rw [if_neg (by simp), if_pos (by omega)]

/-- A reader that has failed. -/
theorem rd_num_bad {text : List Nat} {p e m : Nat} (he : e ≠ 0) : rdNum text (p, e) m = (0, (p, e)) := by unfold rdNum; rw [if_pos he]
theorem rd_raw_bad {text : List Nat} {p e : Nat} {m : Int} (he : e ≠ 0) : rdRaw text (p, e) m = ([], (p, e)) := by unfold rdRaw; rw [if_pos he]

theorem cut_parts {α : Type} (pre a b : List α) {j : Nat} (hp : pre.length ≤ j) : (pre ++ (a ++ b)).take j = pre ++ (a ++ b).take (j - pre.length) := by
  rw [List.take_append, List.take_of_length_le hp]
theorem cut_in {α : Type} (a b : List α) {j : Nat} (h : j ≤ a.length) : (a ++ b).take j = a.take j := List.take_append_of_le_length h
theorem cut_past {α : Type} (a b : List α) {j : Nat} (h : a.length ≤ j) : (a ++ b).take j = a ++ b.take (j - a.length) := by rw [List.take_append, List.take_of_length_le h]

theorem cut_num {text pre rest : List Nat} {j n m : Nat} (ht : text = pre ++ (form n ++ rest)) (hp : pre.length ≤ j) (hn : n < 18446744073709551616) (hm : n ≤ m) :
    (rdNum (text.take j) (pre.length, 0) m).2 = (pre.length, 50) ∨ ((rdNum (text.take j) (pre.length, 0) m).2 = (pre.length + (form n).length, 0) ∧ pre.length + (form n).length ≤ j) := by
  have e := cut_parts pre (form n) rest hp
  rw [← ht] at e
  by_cases h : j - pre.length < (form n).length
  · rw [cut_in _ _ (by omega)] at e
    rw [rd_cut e hn h]
    exact .inl rfl
  · rw [cut_past _ _ (by omega)] at e
    rw [rd_num e hn hm]
    exact .inr ⟨rfl, by omega⟩
theorem cut_raw {text pre rest bs : List Nat} {j : Nat} (ht : text = pre ++ ((form bs.length ++ bs) ++ rest)) (hp : pre.length ≤ j) (hn : bs.length < 18446744073709551616) :
    (rdRaw (text.take j) (pre.length, 0) (bs.length : Int)).2 = (pre.length, 50) ∨ ((rdRaw (text.take j) (pre.length, 0) (bs.length : Int)).2 = (pre.length + (form bs.length ++ bs).length, 0) ∧ pre.length + (form bs.length ++ bs).length ≤ j) := by
  have e := cut_parts pre (form bs.length ++ bs) rest hp
  rw [← ht] at e
  by_cases h : j - pre.length < (form bs.length ++ bs).length
  · rw [cut_in _ _ (by omega)] at e
    rw [rd_raw_cut e hn h]
    exact .inl rfl
  · rw [cut_past _ _ (by omega)] at e
    have e2 : text.take j = pre ++ (form bs.length ++ (bs ++ rest.take (j - pre.length - (form bs.length ++ bs).length))) := by rw [e]; simp
    rw [rd_raw e2 hn]
    exact .inr ⟨by simp; omega, by omega⟩

/-- What is read for one of the list's, nothing of it held. -/
def rop (T : List Nat) (s : Nat × Nat) (o : OpV) : Nat × Nat := (rdRaw T (rdNum T (rdNum T s 18446744073709551615).2 1).2 (o.bs.length : Int)).2

theorem rop_cut {text pre post : List Nat} {o : OpV} {j : Nat} (ht : text = pre ++ (item o ++ post)) (hp : pre.length ≤ j) (hn : o.n < 18446744073709551616) (hl : o.bs.length < 18446744073709551616) :
    (rop (text.take j) (pre.length, 0) o).2 = 50 ∨ (rop (text.take j) (pre.length, 0) o = (pre.length + (item o).length, 0) ∧ pre.length + (item o).length ≤ j) := by
  unfold rop
  have e1 : text = pre ++ (form o.n ++ (form (flg o) ++ ((form o.bs.length ++ o.bs) ++ post))) := by rw [ht]; simp [item]
  rcases cut_num (m := 18446744073709551615) e1 hp hn (by omega) with h1 | ⟨h1, l1⟩
  · rw [h1, rd_num_bad (by omega), rd_raw_bad (by omega)]
    exact .inl rfl
  · rw [h1]
    have e2 : text = (pre ++ form o.n) ++ (form (flg o) ++ ((form o.bs.length ++ o.bs) ++ post)) := by rw [e1]; simp
    have p2 : (pre ++ form o.n).length = pre.length + (form o.n).length := by simp
    rw [← p2] at l1 ⊢
    have hf := flg_le o
    rcases cut_num (m := 1) e2 l1 (by omega) hf with h2 | ⟨h2, l2⟩
    · rw [h2, rd_raw_bad (by omega)]
      exact .inl rfl
    · rw [h2]
      have e3 : text = ((pre ++ form o.n) ++ form (flg o)) ++ ((form o.bs.length ++ o.bs) ++ post) := by rw [e2]; simp
      have p3 : ((pre ++ form o.n) ++ form (flg o)).length = (pre ++ form o.n).length + (form (flg o)).length := List.length_append
      rw [← p3] at l2 ⊢
      rcases cut_raw e3 l2 hl with h3 | ⟨h3, l3⟩
      · rw [h3]; exact .inl rfl
      · rw [h3]
        have e4 : (((pre ++ form o.n) ++ form (flg o)).length + (form o.bs.length ++ o.bs).length) = pre.length + (item o).length := by simp [item]; omega
        rw [e4] at l3 ⊢
        exact .inr ⟨rfl, l3⟩
theorem rop_bad {T : List Nat} {s : Nat × Nat} {o : OpV} (h : s.2 = 50) : (rop T s o).2 = 50 := by
  obtain ⟨p, e⟩ := s
  have h' : e = 50 := h
  subst h'
  unfold rop
  rw [rd_num_bad (e := 50) (by decide), rd_num_bad (e := 50) (by decide), rd_raw_bad (e := 50) (by decide)]
end Go.Proofs.Ytmagjfjmaojemaa
