/- Numbers read one behind the other: plain mathematics, nothing of a program. -/
import Derived.Test.YtokaclacejhppaaCoderM
import Derived.Test.YtokaclacejhppaaParM
namespace Go.Proofs.Ytokaclacejhppaa
set_option linter.unusedVariables false

/-- So many numbers, read from a place on: what they are, and where the reader is then. -/
def rdSeq (bs : List Nat) (mo : Nat) : Nat → Nat × Nat → List Nat × (Nat × Nat)
  | 0, s => ([], s)
  | k + 1, s => ((rdSeq bs mo k s).1 ++ [(rdNum bs (rdSeq bs mo k s).2 mo).1], (rdNum bs (rdSeq bs mo k s).2 mo).2)

theorem rdSeq_len (bs : List Nat) (mo : Nat) : ∀ (k : Nat) (s : Nat × Nat), (rdSeq bs mo k s).1.length = k
  | 0, s => rfl
  | k + 1, s => by simp only [rdSeq, List.length_append, List.length_cons, List.length_nil, rdSeq_len bs mo k s]
theorem rdNum_most (bs : List Nat) (s : Nat × Nat) (mo : Nat) : (rdNum bs s mo).1 ≤ mo := by
  unfold rdNum
  split
  · exact Nat.zero_le _
  · split
    · exact Nat.zero_le _
    · split
      · exact Nat.zero_le _
      · simp only; omega
theorem rdSeq_le (bs : List Nat) (mo : Nat) : ∀ (k : Nat) (s : Nat × Nat), ∀ x ∈ (rdSeq bs mo k s).1, x ≤ mo
  | 0, s, x, h => by simp [rdSeq] at h
  | k + 1, s, x, h => by
    simp only [rdSeq, List.mem_append, List.mem_singleton] at h
    rcases h with h | rfl
    · exact rdSeq_le bs mo k s x h
    · exact rdNum_most _ _ _

/-- What was read without a failure is just what lies there. -/
theorem rdNum_back {bs : List Nat} (hb : ∀ x ∈ bs, x < 256) {s : Nat × Nat} {mo : Nat} (hs : s.1 ≤ bs.length) (h : (rdNum bs s mo).2.2 = 0) :
    s.2 = 0 ∧ s.1 ≤ (rdNum bs s mo).2.1 ∧ (rdNum bs s mo).2.1 ≤ bs.length ∧ form (rdNum bs s mo).1 = (bs.drop s.1).take ((rdNum bs s mo).2.1 - s.1) := by
  unfold rdNum at h ⊢
  by_cases h1 : s.2 ≠ 0
  · rw [if_pos h1] at h; exact absurd h h1
  · rw [if_neg h1] at h ⊢
    rcases hsc : scan 0 0 (bs.drop s.1) with ⟨n, c, e⟩
    simp only [hsc] at h ⊢
    by_cases h2 : e ≠ 0
    · rw [if_pos h2] at h; exact absurd h h2
    · have he : e = 0 := by omega
      subst he
      rw [if_neg h2] at h ⊢
      by_cases h3 : mo < n
      · rw [if_pos h3] at h; simp at h
      · rw [if_neg h3]
        have hf := scan_fits (fun x hx => hb x (List.mem_of_mem_drop hx)) hsc
        rw [List.length_drop] at hf
        refine ⟨by omega, by simp only; omega, by simp only; omega, ?_⟩
        simp only
        rw [show s.1 + c - s.1 = c by omega]
        exact hf.2.2.2
theorem rdSeq_back {bs : List Nat} (hb : ∀ x ∈ bs, x < 256) {mo : Nat} : ∀ (k : Nat) (s : Nat × Nat), s.1 ≤ bs.length → (rdSeq bs mo k s).2.2 = 0 →
    s.2 = 0 ∧ s.1 ≤ (rdSeq bs mo k s).2.1 ∧ (rdSeq bs mo k s).2.1 ≤ bs.length ∧ (rdSeq bs mo k s).1.flatMap form = (bs.drop s.1).take ((rdSeq bs mo k s).2.1 - s.1)
  | 0, s, hs, h => ⟨h, Nat.le_refl _, hs, by simp [rdSeq]⟩
  | k + 1, s, hs, h => by
    simp only [rdSeq] at h ⊢
    have hmid : (rdSeq bs mo k s).2.2 = 0 ∨ (rdSeq bs mo k s).2.2 ≠ 0 := by omega
    rcases hmid with hm | hm
    · obtain ⟨h1, h2, h3, h4⟩ := rdSeq_back hb k s hs hm
      obtain ⟨_, g2, g3, g4⟩ := rdNum_back hb h3 h
      refine ⟨h1, Nat.le_trans h2 g2, g3, ?_⟩
      rw [List.flatMap_append, h4]
      simp only [List.flatMap_cons, List.flatMap_nil, List.append_nil]
      rw [g4]
      generalize (rdNum bs (rdSeq bs mo k s).2 mo).2.1 = q at *
      generalize (rdSeq bs mo k s).2.1 = p at *
      rw [show q - s.1 = (p - s.1) + (q - p) by omega, List.take_add, List.drop_drop, show s.1 + (p - s.1) = p by omega]
    · exfalso
      unfold rdNum at h
      rw [if_pos hm] at h
      exact hm h
theorem rdSeq_first {bs : List Nat} {mo : Nat} : ∀ (k : Nat) (s : Nat × Nat), s.2 ≠ 0 → (rdSeq bs mo k s).2 = s
  | 0, s, h => rfl
  | k + 1, s, h => by
    simp only [rdSeq, rdSeq_first k s h]
    unfold rdNum
    rw [if_pos h]

/-- What was written is read as it was. -/
theorem rdNum_form {bs rest : List Nat} {pos n mo : Nat} (hn : n < 18446744073709551616) (hm : n ≤ mo) (h : bs.drop pos = form n ++ rest) : rdNum bs (pos, 0) mo = (n, (pos + (form n).length, 0)) := by
  unfold rdNum
  rw [if_neg (by simp)]
  simp only
  rw [h, scan_form n 0 0 rest (by omega) (by simpa using hn) (by omega)]
  simp only [Nat.pow_zero, Nat.mul_one, Nat.zero_add]
  rw [if_neg (by simp), if_neg (by omega)]
theorem rdSeq_form {bs rest : List Nat} {pos mo : Nat} {l : List Nat} (hl : ∀ n ∈ l, n < 18446744073709551616 ∧ n ≤ mo) (h : bs.drop pos = l.flatMap form ++ rest) :
    ∀ k, k ≤ l.length → rdSeq bs mo k (pos, 0) = (l.take k, (pos + ((l.take k).flatMap form).length, 0))
  | 0, _ => by simp [rdSeq]
  | k + 1, hk => by
    have ih := rdSeq_form hl h k (by omega)
    have hkl : k < l.length := by omega
    have hx := hl _ (List.getElem_mem hkl)
    have e : bs.drop (pos + ((l.take k).flatMap form).length) = form l[k] ++ ((l.drop (k + 1)).flatMap form ++ rest) := by
      rw [← List.drop_drop, h]
      conv => lhs; rw [show l = l.take k ++ (l[k] :: l.drop (k + 1)) by rw [← List.drop_eq_getElem_cons hkl, List.take_append_drop]]
      rw [List.flatMap_append, List.append_assoc]
      have : ((l.take k ++ (l[k] :: l.drop (k + 1))).take k) = l.take k := by
        rw [← List.drop_eq_getElem_cons hkl, List.take_append_drop]
      rw [this, List.drop_left]
      rw [List.flatMap_cons, List.append_assoc]
    have hr := rdNum_form (mo := mo) hx.1 hx.2 e
    simp only [rdSeq, ih, hr]
    rw [List.take_succ_eq_append_getElem hkl, List.flatMap_append, List.length_append]
    simp [Nat.add_assoc]

theorem list14 {α : Type} {l : List α} (h : l.length = 14) : l = [l[0], l[1], l[2], l[3], l[4], l[5], l[6], l[7], l[8], l[9], l[10], l[11], l[12], l[13]] := by
  apply List.ext_getElem
  · simp [h]
  · intro i h1 h2
    rw [h] at h1
    match i, h1 with
    | 0, _ => rfl
    | 1, _ => rfl
    | 2, _ => rfl
    | 3, _ => rfl
    | 4, _ => rfl
    | 5, _ => rfl
    | 6, _ => rfl
    | 7, _ => rfl
    | 8, _ => rfl
    | 9, _ => rfl
    | 10, _ => rfl
    | 11, _ => rfl
    | 12, _ => rfl
    | 13, _ => rfl
    | k + 14, hk => omega
theorem list10 {α : Type} {l : List α} (h : l.length = 10) : l = [l[0], l[1], l[2], l[3], l[4], l[5], l[6], l[7], l[8], l[9]] := by
  apply List.ext_getElem
  · simp [h]
  · intro i h1 h2
    rw [h] at h1
    match i, h1 with
    | 0, _ => rfl
    | 1, _ => rfl
    | 2, _ => rfl
    | 3, _ => rfl
    | 4, _ => rfl
    | 5, _ => rfl
    | 6, _ => rfl
    | 7, _ => rfl
    | 8, _ => rfl
    | 9, _ => rfl
    | k + 10, hk => omega
/-- Parameters of so many numbers. -/
theorem par_of (xs ys : List Nat) (hx : xs.length = 14) (hy : ys.length = 10) : ∃ p : Par, p.us = xs ∧ p.is = ys.map fun (y : Nat) => (y : Int) := by
  refine ⟨⟨xs[0], xs[1], xs[2], xs[3], xs[4], xs[5], xs[6], xs[7], xs[8], xs[9], xs[10], xs[11], xs[12], xs[13], ys[0], ys[1], ys[2], ys[3], ys[4], ys[5], ys[6], ys[7], ys[8], ys[9]⟩, (list14 hx).symm, ?_⟩
  conv => rhs; rw [list10 hy]
  rfl
theorem par_eq {p q : Par} (h1 : p.us = q.us) (h2 : p.is = q.is) : p = q := by
  cases p; cases q
  simp only [Par.us, Par.is, List.cons.injEq, and_true] at h1 h2
  obtain ⟨rfl, rfl, rfl, rfl, rfl, rfl, rfl, rfl, rfl, rfl, rfl, rfl, rfl, rfl⟩ := h1
  obtain ⟨rfl, rfl, rfl, rfl, rfl, rfl, rfl, rfl, rfl, rfl⟩ := h2
  rfl
end Go.Proofs.Ytokaclacejhppaa
