/- What is read off the bytes of a deed that are cut off: nothing of a program. -/
import Derived.Test.YtokaclacejhppaaDeedR
namespace Go.Proofs.Ytokaclacejhppaa
set_option linter.unusedVariables false

theorem rdL_first {bs : List Nat} {n m : Nat} {ns ms : List Nat} {j : Nat} (hf : Fit (n :: ns) (m :: ms)) (h : bs = ((n :: ns).flatMap form).take j) (hj : j < ((n :: ns).flatMap form).length) :
    rdL bs [m] (0, 0) = ([0], (0, 50)) ∨ ∃ vs st, rdL bs (m :: ms) (0, 0) = (n :: vs, st) ∧ vs.length = ms.length ∧ st.2 = 50 := by
  have hc := rdL_cut (bs := bs) (n :: ns) (m :: ms) 0 j [] hf (by rw [List.append_nil]; exact h) hj
  have h1 : bs.drop 0 = (form n ++ ns.flatMap form).take j := by rw [List.drop_zero, h, List.flatMap_cons]
  rcases cut_step hf.1.1 hf.1.2 h1 with ⟨_, h2⟩ | ⟨_, h2, _⟩
  · exact .inl (rdL_one h2 [])
  · refine .inr ⟨(rdL bs ms (0 + (form n).length, 0)).1, (rdL bs ms (0 + (form n).length, 0)).2, rdL_one h2 ms, rdL_len _ _ _, ?_⟩
    rw [rdL_one h2 ms] at hc
    exact hc

theorem bad_cut {bs : List Nat} (h : rdL bs [255] (0, 0) = ([0], (0, 50))) : ∃ d y st, DRaw bs (0, 0) d y st ∧ st.2 = 50 := ⟨_, _, _, .bad 0 _ h (.inl rfl), rfl⟩

/-- A motion whose reader has failed by the time that it is known what it is about. -/
theorem move_cut {bs : List Nat} {a k : Nat} {s1 : Nat × Nat} (h : rdL bs [255, 63, 255] (0, 0) = ([6, a, k], s1)) (h0 : s1.2 = 50) : ∃ d y st, DRaw bs (0, 0) d y st ∧ st.2 = 50 := by
  by_cases h1 : k = 1
  · subst h1
    obtain ⟨q, ee, st, hp⟩ := pres_is bs s1
    refine ⟨_, _, _, .params a s1 q ee st h hp, ?_⟩
    have := pres_state hp
    rw [rdL_failed bs _ s1 (by omega)] at this
    rw [this]; exact h0
  · by_cases h2 : k = 2
    · subst h2
      refine ⟨_, _, _, .spend a 0 0 s1 ?_, h0⟩
      have := rdL_append bs [255, 63, 255] [63, 4611686018427387904] (0, 0)
      rw [h] at this
      simp only at this
      rw [rdL_failed bs _ s1 (by omega)] at this
      exact this
    · exact ⟨_, _, _, .other a k s1 h h1 h2, h0⟩

theorem two {l : List Nat} {α : Type} {b c : α} (h : l.length = [b, c].length) : ∃ x y, l = [x, y] := len2 h
theorem three {l : List Nat} {α : Type} {a b c : α} (h : l.length = [a, b, c].length) : ∃ x y z, l = [x, y, z] := len3 h

theorem rdRaw_cut {bs xs : List Nat} {pos mo j : Nat} (hl : xs.length ≤ mo) (hm : mo < 18446744073709551616) (h : bs.drop pos = (form xs.length ++ xs).take j) (hj : j < (form xs.length ++ xs).length) (hp : pos ≤ bs.length) : (rdRaw bs (pos, 0) (mo : Int)).2.2 = 50 := by
  unfold rdRaw
  rw [if_neg (by simp), rdInt_cast]
  rcases cut_step (by omega) hl h with ⟨_, h1⟩ | ⟨h0, h1, h2⟩
  · rw [h1, if_pos (by simp)]
  · rw [h1]
    simp only
    rw [if_neg (by simp), if_pos]
    rw [← List.length_drop, h2, List.length_take]
    rw [List.length_append] at hj
    omega

theorem draw_cut {d : Dd} (hd : d.Right) {bs : List Nat} {j : Nat} (h : bs = d.bytes.take j) (hj : j < d.bytes.length) : ∃ d' y st, DRaw bs (0, 0) d' y st ∧ st.2 = 50 := by
  cases hd with
  | send a t m h1 h2 h3 h4 =>
    rcases rdL_first (ns := [a, t, m]) (ms := [63, 63, 4611686018427387904]) (n := 1) (m := 255) (by simp only [Fit, and_true]; omega) h hj with e | ⟨vs, st, e, hl, h0⟩
    · exact bad_cut e
    · obtain ⟨x, y, z, rfl⟩ := three hl
      exact ⟨_, _, _, .send x y z st e, h0⟩
  | stake a m h1 h2 h3 =>
    rcases rdL_first (ns := [a, m]) (ms := [63, 4611686018427387904]) (n := 2) (m := 255) (by simp only [Fit, and_true]; omega) h hj with e | ⟨vs, st, e, hl, h0⟩
    · exact bad_cut e
    · obtain ⟨x, y, rfl⟩ := two hl
      exact ⟨_, _, _, .stake x y st e, h0⟩
  | top a b m h1 h2 h3 h4 =>
    rcases rdL_first (ns := [a, b, m]) (ms := [63, 127, 4611686018427387904]) (n := 3) (m := 255) (by simp only [Fit, and_true]; omega) h hj with e | ⟨vs, st, e, hl, h0⟩
    · exact bad_cut e
    · obtain ⟨x, y, z, rfl⟩ := three hl
      exact ⟨_, _, _, .top x y z st e, h0⟩
  | leave a b h1 h2 =>
    rcases rdL_first (ns := [a, b]) (ms := [63, 127]) (n := 4) (m := 255) (by simp only [Fit, and_true]; omega) h hj with e | ⟨vs, st, e, hl, h0⟩
    · exact bad_cut e
    · obtain ⟨x, y, rfl⟩ := two hl
      exact ⟨_, _, _, .leave x y st e, h0⟩
  | mark ep xs h1 h2 h3 =>
    have eb : Dd.bytes ⟨5, 0, 0, 0, 0, ep, xs, 0, Par.none, 0, false⟩ = [5, ep].flatMap form ++ (form xs.length ++ xs) := by
      show [form 5, form ep, form xs.length ++ xs].flatten = _
      simp
    rw [eb] at h hj
    have hf : Fit [5, ep] [255, 1073741824] := by simp only [Fit, and_true]; omega
    rcases Nat.lt_or_ge j ([5, ep].flatMap form).length with hlt | hge
    · rw [List.take_append_of_le_length (by omega)] at h
      rcases rdL_first hf h hlt with e | ⟨vs, st, e, hl, h0⟩
      · exact bad_cut e
      · obtain ⟨x, rfl⟩ := len1 hl
        refine ⟨_, _, _, .mark x st [] st e ?_, h0⟩
        unfold rdRaw
        rw [if_pos (by omega)]
    · have hx : bs = [5, ep].flatMap form ++ (form xs.length ++ xs).take (j - ([5, ep].flatMap form).length) := by rw [h, List.take_append, List.take_of_length_le hge]
      have e := rdL_form (bs := bs) [5, ep] [255, 1073741824] 0 _ hf (by rw [List.drop_zero]; exact hx)
      have hc := rdRaw_cut (bs := bs) (xs := xs) (pos := 0 + ([5, ep].flatMap form).length) (mo := 32) (j := j - ([5, ep].flatMap form).length) h2 (by omega) (by rw [Nat.zero_add, hx, List.drop_left]) (by rw [List.length_append] at hj; omega) (by rw [hx, List.length_append]; omega)
      exact ⟨_, _, _, .mark ep _ _ _ e rfl, hc⟩
  | params a p T h1 h2 h3 =>
    have eb : Dd.bytes ⟨6, a, 0, 0, 0, 0, [], 1, p, 0, false⟩ = [6, a, 1].flatMap form ++ p.bytes := by
      show ([form 6, form a, form 1] ++ p.nums.map form).flatten = _
      rw [List.flatten_append, flat_map]; simp [Par.bytes]
    rw [eb] at h hj
    have hf : Fit [6, a, 1] [255, 63, 255] := by simp only [Fit, and_true]; omega
    rcases Nat.lt_or_ge j ([6, a, 1].flatMap form).length with hlt | hge
    · rw [List.take_append_of_le_length (by omega)] at h
      rcases rdL_first hf h hlt with e | ⟨vs, st, e, hl, h0⟩
      · exact bad_cut e
      · obtain ⟨x, y, rfl⟩ := two hl
        exact move_cut e h0
    · have hx : bs = [6, a, 1].flatMap form ++ p.bytes.take (j - ([6, a, 1].flatMap form).length) := by rw [h, List.take_append, List.take_of_length_le hge]
      have e := rdL_form (bs := bs) [6, a, 1] [255, 63, 255] 0 _ hf (by rw [List.drop_zero]; exact hx)
      obtain ⟨q, ee, st, hp⟩ := pres_is bs (0 + ([6, a, 1].flatMap form).length, 0)
      refine ⟨_, _, _, .params a _ q ee st e hp, ?_⟩
      exact pres_cut h2 (rest := []) (j := j - ([6, a, 1].flatMap form).length) (by rw [Nat.zero_add, hx, List.drop_left, List.append_nil]) (by rw [List.length_append] at hj; omega) hp
  | spend a t m h1 h2 h3 h4 =>
    have hf : Fit [6, a, 2] [255, 63, 255] := by simp only [Fit, and_true]; omega
    have eb : Dd.bytes ⟨6, a, 0, t, m, 0, [], 2, Par.none, 0, false⟩ = [6, a, 2].flatMap form ++ [t, m].flatMap form := by
      show [form 6, form a, form 2, form t, form m].flatten = _
      simp
    rw [eb] at h hj
    rcases Nat.lt_or_ge j ([6, a, 2].flatMap form).length with hlt | hge
    · rw [List.take_append_of_le_length (by omega)] at h
      rcases rdL_first hf h hlt with e | ⟨vs, st, e, hl, h0⟩
      · exact bad_cut e
      · obtain ⟨x, y, rfl⟩ := two hl
        exact move_cut e h0
    · have hx : bs = [6, a, 2].flatMap form ++ ([t, m].flatMap form).take (j - ([6, a, 2].flatMap form).length) := by rw [h, List.take_append, List.take_of_length_le hge]
      have e := rdL_form (bs := bs) [6, a, 2] [255, 63, 255] 0 _ hf (by rw [List.drop_zero]; exact hx)
      have hc := rdL_cut (bs := bs) [t, m] [63, 4611686018427387904] (0 + ([6, a, 2].flatMap form).length) (j - ([6, a, 2].flatMap form).length) [] (by simp only [Fit, and_true]; omega) (by rw [Nat.zero_add, hx, List.drop_left, List.append_nil]) (by rw [List.length_append] at hj; omega)
      obtain ⟨x, y, hl⟩ := len2 (rdL_len bs [63, 4611686018427387904] (0 + ([6, a, 2].flatMap form).length, 0))
      have e2 := rdL_append bs [255, 63, 255] [63, 4611686018427387904] (0, 0)
      rw [e, hl] at e2
      exact ⟨_, _, _, .spend a x y _ e2, hc⟩
  | other a k h1 h2 h3 =>
    rw [Dd.bytes, parts_other a k (by omega) (by omega)] at h hj
    have hf : Fit [6, a, k] [255, 63, 255] := by simp only [Fit, and_true]; omega
    rcases rdL_first hf h hj with e | ⟨vs, st, e, hl, h0⟩
    · exact bad_cut e
    · obtain ⟨x, y, rfl⟩ := two hl
      exact move_cut e h0
  | vote a b n y h1 h2 h3 =>
    rcases rdL_first (ns := [a, b, n, if y then 1 else 0]) (ms := [63, 127, 31, 1]) (n := 7) (m := 255) (by simp only [Fit, and_true]; cases y <;> simp <;> omega) h hj with e | ⟨vs, st, e, hl, h0⟩
    · exact bad_cut e
    · obtain ⟨x, y, z, u, rfl⟩ := len4 hl
      exact ⟨_, _, _, .vote x y z u st e, h0⟩

theorem bytes_lt {d : Dd} (hd : d.Right) : ∀ x ∈ d.bytes, x < 256 := by
  have hm : ∀ (l : List Nat), ∀ x ∈ l.flatMap form, x < 256 := fun l x hx => by
    obtain ⟨n, _, h⟩ := List.mem_flatMap.1 hx
    exact form_lt n x h
  cases hd with
  | send a t m h1 h2 h3 h4 => exact hm [1, a, t, m]
  | stake a m h1 h2 h3 => exact hm [2, a, m]
  | top a b m h1 h2 h3 h4 => exact hm [3, a, b, m]
  | leave a b h1 h2 => exact hm [4, a, b]
  | mark ep xs h1 h2 h3 =>
    intro x hx
    have : x ∈ form 5 ++ (form ep ++ ((form xs.length ++ xs) ++ [])) := hx
    simp only [List.mem_append, List.append_nil] at this
    rcases this with h | h | h | h
    · exact form_lt _ x h
    · exact form_lt _ x h
    · exact form_lt _ x h
    · exact h3 x h
  | params a p T h1 h2 h3 =>
    intro x hx
    have e : Dd.bytes ⟨6, a, 0, 0, 0, 0, [], 1, p, 0, false⟩ = ([6, a, 1] ++ p.nums).flatMap form := by
      show ([form 6, form a, form 1] ++ p.nums.map form).flatten = _
      rw [List.flatten_append, flat_map]; simp
    rw [e] at hx
    exact hm _ x hx
  | spend a t m h1 h2 h3 h4 => exact hm [6, a, 2, t, m]
  | other a k h1 h2 h3 =>
    rw [Dd.bytes, parts_other a k (by omega) (by omega)]
    exact hm [6, a, k]
  | vote a b n y h1 h2 h3 => exact hm [7, a, b, n, if y then 1 else 0]

theorem forms_len (l : List Nat) (h : ∀ n ∈ l, n < 18446744073709551616) : (l.flatMap form).length ≤ l.length * 10 := by
  induction l with
  | nil => simp
  | cons n l ih =>
    have h1 := form_word (h n List.mem_cons_self)
    have h2 := ih (fun x hx => h x (List.mem_cons_of_mem _ hx))
    rw [List.flatMap_cons, List.length_append, List.length_cons]
    omega
theorem bytes_len {d : Dd} (hd : d.Right) : 0 < d.bytes.length ∧ d.bytes.length ≤ 280 := by
  have hm : ∀ (l : List Nat) (n : Nat), (∀ x ∈ n :: l, x < 18446744073709551616) → l.length ≤ 26 → 0 < ((n :: l).flatMap form).length ∧ ((n :: l).flatMap form).length ≤ 280 := fun l n h hl => by
    have h1 := forms_len (n :: l) h
    have h2 := form_pos n
    rw [List.length_cons] at h1
    refine ⟨?_, by omega⟩
    rw [List.flatMap_cons, List.length_append]
    omega
  cases hd with
  | send a t m h1 h2 h3 h4 => exact hm [a, t, m] 1 (by simp; omega) (by simp)
  | stake a m h1 h2 h3 => exact hm [a, m] 2 (by simp; omega) (by simp)
  | top a b m h1 h2 h3 h4 => exact hm [a, b, m] 3 (by simp; omega) (by simp)
  | leave a b h1 h2 => exact hm [a, b] 4 (by simp; omega) (by simp)
  | mark ep xs h1 h2 h3 =>
    have e : Dd.bytes ⟨5, 0, 0, 0, 0, ep, xs, 0, Par.none, 0, false⟩ = form 5 ++ (form ep ++ (form xs.length ++ xs)) := by
      show [form 5, form ep, form xs.length ++ xs].flatten = _
      simp
    have f1 := form_pos 5
    have f2 := form_word (n := 5) (by omega)
    have f3 := form_word (n := ep) (by omega)
    have f4 := form_word (n := xs.length) (by omega)
    rw [e]
    simp only [List.length_append]
    omega
  | params a p T h1 h2 h3 =>
    have e : Dd.bytes ⟨6, a, 0, 0, 0, 0, [], 1, p, 0, false⟩ = (6 :: ([a, 1] ++ p.nums)).flatMap form := by
      show ([form 6, form a, form 1] ++ p.nums.map form).flatten = _
      rw [List.flatten_append, flat_map]; simp
    rw [e]
    refine hm _ 6 ?_ ?_
    · intro x hx
      rcases List.mem_cons.1 hx with rfl | hx
      · omega
      · rcases List.mem_append.1 hx with hx | hx
        · simp at hx; omega
        · rcases List.mem_append.1 hx with h | h
          · exact h3.us x h
          · obtain ⟨y, hy, rfl⟩ := List.mem_map.1 h
            have := h3.is y hy
            omega
    · simp [Par.nums, Par.us, Par.is]
  | spend a t m h1 h2 h3 h4 => exact hm [a, 2, t, m] 6 (by simp; omega) (by simp)
  | other a k h1 h2 h3 =>
    rw [Dd.bytes, parts_other a k (by omega) (by omega)]
    exact hm [a, k] 6 (by simp; omega) (by simp)
  | vote a b n y h1 h2 h3 => exact hm [a, b, n, if y then 1 else 0] 7 (by simp; cases y <;> simp <;> omega) (by simp)
end Go.Proofs.Ytokaclacejhppaa
