/- What is read off bytes as a deed: nothing of a program. -/
import Derived.Test.YtokaclacejhppaaDeedM
namespace Go.Proofs.Ytokaclacejhppaa
set_option linter.unusedVariables false

/-- What is read as a deed: the deed, why it is none, where the reader is then. -/
inductive DRaw (bs : List Nat) (s : Nat × Nat) : Dd → Nat → Nat × Nat → Prop
  | bad (k : Nat) (st : Nat × Nat) : rdL bs [255] s = ([k], st) → (k = 0 ∨ 7 < k) → DRaw bs s ⟨k, 0, 0, 0, 0, 0, [], 0, Par.none, 0, false⟩ 80 st
  | send (a t m : Nat) (st : Nat × Nat) : rdL bs [255, 63, 63, 4611686018427387904] s = ([1, a, t, m], st) → DRaw bs s ⟨1, a, 0, t, m, 0, [], 0, Par.none, 0, false⟩ (if m = 0 then 80 else 0) st
  | stake (a m : Nat) (st : Nat × Nat) : rdL bs [255, 63, 4611686018427387904] s = ([2, a, m], st) → DRaw bs s ⟨2, a, 0, 0, m, 0, [], 0, Par.none, 0, false⟩ (if m = 0 then 80 else 0) st
  | top (a b m : Nat) (st : Nat × Nat) : rdL bs [255, 63, 127, 4611686018427387904] s = ([3, a, b, m], st) → DRaw bs s ⟨3, a, b, 0, m, 0, [], 0, Par.none, 0, false⟩ (if m = 0 then 80 else 0) st
  | leave (a b : Nat) (st : Nat × Nat) : rdL bs [255, 63, 127] s = ([4, a, b], st) → DRaw bs s ⟨4, a, b, 0, 0, 0, [], 0, Par.none, 0, false⟩ 0 st
  | mark (e : Nat) (s1 : Nat × Nat) (xs : List Nat) (st : Nat × Nat) : rdL bs [255, 1073741824] s = ([5, e], s1) → rdRaw bs s1 32 = (xs, st) → DRaw bs s ⟨5, 0, 0, 0, 0, e, xs, 0, Par.none, 0, false⟩ 0 st
  | params (a : Nat) (s1 : Nat × Nat) (q : Par) (ee : Nat) (st : Nat × Nat) : rdL bs [255, 63, 255] s = ([6, a, 1], s1) → PRes bs s1 q ee st → DRaw bs s ⟨6, a, 0, 0, 0, 0, [], 1, q, 0, false⟩ ee st
  | spend (a t m : Nat) (st : Nat × Nat) : rdL bs [255, 63, 255, 63, 4611686018427387904] s = ([6, a, 2, t, m], st) → DRaw bs s ⟨6, a, 0, t, m, 0, [], 2, Par.none, 0, false⟩ (if m = 0 then 80 else 0) st
  | other (a k : Nat) (st : Nat × Nat) : rdL bs [255, 63, 255] s = ([6, a, k], st) → k ≠ 1 → k ≠ 2 → DRaw bs s ⟨6, a, 0, 0, 0, 0, [], k, Par.none, 0, false⟩ (if 3 ≤ k ∧ k ≤ 4 then 0 else 80) st
  | vote (a b n y : Nat) (st : Nat × Nat) : rdL bs [255, 63, 127, 31, 1] s = ([7, a, b, n, y], st) → DRaw bs s ⟨7, a, b, 0, 0, 0, [], 0, Par.none, n, decide (y = 1)⟩ 0 st

theorem len1 {l : List Nat} (h : l.length = 1) : ∃ a, l = [a] := by
  match l, h with | [a], _ => exact ⟨a, rfl⟩
theorem len2 {l : List Nat} (h : l.length = 2) : ∃ a b, l = [a, b] := by
  match l, h with | [a, b], _ => exact ⟨a, b, rfl⟩
theorem len3 {l : List Nat} (h : l.length = 3) : ∃ a b c, l = [a, b, c] := by
  match l, h with | [a, b, c], _ => exact ⟨a, b, c, rfl⟩
theorem len4 {l : List Nat} (h : l.length = 4) : ∃ a b c d, l = [a, b, c, d] := by
  match l, h with | [a, b, c, d], _ => exact ⟨a, b, c, d, rfl⟩
theorem rdL_one {bs : List Nat} {s : Nat × Nat} {m n : Nat} {t : Nat × Nat} (h : rdNum bs s m = (n, t)) (ms : List Nat) : rdL bs (m :: ms) s = (n :: (rdL bs ms t).1, (rdL bs ms t).2) := by simp only [rdL, h]
theorem rdL_inv {bs : List Nat} {m n : Nat} {ms ns : List Nat} {s t : Nat × Nat} (h : rdL bs (m :: ms) s = (n :: ns, t)) : ∃ s1, rdNum bs s m = (n, s1) ∧ rdL bs ms s1 = (ns, t) := by
  simp only [rdL, Prod.mk.injEq, List.cons.injEq] at h
  exact ⟨_, by rw [← h.1.1], by rw [← h.1.2, ← h.2]⟩
theorem rdL_nil {bs : List Nat} {s t : Nat × Nat} (h : rdL bs [] s = ([], t)) : t = s := by simpa [rdL] using h.symm

/-- Something is read. -/
theorem draw_is (bs : List Nat) (s : Nat × Nat) : ∃ d y st, DRaw bs s d y st := by
  obtain ⟨k, s1, h1⟩ : ∃ k s1, rdNum bs s 255 = (k, s1) := ⟨_, _, rfl⟩
  by_cases hk : k = 0 ∨ 7 < k
  · exact ⟨_, _, _, .bad k s1 (rdL_one h1 []) hk⟩
  · have hc : k = 1 ∨ k = 2 ∨ k = 3 ∨ k = 4 ∨ k = 5 ∨ k = 6 ∨ k = 7 := by omega
    rcases hc with rfl | rfl | rfl | rfl | rfl | rfl | rfl
    · obtain ⟨a, b, c, hl⟩ := len3 (rdL_len bs [63, 63, 4611686018427387904] s1)
      exact ⟨_, _, _, .send a b c _ ((rdL_one h1 _).trans (by rw [hl]))⟩
    · obtain ⟨a, b, hl⟩ := len2 (rdL_len bs [63, 4611686018427387904] s1)
      exact ⟨_, _, _, .stake a b _ ((rdL_one h1 _).trans (by rw [hl]))⟩
    · obtain ⟨a, b, c, hl⟩ := len3 (rdL_len bs [63, 127, 4611686018427387904] s1)
      exact ⟨_, _, _, .top a b c _ ((rdL_one h1 _).trans (by rw [hl]))⟩
    · obtain ⟨a, b, hl⟩ := len2 (rdL_len bs [63, 127] s1)
      exact ⟨_, _, _, .leave a b _ ((rdL_one h1 _).trans (by rw [hl]))⟩
    · obtain ⟨a, hl⟩ := len1 (rdL_len bs [1073741824] s1)
      exact ⟨_, _, _, .mark a _ _ _ ((rdL_one h1 _).trans (by rw [hl])) rfl⟩
    · obtain ⟨a, k, hl⟩ := len2 (rdL_len bs [63, 255] s1)
      have e : rdL bs [255, 63, 255] s = ([6, a, k], (rdL bs [63, 255] s1).2) := (rdL_one h1 _).trans (by rw [hl])
      by_cases h61 : k = 1
      · subst h61
        obtain ⟨q, ee, st, hp⟩ := pres_is bs (rdL bs [63, 255] s1).2
        exact ⟨_, _, _, .params a _ q ee st e hp⟩
      · by_cases h62 : k = 2
        · subst h62
          obtain ⟨t, m, hl2⟩ := len2 (rdL_len bs [63, 4611686018427387904] (rdL bs [63, 255] s1).2)
          refine ⟨_, _, _, .spend a t m (rdL bs [63, 4611686018427387904] (rdL bs [63, 255] s1).2).2 ?_⟩
          have := rdL_append bs [255, 63, 255] [63, 4611686018427387904] s
          rw [e, hl2] at this
          exact this
        · exact ⟨_, _, _, .other a k _ e h61 h62⟩
    · obtain ⟨a, b, c, d, hl⟩ := len4 (rdL_len bs [63, 127, 31, 1] s1)
      exact ⟨_, _, _, .vote a b c d _ ((rdL_one h1 _).trans (by rw [hl]))⟩

theorem flat_map (l : List Nat) : (l.map form).flatten = l.flatMap form := by rw [List.flatMap_def]

theorem rdRaw_good {bs : List Nat} (hb : ∀ x ∈ bs, x < 256) {s st : Nat × Nat} {mo : Nat} {xs : List Nat} (hs : s.1 ≤ bs.length) (h : rdRaw bs s (mo : Int) = (xs, st)) (h0 : st.2 = 0) :
    s.2 = 0 ∧ s.1 ≤ st.1 ∧ st.1 ≤ bs.length ∧ xs.length ≤ mo ∧ (∀ x ∈ xs, x < 256) ∧ form xs.length ++ xs = (bs.drop s.1).take (st.1 - s.1) := by
  unfold rdRaw at h
  by_cases h1 : s.2 ≠ 0
  · rw [if_pos h1] at h; cases h; exact absurd h0 h1
  · rw [if_neg h1, rdInt_cast] at h
    have hbk := rdNum_back hb (mo := mo) hs
    have hmo := rdNum_most bs s mo
    obtain ⟨n, t, e⟩ : ∃ n t, rdNum bs s mo = (n, t) := ⟨_, _, rfl⟩
    rw [e] at h hbk hmo
    simp only at h hbk hmo
    by_cases h2 : t.2 ≠ 0
    · rw [if_pos h2] at h; cases h; exact absurd h0 h2
    · rw [if_neg h2] at h
      obtain ⟨_, g2, g3, g4⟩ := hbk (by omega)
      by_cases h3 : bs.length - t.1 < n
      · rw [if_pos h3] at h; cases h; simp at h0
      · rw [if_neg h3] at h
        cases h
        have hl : ((bs.drop t.1).take n).length = n := by rw [List.length_take, List.length_drop]; omega
        refine ⟨by omega, by simp only; omega, by simp only; omega, by rw [hl]; exact hmo, fun x hx => hb x (List.mem_of_mem_drop (List.mem_of_mem_take hx)), ?_⟩
        simp only
        rw [hl, g4, show t.1 + n - s.1 = (t.1 - s.1) + n by omega, List.take_add, List.drop_drop, show s.1 + (t.1 - s.1) = t.1 by omega]

theorem join {bs : List Nat} {p q r : Nat} (h1 : p ≤ q) (h2 : q ≤ r) : (bs.drop p).take (q - p) ++ (bs.drop q).take (r - q) = (bs.drop p).take (r - p) := by
  rw [show r - p = (q - p) + (r - q) by omega, List.take_add, List.drop_drop, show p + (q - p) = q by omega]

/-- A deed that was read without a fault is right, and has just these bytes. -/
theorem draw_good {bs : List Nat} (hb : ∀ x ∈ bs, x < 256) {s st : Nat × Nat} {d : Dd} (hs : s.1 ≤ bs.length) (h : DRaw bs s d 0 st) (h0 : st.2 = 0) :
    d.Right ∧ s.2 = 0 ∧ s.1 ≤ st.1 ∧ st.1 ≤ bs.length ∧ d.bytes = (bs.drop s.1).take (st.1 - s.1) := by
  have key : ∀ (ms ns : List Nat) (t : Nat × Nat), rdL bs ms s = (ns, t) → t.2 = 0 → (∀ m ∈ ms, m < 18446744073709551616) → Fit ns ms ∧ s.2 = 0 ∧ s.1 ≤ t.1 ∧ t.1 ≤ bs.length ∧ ns.flatMap form = (bs.drop s.1).take (t.1 - s.1) := by
    intro ms ns t e ht hm
    have h1 := rdL_back hb ms s hs
    have h2 := rdL_fit bs ms s hm
    rw [e] at h1 h2
    exact ⟨h2, h1 ht⟩
  obtain ⟨y, hy, h⟩ : ∃ y, 0 = y ∧ DRaw bs s d y st := ⟨0, rfl, h⟩
  cases h with
  | bad k st h1 h2 => omega
  | send a t m st h1 =>
    obtain ⟨f, g1, g2, g3, g4⟩ := key _ _ _ h1 h0 (by decide)
    simp only [Fit] at f
    have hm : m ≠ 0 := fun e => by rw [if_pos e] at hy; omega
    exact ⟨.send a t m (by omega) (by omega) (by omega) (by omega), g1, g2, g3, by rw [← g4, ← flat_map]; rfl⟩
  | stake a m st h1 =>
    obtain ⟨f, g1, g2, g3, g4⟩ := key _ _ _ h1 h0 (by decide)
    simp only [Fit] at f
    have hm : m ≠ 0 := fun e => by rw [if_pos e] at hy; omega
    exact ⟨.stake a m (by omega) (by omega) (by omega), g1, g2, g3, by rw [← g4, ← flat_map]; rfl⟩
  | top a b m st h1 =>
    obtain ⟨f, g1, g2, g3, g4⟩ := key _ _ _ h1 h0 (by decide)
    simp only [Fit] at f
    have hm : m ≠ 0 := fun e => by rw [if_pos e] at hy; omega
    exact ⟨.top a b m (by omega) (by omega) (by omega) (by omega), g1, g2, g3, by rw [← g4, ← flat_map]; rfl⟩
  | leave a b st h1 =>
    obtain ⟨f, g1, g2, g3, g4⟩ := key _ _ _ h1 h0 (by decide)
    simp only [Fit] at f
    exact ⟨.leave a b (by omega) (by omega), g1, g2, g3, by rw [← g4, ← flat_map]; rfl⟩
  | mark e s1 xs st h1 h2 =>
    have hle := (rdL_back hb [255, 1073741824] s hs)
    rw [h1] at hle
    have hf := rdL_failed bs [255, 1073741824] s
    by_cases hs1 : s1.2 = 0
    · obtain ⟨f, g1, g2, g3, g4⟩ := key _ _ _ h1 hs1 (by decide)
      simp only [Fit] at f
      obtain ⟨r1, r2, r3, r4, r5, r6⟩ := rdRaw_good hb (mo := 32) g3 h2 h0
      refine ⟨.mark e xs (by omega) r4 r5, g1, by omega, r3, ?_⟩
      rw [← join g2 r2, ← g4, ← r6, ← flat_map]
      show [form 5, form e, form xs.length ++ xs].flatten = _
      simp
    · unfold rdRaw at h2
      rw [if_pos hs1] at h2
      cases h2
      exact absurd h0 hs1
  | params a s1 q ee st h1 h2 =>
    subst hy
    have hle := (rdL_back hb [255, 63, 255] s hs)
    rw [h1] at hle
    have hs1 : s1.2 = 0 := by
      have := pres_state h2
      by_cases hx : s1.2 = 0
      · exact hx
      · rw [rdL_failed bs _ s1 hx] at this
        rw [this] at h0
        exact h0
    obtain ⟨f, g1, g2, g3, g4⟩ := key _ _ _ h1 hs1 (by decide)
    simp only [Fit] at f
    obtain ⟨⟨N, r1⟩, r2, r3, r4, r5, r6, r7⟩ := pres_good hb g3 h2
    refine ⟨.params a q N (by omega) r1 r2, g1, by omega, r6, ?_⟩
    rw [← join g2 r5, ← g4, ← r7, ← flat_map]
    show ([form 6, form a, form 1] ++ q.nums.map form).flatten = _
    rw [List.flatten_append, flat_map]
    rfl
  | spend a t m st h1 =>
    obtain ⟨f, g1, g2, g3, g4⟩ := key _ _ _ h1 h0 (by decide)
    simp only [Fit] at f
    have hm : m ≠ 0 := fun e => by rw [if_pos e] at hy; omega
    exact ⟨.spend a t m (by omega) (by omega) (by omega) (by omega), g1, g2, g3, by rw [← g4, ← flat_map]; rfl⟩
  | other a k st h1 k1 k2 =>
    obtain ⟨f, g1, g2, g3, g4⟩ := key _ _ _ h1 h0 (by decide)
    simp only [Fit] at f
    have hk : 3 ≤ k ∧ k ≤ 4 := Decidable.byContradiction fun e => by rw [if_neg e] at hy; omega
    exact ⟨.other a k (by omega) hk.1 hk.2, g1, g2, g3, by rw [← g4, ← flat_map, Dd.bytes, parts_other a k k1 k2]; rfl⟩
  | vote a b n y st h1 =>
    obtain ⟨f, g1, g2, g3, g4⟩ := key _ _ _ h1 h0 (by decide)
    simp only [Fit] at f
    refine ⟨.vote a b n _ (by omega) (by omega) (by omega), g1, g2, g3, ?_⟩
    rw [← g4, ← flat_map, Dd.bytes, parts_vote]
    have hy1 : y ≤ 1 := f.2.2.2.2.1.2
    have e : (if decide (y = 1) = true then 1 else 0) = y := by
      by_cases h : y = 1
      · simp [h]
      · simp [h]; omega
    rw [e]; rfl

theorem small_fit {n m : Nat} (h : n ≤ m) (hm : m < 18446744073709551616) : n < 18446744073709551616 ∧ n ≤ m := ⟨by omega, h⟩

/-- The numbers that a right deed begins with, with their most. -/
theorem rdRaw_form {bs rest xs : List Nat} {pos mo : Nat} (hl : xs.length ≤ mo) (hm : mo < 18446744073709551616) (h : bs.drop pos = form xs.length ++ xs ++ rest) (hp : pos ≤ bs.length) : rdRaw bs (pos, 0) (mo : Int) = (xs, (pos + (form xs.length ++ xs).length, 0)) := by
  have e1 := rdNum_form (bs := bs) (rest := xs ++ rest) (pos := pos) (n := xs.length) (mo := mo) (by omega) hl (by rw [h, List.append_assoc])
  unfold rdRaw
  rw [if_neg (by simp), rdInt_cast, e1]
  simp only
  have e2 : bs.drop (pos + (form xs.length).length) = xs ++ rest := by rw [← List.drop_drop, h, List.append_assoc, List.drop_left]
  have e3 : xs.length ≤ bs.length - (pos + (form xs.length).length) := by
    rw [← List.length_drop, e2, List.length_append]; omega
  rw [if_neg (by simp), if_neg (by omega), e2, List.take_left, List.length_append, Nat.add_assoc]

/-- What was written as a right deed is read as it was. -/
theorem draw_form {d : Dd} (hd : d.Right) {bs rest : List Nat} {pos : Nat} (hp : pos ≤ bs.length) (h : bs.drop pos = d.bytes ++ rest) : DRaw bs (pos, 0) d 0 (pos + d.bytes.length, 0) := by
  cases hd with
  | send a t m h1 h2 h3 h4 =>
    have e := rdL_form (bs := bs) [1, a, t, m] [255, 63, 63, 4611686018427387904] pos rest (by simp only [Fit, and_true]; omega) h
    have := DRaw.send (bs := bs) (s := (pos, 0)) a t m _ e
    rw [if_neg (by omega)] at this
    exact this
  | stake a m h1 h2 h3 =>
    have e := rdL_form (bs := bs) [2, a, m] [255, 63, 4611686018427387904] pos rest (by simp only [Fit, and_true]; omega) h
    have := DRaw.stake (bs := bs) (s := (pos, 0)) a m _ e
    rw [if_neg (by omega)] at this
    exact this
  | top a b m h1 h2 h3 h4 =>
    have e := rdL_form (bs := bs) [3, a, b, m] [255, 63, 127, 4611686018427387904] pos rest (by simp only [Fit, and_true]; omega) h
    have := DRaw.top (bs := bs) (s := (pos, 0)) a b m _ e
    rw [if_neg (by omega)] at this
    exact this
  | leave a b h1 h2 =>
    have e := rdL_form (bs := bs) [4, a, b] [255, 63, 127] pos rest (by simp only [Fit, and_true]; omega) h
    exact DRaw.leave (bs := bs) (s := (pos, 0)) a b _ e
  | mark ep xs h1 h2 h3 =>
    have eb : Dd.bytes ⟨5, 0, 0, 0, 0, ep, xs, 0, Par.none, 0, false⟩ = [5, ep].flatMap form ++ (form xs.length ++ xs) := by
      show [form 5, form ep, form xs.length ++ xs].flatten = _
      simp
    rw [eb] at h ⊢
    have e := rdL_form (bs := bs) [5, ep] [255, 1073741824] pos ((form xs.length ++ xs) ++ rest) (by simp only [Fit, and_true]; omega) (by rw [h, List.append_assoc])
    have hd2 : bs.drop (pos + ([5, ep].flatMap form).length) = form xs.length ++ xs ++ rest := by rw [← List.drop_drop, h, List.append_assoc, List.drop_left]
    have hle : pos + ([5, ep].flatMap form).length ≤ bs.length := by
      have : (bs.drop pos).length = _ := congrArg List.length h
      rw [List.length_drop, List.length_append, List.length_append] at this
      omega
    have := DRaw.mark (bs := bs) (s := (pos, 0)) ep _ xs _ e (rdRaw_form (mo := 32) h2 (by omega) hd2 hle)
    rw [List.length_append, ← Nat.add_assoc]
    exact this
  | params a p T h1 h2 h3 =>
    have eb : Dd.bytes ⟨6, a, 0, 0, 0, 0, [], 1, p, 0, false⟩ = [6, a, 1].flatMap form ++ p.bytes := by
      show ([form 6, form a, form 1] ++ p.nums.map form).flatten = _
      rw [List.flatten_append, flat_map]; simp [Par.bytes]
    rw [eb] at h ⊢
    have e := rdL_form (bs := bs) [6, a, 1] [255, 63, 255] pos (p.bytes ++ rest) (by simp only [Fit, and_true]; omega) (by rw [h, List.append_assoc])
    have hd2 : bs.drop (pos + ([6, a, 1].flatMap form).length) = p.bytes ++ rest := by rw [← List.drop_drop, h, List.append_assoc, List.drop_left]
    have := DRaw.params (bs := bs) (s := (pos, 0)) a _ p 0 _ e (pres_form h2 hd2)
    rw [List.length_append, ← Nat.add_assoc]
    exact this
  | spend a t m h1 h2 h3 h4 =>
    have e := rdL_form (bs := bs) [6, a, 2, t, m] [255, 63, 255, 63, 4611686018427387904] pos rest (by simp only [Fit, and_true]; omega) h
    have := DRaw.spend (bs := bs) (s := (pos, 0)) a t m _ e
    rw [if_neg (by omega)] at this
    exact this
  | other a k h1 h2 h3 =>
    rw [Dd.bytes, parts_other a k (by omega) (by omega)] at h ⊢
    have e := rdL_form (bs := bs) [6, a, k] [255, 63, 255] pos rest (by simp only [Fit, and_true]; omega) h
    have := DRaw.other (bs := bs) (s := (pos, 0)) a k _ e (by omega) (by omega)
    rw [if_pos ⟨h2, h3⟩] at this
    exact this
  | vote a b n y h1 h2 h3 =>
    have e := rdL_form (bs := bs) [7, a, b, n, if y then 1 else 0] [255, 63, 127, 31, 1] pos rest (by simp only [Fit, and_true]; cases y <;> simp <;> omega) h
    have := DRaw.vote (bs := bs) (s := (pos, 0)) a b n _ _ e
    have ey : decide ((if y = true then 1 else 0) = 1) = y := by cases y <;> rfl
    rw [ey] at this
    exact this
end Go.Proofs.Ytokaclacejhppaa
