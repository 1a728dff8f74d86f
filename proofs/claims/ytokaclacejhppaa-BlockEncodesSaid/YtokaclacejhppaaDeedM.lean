/- Deeds as plain data: which are right, their bytes, what is read off bytes: nothing of a program. -/
import Derived.Test.YtokaclacejhppaaParH
import Derived.Test.YtokaclacejhppaaParF
namespace Go.Proofs.Ytokaclacejhppaa
set_option linter.unusedVariables false

/-- A deed. -/
structure Dd where
  kind : Int
  account : Int
  member : Int
  dest : Int
  amount : Nat
  epoch : Int
  bits : List Nat
  what : Int
  par : Par
  motion : Int
  yes : Bool

/-- Nothing. -/
def Dd.none : Dd := ⟨0, 0, 0, 0, 0, 0, [], 0, Par.none, 0, false⟩

/-- Each number has its bits. -/
structure Dd.Fits (d : Dd) : Prop where
  ints : ∀ x ∈ [d.kind, d.account, d.member, d.dest, d.epoch, d.what, d.motion], -9223372036854775808 ≤ x ∧ x ≤ 9223372036854775807
  amount : d.amount < 18446744073709551616
  bits : ∀ x ∈ d.bits, x < 256
  par : d.par.Fits

/-- The deeds that are right, kind by kind. -/
inductive Dd.Right : Dd → Prop
  | send (a t m : Nat) : a ≤ 63 → t ≤ 63 → 1 ≤ m → m ≤ 4611686018427387904 → Dd.Right ⟨1, a, 0, t, m, 0, [], 0, Par.none, 0, false⟩
  | stake (a m : Nat) : a ≤ 63 → 1 ≤ m → m ≤ 4611686018427387904 → Dd.Right ⟨2, a, 0, 0, m, 0, [], 0, Par.none, 0, false⟩
  | top (a b m : Nat) : a ≤ 63 → b ≤ 127 → 1 ≤ m → m ≤ 4611686018427387904 → Dd.Right ⟨3, a, b, 0, m, 0, [], 0, Par.none, 0, false⟩
  | leave (a b : Nat) : a ≤ 63 → b ≤ 127 → Dd.Right ⟨4, a, b, 0, 0, 0, [], 0, Par.none, 0, false⟩
  | mark (e : Nat) (xs : List Nat) : e ≤ 1073741824 → xs.length ≤ 32 → (∀ x ∈ xs, x < 256) → Dd.Right ⟨5, 0, 0, 0, 0, e, xs, 0, Par.none, 0, false⟩
  | params (a : Nat) (p : Par) (T : Nat) : a ≤ 63 → Par.Right p T → p.Fits → Dd.Right ⟨6, a, 0, 0, 0, 0, [], 1, p, 0, false⟩
  | spend (a t m : Nat) : a ≤ 63 → t ≤ 63 → 1 ≤ m → m ≤ 4611686018427387904 → Dd.Right ⟨6, a, 0, t, m, 0, [], 2, Par.none, 0, false⟩
  | other (a k : Nat) : a ≤ 63 → 3 ≤ k → k ≤ 4 → Dd.Right ⟨6, a, 0, 0, 0, 0, [], k, Par.none, 0, false⟩
  | vote (a b n : Nat) (y : Bool) : a ≤ 63 → b ≤ 127 → n ≤ 31 → Dd.Right ⟨7, a, b, 0, 0, 0, [], 0, Par.none, n, y⟩

/-- What is written of a deed, piece by piece. -/
def Dd.parts (d : Dd) : List (List Nat) :=
  if d.kind = 1 then [form 1, form d.account.toNat, form d.dest.toNat, form d.amount]
  else if d.kind = 2 then [form 2, form d.account.toNat, form d.amount]
  else if d.kind = 3 then [form 3, form d.account.toNat, form d.member.toNat, form d.amount]
  else if d.kind = 4 then [form 4, form d.account.toNat, form d.member.toNat]
  else if d.kind = 5 then [form 5, form d.epoch.toNat, form d.bits.length ++ d.bits]
  else if d.kind = 6 then [form 6, form d.account.toNat, form d.what.toNat] ++ (if d.what = 1 then d.par.nums.map form else if d.what = 2 then [form d.dest.toNat, form d.amount] else [])
  else [form 7, form d.account.toNat, form d.member.toNat, form d.motion.toNat, form (if d.yes then 1 else 0)]
def Dd.bytes (d : Dd) : List Nat := d.parts.flatten

/-- A writer behind pieces more. -/
def wputs (s : List Nat × Nat) (l : List (List Nat)) : List Nat × Nat := l.foldl wput s
theorem wputs_ok : ∀ (l : List (List Nat)) (pre : List Nat), pre.length + l.flatten.length ≤ 131072 → wputs (pre, 0) l = (pre ++ l.flatten, 0)
  | [], pre, _ => by simp [wputs]
  | x :: l, pre, h => by
    rw [List.flatten_cons, List.length_append] at h
    have e : wput (pre, 0) x = (pre ++ x, 0) := by
      unfold wput
      rw [if_neg (by simp), if_neg (by simp only; omega)]
    show wputs (wput (pre, 0) x) l = _
    rw [e, wputs_ok l (pre ++ x) (by rw [List.length_append]; omega), List.flatten_cons, List.append_assoc]

theorem parts_send (a t m : Nat) : Dd.parts ⟨1, a, 0, t, m, 0, [], 0, Par.none, 0, false⟩ = [form 1, form a, form t, form m] := rfl
theorem parts_stake (a m : Nat) : Dd.parts ⟨2, a, 0, 0, m, 0, [], 0, Par.none, 0, false⟩ = [form 2, form a, form m] := rfl
theorem parts_top (a b m : Nat) : Dd.parts ⟨3, a, b, 0, m, 0, [], 0, Par.none, 0, false⟩ = [form 3, form a, form b, form m] := rfl
theorem parts_leave (a b : Nat) : Dd.parts ⟨4, a, b, 0, 0, 0, [], 0, Par.none, 0, false⟩ = [form 4, form a, form b] := rfl
theorem parts_mark (e : Nat) (xs : List Nat) : Dd.parts ⟨5, 0, 0, 0, 0, e, xs, 0, Par.none, 0, false⟩ = [form 5, form e, form xs.length ++ xs] := rfl
theorem parts_params (a : Nat) (p : Par) : Dd.parts ⟨6, a, 0, 0, 0, 0, [], 1, p, 0, false⟩ = [form 6, form a, form 1] ++ p.nums.map form := rfl
theorem parts_spend (a t m : Nat) : Dd.parts ⟨6, a, 0, t, m, 0, [], 2, Par.none, 0, false⟩ = [form 6, form a, form 2, form t, form m] := rfl
theorem parts_other (a k : Nat) (h1 : k ≠ 1) (h2 : k ≠ 2) : Dd.parts ⟨6, a, 0, 0, 0, 0, [], k, Par.none, 0, false⟩ = [form 6, form a, form k] := by
  have e1 : ¬ (k : Int) = 1 := by omega
  have e2 : ¬ (k : Int) = 2 := by omega
  simp [Dd.parts, e1, e2]
theorem parts_vote (a b n : Nat) (y : Bool) : Dd.parts ⟨7, a, b, 0, 0, 0, [], 0, Par.none, n, y⟩ = [form 7, form a, form b, form n, form (if y then 1 else 0)] := rfl

/-- Each number stays below its most. -/
def Fit : List Nat → List Nat → Prop
  | [], [] => True
  | n :: ns, m :: ms => (n < 18446744073709551616 ∧ n ≤ m) ∧ Fit ns ms
  | _, _ => False

/-- Numbers read one behind the other, each with its most. -/
def rdL (bs : List Nat) : List Nat → Nat × Nat → List Nat × (Nat × Nat)
  | [], s => ([], s)
  | m :: ms, s => ((rdNum bs s m).1 :: (rdL bs ms (rdNum bs s m).2).1, (rdL bs ms (rdNum bs s m).2).2)

theorem rdL_len (bs : List Nat) : ∀ (ms : List Nat) (s : Nat × Nat), (rdL bs ms s).1.length = ms.length
  | [], s => rfl
  | m :: ms, s => by simp only [rdL, List.length_cons, rdL_len bs ms]
theorem rdNum_failed (bs : List Nat) (s : Nat × Nat) (m : Nat) (h : s.2 ≠ 0) : rdNum bs s m = (0, s) := by unfold rdNum; rw [if_pos h]
theorem rdL_failed (bs : List Nat) : ∀ (ms : List Nat) (s : Nat × Nat), s.2 ≠ 0 → rdL bs ms s = (ms.map (fun _ => 0), s)
  | [], s, h => rfl
  | m :: ms, s, h => by simp only [rdL, rdNum_failed bs s m h, rdL_failed bs ms s h, List.map_cons]
theorem rdL_append (bs : List Nat) : ∀ (l r : List Nat) (s : Nat × Nat), rdL bs (l ++ r) s = ((rdL bs l s).1 ++ (rdL bs r (rdL bs l s).2).1, (rdL bs r (rdL bs l s).2).2)
  | [], r, s => rfl
  | m :: l, r, s => by simp only [List.cons_append, rdL, rdL_append bs l r]
theorem rdSeq_rdL (bs : List Nat) (mo : Nat) : ∀ (k : Nat) (s : Nat × Nat), rdSeq bs mo k s = rdL bs (List.replicate k mo) s
  | 0, s => rfl
  | k + 1, s => by
    rw [List.replicate_succ', rdL_append, ← rdSeq_rdL bs mo k s]
    rfl
theorem rdL_form {bs : List Nat} : ∀ (ns ms : List Nat) (pos : Nat) (rest : List Nat), Fit ns ms → bs.drop pos = ns.flatMap form ++ rest → rdL bs ms (pos, 0) = (ns, (pos + (ns.flatMap form).length, 0))
  | [], [], pos, rest, _, _ => by simp [rdL]
  | n :: ns, m :: ms, pos, rest, hf, h => by
    rw [List.flatMap_cons, List.append_assoc] at h
    have h1 := rdNum_form hf.1.1 hf.1.2 h
    have h2 : bs.drop (pos + (form n).length) = ns.flatMap form ++ rest := by rw [← List.drop_drop, h, List.drop_left]
    simp only [rdL, h1, rdL_form ns ms _ rest hf.2 h2, List.flatMap_cons, List.length_append, Nat.add_assoc]
  | [], _ :: _, _, _, hf, _ => hf.elim
  | _ :: _, [], _, _, hf, _ => hf.elim

/-- A number that is cut off, or is all there. -/
theorem cut_step {bs r : List Nat} {pos n mo j : Nat} (hn : n < 18446744073709551616) (hm : n ≤ mo) (h : bs.drop pos = (form n ++ r).take j) :
    (j < (form n).length ∧ rdNum bs (pos, 0) mo = (0, (pos, 50))) ∨
    ((form n).length ≤ j ∧ rdNum bs (pos, 0) mo = (n, (pos + (form n).length, 0)) ∧ bs.drop (pos + (form n).length) = r.take (j - (form n).length)) := by
  rcases Nat.lt_or_ge j (form n).length with hj | hj
  · refine .inl ⟨hj, ?_⟩
    rw [List.take_append_of_le_length (by omega)] at h
    unfold rdNum
    rw [if_neg (by simp)]
    simp only
    rw [h, scan_cut n 0 0 j (by omega) (by simpa using hn) hj]
    rfl
  · refine .inr ⟨hj, ?_⟩
    have e : bs.drop pos = form n ++ r.take (j - (form n).length) := by rw [h, List.take_append, List.take_of_length_le hj]
    exact ⟨rdNum_form hn hm e, by rw [← List.drop_drop, e, List.drop_left]⟩

theorem rdL_cut {bs : List Nat} : ∀ (ns ms : List Nat) (pos j : Nat) (rest : List Nat), Fit ns ms → bs.drop pos = (ns.flatMap form ++ rest).take j → j < (ns.flatMap form).length → (rdL bs ms (pos, 0)).2.2 = 50
  | [], [], pos, j, rest, _, _, hj => by simp at hj
  | n :: ns, m :: ms, pos, j, rest, hf, h, hj => by
    rw [List.flatMap_cons, List.append_assoc] at h
    rw [List.flatMap_cons, List.length_append] at hj
    rcases cut_step hf.1.1 hf.1.2 h with ⟨_, h1⟩ | ⟨h0, h1, h2⟩
    · simp only [rdL, h1, rdL_failed bs ms (pos, 50) (by simp)]
    · simp only [rdL, h1]
      exact rdL_cut ns ms _ _ rest hf.2 h2 (by omega)
  | [], _ :: _, _, _, _, hf, _, _ => hf.elim
  | _ :: _, [], _, _, _, hf, _, _ => hf.elim
theorem rdL_back {bs : List Nat} (hb : ∀ x ∈ bs, x < 256) : ∀ (ms : List Nat) (s : Nat × Nat), s.1 ≤ bs.length → (rdL bs ms s).2.2 = 0 →
    s.2 = 0 ∧ s.1 ≤ (rdL bs ms s).2.1 ∧ (rdL bs ms s).2.1 ≤ bs.length ∧ (rdL bs ms s).1.flatMap form = (bs.drop s.1).take ((rdL bs ms s).2.1 - s.1)
  | [], s, hs, h => ⟨h, Nat.le_refl _, hs, by simp [rdL]⟩
  | m :: ms, s, hs, h => by
    simp only [rdL] at h ⊢
    rcases Nat.eq_zero_or_pos (rdNum bs s m).2.2 with hm | hm
    · obtain ⟨h1, h2, h3, h4⟩ := rdNum_back hb hs hm
      obtain ⟨_, g2, g3, g4⟩ := rdL_back hb ms _ h3 h
      refine ⟨h1, Nat.le_trans h2 g2, g3, ?_⟩
      rw [List.flatMap_cons, h4, g4]
      generalize (rdL bs ms (rdNum bs s m).2).2.1 = q at *
      generalize (rdNum bs s m).2.1 = p at *
      rw [show q - s.1 = (p - s.1) + (q - p) by omega, List.take_add, List.drop_drop, show s.1 + (p - s.1) = p by omega]
    · exfalso
      rw [rdL_failed bs ms _ (by omega)] at h
      simp only at h
      omega
theorem rdL_fit (bs : List Nat) : ∀ (ms : List Nat) (s : Nat × Nat), (∀ m ∈ ms, m < 18446744073709551616) → Fit (rdL bs ms s).1 ms
  | [], s, _ => trivial
  | m :: ms, s, h => ⟨⟨Nat.lt_of_le_of_lt (rdNum_most bs s m) (h m List.mem_cons_self), rdNum_most bs s m⟩, rdL_fit bs ms _ (fun x hx => h x (List.mem_cons_of_mem _ hx))⟩

/-- Parameters that are right have their bits; what they may be at most. -/
theorem right_fits {p : Par} {T : Nat} (h : Par.Right p T) : p.Fits ∧ Fit p.us (List.replicate 14 18446744073709551615) ∧ Fit (p.is.map Int.toNat) (List.replicate 10 2147483647) ∧ (∀ x ∈ p.is, 0 ≤ x) := by
  obtain ⟨_, _, _, _, _, _, _, _, _, _, _, _, _, _, _, _, _, _, _, _, _, _, _, _, _, _, _, _, _, _, _, _, _, _, _, _, _, _, _, _, _, _, _, _, _⟩ := h.spans
  refine ⟨⟨?_, ?_⟩, ?_, ?_, ?_⟩
  · intro x hx
    simp only [Par.us, List.mem_cons, List.mem_nil_iff, or_false] at hx
    rcases hx with rfl | rfl | rfl | rfl | rfl | rfl | rfl | rfl | rfl | rfl | rfl | rfl | rfl | rfl <;> omega
  · intro x hx
    simp only [Par.is, List.mem_cons, List.mem_nil_iff, or_false] at hx
    rcases hx with rfl | rfl | rfl | rfl | rfl | rfl | rfl | rfl | rfl | rfl <;> omega
  · refine ⟨⟨?_, ?_⟩, ⟨?_, ?_⟩, ⟨?_, ?_⟩, ⟨?_, ?_⟩, ⟨?_, ?_⟩, ⟨?_, ?_⟩, ⟨?_, ?_⟩, ⟨?_, ?_⟩, ⟨?_, ?_⟩, ⟨?_, ?_⟩, ⟨?_, ?_⟩, ⟨?_, ?_⟩, ⟨?_, ?_⟩, ⟨?_, ?_⟩, trivial⟩ <;> omega
  · refine ⟨⟨?_, ?_⟩, ⟨?_, ?_⟩, ⟨?_, ?_⟩, ⟨?_, ?_⟩, ⟨?_, ?_⟩, ⟨?_, ?_⟩, ⟨?_, ?_⟩, ⟨?_, ?_⟩, ⟨?_, ?_⟩, ⟨?_, ?_⟩, trivial⟩ <;> omega
  · intro x hx
    simp only [Par.is, List.mem_cons, List.mem_nil_iff, or_false] at hx
    rcases hx with rfl | rfl | rfl | rfl | rfl | rfl | rfl | rfl | rfl | rfl <;> omega

theorem pbytes_split (p : Par) : p.bytes = p.us.flatMap form ++ (p.is.map Int.toNat).flatMap form := by unfold Par.bytes Par.nums; rw [List.flatMap_append]

/-- Parameters that were written are read as they were. -/
theorem pres_form {p : Par} {T : Nat} (h : Par.Right p T) {bs rest : List Nat} {pos : Nat} (hd : bs.drop pos = p.bytes ++ rest) : PRes bs (pos, 0) p 0 (pos + p.bytes.length, 0) := by
  obtain ⟨hf, f1, f2, hpos⟩ := right_fits h
  have e0 := pbytes_split p
  have h1 := rdL_form p.us (List.replicate 14 18446744073709551615) pos ((p.is.map Int.toNat).flatMap form ++ rest) f1 (by rw [hd, e0, List.append_assoc])
  have h2 := rdL_form (bs := bs) (p.is.map Int.toNat) (List.replicate 10 2147483647) (pos + (p.us.flatMap form).length) rest f2 (by rw [← List.drop_drop, hd, e0, List.append_assoc, List.drop_left])
  have hlen : pos + (p.us.flatMap form).length + ((p.is.map Int.toNat).flatMap form).length = pos + p.bytes.length := by rw [e0, List.length_append]; omega
  rw [hlen] at h2
  rw [← rdSeq_rdL] at h1 h2
  refine ⟨by rw [h1, h2], .inr ⟨rfl, p, by rw [h1], ?_, .inl ⟨⟨T, h⟩, rfl, rfl⟩⟩⟩
  rw [h1, h2]
  simp only [List.map_map]
  rw [List.map_congr_left (g := id) (fun x hx => by simp only [Function.comp, id]; exact Int.toNat_of_nonneg (hpos x hx)), List.map_id]
theorem pres_state {bs : List Nat} {s st : Nat × Nat} {q : Par} {ee : Nat} (h : PRes bs s q ee st) : st = (rdL bs (List.replicate 14 18446744073709551615 ++ List.replicate 10 2147483647) s).2 := by
  rw [h.1, rdL_append, rdSeq_rdL, rdSeq_rdL]
theorem fit_append : ∀ {a b c d : List Nat}, Fit a b → Fit c d → Fit (a ++ c) (b ++ d)
  | [], [], _, _, _, h => h
  | _ :: _, _ :: _, _, _, ⟨h1, h2⟩, h => ⟨h1, fit_append h2 h⟩
  | [], _ :: _, _, _, h, _ => h.elim
  | _ :: _, [], _, _, h, _ => h.elim
theorem pres_cut {p : Par} {T : Nat} (h : Par.Right p T) {bs rest : List Nat} {pos j : Nat} (hd : bs.drop pos = (p.bytes ++ rest).take j) (hj : j < p.bytes.length) {q : Par} {ee : Nat} {st : Nat × Nat} (hp : PRes bs (pos, 0) q ee st) : st.2 = 50 := by
  obtain ⟨hf, f1, f2, hpos⟩ := right_fits h
  rw [pres_state hp]
  have e0 : p.bytes = (p.us ++ p.is.map Int.toNat).flatMap form := rfl
  rw [e0] at hd hj
  exact rdL_cut _ _ pos j rest (fit_append f1 f2) hd hj
theorem pres_good {bs : List Nat} (hb : ∀ x ∈ bs, x < 256) {s st : Nat × Nat} {q : Par} (hs : s.1 ≤ bs.length) (h : PRes bs s q 0 st) :
    (∃ N, Par.Right q N) ∧ q.Fits ∧ s.2 = 0 ∧ st.2 = 0 ∧ s.1 ≤ st.1 ∧ st.1 ≤ bs.length ∧ q.bytes = (bs.drop s.1).take (st.1 - s.1) := by
  have he := pres_state h
  have hbk := rdL_back hb (List.replicate 14 18446744073709551615 ++ List.replicate 10 2147483647) s hs
  rw [← he] at hbk
  rcases h.2 with ⟨h0, _, h2⟩ | ⟨h0, p, h1, h2, ⟨hR, rfl, _⟩ | ⟨_, _, h3⟩⟩
  · exact absurd h2.symm h0
  · obtain ⟨g1, g2, g3, g4⟩ := hbk h0
    refine ⟨hR, read_fits h1 h2, g1, h0, g2, g3, ?_⟩
    rw [← g4, rdL_append, pbytes_split, List.flatMap_append, ← rdSeq_rdL, ← rdSeq_rdL, h1, h2, List.map_map]
    simp only [Function.comp_def, Int.toNat_natCast, List.map_id']
  · omega
end Go.Proofs.Ytokaclacejhppaa
