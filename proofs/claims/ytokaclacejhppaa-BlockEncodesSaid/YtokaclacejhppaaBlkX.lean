/- Deeds, one behind the other, as plain data: their bytes, and what is read off bytes: nothing of a program. · Layer 9 (block): a list of deeds in memory; whether they are few. By contracts. · Layer 9 (block): deeds as the bytes of a block. By contracts. · Layer 9 (block): bytes as deeds. By contracts. · Layer 9 (block): bytes that are no deeds. By contracts. · Layer 9 (block): the law's plain deeds. By contracts. · Layer 9 (block): two lists of deeds held against each other. By contracts. · Layer 9 (block): encoded and decoded, whatever comes of it; the example. By contracts. · A list of deeds that comes in with a law's arguments. -/
import Derived.Test.YtokaclacejhppaaDeedC
import Derived.Test.YtokaclacejhppaaDeedTop
import Derived.Test.YtokaclacejhppaaSeq
import Derived.Deep.AppendLies
import Derived.Great.BuildSlice
import Derived.Test.YtokaclacejhppaaDeedIn
namespace Go.Proofs.Ytokaclacejhppaa
set_option linter.unusedVariables false

/-! ### Read further on is read from the start of what is left -/
theorem rdNum_at (bs : List Nat) (p : Nat) (s : Nat × Nat) (m : Nat) : rdNum bs (p + s.1, s.2) m = ((rdNum (bs.drop p) s m).1, (p + (rdNum (bs.drop p) s m).2.1, (rdNum (bs.drop p) s m).2.2)) := by
  obtain ⟨q, e⟩ := s
  unfold rdNum
  simp only [List.drop_drop]
  by_cases he : e ≠ 0
  · rw [if_pos he, if_pos he]
  · rw [if_neg he, if_neg he]
    generalize scan 0 0 (bs.drop (p + q)) = r
    obtain ⟨n, k, f⟩ := r
    simp only
    split
    · rfl
    · split
      · rfl
      · simp; omega
theorem rdInt_at (bs : List Nat) (p : Nat) (s : Nat × Nat) (m : Int) : rdInt bs (p + s.1, s.2) m = ((rdInt (bs.drop p) s m).1, (p + (rdInt (bs.drop p) s m).2.1, (rdInt (bs.drop p) s m).2.2)) := by
  obtain ⟨q, e⟩ := s
  unfold rdInt
  simp only [List.drop_drop]
  by_cases he : e ≠ 0
  · rw [if_pos he, if_pos he]
  · rw [if_neg he, if_neg he]
    generalize scan 0 0 (bs.drop (p + q)) = r
    obtain ⟨n, k, f⟩ := r
    simp only
    split
    · rfl
    · split
      · rfl
      · simp; omega
theorem rdRaw_at (bs : List Nat) (p : Nat) (s : Nat × Nat) (m : Int) : rdRaw bs (p + s.1, s.2) m = ((rdRaw (bs.drop p) s m).1, (p + (rdRaw (bs.drop p) s m).2.1, (rdRaw (bs.drop p) s m).2.2)) := by
  unfold rdRaw
  rw [rdInt_at]
  generalize rdInt (bs.drop p) s m = r
  obtain ⟨n, q, f⟩ := r
  simp only [List.length_drop, List.drop_drop]
  by_cases he : s.2 ≠ 0
  · rw [if_pos he, if_pos he]
  · rw [if_neg he, if_neg he]
    by_cases hf : f ≠ 0
    · rw [if_pos hf, if_pos hf]
    · rw [if_neg hf, if_neg hf]
      by_cases hl : bs.length - (p + q) < n
      · rw [if_pos hl, if_pos (by omega)]
      · rw [if_neg hl, if_neg (by omega)]
        simp only [Nat.add_assoc]
theorem rdL_at (bs : List Nat) (p : Nat) : ∀ (ms : List Nat) (s : Nat × Nat), rdL bs ms (p + s.1, s.2) = ((rdL (bs.drop p) ms s).1, (p + (rdL (bs.drop p) ms s).2.1, (rdL (bs.drop p) ms s).2.2))
  | [], s => rfl
  | m :: ms, s => by
    simp only [rdL, rdNum_at bs p s m, rdL_at bs p ms (rdNum (bs.drop p) s m).2]
theorem rdL_from {bs : List Nat} {p : Nat} {ms ns : List Nat} {s st : Nat × Nat} (h : rdL (bs.drop p) ms s = (ns, st)) : rdL bs ms (p + s.1, s.2) = (ns, (p + st.1, st.2)) := by rw [rdL_at, h]
theorem pres_at {bs : List Nat} {p : Nat} {s st : Nat × Nat} {q : Par} {ee : Nat} (h : PRes (bs.drop p) s q ee st) : PRes bs (p + s.1, s.2) q ee (p + st.1, st.2) := by
  have e1 := rdL_at bs p (List.replicate 14 18446744073709551615) s
  have e2 := rdL_at bs p (List.replicate 10 2147483647) (rdSeq (bs.drop p) 18446744073709551615 14 s).2
  rw [← rdSeq_rdL, ← rdSeq_rdL] at e1 e2
  unfold PRes at *
  rw [e1]
  generalize rdSeq (bs.drop p) 18446744073709551615 14 s = r1 at *
  obtain ⟨xs, s1⟩ := r1
  simp only at *
  rw [e2]
  generalize rdSeq (bs.drop p) 2147483647 10 s1 = r2 at *
  obtain ⟨ys, s2⟩ := r2
  simp only at *
  obtain ⟨rfl, h⟩ := h
  exact ⟨rfl, h⟩
theorem draw_at {bs : List Nat} {p : Nat} {s st : Nat × Nat} {d : Dd} {y : Nat} (h : DRaw (bs.drop p) s d y st) : DRaw bs (p + s.1, s.2) d y (p + st.1, st.2) := by
  cases h with
  | bad k _ h hk => exact .bad k _ (rdL_from h) hk
  | send a t m _ h => exact .send a t m _ (rdL_from h)
  | stake a m _ h => exact .stake a m _ (rdL_from h)
  | top a b m _ h => exact .top a b m _ (rdL_from h)
  | leave a b _ h => exact .leave a b _ (rdL_from h)
  | mark ep sm xs _ h KR => exact .mark ep _ xs _ (rdL_from h) (by rw [rdRaw_at, KR])
  | params a sm q ee _ h KP => exact .params a _ q _ _ (rdL_from h) (pres_at KP)
  | spend a t m _ h => exact .spend a t m _ (rdL_from h)
  | other a k _ h h1 h2 => exact .other a k _ (rdL_from h) h1 h2
  | vote a b n yv _ h => exact .vote a b n yv _ (rdL_from h)

/-! ### Deeds -/
/-- Deeds are read one behind the other. -/
inductive Reads (bs : List Nat) : Nat × Nat → List Dd → Nat × Nat → Prop
  | nil (s : Nat × Nat) : Reads bs s [] s
  | cons (s s1 s2 : Nat × Nat) (d : Dd) (ds : List Dd) : DRaw bs s d 0 s1 → s1.2 = 0 → Reads bs s1 ds s2 → Reads bs s (d :: ds) s2

theorem Reads.steps {bs : List Nat} {s s2 : Nat × Nat} {ds : List Dd} (h : Reads bs s ds s2) :
    ∃ st : Nat → Nat × Nat, st 0 = s ∧ st ds.length = s2 ∧ ∀ k d, ds[k]? = some d → DRaw bs (st k) d 0 (st (k + 1)) ∧ (st (k + 1)).2 = 0 := by
  induction h with
  | nil s => exact ⟨fun _ => s, rfl, rfl, fun k d h => by simp at h⟩
  | cons s s1 s2 d ds h1 h0 h2 ih =>
    obtain ⟨st, e0, e1, hk⟩ := ih
    refine ⟨fun k => match k with | 0 => s | k + 1 => st k, rfl, e1, fun k d' hd => ?_⟩
    cases k with
    | zero => simp at hd; subst hd; simp only [e0]; exact ⟨h1, h0⟩
    | succ k => exact hk k d' (by simpa using hd)

/-- The bytes of deeds. -/
def dbytes (ds : List Dd) : List Nat := ds.flatMap Dd.bytes
theorem dbytes_nil : dbytes [] = [] := rfl
theorem dbytes_cons (d : Dd) (ds : List Dd) : dbytes (d :: ds) = d.bytes ++ dbytes ds := by simp [dbytes]
theorem dbytes_snoc (ds : List Dd) (d : Dd) : dbytes (ds ++ [d]) = dbytes ds ++ d.bytes := by simp [dbytes]
/-- The bytes of a block. -/
def blk (ds : List Dd) : List Nat := form ds.length ++ dbytes ds

theorem dbytes_len : ∀ {ds : List Dd}, (∀ d ∈ ds, d.Right) → (dbytes ds).length ≤ 280 * ds.length
  | [], _ => by simp [dbytes]
  | d :: ds, h => by
    rw [dbytes_cons, List.length_append, List.length_cons]
    have := (bytes_len (h d List.mem_cons_self)).2
    have := dbytes_len (ds := ds) (fun x hx => h x (List.mem_cons_of_mem _ hx))
    omega
theorem dbytes_lt {ds : List Dd} (h : ∀ d ∈ ds, d.Right) : ∀ x ∈ dbytes ds, x < 256 := fun x hx => by
  obtain ⟨d, hd, hx⟩ := List.mem_flatMap.1 hx
  exact bytes_lt (h d hd) x hx
theorem blk_lt {ds : List Dd} (h : ∀ d ∈ ds, d.Right) : ∀ x ∈ blk ds, x < 256 := fun x hx => by
  rcases List.mem_append.1 hx with hx | hx
  · exact form_lt _ x hx
  · exact dbytes_lt h x hx
theorem blk_len {ds : List Dd} (h : ∀ d ∈ ds, d.Right) (hl : ds.length ≤ 64) : 0 < (blk ds).length ∧ (blk ds).length ≤ 17930 := by
  have h1 := form_pos ds.length
  have h2 := form_word (n := ds.length) (by omega)
  have h3 := dbytes_len h
  unfold blk
  rw [List.length_append]
  omega

theorem reads_form {bs : List Nat} : ∀ {ds : List Dd} {rest : List Nat} {pos : Nat}, (∀ d ∈ ds, d.Right) → pos ≤ bs.length → bs.drop pos = dbytes ds ++ rest → Reads bs (pos, 0) ds (pos + (dbytes ds).length, 0)
  | [], rest, pos, _, _, _ => .nil _
  | d :: ds, rest, pos, hr, hp, h => by
    rw [dbytes_cons, List.append_assoc] at h
    have h1 := draw_form (hr d List.mem_cons_self) hp h
    have h2 : bs.drop (pos + d.bytes.length) = dbytes ds ++ rest := by rw [← List.drop_drop, h, List.drop_left]
    have hl : pos + d.bytes.length ≤ bs.length := by
      have := congrArg List.length h
      rw [List.length_drop, List.length_append] at this
      omega
    have h3 := reads_form (fun x hx => hr x (List.mem_cons_of_mem _ hx)) hl h2
    rw [Nat.add_assoc, ← List.length_append, ← dbytes_cons] at h3
    exact .cons _ _ _ _ _ h1 rfl h3

theorem reads_cut {bs : List Nat} : ∀ {ds : List Dd} {pos j : Nat}, (∀ d ∈ ds, d.Right) → pos ≤ bs.length → bs.drop pos = (dbytes ds).take j → j < (dbytes ds).length →
    ∃ m s1 d y st, m < ds.length ∧ Reads bs (pos, 0) (ds.take m) s1 ∧ DRaw bs s1 d y st ∧ st.2 = 50
  | [], pos, j, _, _, _, hj => by simp [dbytes] at hj
  | d :: ds, pos, j, hr, hp, h, hj => by
    rw [dbytes_cons] at h hj
    rcases Nat.lt_or_ge j d.bytes.length with hlt | hge
    · rw [List.take_append_of_le_length (by omega)] at h
      obtain ⟨d', y, st, h1, h2⟩ := draw_cut (hr d List.mem_cons_self) h hlt
      have h3 := draw_at h1
      exact ⟨0, _, d', y, _, by simp, by rw [List.take_zero]; exact .nil _, h3, h2⟩
    · have e : bs.drop pos = d.bytes ++ (dbytes ds).take (j - d.bytes.length) := by rw [h, List.take_append, List.take_of_length_le hge]
      have h1 := draw_form (hr d List.mem_cons_self) hp e
      have hl : pos + d.bytes.length ≤ bs.length := by
        have := congrArg List.length e
        rw [List.length_drop, List.length_append] at this
        omega
      obtain ⟨m, s1, d', y, st, hm, g1, g2, g3⟩ := reads_cut (ds := ds) (pos := pos + d.bytes.length) (j := j - d.bytes.length) (fun x hx => hr x (List.mem_cons_of_mem _ hx)) hl (by rw [← List.drop_drop, e, List.drop_left]) (by rw [List.length_append] at hj; omega)
      exact ⟨m + 1, s1, d', y, st, by simp; omega, by rw [List.take_succ_cons]; exact .cons _ _ _ _ _ h1 rfl g1, g2, g3⟩

theorem reads_back {bs : List Nat} (hb : ∀ x ∈ bs, x < 256) {s st : Nat × Nat} {ds : List Dd} (h : Reads bs s ds st) : s.1 ≤ bs.length →
    (∀ d ∈ ds, d.Right) ∧ s.1 ≤ st.1 ∧ st.1 ≤ bs.length ∧ dbytes ds = (bs.drop s.1).take (st.1 - s.1) ∧ (s.2 = 0 → st.2 = 0) := by
  induction h with
  | nil s => exact fun hs => ⟨by simp, Nat.le_refl _, hs, by simp [dbytes], id⟩
  | cons s s1 s2 d ds h1 h0 h2 ih =>
    intro hs
    obtain ⟨k1, k2, k3, k4, k5⟩ := draw_good hb hs h1 h0
    obtain ⟨g1, g2, g3, g4, g5⟩ := ih k4
    refine ⟨?_, Nat.le_trans k3 g2, g3, ?_, fun _ => g5 h0⟩
    · intro x hx
      rcases List.mem_cons.1 hx with rfl | hx
      · exact k1
      · exact g1 x hx
    · rw [dbytes_cons, k5, g4]
      exact join k3 g2

theorem reads_is (bs : List Nat) : ∀ (n : Nat) (s : Nat × Nat), (∃ ds st, ds.length = n ∧ Reads bs s ds st) ∨ (∃ ds s1 d y st, ds.length < n ∧ Reads bs s ds s1 ∧ DRaw bs s1 d y st ∧ (if st.2 = 0 then y else st.2) ≠ 0)
  | 0, s => .inl ⟨[], s, rfl, .nil s⟩
  | n + 1, s => by
    obtain ⟨d, y, st, h⟩ := draw_is bs s
    by_cases h0 : (if st.2 = 0 then y else st.2) = 0
    · have h1 : st.2 = 0 := by
        by_cases h2 : st.2 = 0
        · exact h2
        · rw [if_neg h2] at h0; exact h0
      rw [if_pos h1] at h0
      subst h0
      rcases reads_is bs n st with ⟨ds, s2, hl, hr⟩ | ⟨ds, s1, d', y', s2, hl, hr, hd, he⟩
      · exact .inl ⟨d :: ds, s2, by simp [hl], .cons _ _ _ _ _ h h1 hr⟩
      · exact .inr ⟨d :: ds, s1, d', y', s2, by simp; omega, .cons _ _ _ _ _ h h1 hr, hd, he⟩
    · exact .inr ⟨[], s, d, y, st, by simp, .nil s, h, h0⟩

/-- All are right, or there is a first one that isn't. -/
theorem first_bad : ∀ (ds : List Dd), (∀ d ∈ ds, d.Right) ∨ ∃ i, ∃ d, ds[i]? = some d ∧ ¬ d.Right ∧ ∀ x ∈ ds.take i, x.Right
  | [] => .inl (by simp)
  | d :: ds => by
    by_cases h : d.Right
    · rcases first_bad ds with hr | ⟨i, x, hx, hn, hb⟩
      · exact .inl fun x hx => by
          rcases List.mem_cons.1 hx with rfl | hx
          · exact h
          · exact hr x hx
      · refine .inr ⟨i + 1, x, by simpa using hx, hn, fun z hz => ?_⟩
        rw [List.take_succ_cons] at hz
        rcases List.mem_cons.1 hz with rfl | hz
        · exact h
        · exact hb z hz
    · exact .inr ⟨0, d, rfl, h, by simp⟩
theorem rdInt_ok {bs rest : List Nat} {n mo : Nat} (hn : n < 18446744073709551616) (hm : n ≤ mo) (h : bs = form n ++ rest) : rdInt bs (0, 0) (mo : Int) = (n, ((form n).length, 0)) := by
  have hs := scan_form n 0 0 rest (by omega) (by simpa using hn) (by omega)
  unfold rdInt
  rw [if_neg (by simp)]
  simp only [List.drop_zero]
  rw [h, hs]
  simp only
  rw [if_neg (by simp), if_neg (by omega)]
  simp
theorem rdInt_cut {bs : List Nat} {n mo j : Nat} (hn : n < 18446744073709551616) (hj : j < (form n).length) (h : bs = (form n).take j) : rdInt bs (0, 0) (mo : Int) = (0, (0, 50)) := by
  unfold rdInt
  rw [if_neg (by simp)]
  simp only [List.drop_zero]
  rw [h, scan_cut n 0 0 j (by omega) (by simpa using hn) hj]
  rfl
theorem rdInt_back {bs : List Nat} (hb : ∀ x ∈ bs, x < 256) {mo : Nat} {n : Nat} {s : Nat × Nat} (h : rdInt bs (0, 0) (mo : Int) = (n, s)) (h0 : s.2 = 0) : n ≤ mo ∧ s.1 ≤ bs.length ∧ form n = bs.take s.1 := by
  unfold rdInt at h
  rw [if_neg (by simp)] at h
  simp only [List.drop_zero] at h
  generalize hr : scan 0 0 bs = r at h
  obtain ⟨x, k, f⟩ := r
  simp only at h
  by_cases hf : f ≠ 0
  · rw [if_pos hf] at h
    simp only [Prod.mk.injEq] at h
    rw [← h.2] at h0
    exact absurd h0 hf
  · rw [if_neg hf] at h
    have hf0 : f = 0 := by omega
    subst hf0
    by_cases hm : (mo : Int) < 0 ∨ (mo : Int) < (x : Int)
    · rw [if_pos hm] at h
      simp only [Prod.mk.injEq] at h
      rw [← h.2] at h0
      simp at h0
    · rw [if_neg hm] at h
      simp only [Prod.mk.injEq, Nat.zero_add] at h
      obtain ⟨_, _, h3, h4⟩ := scan_fits hb hr
      obtain ⟨rfl, rfl⟩ := h
      exact ⟨by omega, h3, h4⟩
end Go.Proofs.Ytokaclacejhppaa
namespace Go.Proofs.Ytokaclacejhppaa
open Go.RowKit
set_option linter.unusedVariables false
set_option linter.unusedSimpArgs false

/-- A deed, and where its bits lie. -/
structure De where
  d : Dd
  B : Option Addr
  c : Nat
def De.vals (x : De) : Array Value := x.d.vals x.B x.c
theorem De.len (x : De) : x.vals.toList.length = 34 := rfl

/-- A deed lies from an address on. -/
def De.At (w : World) (a : Addr) (x : De) : Prop := ∀ j v, x.vals.toList[j]? = some v → w.cell? (a.add j) = some v

/-- Deeds lie one behind the other from an address on, in blocks of which S is said; their bits in blocks of which S is said. -/
def Deeds (w : World) (S : Nat → Prop) (A : Option Addr) (l : List De) : Prop :=
  ∀ k x, l[k]? = some x → (∃ a, A = some a ∧ S a.block ∧ De.At w (a.add (k * 34)) x) ∧ Lies w S x.B x.d.bits ∧ x.d.bits.length ≤ x.c ∧ x.c ≤ maxLen

theorem De.At.hold {w w' : World} {a : Addr} {x : De} (h : De.At w a x) (hk : ∀ p : Addr, p.block = a.block → w'.cell? p = w.cell? p) : De.At w' a x := fun j v hv => (hk _ (addr_block _ _)).trans (h j v hv)
theorem Deeds.hold {w w' : World} {S : Nat → Prop} {A : Option Addr} {l : List De} (h : Deeds w S A l) (hk : ∀ p : Addr, S p.block → w'.cell? p = w.cell? p) : Deeds w' S A l := fun k x hx => by
  obtain ⟨⟨a, hA, hb, hc⟩, h2, h3, h4⟩ := h k x hx
  exact ⟨⟨a, hA, hb, hc.hold fun p hp => hk p (by rw [hp, addr_block]; exact hb)⟩, h2.hold hk, h3, h4⟩
theorem De.At.lt {w : World} {a : Addr} {x : De} (h : De.At w a x) : a.block < w.heap.size := by
  have := World.block_lt_of_cell? w _ (h 0 (.int .i64 x.d.kind) rfl)
  rwa [addr_block] at this
theorem Deeds.imp {w : World} {S S' : Nat → Prop} {A : Option Addr} {l : List De} (h : Deeds w S A l) (hS : ∀ k, k < w.heap.size → S k → S' k) : Deeds w S' A l := fun k x hx => by
  obtain ⟨⟨a, hA, hb, hc⟩, h2, h3, h4⟩ := h k x hx
  have hl := hc.lt
  rw [addr_block] at hl
  exact ⟨⟨a, hA, hS _ hl hb, hc⟩, h2.imp hS, h3, h4⟩
theorem Deeds.grown {w w' : World} {S : Nat → Prop} {A : Option Addr} {l : List De} {row : Option Nat} (h : Deeds w S A l) (hg : w.grownBy w' row) (hS : ∀ k, S k → some k ≠ row) : Deeds w' S A l := fun k x hx => by
  obtain ⟨⟨a, hA, hb, hc⟩, h2, h3, h4⟩ := h k x hx
  have hl := hc.lt
  rw [addr_block] at hl
  exact ⟨⟨a, hA, hb, hc.hold fun p hp => World.cell?_of_block (hg.block _ (by rw [hp, addr_block]; exact hl) (by rw [hp, addr_block]; exact hS _ hb))⟩, h2.grown hg hS, h3, h4⟩
theorem Deeds.next {w w' : World} {S : Nat → Prop} {A : Option Addr} {l : List De} (h : Deeds w S A l) (hb : Below w.heap.size w w') : Deeds w' S A l := h.grown (grown_below hb none) (by simp)
theorem Deeds.nil (w : World) (S : Nat → Prop) (A : Option Addr) : Deeds w S A [] := fun k x h => by simp at h
theorem Deeds.get {w : World} {S : Nat → Prop} {A : Option Addr} {l : List De} (h : Deeds w S A l) {k : Nat} (hk : k < l.length) : ∃ x, l[k]? = some x ∧ (∃ a, A = some a ∧ S a.block ∧ De.At w (a.add (k * 34)) x) ∧ Lies w S x.B x.d.bits ∧ x.d.bits.length ≤ x.c ∧ x.c ≤ maxLen :=
  ⟨_, List.getElem?_eq_getElem hk, h k _ (List.getElem?_eq_getElem hk)⟩

theorem own_low {w : World} {B B' : Nat} {e : TypeId} {z : Nat} {v : Value} {n : Nat} {xs : List Value} (h : w.ownsRow B e z v n xs) (hb : B' ≤ B) : w.ownsRow B' e z v n xs :=
  ⟨h.1, h.2.imp id fun ⟨g, cap, cur, h1, h2, h3⟩ => ⟨g, cap, cur, h1, Nat.le_trans hb h2, h3⟩⟩

section
variable {ops : Array Oper} {rest : List Oper} {o : Oper} {a : Act} {w : World} {Q : Exit → Act → World → Prop}
/-- A whole deed out of the midst of a list. -/
theorem load_deed_at (x : Operand) (ho : o.op = .load 39 x) (hgd : Region.wanted o (yielded ops a.tmps) = true) (ad : Addr) (d : De) (hx : a.eval x = .pointer (some ad)) (hD : De.At w ad d)
    (h : wpList Try.prog ops Q rest (a.put o.dst (.agg (d.d.vals d.B d.c))) w) : wpList Try.prog ops Q (o :: rest) a w :=
  wpList_step fun K hK => by
    rw [if_pos hgd]
    have hl : (loadCells ad d.vals.toList.length).run Try.prog w = .ok d.vals.toList.toArray w := run_loadCells_list (P := Try.prog) w ad d.vals.toList hD
    rw [Array.toArray_toList, De.len] at hl
    have hi := deed_size
    cases hq : Try.prog.info? 39 with
    | none => simp [hq] at hi
    | some i =>
      have hs : i.size = 34 := by simpa [hq] using hi
      have hagg : (isAgg 39).run Try.prog w = .ok true w := by
        unfold isAgg
        rw [Sem.run_bind, run_underlying Try.underlying39 w]
        rfl
      have hr : (loadVar 39 ad).run Try.prog w = .ok (.agg d.vals) w := by
        simp [loadVar, Sem.run_bind, hagg, sizeOf, typeInfo, hq, hs, hl]
      unfold Oper.wp execOp
      simp only [ho, hx, Instr.loadAt, Instr.sureAddr, Sem.run_bind, Sem.run_pure, Result.andThen_ok, hr]
      exact hK _ _ h
end

/-- Whether deeds are few: their bits, and how many there are. -/
def Short (l : List De) : Prop := ∀ x ∈ l, x.d.bits.length ≤ 200

theorem first_long : ∀ {l : List De}, ¬ Short l → ∃ (i : Nat) (x : De), l[i]? = some x ∧ 200 < x.d.bits.length ∧ ∀ (j : Nat) (y : De), j < i → l[j]? = some y → y.d.bits.length ≤ 200
  | [], h => absurd (fun x hx => by simp at hx) h
  | x :: l, h => by
    by_cases hx : 200 < x.d.bits.length
    · exact ⟨0, x, rfl, hx, fun j y hj => by omega⟩
    · obtain ⟨i, y, h1, h2, h3⟩ := first_long (l := l) (fun hs => h fun z hz => by
        rcases List.mem_cons.1 hz with rfl | hz
        · omega
        · exact hs z hz)
      refine ⟨i + 1, y, by simpa using h1, h2, fun j z hj hz => ?_⟩
      cases j with
      | zero => simp at hz; subst hz; omega
      | succ j => exact h3 j z (by omega) (by simpa using hz)

set_option maxRecDepth 100000 in
set_option maxHeartbeats 1000000 in
theorem few_ok (l : List De) (most : Nat) (S : Nat → Prop) (A : Option Addr) (c : Nat) (w : World) (h : Deeds w S A l) (hs : Short l) (hm : l.length ≤ most) (hmm : most ≤ 1000) :
    Calls Try.prog 6 #[.slice A l.length c, .int .i64 (most : Int)] w fun e w' => e = .returned (.bool true) ∧ Below w.heap.size w w' := by
  have hz := zero_deed
  have dm : decide (l.length ≤ most) = true := by simp; omega
  have hl : l.length ≤ 1000 := by omega
  have HS := Lib.hid hs
  clear hm hmm hs
  go_enter Try.func6, Try.ntmps6
  go_wp2
  go_loopw [9] (fun i wr => ∃ k : Nat, k ≤ l.length ∧ i = .int .i64 k ∧ Below w.heap.size w wr) (fun i _ => l.length - (intOf i).toNat)
  case atStart => exact ⟨0, Nat.zero_le _, rfl, Below.refl _ _⟩
  case round =>
    obtain ⟨k, hk, rfl, hB⟩ := hrel
    by_cases hlt : k < l.length
    · obtain ⟨x, hx, ⟨a, rfl, hSa, hat⟩, hb, hc, hmx⟩ := (h.next hB).get hlt
      have hki : (k : Int) < (l.length : Int) := by omega
      have hk0 : (0 : Int) ≤ (k : Int) := by omega
      have d2 : decide ((200 : Int) < (x.d.bits.length : Int)) = false := by
        have := HS.out x (List.mem_of_getElem? hx)
        simp; omega
      clear hx hb hc hmx
      go_wp2_with (first
        | (refine load_deed_at _ rfl rfl _ x rfl hat ?_)
        | (refine store_deed _ _ rfl rfl wr.heap.size x.d Dd.none x.B none x.c 0 _ rfl rfl (DeedAt.new wr Dd.none none 0 _) ?_; have hB2 : Below w.heap.size w ((wr.alloc (.cells (Dd.none.vals none 0) 39)).setRow wr.heap.size (x.d.vals x.B x.c)) := below_setRow (hB.alloc hB.size _) hB.size _; have hD2 : DeedAt ((wr.alloc (.cells (Dd.none.vals none 0) 39)).setRow wr.heap.size (x.d.vals x.B x.c)) wr.heap.size x.d x.B x.c 39 := DeedAt.set (DeedAt.new wr Dd.none none 0 _); have c6 := hD2.k6))
      go_roundw
      case rel => exact ⟨k + 1, by omega, by go_num, hB2⟩
      case measure => simp [intOf]; omega
    · obtain rfl : k = l.length := by omega
      go_wp2
      go_ret
      exact ⟨rfl, hB⟩

set_option maxRecDepth 100000 in
set_option maxHeartbeats 1000000 in
theorem few_no (l : List De) (most : Nat) (S : Nat → Prop) (A : Option Addr) (c : Nat) (w : World) (h : Deeds w S A l) (hs : ¬ (Short l ∧ l.length ≤ most)) (hll : l.length ≤ 9223372036854775807) :
    Calls Try.prog 6 #[.slice A l.length c, .int .i64 (most : Int)] w fun e w' => e = .returned (.bool false) ∧ Below w.heap.size w w' := by
  have hz := zero_deed
  by_cases hsh : Short l
  · have dm : decide (l.length ≤ most) = false := by
      have : ¬ l.length ≤ most := fun h => hs ⟨hsh, h⟩
      simp; omega
    have HS := Lib.hid hsh
    clear hs hsh
    go_enter Try.func6, Try.ntmps6
    go_wp2
    go_loopw [9] (fun i wr => ∃ k : Nat, k ≤ l.length ∧ i = .int .i64 k ∧ Below w.heap.size w wr) (fun i _ => l.length - (intOf i).toNat)
    case atStart => exact ⟨0, Nat.zero_le _, rfl, Below.refl _ _⟩
    case round =>
      obtain ⟨k, hk, rfl, hB⟩ := hrel
      by_cases hlt : k < l.length
      · obtain ⟨x, hx, ⟨a, rfl, hSa, hat⟩, hb, hc, hmx⟩ := (h.next hB).get hlt
        have hki : (k : Int) < (l.length : Int) := by omega
        have hk0 : (0 : Int) ≤ (k : Int) := by omega
        have d2 : decide ((200 : Int) < (x.d.bits.length : Int)) = false := by
          have := HS.out x (List.mem_of_getElem? hx)
          simp; omega
        clear hx hb hc hmx
        go_wp2_with (first
        | (refine load_deed_at _ rfl rfl _ x rfl hat ?_)
        | (refine store_deed _ _ rfl rfl wr.heap.size x.d Dd.none x.B none x.c 0 _ rfl rfl (DeedAt.new wr Dd.none none 0 _) ?_; have hB2 : Below w.heap.size w ((wr.alloc (.cells (Dd.none.vals none 0) 39)).setRow wr.heap.size (x.d.vals x.B x.c)) := below_setRow (hB.alloc hB.size _) hB.size _; have hD2 : DeedAt ((wr.alloc (.cells (Dd.none.vals none 0) 39)).setRow wr.heap.size (x.d.vals x.B x.c)) wr.heap.size x.d x.B x.c 39 := DeedAt.set (DeedAt.new wr Dd.none none 0 _); have c6 := hD2.k6))
        go_roundw
        case rel => exact ⟨k + 1, by omega, by go_num, hB2⟩
        case measure => simp [intOf]; omega
      · obtain rfl : k = l.length := by omega
        go_wp2
        go_ret
        exact ⟨rfl, hB⟩
  · obtain ⟨i, y, hi, hy, hb0⟩ := first_long hsh
    have hil : i < l.length := (List.getElem?_eq_some_iff.1 hi).1
    have HI := Lib.hid hi
    have HY := Lib.hid hy
    have HB := Lib.hid hb0
    clear hs hsh hi hy hb0
    go_enter Try.func6, Try.ntmps6
    go_wp2
    go_loopw [9] (fun j wr => ∃ k : Nat, k ≤ i ∧ j = .int .i64 k ∧ Below w.heap.size w wr) (fun j _ => l.length - (intOf j).toNat)
    case atStart => exact ⟨0, Nat.zero_le _, rfl, Below.refl _ _⟩
    case round =>
      obtain ⟨k, hk, rfl, hB⟩ := hrel
      have hlt : k < l.length := by omega
      obtain ⟨x, hx, ⟨a, rfl, hSa, hat⟩, hb, hc, hmx⟩ := (h.next hB).get hlt
      have hki : (k : Int) < (l.length : Int) := by omega
      have hk0 : (0 : Int) ≤ (k : Int) := by omega
      by_cases hk2 : k < i
      · have d2 : decide ((200 : Int) < (x.d.bits.length : Int)) = false := by
          have := HB.out k x hk2 hx
          simp; omega
        clear hx hb hc hmx
        go_wp2_with (first
        | (refine load_deed_at _ rfl rfl _ x rfl hat ?_)
        | (refine store_deed _ _ rfl rfl wr.heap.size x.d Dd.none x.B none x.c 0 _ rfl rfl (DeedAt.new wr Dd.none none 0 _) ?_; have hB2 : Below w.heap.size w ((wr.alloc (.cells (Dd.none.vals none 0) 39)).setRow wr.heap.size (x.d.vals x.B x.c)) := below_setRow (hB.alloc hB.size _) hB.size _; have hD2 : DeedAt ((wr.alloc (.cells (Dd.none.vals none 0) 39)).setRow wr.heap.size (x.d.vals x.B x.c)) wr.heap.size x.d x.B x.c 39 := DeedAt.set (DeedAt.new wr Dd.none none 0 _); have c6 := hD2.k6))
        go_roundw
        case rel => exact ⟨k + 1, by omega, by go_num, hB2⟩
        case measure => simp [intOf]; omega
      · obtain rfl : k = i := by omega
        obtain rfl : x = y := by have := hx.symm.trans HI.out; simpa using this
        have d2 : decide ((200 : Int) < (x.d.bits.length : Int)) = true := by
          have := HY.out
          simp; omega
        clear hx hb hc hmx
        go_wp2_with (first
        | (refine load_deed_at _ rfl rfl _ x rfl hat ?_)
        | (refine store_deed _ _ rfl rfl wr.heap.size x.d Dd.none x.B none x.c 0 _ rfl rfl (DeedAt.new wr Dd.none none 0 _) ?_; have hB2 : Below w.heap.size w ((wr.alloc (.cells (Dd.none.vals none 0) 39)).setRow wr.heap.size (x.d.vals x.B x.c)) := below_setRow (hB.alloc hB.size _) hB.size _; have hD2 : DeedAt ((wr.alloc (.cells (Dd.none.vals none 0) 39)).setRow wr.heap.size (x.d.vals x.B x.c)) wr.heap.size x.d x.B x.c 39 := DeedAt.set (DeedAt.new wr Dd.none none 0 _); have c6 := hD2.k6))
        go_ret
        exact ⟨rfl, hB2⟩
end Go.Proofs.Ytokaclacejhppaa
namespace Go.Proofs.Ytokaclacejhppaa
open Go.RowKit
set_option linter.unusedVariables false
set_option linter.unusedSimpArgs false

theorem wint_small {n : Nat} (h : n ≤ 64) : wint ([], 0) (n : Int) = (form n, 0) := by
  have := form_word (n := n) (by omega)
  unfold wint wput
  rw [if_neg (by omega), if_neg (by simp), if_neg (by simp; omega)]
  simp
theorem dbytes_next {l : List De} {k : Nat} {x : De} (hx : l[k]? = some x) : dbytes ((l.take (k + 1)).map De.d) = dbytes ((l.take k).map De.d) ++ x.d.bytes := by
  have hk := (List.getElem?_eq_some_iff.1 hx)
  rw [List.take_add_one, hx]
  simp [dbytes]
theorem pre_len {l : List De} {k : Nat} (hn : l.length ≤ 64) (h : ∀ x ∈ l.take k, x.d.Right) : (form l.length ++ dbytes ((l.take k).map De.d)).length ≤ 130000 := by
  have h1 := form_word (n := l.length) (by omega)
  have h2 := dbytes_len (ds := (l.take k).map De.d) (fun d hd => by obtain ⟨x, hx, rfl⟩ := List.mem_map.1 hd; exact h x hx)
  rw [List.length_map, List.length_take] at h2
  rw [List.length_append]
  omega

set_option maxRecDepth 100000 in
set_option maxHeartbeats 2000000 in
theorem bencode_ok (l : List De) (A : Option Addr) (c : Nat) (w : World) (h : Deeds w (· < w.heap.size) A l) (hr : ∀ x ∈ l, x.d.Right) (hn : l.length ≤ 64) :
    Calls Try.prog 7 #[.slice A l.length c] w fun e w' => ∃ v, e = .returned (.tuple #[v, .int .i64 0, .int .i64 0]) ∧ w'.ownsRow w.heap.size 5 1 v (blk (l.map De.d)).length (u8s (blk (l.map De.d))) ∧ Below w.heap.size w w' := by
  have hz := zero_deed
  have hzw := run_zero
  have d64 : decide ((64 : Int) < (l.length : Int)) = false := by simp; omega
  have hB : Below w.heap.size w (w.alloc (.cells zeroWriter 51)) := (Below.refl _ _).alloc (Nat.le_refl _) _
  have ki := int_is w.heap.size (fun _ => False) ([], 0) (l.length : Int) _ (writer_new w) (by omega) (by omega)
  rw [wint_small hn] at ki
  have HN := Lib.hid hn
  have HR := Lib.hid hr
  clear hr
  go_enter Try.func7, Try.ntmps7
  go_wp2_with (go_at_call 14; refine ki.mono ?_; clear ki; rintro e w1 ⟨rfl, ⟨F1, hW1, hF1⟩, hg1⟩; have hB1 := hB.trans (below_of_grown hg1 (Nat.le_refl _) (by simp)))
  go_loopw [17] (fun i wr => ∃ k : Nat, k ≤ l.length ∧ i = .int .i64 k ∧ Below w.heap.size w wr ∧ ∃ F, Writes wr w.heap.size F (form l.length ++ dbytes ((l.take k).map De.d), 0)) (fun i _ => l.length - (intOf i).toNat)
  case atStart => exact ⟨0, Nat.zero_le _, rfl, hB1, F1, by simpa [dbytes] using hW1⟩
  case round =>
    obtain ⟨k, hk, rfl, hBr, F, hW⟩ := hrel
    by_cases hlt : k < l.length
    · obtain ⟨x, hx, ⟨a, rfl, hSa, hat⟩, hb, hc, hmx⟩ := (h.hold fun p hp => hBr.cell hp).get hlt
      have hki : (k : Int) < (l.length : Int) := by omega
      have hk0 : (0 : Int) ≤ (k : Int) := by omega
      have hRx := Lib.hid (HR.out x (List.mem_of_getElem? hx))
      have HX := Lib.hid hx
      have hwl := hW.lt
      clear hx
      go_wp2_with (first
        | (refine load_deed_at _ rfl rfl _ x rfl hat ?_)
        | (refine store_deed _ _ rfl rfl wr.heap.size x.d Dd.none x.B none x.c 0 _ rfl rfl (DeedAt.new wr Dd.none none 0 _) ?_; have hb2 : Below wr.heap.size wr ((wr.alloc (.cells (Dd.none.vals none 0) 39)).setRow wr.heap.size (x.d.vals x.B x.c)) := below_setRow ((Below.refl _ _).alloc (Nat.le_refl _) _) (Nat.le_refl _) _; have hD2 : DeedAt ((wr.alloc (.cells (Dd.none.vals none 0) 39)).setRow wr.heap.size (x.d.vals x.B x.c)) wr.heap.size x.d x.B x.c 39 := DeedAt.set (DeedAt.new wr Dd.none none 0 _); have hW2 := hW.below hb2; have hL2 := (hb.grown (grown_below hb2 none) (by simp)).imp (S' := (· ≠ w.heap.size)) (fun k _ h => Nat.ne_of_lt h))
        | (refine load_deed _ rfl rfl _ x.d x.B x.c _ rfl hD2 ?_)
        | (go_at_call 15; refine (dwrite_ok _ F _ x.d x.B x.c _ hRx.out hW2 hL2 hc hmx).mono ?_; rintro e w3 ⟨rfl, ⟨F3, hW3, hF3⟩, hg3⟩; have hB3 := Below.trans (hBr.trans (hb2.mono hBr.size)) (below_of_grown hg3 (Nat.le_refl _) (Nat.le_trans hBr.size hb2.size))))
      go_roundw
      case rel =>
        refine ⟨k + 1, by omega, by go_num, hB3, F3, ?_⟩
        rw [wputs_bytes hRx.out _ (pre_len HN.out fun x hx => HR.out x (List.mem_of_mem_take hx))] at hW3
        rw [dbytes_next HX.out, ← List.append_assoc]
        exact hW3
      case measure => simp [intOf]; omega
    · obtain rfl : k = l.length := by omega
      have ko := out_ok _ _ _ _ hW
      rw [List.take_length] at ko
      have hs := hBr.size
      go_wp2_with (go_at_call 16; refine ko.mono ?_; clear ko; rintro e w4 ⟨v, rfl, hown, hb4⟩)
      refine bodyPost_ret (v := .tuple #[v, .int .i64 0, .int .i64 0]) (by simp [results, Try.results7, go_sem]) rfl ⟨v, rfl, ?_, Below.then hBr hb4⟩
      have e : blk (l.map De.d) = form l.length ++ dbytes (l.map De.d) := by unfold blk; rw [List.length_map]
      rw [e]
      exact own_low hown hs

set_option maxRecDepth 100000 in
theorem bencode_big (n : Nat) (A : Option Addr) (c : Nat) (w : World) (hn : 64 < n) :
    Calls Try.prog 7 #[.slice A n c] w fun e w' => e = .returned (.tuple #[.slice none 0 0, .int .i64 0, .int .i64 3]) ∧ Below w.heap.size w w' := by
  have d64 : decide ((64 : Int) < (n : Int)) = true := by simp; omega
  clear hn
  go_enter Try.func7, Try.ntmps7
  go_wp2
  refine bodyPost_ret (v := .tuple #[.slice none 0 0, .int .i64 0, .int .i64 3]) (by simp [results, Try.results7, go_sem]) rfl ⟨rfl, Below.refl _ _⟩

set_option maxRecDepth 100000 in
set_option maxHeartbeats 2000000 in
theorem bencode_no (l : List De) (A : Option Addr) (c : Nat) (w : World) (h : Deeds w (· < w.heap.size) A l) (i : Nat) (y : De) (hi : l[i]? = some y) (hy : ¬ y.d.Right) (hf : y.d.Fits) (hr : ∀ x ∈ l.take i, x.d.Right) (hn : l.length ≤ 64) :
    Calls Try.prog 7 #[.slice A l.length c] w fun e w' => e = .returned (.tuple #[.slice none 0 0, .int .i64 (i : Int), .int .i64 80]) ∧ Below w.heap.size w w' := by
  have hz := zero_deed
  have hzw := run_zero
  have d64 : decide ((64 : Int) < (l.length : Int)) = false := by simp; omega
  have hB : Below w.heap.size w (w.alloc (.cells zeroWriter 51)) := (Below.refl _ _).alloc (Nat.le_refl _) _
  have ki := int_is w.heap.size (fun _ => False) ([], 0) (l.length : Int) _ (writer_new w) (by omega) (by omega)
  rw [wint_small hn] at ki
  have hil : i < l.length := (List.getElem?_eq_some_iff.1 hi).1
  have HN := Lib.hid hn
  have HR := Lib.hid hr
  have HI := Lib.hid hi
  clear hr hi
  go_enter Try.func7, Try.ntmps7
  go_wp2_with (go_at_call 14; refine ki.mono ?_; clear ki; rintro e w1 ⟨rfl, ⟨F1, hW1, hF1⟩, hg1⟩; have hB1 := hB.trans (below_of_grown hg1 (Nat.le_refl _) (by simp)))
  go_loopw [17] (fun j wr => ∃ k : Nat, k ≤ i ∧ j = .int .i64 k ∧ Below w.heap.size w wr ∧ ∃ F, Writes wr w.heap.size F (form l.length ++ dbytes ((l.take k).map De.d), 0)) (fun j _ => l.length - (intOf j).toNat)
  case atStart => exact ⟨0, Nat.zero_le _, rfl, hB1, F1, by simpa [dbytes] using hW1⟩
  case round =>
    obtain ⟨k, hk, rfl, hBr, F, hW⟩ := hrel
    have hlt : k < l.length := by omega
    obtain ⟨x, hx, ⟨a, rfl, hSa, hat⟩, hb, hc, hmx⟩ := (h.hold fun p hp => hBr.cell hp).get hlt
    have hki : (k : Int) < (l.length : Int) := by omega
    have hk0 : (0 : Int) ≤ (k : Int) := by omega
    have HX := Lib.hid hx
    have hwl := hW.lt
    clear hx
    by_cases hki2 : k < i
    · have hRx := Lib.hid (HR.out x (by
        have hx := HX.out
        exact List.mem_of_getElem? (i := k) (by rw [List.getElem?_take, if_pos hki2]; exact hx)))
      go_wp2_with (first
        | (refine load_deed_at _ rfl rfl _ x rfl hat ?_)
        | (refine store_deed _ _ rfl rfl wr.heap.size x.d Dd.none x.B none x.c 0 _ rfl rfl (DeedAt.new wr Dd.none none 0 _) ?_; have hb2 : Below wr.heap.size wr ((wr.alloc (.cells (Dd.none.vals none 0) 39)).setRow wr.heap.size (x.d.vals x.B x.c)) := below_setRow ((Below.refl _ _).alloc (Nat.le_refl _) _) (Nat.le_refl _) _; have hD2 : DeedAt ((wr.alloc (.cells (Dd.none.vals none 0) 39)).setRow wr.heap.size (x.d.vals x.B x.c)) wr.heap.size x.d x.B x.c 39 := DeedAt.set (DeedAt.new wr Dd.none none 0 _); have hW2 := hW.below hb2; have hL2 := (hb.grown (grown_below hb2 none) (by simp)).imp (S' := (· ≠ w.heap.size)) (fun k _ h => Nat.ne_of_lt h))
        | (refine load_deed _ rfl rfl _ x.d x.B x.c _ rfl hD2 ?_)
        | (go_at_call 15; refine (dwrite_ok _ F _ x.d x.B x.c _ hRx.out hW2 hL2 hc hmx).mono ?_; rintro e w3 ⟨rfl, ⟨F3, hW3, hF3⟩, hg3⟩; have hB3 := Below.trans (hBr.trans (hb2.mono hBr.size)) (below_of_grown hg3 (Nat.le_refl _) (Nat.le_trans hBr.size hb2.size))))
      go_roundw
      case rel =>
        refine ⟨k + 1, by omega, by go_num, hB3, F3, ?_⟩
        rw [wputs_bytes hRx.out _ (pre_len HN.out fun x hx => HR.out x (List.take_subset_take_left _ hk hx))] at hW3
        rw [dbytes_next HX.out, ← List.append_assoc]
        exact hW3
      case measure => simp [intOf]; omega
    · obtain rfl : k = i := by omega
      obtain rfl : x = y := by have := HX.out.symm.trans HI.out; simpa using this
      go_wp2_with (first
        | (refine load_deed_at _ rfl rfl _ x rfl hat ?_)
        | (refine store_deed _ _ rfl rfl wr.heap.size x.d Dd.none x.B none x.c 0 _ rfl rfl (DeedAt.new wr Dd.none none 0 _) ?_; have hb2 : Below wr.heap.size wr ((wr.alloc (.cells (Dd.none.vals none 0) 39)).setRow wr.heap.size (x.d.vals x.B x.c)) := below_setRow ((Below.refl _ _).alloc (Nat.le_refl _) _) (Nat.le_refl _) _; have hD2 : DeedAt ((wr.alloc (.cells (Dd.none.vals none 0) 39)).setRow wr.heap.size (x.d.vals x.B x.c)) wr.heap.size x.d x.B x.c 39 := DeedAt.set (DeedAt.new wr Dd.none none 0 _))
        | (refine load_deed _ rfl rfl _ x.d x.B x.c _ rfl hD2 ?_)
        | (go_at_call 15; refine (dwrite_no _ x.d x.B x.c _ hf hy).mono ?_; rintro e w3 ⟨rfl, hb3⟩; have hB3 := Below.then (hBr.trans (hb2.mono hBr.size)) hb3))
      refine bodyPost_ret (v := .tuple #[.slice none 0 0, .int .i64 (k : Int), .int .i64 80]) (by simp [results, Try.results7, go_sem]) rfl ⟨rfl, hB3⟩
end Go.Proofs.Ytokaclacejhppaa
namespace Go.Proofs.Ytokaclacejhppaa
open Go.RowKit
set_option linter.unusedVariables false
set_option linter.unusedSimpArgs false

/-- The cells of deeds, one behind the other. -/
def flat (l : List De) : List Value := l.flatMap fun x => x.vals.toList
theorem flat_len : ∀ (l : List De), (flat l).length = l.length * 34
  | [] => rfl
  | x :: l => by
    have := flat_len l
    unfold flat at *
    rw [List.flatMap_cons, List.length_append, this, De.len, List.length_cons]
    omega
theorem flat_snoc (l : List De) (x : De) : flat (l ++ [x]) = flat l ++ x.vals.toList := by simp [flat]
theorem flat_at : ∀ {l : List De} {k : Nat} {x : De} {j : Nat} {v : Value}, l[k]? = some x → x.vals.toList[j]? = some v → (flat l)[k * 34 + j]? = some v
  | [], k, x, j, v, h, _ => by simp at h
  | y :: l, 0, x, j, v, h, hv => by
    simp at h
    subst h
    have hj : j < y.vals.toList.length := (List.getElem?_eq_some_iff.1 hv).1
    show (y.vals.toList ++ flat l)[0 * 34 + j]? = some v
    rw [Nat.zero_mul, Nat.zero_add, List.getElem?_append_left hj, hv]
  | y :: l, k + 1, x, j, v, h, hv => by
    have ih := flat_at (l := l) (k := k) (by simpa using h) hv
    show (y.vals.toList ++ flat l)[(k + 1) * 34 + j]? = some v
    rw [List.getElem?_append_right (by rw [De.len]; omega), De.len, show (k + 1) * 34 + j - 34 = k * 34 + j by omega, ih]

/-- A list of deeds that the call has made: its own row, the bits in other blocks of the call's. -/
structure Got (B : Nat) (E : TypeId) (w : World) (v : Value) (l : List De) : Prop where
  own : w.ownsRow B E 34 v l.length (flat l)
  bits : ∀ x ∈ l, Lies w (fun b => B ≤ b ∧ v.ownBlock ≠ some b) x.B x.d.bits ∧ x.d.bits.length ≤ x.c ∧ x.c ≤ maxLen
theorem Got.start (B : Nat) (E : TypeId) (w : World) : Got B E w (.slice none 0 0) [] := ⟨World.ownsRow_nil _ _ _ _, fun x h => by simp at h⟩
theorem Got.grown {B : Nat} {E : TypeId} {w w' : World} {v : Value} {l : List De} {row : Option Nat} (h : Got B E w v l) (hg : w.grownBy w' row) (hr : ∀ k, row = some k → k < B) : Got B E w' v l :=
  ⟨h.own.kept hg (by
    by_cases hv : v.ownBlock = Option.none
    · exact .inl hv
    · obtain ⟨k, hk⟩ := Option.ne_none_iff_exists'.1 hv
      refine .inr fun e => ?_
      have := (h.own.lt k hk).1
      have := hr k (by rw [← e, hk])
      omega), fun x hx => by
    obtain ⟨h1, h2⟩ := h.bits x hx
    exact ⟨h1.grown hg (fun k hk e => by have := hr k e.symm; omega), h2⟩⟩
theorem Got.next {B : Nat} {E : TypeId} {w w' : World} {v : Value} {l : List De} (h : Got B E w v l) (hb : Below w.heap.size w w') : Got B E w' v l := h.grown (grown_below hb Option.none) (by simp)
theorem Got.size {B : Nat} {E : TypeId} {w : World} {v : Value} {l : List De} (h : Got B E w v l) : (v = .slice none 0 0 ∧ l = []) ∨ ∃ g cap, v = .slice (some ⟨g, 0, none⟩) l.length cap := by
  rcases h.own.2 with ⟨h1, h2⟩ | ⟨g, cap, cur, h1, _⟩
  · exact .inl ⟨h1, List.eq_nil_of_length_eq_zero h2⟩
  · exact .inr ⟨g, cap, h1⟩
/-- One more: behind an append. -/
theorem Got.more {B : Nat} {E : TypeId} {w w' : World} {v : Value} {l : List De} {x : De} {g cap : Nat} (h : Got B E w v l) (hown : w'.ownsRow B E 34 (.slice (some ⟨g, 0, none⟩) (l.length + 1) cap) (l.length + 1) (flat l ++ x.vals.toList)) (hg : w.grownBy w' v.ownBlock) (hat : v.ownBlock = some g ∨ g = w.heap.size)
    (hx : Lies w (fun b => B ≤ b ∧ v.ownBlock ≠ some b ∧ b < w.heap.size) x.B x.d.bits) (hc : x.d.bits.length ≤ x.c) (hm : x.c ≤ maxLen) : Got B E w' (.slice (some ⟨g, 0, none⟩) (l.length + 1) cap) (l ++ [x]) := by
  have hown' : ∀ b, b < w.heap.size → v.ownBlock ≠ some b → (Value.slice (some ⟨g, 0, none⟩) (l.length + 1) cap).ownBlock ≠ some b := by
    intro b hb hne e
    simp [Value.ownBlock] at e
    subst e
    rcases hat with hat | hat
    · exact hne hat
    · omega
  refine ⟨by rw [List.length_append, flat_snoc]; exact hown, fun y hy => ?_⟩
  rcases List.mem_append.1 hy with hy | hy
  · obtain ⟨h1, h2⟩ := h.bits y hy
    exact ⟨(h1.imp (S' := fun b => (B ≤ b ∧ v.ownBlock ≠ some b) ∧ b < w.heap.size) (fun k hk h => ⟨h, hk⟩)).grown hg (fun k hk e => hk.1.2 e.symm) |>.imp (fun k _ hk => ⟨hk.1.1, hown' k hk.2 hk.1.2⟩), h2⟩
  · simp at hy
    subst hy
    exact ⟨(hx.grown hg (fun k hk e => hk.2.1 e.symm)).imp (fun k _ hk => ⟨hk.1, hown' k hk.2.2 hk.2.1⟩), hc, hm⟩
/-- Such a list, as any list of deeds. -/
theorem Got.deeds {B : Nat} {E : TypeId} {w : World} {v : Value} {l : List De} (h : Got B E w v l) : ∃ A c, v = .slice A l.length c ∧ l.length ≤ c ∧ c ≤ maxLen ∧ Deeds w (B ≤ ·) A l := by
  rcases h.own.2 with ⟨rfl, h2⟩ | ⟨g, cap, cur, rfl, hb, hh, hn, hm, hs, ht⟩
  · obtain rfl := List.eq_nil_of_length_eq_zero h2
    exact ⟨none, 0, rfl, Nat.le_refl _, Nat.zero_le _, Deeds.nil _ _ _⟩
  · refine ⟨some ⟨g, 0, none⟩, cap, rfl, hn, hm, fun k x hx => ?_⟩
    obtain ⟨h1, h2⟩ := h.bits x (List.mem_of_getElem? hx)
    refine ⟨⟨_, rfl, hb, fun j v hv => ?_⟩, h1.imp (fun k _ hk => hk.1), h2⟩
    rw [Addr.add_add]
    exact h.own.cells (g := g) rfl _ _ (flat_at hx hv)

theorem deed_info : (Try.prog.info? 39).map (fun i => (i.zero, i.size, i.bytes)) = some (some (.agg (Dd.none.vals none 0)), 34, 288) := by kernel_rfl
theorem fill_deed (d : Dd) (B : Option Addr) (c : Nat) : Instr.fill (fun i => some (i * 34, 34)) ((Array.range (1 * 34)).map ((Value.agg (Dd.none.vals none 0)).cells[· % (Value.agg (Dd.none.vals none 0)).cells.size]!)) [(0, .agg (d.vals B c))] = some (d.vals B c) := by kernel_rfl
section
variable {ops : Array Oper} {rest : List Oper} {o : Oper} {a : Act} {w : World} {Q : Exit → Act → World → Prop}
/-- A list of one deed. -/
theorem list_one_deed (hgd : o.guard = none) (x : Operand) (t e : TypeId) (ho : o.op = .buildSlice t 1 #[(0, x)]) (hu : Try.prog.underlying t = some (.slice e)) (he : (Try.prog.info? e).map (fun i => (i.zero, i.size, i.bytes)) = some (some (.agg (Dd.none.vals none 0)), 34, 288)) (d : Dd) (B : Option Addr) (c : Nat) (hx : a.eval x = .agg (d.vals B c))
    (h : wpList Try.prog ops Q rest (a.put o.dst (.slice (some ⟨w.heap.size, 0, none⟩) 1 1)) (w.alloc (.cells (d.vals B c) e))) : wpList Try.prog ops Q (o :: rest) a w := by
  obtain ⟨i0, hi0, hz0, hz1, hz2⟩ := info_parts he
  refine wpList_buildSlice hgd t e 1 #[(0, x)] ho (d.vals B c) i0 _ hu hi0 hz0 (by rw [hz1]; decide) (by rw [hz1]; decide) ?_ h
  rw [hz1]
  simp only [List.map_toArray, List.map_cons, List.map_nil, hx]
  exact fill_deed d B c
end
theorem De.one (x : De) : ∀ v ∈ x.vals.toList, v.oneCell' = true := fun v hv => (Array.all_eq_true_iff_forall_mem.1 (dvals_one x.d x.B x.c)) v (Array.mem_toList_iff.1 hv)
theorem De.new (w : World) (x : De) (T : TypeId) : De.At (w.alloc (.cells (x.d.vals x.B x.c) T)) ⟨w.heap.size, 0, none⟩ x := fun j v hv => by
  rw [Addr.add_mid, Nat.zero_add, cell_of_row _ _ _ _ _ _ (heap_alloc_new w _), ← hv]
  exact Array.getElem?_toList.symm
theorem snoc_take {ds : List Dd} {k : Nat} {d : Dd} (h : ds[k]? = some d) : ds.take (k + 1) = ds.take k ++ [d] := by rw [List.take_add_one, h]; rfl

set_option maxRecDepth 100000 in
set_option maxHeartbeats 4000000 in
theorem bdecode_ok (xs : List Nat) (S : Nat → Prop) (A : Option Addr) (c : Nat) (ds : List Dd) (st : Nat → Nat × Nat) (w : World) (hx : Lies w S A xs) (hl : xs.length ≤ 131072) (hb : ∀ x ∈ xs, x < 256)
    (hi : Hid (rdInt xs (0, 0) 64 = (ds.length, st 0))) (h0 : Hid ((st 0).2 = 0)) (hn : Hid (ds.length ≤ 64)) (hk : Hid (∀ k d, ds[k]? = some d → DRaw xs (st k) d 0 (st (k + 1)) ∧ (st (k + 1)).2 = 0)) (hd : Hid (rdDone xs (st ds.length) = 0)) :
    Calls Try.prog 12 #[.slice A xs.length c] w fun e w' => ∃ (l : List De) (A' : Option Addr) (c' : Nat), e = .returned (.tuple #[.slice A' l.length c', .int .i64 0, .int .i64 0]) ∧ l.map De.d = ds ∧ l.length ≤ c' ∧ c' ≤ maxLen ∧ Deeds w' (w.heap.size ≤ ·) A' l ∧ Below w.heap.size w w' := by
  obtain ⟨i0, hi0, hz0, hz1, hz2⟩ := info_parts deed_info
  have hz := zero_deed
  have dl : decide ((131072 : Int) < (xs.length : Int)) = false := by simp; omega
  have ko := open_is xs S A c w hx (by omega) hb
  have HL := Lib.hid hl
  obtain ⟨n, hnn⟩ : ∃ n, Hid (ds.length = n) := ⟨_, rfl⟩
  rw [hnn.out] at hi hn hd
  have hn64 := hn.out
  clear hx hl hb
  go_enter Try.func12, Try.ntmps12
  go_wp2_with (first
    | (go_at_call 21; refine ko.mono ?_; clear ko; rintro e w1 ⟨rb, A', c', rfl, hR1, hrb, hb1⟩)
    | (go_at_call 22; refine (rint_is rb _ xs (0, 0) A' c' 64 _ hR1 (by omega) (by omega)).mono ?_; rw [hi.out]; rintro e w2 ⟨rfl, hR2, hg2⟩)
    | (go_at_call 23; refine (rerr_is rb _ xs (st 0) A' c' _ hR2).mono ?_; rw [h0.out]; rintro e w3 ⟨rfl, rfl⟩))
  have hrw := hR1.lt
  have hB2 : Below w.heap.size w w2 := hb1.trans (below_of_grown hg2 hrb hb1.size)
  have hs2 : w1.heap.size ≤ w2.heap.size := hg2.size
  clear hR1
  go_loopw [2, 25] (fun v i wr => ∃ (k : Nat) (l : List De), k ≤ n ∧ i = .int .i64 k ∧ Hid (l.length = k) ∧ Hid (l.map De.d = ds.take k) ∧ Got w1.heap.size 39 wr v l ∧ ReaderAt wr rb (fun k => w.heap.size ≤ k ∧ k < rb) xs (st k) A' c' ∧ Below w.heap.size w wr ∧ w1.heap.size ≤ wr.heap.size) (fun _ i _ => n - (intOf i).toNat)
  case atStart => exact ⟨0, [], Nat.zero_le _, rfl, rfl, rfl, Got.start _ _ _, hR2, hB2, hs2⟩
  case round =>
    obtain ⟨k, l, hkn, rfl, hlen, hmap, hG, hR, hBr, hsz⟩ := hrel
    by_cases hlt : k < n
    · obtain ⟨d, hdd⟩ : ∃ d, ds[k]? = some d := ⟨_, List.getElem?_eq_getElem (by rw [hnn.out]; exact hlt)⟩
      have HD := Lib.hid hdd
      obtain ⟨hdr, hd0⟩ := hk.out k d hdd
      have kd := dread_ok rb _ xs (st k) A' c' d (st (k + 1)) wr hR (fun k hk => by omega) (by have := HL.out; omega) (Lib.hid hdr) (Lib.hid hd0)
      have hki : (k : Int) < (n : Int) := by omega
      have hk0 : (0 : Int) ≤ (k : Int) := by omega
      clear hdd hdr hd0
      go_upto_region 14 with (first
        | (go_at_call 24; refine kd.mono ?_; clear kd; rintro e w3 ⟨B, cc, rfl, hL3, hc3, hm3, hR3, hg3⟩)
        | (refine store_deed _ _ rfl rfl w3.heap.size d Dd.none B none cc 0 _ rfl rfl (DeedAt.new w3 Dd.none none 0 _) ?_))
      generalize hW4 : World.setRow _ _ _ = w4
      have hD4 : DeedAt w4 w3.heap.size d B cc 39 := by rw [← hW4]; exact DeedAt.set (DeedAt.new w3 Dd.none none 0 _)
      have hb4 : Below w3.heap.size w3 w4 := by rw [← hW4]; exact below_setRow ((Below.refl _ _).alloc (Nat.le_refl _) _) (Nat.le_refl _) _
      clear hW4
      have hs3 := hg3.size
      have hb5 : Below w4.heap.size w4 (w4.alloc (.cells (d.vals B cc) 39)) := (Below.refl _ _).alloc (Nat.le_refl _) _
      have hG4 := (hG.grown hg3 (fun k hk => by injection hk with hk; omega)).next hb4
      have hG5 := hG4.next hb5
      have hR5 := (hR3.grown (grown_below hb4 none) (by simp) (by simp)).grown (grown_below hb5 none) (by simp) (by simp)
      have hN5 := De.new w4 ⟨d, B, cc⟩ 39
      have hw4 := hb4.size
      have hL5 : Lies (w4.alloc (.cells (d.vals B cc) 39)) (fun b => w1.heap.size ≤ b ∧ u2.ownBlock ≠ some b ∧ b < (w4.alloc (.cells (d.vals B cc) 39)).heap.size) B d.bits :=
        ((hL3.grown (grown_below hb4 none) (by simp)).grown (grown_below hb5 none) (by simp)).imp (fun k hk h => ⟨by omega, fun e => by have := (hG.own.lt k e).2; omega, hk⟩)
      have hB5 : Below w.heap.size w (w4.alloc (.cells (d.vals B cc) 39)) := (Below.trans hBr (below_of_grown hg3 hrb hBr.size)).trans ((Below.then hb4 hb5).mono (by omega))
      have hz5 : w4.heap.size + 1 = (w4.alloc (.cells (d.vals B cc) 39)).heap.size := by simp
      have HL5 := Lib.hid hL5
      have HB5 := Lib.hid hB5
      have HN5 := Lib.hid hN5
      have HG5 := Lib.hid hG5
      have hl64 : l.length ≤ 64 := by have := hlen.out; omega
      have hx5 : w1.heap.size ≤ (w4.alloc (.cells (d.vals B cc) 39)).heap.size := by simp; omega
      have HX5 := Lib.hid hx5
      have HR5 := Lib.hid hR5
      have hc3' := hc3
      clear hL3 hc3 hG hR hR3 hBr hb4 hb5 hG4 hL5 hB5 hN5 hG5 hg3 hz5 hx5 hR5
      go_wp2_with (first
        | (refine load_deed _ rfl rfl _ d B cc _ rfl hD4 ?_)
        | (refine list_one_deed rfl _ _ _ rfl Try.underlying22 deed_info d B cc rfl ?_)
        | (at_builtin; refine wpList_append_lies _ rfl _ _ 22 rfl w1.heap.size 39 i0 _ 34 288 Try.underlying22 hi0 hz0 hz1 hz2 rfl (by decide) u2 l.length (flat l) rfl HG5.out.own ⟨w4.heap.size, 0, none⟩ 1 1 (d.vals B cc).toList rfl rfl HN5.out (De.one ⟨d, B, cc⟩) (by decide) ?c1 ?c2 HX5.out _ rfl ?_))
      case c1 => simp only [maxLen]; omega
      case c2 => omega
      intro g cap w6 hown6 hg6 hat6 hlt6
      have hat6' : u2.ownBlock = some g ∨ g = (w4.alloc (.cells (d.vals B cc) 39)).heap.size := by simpa using hat6
      have HG6 := Lib.hid (HG5.out.more (x := ⟨d, B, cc⟩) hown6 hg6 hat6' HL5.out hc3' hm3)
      have HB6 := Lib.hid (HB5.out.grown hg6 (by simp; omega) (fun k hk => Nat.le_trans hb1.size (HG5.out.own.lt k hk).1))
      have HR6 := Lib.hid (HR5.out.grown hg6 (fun e => by have := (HG5.out.own.lt rb e.symm).1; omega) (fun k hk e => by have := (HG5.out.own.lt k e.symm).1; omega))
      have HX6 := Lib.hid (Nat.le_trans HX5.out hg6.size)
      clear hown6 hg6 hat6 hat6' hlt6
      go_wp2
      go_roundw
      case rel =>
        refine ⟨k + 1, l ++ [⟨d, B, cc⟩], by omega, by go_num, ?_, ?_, HG6.out, HR6.out, HB6.out, HX6.out⟩
        · show (l ++ [_]).length = k + 1
          rw [List.length_append, hlen.out]; rfl
        · show (l ++ [_]).map De.d = ds.take (k + 1)
          rw [snoc_take HD.out, List.map_append, hmap.out]; rfl
      case measure => simp [intOf]; omega
    · obtain rfl : k = n := by omega
      have kd := rdone_is rb _ xs (st k) A' c' _ hR
      rw [hd.out] at kd
      obtain ⟨A2, c2, rfl, hr2, hm2, hDs⟩ := hG.deeds
      rw [hlen.out] at hr2
      go_wp2_with (go_at_call 25; refine kd.mono ?_; clear kd; rintro e w4 ⟨rfl, q, rfl⟩)
      refine bodyPost_ret (v := .tuple #[.slice A2 l.length c2, .int .i64 0, .int .i64 0]) (by simp [results, Try.results12, go_sem]) rfl ⟨l, A2, c2, rfl, ?_, by rw [hlen.out]; exact hr2, hm2, ?_, ?_⟩
      · rw [hmap.out, ← hnn.out, List.take_length]
      · exact (hDs.imp (fun k _ hk => Nat.le_trans hb1.size hk))
      · exact below_drewN hBr q
end Go.Proofs.Ytokaclacejhppaa
namespace Go.Proofs.Ytokaclacejhppaa
open Go.RowKit
set_option linter.unusedVariables false
set_option linter.unusedSimpArgs false

set_option maxRecDepth 100000 in
set_option maxHeartbeats 4000000 in
theorem bdecode_num (xs : List Nat) (S : Nat → Prop) (A : Option Addr) (c : Nat) (n z : Nat) (s' : Nat × Nat) (w : World) (hx : Lies w S A xs) (hl : xs.length ≤ 131072) (hb : ∀ x ∈ xs, x < 256)
    (hi : Hid (rdInt xs (0, 0) 64 = (n, s'))) (hz : Hid (s'.2 = z)) (hz0 : Hid (z ≠ 0)) :
    Calls Try.prog 12 #[.slice A xs.length c] w fun e w' => e = .returned (.tuple #[.slice none 0 0, .int .i64 0, .int .i64 (z : Int)]) ∧ Below w.heap.size w w' := by
  have dl : decide ((131072 : Int) < (xs.length : Int)) = false := by simp; omega
  have ko := open_is xs S A c w hx (by omega) hb
  have dz : ((z : Int) != 0) = true := by have := hz0.out; simp; omega
  clear hx hl hb
  go_enter Try.func12, Try.ntmps12
  go_wp2_with (first
    | (go_at_call 21; refine ko.mono ?_; clear ko; rintro e w1 ⟨rb, A', c', rfl, hR1, hrb, hb1⟩)
    | (go_at_call 22; refine (rint_is rb _ xs (0, 0) A' c' 64 _ hR1 (by omega) (by omega)).mono ?_; rw [hi.out]; rintro e w2 ⟨rfl, hR2, hg2⟩)
    | (go_at_call 23; refine (rerr_is rb _ xs s' A' c' _ hR2).mono ?_; rw [hz.out]; rintro e w3 ⟨rfl, rfl⟩))
  have hB2 : Below w.heap.size w w2 := hb1.trans (below_of_grown hg2 hrb hb1.size)
  refine bodyPost_ret (v := .tuple #[.slice none 0 0, .int .i64 0, .int .i64 (z : Int)]) (by simp [results, Try.results12, go_sem]) rfl ⟨rfl, hB2⟩

set_option maxRecDepth 100000 in
set_option maxHeartbeats 4000000 in
theorem bdecode_left (xs : List Nat) (S : Nat → Prop) (A : Option Addr) (c : Nat) (ds : List Dd) (st : Nat → Nat × Nat) (w : World) (hx : Lies w S A xs) (hl : xs.length ≤ 131072) (hb : ∀ x ∈ xs, x < 256)
    (hi : Hid (rdInt xs (0, 0) 64 = (ds.length, st 0))) (h0 : Hid ((st 0).2 = 0)) (hn : Hid (ds.length ≤ 64)) (hk : Hid (∀ k d, ds[k]? = some d → DRaw xs (st k) d 0 (st (k + 1)) ∧ (st (k + 1)).2 = 0)) (z : Nat) (hz0 : Hid (z ≠ 0)) (hd : Hid (rdDone xs (st ds.length) = z)) :
    Calls Try.prog 12 #[.slice A xs.length c] w fun e w' => e = .returned (.tuple #[.slice none 0 0, .int .i64 (ds.length : Int), .int .i64 (z : Int)]) ∧ Below w.heap.size w w' := by
  obtain ⟨i0, hi0, hz00, hz1, hz2⟩ := info_parts deed_info
  have hz := zero_deed
  have dz : ((z : Int) != 0) = true := by have := hz0.out; simp; omega
  have dl : decide ((131072 : Int) < (xs.length : Int)) = false := by simp; omega
  have ko := open_is xs S A c w hx (by omega) hb
  have HL := Lib.hid hl
  obtain ⟨n, hnn⟩ : ∃ n, Hid (ds.length = n) := ⟨_, rfl⟩
  rw [hnn.out] at hi hn hd ⊢
  have hn64 := hn.out
  clear hx hl hb
  go_enter Try.func12, Try.ntmps12
  go_wp2_with (first
    | (go_at_call 21; refine ko.mono ?_; clear ko; rintro e w1 ⟨rb, A', c', rfl, hR1, hrb, hb1⟩)
    | (go_at_call 22; refine (rint_is rb _ xs (0, 0) A' c' 64 _ hR1 (by omega) (by omega)).mono ?_; rw [hi.out]; rintro e w2 ⟨rfl, hR2, hg2⟩)
    | (go_at_call 23; refine (rerr_is rb _ xs (st 0) A' c' _ hR2).mono ?_; rw [h0.out]; rintro e w3 ⟨rfl, rfl⟩))
  have hrw := hR1.lt
  have hB2 : Below w.heap.size w w2 := hb1.trans (below_of_grown hg2 hrb hb1.size)
  have hs2 : w1.heap.size ≤ w2.heap.size := hg2.size
  clear hR1
  go_loopw [2, 25] (fun v i wr => ∃ (k : Nat) (l : List De), k ≤ n ∧ i = .int .i64 k ∧ Hid (l.length = k) ∧ Hid (l.map De.d = ds.take k) ∧ Got w1.heap.size 39 wr v l ∧ ReaderAt wr rb (fun k => w.heap.size ≤ k ∧ k < rb) xs (st k) A' c' ∧ Below w.heap.size w wr ∧ w1.heap.size ≤ wr.heap.size) (fun _ i _ => n - (intOf i).toNat)
  case atStart => exact ⟨0, [], Nat.zero_le _, rfl, rfl, rfl, Got.start _ _ _, hR2, hB2, hs2⟩
  case round =>
    obtain ⟨k, l, hkn, rfl, hlen, hmap, hG, hR, hBr, hsz⟩ := hrel
    by_cases hlt : k < n
    · obtain ⟨d, hdd⟩ : ∃ d, ds[k]? = some d := ⟨_, List.getElem?_eq_getElem (by rw [hnn.out]; exact hlt)⟩
      have HD := Lib.hid hdd
      obtain ⟨hdr, hd0⟩ := hk.out k d hdd
      have kd := dread_ok rb _ xs (st k) A' c' d (st (k + 1)) wr hR (fun k hk => by omega) (by have := HL.out; omega) (Lib.hid hdr) (Lib.hid hd0)
      have hki : (k : Int) < (n : Int) := by omega
      have hk0 : (0 : Int) ≤ (k : Int) := by omega
      clear hdd hdr hd0
      go_upto_region 14 with (first
        | (go_at_call 24; refine kd.mono ?_; clear kd; rintro e w3 ⟨B, cc, rfl, hL3, hc3, hm3, hR3, hg3⟩)
        | (refine store_deed _ _ rfl rfl w3.heap.size d Dd.none B none cc 0 _ rfl rfl (DeedAt.new w3 Dd.none none 0 _) ?_))
      generalize hW4 : World.setRow _ _ _ = w4
      have hD4 : DeedAt w4 w3.heap.size d B cc 39 := by rw [← hW4]; exact DeedAt.set (DeedAt.new w3 Dd.none none 0 _)
      have hb4 : Below w3.heap.size w3 w4 := by rw [← hW4]; exact below_setRow ((Below.refl _ _).alloc (Nat.le_refl _) _) (Nat.le_refl _) _
      clear hW4
      have hs3 := hg3.size
      have hb5 : Below w4.heap.size w4 (w4.alloc (.cells (d.vals B cc) 39)) := (Below.refl _ _).alloc (Nat.le_refl _) _
      have hG4 := (hG.grown hg3 (fun k hk => by injection hk with hk; omega)).next hb4
      have hG5 := hG4.next hb5
      have hR5 := (hR3.grown (grown_below hb4 none) (by simp) (by simp)).grown (grown_below hb5 none) (by simp) (by simp)
      have hN5 := De.new w4 ⟨d, B, cc⟩ 39
      have hw4 := hb4.size
      have hL5 : Lies (w4.alloc (.cells (d.vals B cc) 39)) (fun b => w1.heap.size ≤ b ∧ u2.ownBlock ≠ some b ∧ b < (w4.alloc (.cells (d.vals B cc) 39)).heap.size) B d.bits :=
        ((hL3.grown (grown_below hb4 none) (by simp)).grown (grown_below hb5 none) (by simp)).imp (fun k hk h => ⟨by omega, fun e => by have := (hG.own.lt k e).2; omega, hk⟩)
      have hB5 : Below w.heap.size w (w4.alloc (.cells (d.vals B cc) 39)) := (Below.trans hBr (below_of_grown hg3 hrb hBr.size)).trans ((Below.then hb4 hb5).mono (by omega))
      have hz5 : w4.heap.size + 1 = (w4.alloc (.cells (d.vals B cc) 39)).heap.size := by simp
      have HL5 := Lib.hid hL5
      have HB5 := Lib.hid hB5
      have HN5 := Lib.hid hN5
      have HG5 := Lib.hid hG5
      have hl64 : l.length ≤ 64 := by have := hlen.out; omega
      have hx5 : w1.heap.size ≤ (w4.alloc (.cells (d.vals B cc) 39)).heap.size := by simp; omega
      have HX5 := Lib.hid hx5
      have HR5 := Lib.hid hR5
      have hc3' := hc3
      clear hL3 hc3 hG hR hR3 hBr hb4 hb5 hG4 hL5 hB5 hN5 hG5 hg3 hz5 hx5 hR5
      go_wp2_with (first
        | (refine load_deed _ rfl rfl _ d B cc _ rfl hD4 ?_)
        | (refine list_one_deed rfl _ _ _ rfl Try.underlying22 deed_info d B cc rfl ?_)
        | (at_builtin; refine wpList_append_lies _ rfl _ _ 22 rfl w1.heap.size 39 i0 _ 34 288 Try.underlying22 hi0 hz00 hz1 hz2 rfl (by decide) u2 l.length (flat l) rfl HG5.out.own ⟨w4.heap.size, 0, none⟩ 1 1 (d.vals B cc).toList rfl rfl HN5.out (De.one ⟨d, B, cc⟩) (by decide) ?c1 ?c2 HX5.out _ rfl ?_))
      case c1 => simp only [maxLen]; omega
      case c2 => omega
      intro g cap w6 hown6 hg6 hat6 hlt6
      have hat6' : u2.ownBlock = some g ∨ g = (w4.alloc (.cells (d.vals B cc) 39)).heap.size := by simpa using hat6
      have HG6 := Lib.hid (HG5.out.more (x := ⟨d, B, cc⟩) hown6 hg6 hat6' HL5.out hc3' hm3)
      have HB6 := Lib.hid (HB5.out.grown hg6 (by simp; omega) (fun k hk => Nat.le_trans hb1.size (HG5.out.own.lt k hk).1))
      have HR6 := Lib.hid (HR5.out.grown hg6 (fun e => by have := (HG5.out.own.lt rb e.symm).1; omega) (fun k hk e => by have := (HG5.out.own.lt k e.symm).1; omega))
      have HX6 := Lib.hid (Nat.le_trans HX5.out hg6.size)
      clear hown6 hg6 hat6 hat6' hlt6
      go_wp2
      go_roundw
      case rel =>
        refine ⟨k + 1, l ++ [⟨d, B, cc⟩], by omega, by go_num, ?_, ?_, HG6.out, HR6.out, HB6.out, HX6.out⟩
        · show (l ++ [_]).length = k + 1
          rw [List.length_append, hlen.out]; rfl
        · show (l ++ [_]).map De.d = ds.take (k + 1)
          rw [snoc_take HD.out, List.map_append, hmap.out]; rfl
      case measure => simp [intOf]; omega
    · obtain rfl : k = n := by omega
      have kd := rdone_is rb _ xs (st k) A' c' _ hR
      rw [hd.out] at kd
      go_wp2_with (go_at_call 25; refine kd.mono ?_; clear kd; rintro e w4 ⟨rfl, q, rfl⟩)
      refine bodyPost_ret (v := .tuple #[.slice none 0 0, .int .i64 (k : Int), .int .i64 (z : Int)]) (by simp [results, Try.results12, go_sem]) rfl ⟨rfl, below_drewN hBr q⟩

set_option maxRecDepth 100000 in
set_option maxHeartbeats 4000000 in
theorem bdecode_no (xs : List Nat) (S : Nat → Prop) (A : Option Addr) (c : Nat) (ds : List Dd) (st : Nat → Nat × Nat) (w : World) (hx : Lies w S A xs) (hl : xs.length ≤ 131072) (hb : ∀ x ∈ xs, x < 256)
    (n : Nat) (hi : Hid (rdInt xs (0, 0) 64 = (n, st 0))) (h0 : Hid ((st 0).2 = 0)) (hn : Hid (n ≤ 64)) (m : Nat) (hmm : Hid (ds.length = m)) (hmn : m < n) (hk : Hid (∀ k d, ds[k]? = some d → DRaw xs (st k) d 0 (st (k + 1)) ∧ (st (k + 1)).2 = 0)) (dd : Dd) (y z : Nat) (s' : Nat × Nat) (hdd' : Hid (DRaw xs (st m) dd y s')) (hy' : Hid (derr y s' = z)) (hz0 : Hid (z ≠ 0)) :
    Calls Try.prog 12 #[.slice A xs.length c] w fun e w' => e = .returned (.tuple #[.slice none 0 0, .int .i64 (m : Int), .int .i64 (z : Int)]) ∧ Below w.heap.size w w' := by
  obtain ⟨i0, hi0, hz00, hz1, hz2⟩ := info_parts deed_info
  have hz := zero_deed
  have dz : ((z : Int) != 0) = true := by have := hz0.out; simp; omega
  have dl : decide ((131072 : Int) < (xs.length : Int)) = false := by simp; omega
  have ko := open_is xs S A c w hx (by omega) hb
  have HL := Lib.hid hl
  have hn64 := hn.out
  clear hx hl hb
  go_enter Try.func12, Try.ntmps12
  go_wp2_with (first
    | (go_at_call 21; refine ko.mono ?_; clear ko; rintro e w1 ⟨rb, A', c', rfl, hR1, hrb, hb1⟩)
    | (go_at_call 22; refine (rint_is rb _ xs (0, 0) A' c' 64 _ hR1 (by omega) (by omega)).mono ?_; rw [hi.out]; rintro e w2 ⟨rfl, hR2, hg2⟩)
    | (go_at_call 23; refine (rerr_is rb _ xs (st 0) A' c' _ hR2).mono ?_; rw [h0.out]; rintro e w3 ⟨rfl, rfl⟩))
  have hrw := hR1.lt
  have hB2 : Below w.heap.size w w2 := hb1.trans (below_of_grown hg2 hrb hb1.size)
  have hs2 : w1.heap.size ≤ w2.heap.size := hg2.size
  clear hR1
  go_loopw [2, 25] (fun v i wr => ∃ (k : Nat) (l : List De), k ≤ m ∧ i = .int .i64 k ∧ Hid (l.length = k) ∧ Hid (l.map De.d = ds.take k) ∧ Got w1.heap.size 39 wr v l ∧ ReaderAt wr rb (fun k => w.heap.size ≤ k ∧ k < rb) xs (st k) A' c' ∧ Below w.heap.size w wr ∧ w1.heap.size ≤ wr.heap.size) (fun _ i _ => n - (intOf i).toNat)
  case atStart => exact ⟨0, [], Nat.zero_le _, rfl, rfl, rfl, Got.start _ _ _, hR2, hB2, hs2⟩
  case round =>
    obtain ⟨k, l, hkn, rfl, hlen, hmap, hG, hR, hBr, hsz⟩ := hrel
    by_cases hltm : k < m
    · have hlt : k < n := by omega
      obtain ⟨d, hdd⟩ : ∃ d, ds[k]? = some d := ⟨_, List.getElem?_eq_getElem (by rw [hmm.out]; exact hltm)⟩
      have HD := Lib.hid hdd
      obtain ⟨hdr, hd0⟩ := hk.out k d hdd
      have kd := dread_ok rb _ xs (st k) A' c' d (st (k + 1)) wr hR (fun k hk => by omega) (by have := HL.out; omega) (Lib.hid hdr) (Lib.hid hd0)
      have hki : (k : Int) < (n : Int) := by omega
      have hk0 : (0 : Int) ≤ (k : Int) := by omega
      clear hdd hdr hd0
      go_upto_region 14 with (first
        | (go_at_call 24; refine kd.mono ?_; clear kd; rintro e w3 ⟨B, cc, rfl, hL3, hc3, hm3, hR3, hg3⟩)
        | (refine store_deed _ _ rfl rfl w3.heap.size d Dd.none B none cc 0 _ rfl rfl (DeedAt.new w3 Dd.none none 0 _) ?_))
      generalize hW4 : World.setRow _ _ _ = w4
      have hD4 : DeedAt w4 w3.heap.size d B cc 39 := by rw [← hW4]; exact DeedAt.set (DeedAt.new w3 Dd.none none 0 _)
      have hb4 : Below w3.heap.size w3 w4 := by rw [← hW4]; exact below_setRow ((Below.refl _ _).alloc (Nat.le_refl _) _) (Nat.le_refl _) _
      clear hW4
      have hs3 := hg3.size
      have hb5 : Below w4.heap.size w4 (w4.alloc (.cells (d.vals B cc) 39)) := (Below.refl _ _).alloc (Nat.le_refl _) _
      have hG4 := (hG.grown hg3 (fun k hk => by injection hk with hk; omega)).next hb4
      have hG5 := hG4.next hb5
      have hR5 := (hR3.grown (grown_below hb4 none) (by simp) (by simp)).grown (grown_below hb5 none) (by simp) (by simp)
      have hN5 := De.new w4 ⟨d, B, cc⟩ 39
      have hw4 := hb4.size
      have hL5 : Lies (w4.alloc (.cells (d.vals B cc) 39)) (fun b => w1.heap.size ≤ b ∧ u2.ownBlock ≠ some b ∧ b < (w4.alloc (.cells (d.vals B cc) 39)).heap.size) B d.bits :=
        ((hL3.grown (grown_below hb4 none) (by simp)).grown (grown_below hb5 none) (by simp)).imp (fun k hk h => ⟨by omega, fun e => by have := (hG.own.lt k e).2; omega, hk⟩)
      have hB5 : Below w.heap.size w (w4.alloc (.cells (d.vals B cc) 39)) := (Below.trans hBr (below_of_grown hg3 hrb hBr.size)).trans ((Below.then hb4 hb5).mono (by omega))
      have hz5 : w4.heap.size + 1 = (w4.alloc (.cells (d.vals B cc) 39)).heap.size := by simp
      have HL5 := Lib.hid hL5
      have HB5 := Lib.hid hB5
      have HN5 := Lib.hid hN5
      have HG5 := Lib.hid hG5
      have hl64 : l.length ≤ 64 := by have := hlen.out; omega
      have hx5 : w1.heap.size ≤ (w4.alloc (.cells (d.vals B cc) 39)).heap.size := by simp; omega
      have HX5 := Lib.hid hx5
      have HR5 := Lib.hid hR5
      have hc3' := hc3
      clear hL3 hc3 hG hR hR3 hBr hb4 hb5 hG4 hL5 hB5 hN5 hG5 hg3 hz5 hx5 hR5
      go_wp2_with (first
        | (refine load_deed _ rfl rfl _ d B cc _ rfl hD4 ?_)
        | (refine list_one_deed rfl _ _ _ rfl Try.underlying22 deed_info d B cc rfl ?_)
        | (at_builtin; refine wpList_append_lies _ rfl _ _ 22 rfl w1.heap.size 39 i0 _ 34 288 Try.underlying22 hi0 hz00 hz1 hz2 rfl (by decide) u2 l.length (flat l) rfl HG5.out.own ⟨w4.heap.size, 0, none⟩ 1 1 (d.vals B cc).toList rfl rfl HN5.out (De.one ⟨d, B, cc⟩) (by decide) ?c1 ?c2 HX5.out _ rfl ?_))
      case c1 => simp only [maxLen]; omega
      case c2 => omega
      intro g cap w6 hown6 hg6 hat6 hlt6
      have hat6' : u2.ownBlock = some g ∨ g = (w4.alloc (.cells (d.vals B cc) 39)).heap.size := by simpa using hat6
      have HG6 := Lib.hid (HG5.out.more (x := ⟨d, B, cc⟩) hown6 hg6 hat6' HL5.out hc3' hm3)
      have HB6 := Lib.hid (HB5.out.grown hg6 (by simp; omega) (fun k hk => Nat.le_trans hb1.size (HG5.out.own.lt k hk).1))
      have HR6 := Lib.hid (HR5.out.grown hg6 (fun e => by have := (HG5.out.own.lt rb e.symm).1; omega) (fun k hk e => by have := (HG5.out.own.lt k e.symm).1; omega))
      have HX6 := Lib.hid (Nat.le_trans HX5.out hg6.size)
      clear hown6 hg6 hat6 hat6' hlt6
      go_wp2
      go_roundw
      case rel =>
        refine ⟨k + 1, l ++ [⟨d, B, cc⟩], by omega, by go_num, ?_, ?_, HG6.out, HR6.out, HB6.out, HX6.out⟩
        · show (l ++ [_]).length = k + 1
          rw [List.length_append, hlen.out]; rfl
        · show (l ++ [_]).map De.d = ds.take (k + 1)
          rw [snoc_take HD.out, List.map_append, hmap.out]; rfl
      case measure => simp [intOf]; omega
    · obtain rfl : k = m := by omega
      have kd := dread_no rb _ xs (st k) A' c' dd y z s' wr hR (fun k hk => by omega) (by have := HL.out; omega) hdd' hy' hz0
      have hki : (k : Int) < (n : Int) := by omega
      have hk0 : (0 : Int) ≤ (k : Int) := by omega
      go_wp2_with (first
        | (go_at_call 24; refine kd.mono ?_; clear kd; rintro e w3 ⟨rfl, hR3, hg3⟩)
        | (refine store_deed _ _ rfl rfl w3.heap.size Dd.none Dd.none none none 0 0 _ rfl rfl (DeedAt.new w3 Dd.none none 0 _) ?_; have hb4 : Below w3.heap.size w3 ((w3.alloc (.cells (Dd.none.vals none 0) 39)).setRow w3.heap.size (Dd.none.vals none 0)) := below_setRow ((Below.refl _ _).alloc (Nat.le_refl _) _) (Nat.le_refl _) _))
      refine bodyPost_ret (v := .tuple #[.slice none 0 0, .int .i64 (k : Int), .int .i64 (z : Int)]) (by simp [results, Try.results12, go_sem]) rfl ⟨rfl, ?_⟩
      exact Below.then (Below.trans hBr (below_of_grown hg3 hrb hBr.size)) hb4
end Go.Proofs.Ytokaclacejhppaa
namespace Go.Proofs.Ytokaclacejhppaa
open Go.RowKit
set_option linter.unusedVariables false
set_option linter.unusedSimpArgs false

theorem rdeed_info : (Try.prog.info? 60).map (fun i => (i.zero, i.size, i.bytes)) = some (some (.agg (Dd.none.vals none 0)), 34, 288) := by kernel_rfl
theorem flat_next {l : List De} {k : Nat} {x : De} (h : l[k]? = some x) : flat (l.take (k + 1)) = flat (l.take k) ++ x.vals.toList := by
  rw [List.take_add_one, h]
  exact flat_snoc _ x

set_option maxRecDepth 100000 in
set_option maxHeartbeats 4000000 in
theorem bplain_is (l : List De) (S : Nat → Prop) (A : Option Addr) (c : Nat) (w : World) (h : Deeds w S A l) (hl : l.length ≤ 1000) :
    Calls Try.prog 9 #[.slice A l.length c] w fun e w' => ∃ (A' : Option Addr) (c' : Nat), e = .returned (.slice A' l.length c') ∧ Deeds w' (fun k => S k ∨ w.heap.size ≤ k) A' l ∧ Below w.heap.size w w' := by
  obtain ⟨i0, hi0, hz0, hz1, hz2⟩ := info_parts rdeed_info
  have hz := zero_deed
  go_enter Try.func9, Try.ntmps9
  go_wp2
  go_loopw [3, 8] (fun v i wr => ∃ k : Nat, k ≤ l.length ∧ i = .int .i64 k ∧ Below w.heap.size w wr ∧ wr.ownsRow w.heap.size 60 34 v k (flat (l.take k))) (fun _ i _ => l.length - (intOf i).toNat)
  case atStart => exact ⟨0, Nat.zero_le _, rfl, Below.refl _ _, World.ownsRow_nil _ _ _ _⟩
  case round =>
    obtain ⟨k, hk, rfl, hBr, hown⟩ := hrel
    by_cases hlt : k < l.length
    · obtain ⟨x, hx, ⟨a, rfl, hSa, hat⟩, hb, hc, hmx⟩ := (h.next hBr).get hlt
      have hki : (k : Int) < (l.length : Int) := by omega
      have hk0 : (0 : Int) ≤ (k : Int) := by omega
      have HX := Lib.hid hx
      clear hx hb hc hmx
      go_upto_region 5 with (first
        | (refine load_deed_at _ rfl rfl _ x rfl hat ?_)
        | (refine store_deed _ _ rfl rfl wr.heap.size x.d Dd.none x.B none x.c 0 _ rfl rfl (DeedAt.new wr Dd.none none 0 _) ?_))
      generalize hW4 : World.setRow _ _ _ = w4
      have hD4 : DeedAt w4 wr.heap.size x.d x.B x.c 39 := by rw [← hW4]; exact DeedAt.set (DeedAt.new wr Dd.none none 0 _)
      have hb4 : Below wr.heap.size wr w4 := by rw [← hW4]; exact below_setRow ((Below.refl _ _).alloc (Nat.le_refl _) _) (Nat.le_refl _) _
      clear hW4
      have HO4 := Lib.hid (hown.kept (grown_below hb4 none) (by cases u3.ownBlock <;> simp))
      have HB4 := Lib.hid (hBr.trans (hb4.mono hBr.size))
      have HS4 := Lib.hid (Nat.le_trans hBr.size hb4.size)
      clear hown hBr hb4
      go_wp2_with (first
        | (refine load_deed _ rfl rfl _ x.d x.B x.c _ rfl hD4 ?_)
        | (go_at_call 19; refine (dplain_is x.d x.B x.c _).mono ?_; rintro e w5 ⟨rfl, hb5⟩; have HO6 := Lib.hid ((HO4.out.kept (grown_below hb5 none) (by cases u3.ownBlock <;> simp)).alloc (.cells (x.d.vals x.B x.c) 60)); have HB6 := Lib.hid ((HB4.out.trans (hb5.mono HS4.out)).alloc (Nat.le_trans HS4.out hb5.size) (.cells (x.d.vals x.B x.c) 60)); have HS6 := Lib.hid (Nat.le_trans HS4.out hb5.size); have HN6 := Lib.hid (De.new w5 x 60); clear hb5)
        | (refine list_one_deed rfl _ _ _ rfl Try.underlying31 rdeed_info x.d x.B x.c rfl ?_)
        | (at_builtin; refine wpList_append_lies _ rfl _ _ 31 rfl w.heap.size 60 i0 _ 34 288 Try.underlying31 hi0 hz0 hz1 hz2 rfl (by decide) u3 k (flat (l.take k)) rfl HO6.out ⟨w5.heap.size, 0, none⟩ 1 1 x.vals.toList rfl rfl HN6.out (De.one x) (by decide) ?c1 ?c2 ?c3 _ rfl ?_))
      case c1 => simp only [maxLen]; omega
      case c2 => omega
      case c3 => have := HS6.out; simp; omega
      intro g cap w7 hown7 hg7 hat7 hlt7
      rw [← flat_next HX.out] at hown7
      have HO7 := Lib.hid hown7
      have HB7 := Lib.hid (HB6.out.grown hg7 (by have := HS6.out; simp; omega) (fun k hk => (HO6.out.lt k hk).1))
      clear hown7 hg7 hat7 hlt7
      go_wp2
      go_roundw
      case rel => exact ⟨k + 1, by omega, by go_num, HB7.out, HO7.out⟩
      case measure => simp [intOf]; omega
    · obtain rfl : k = l.length := by omega
      rw [List.take_length] at hown
      obtain ⟨A2, c2, rfl, hD⟩ : ∃ A2 c2, u3 = .slice A2 l.length c2 ∧ ∀ k x, l[k]? = some x → ∃ a, A2 = some a ∧ w.heap.size ≤ a.block ∧ De.At wr (a.add (k * 34)) x := by
        rcases hown.2 with ⟨rfl, h2⟩ | ⟨g, cap, cur, rfl, hb, hh, hn, hm, hs, ht⟩
        · obtain rfl := List.eq_nil_of_length_eq_zero h2
          exact ⟨none, 0, rfl, fun k x h => by simp at h⟩
        · refine ⟨some ⟨g, 0, none⟩, cap, rfl, fun k x hx => ⟨_, rfl, hb, fun j v hv => ?_⟩⟩
          rw [Addr.add_add]
          exact hown.cells (g := g) rfl _ _ (flat_at hx hv)
      have hDs : Deeds wr (fun k => S k ∨ w.heap.size ≤ k) A2 l := fun k x hx => by
        obtain ⟨a, h1, h2, h3⟩ := hD k x hx
        obtain ⟨_, h4, h5⟩ := h.next hBr k x hx
        exact ⟨⟨a, h1, .inr h2, h3⟩, h4.imp (fun k _ hk => .inl hk), h5⟩
      clear hown hD
      go_wp2
      refine bodyPost_ret (v := .slice A2 l.length c2) (by simp [results, Try.results9, go_sem]) rfl ⟨A2, c2, rfl, hDs, hBr⟩

end Go.Proofs.Ytokaclacejhppaa
namespace Go.Proofs.Ytokaclacejhppaa
open Go.RowKit
set_option linter.unusedVariables false
set_option linter.unusedSimpArgs false

theorem exec_load_rdeed_at {o : Oper} {a : Act} {w : World} (x : Operand) (ho : o.op = .load 60 x) (ad : Addr) (d : De) (hx : a.eval x = .pointer (some ad)) (hD : De.At w ad d) :
    (execOp a.eval o).run Try.prog w = .ok (.value (.agg (d.d.vals d.B d.c))) w := by
  have hl : (loadCells ad d.vals.toList.length).run Try.prog w = .ok d.vals.toList.toArray w := run_loadCells_list (P := Try.prog) w ad d.vals.toList hD
  rw [Array.toArray_toList, De.len] at hl
  have hi := rdeed_size
  cases hq : Try.prog.info? 60 with
  | none => simp [hq] at hi
  | some i =>
    have hs : i.size = 34 := by simpa [hq] using hi
    have hagg : (isAgg 60).run Try.prog w = .ok true w := by
      unfold isAgg
      rw [Sem.run_bind, run_underlying Try.underlying60 w]
      rfl
    have hr : (loadVar 60 ad).run Try.prog w = .ok (.agg d.vals) w := by
      simp [loadVar, Sem.run_bind, hagg, sizeOf, typeInfo, hq, hs, hl]
    unfold execOp
    simp only [ho, hx, Instr.loadAt, Instr.sureAddr, Sem.run_bind, Sem.run_pure, Result.andThen_ok, hr]
    rfl

set_option maxRecDepth 100000 in
set_option maxHeartbeats 4000000 in
theorem bsame_is (l r : List De) (n : Nat) (hl : Hid (l.length = n)) (hr : Hid (r.length = n)) (hn : n ≤ 1000) (he : Hid (l.map De.d = r.map De.d)) (S S' : Nat → Prop) (A A' : Option Addr) (c c' : Nat) (w : World) (hx : Deeds w S A l) (hx' : Deeds w S' A' r) :
    Calls Try.prog 13 #[.slice A n c, .slice A' n c'] w fun e w' => e = .returned (.bool true) ∧ Below w.heap.size w w' := by
  go_enter Try.func13, Try.ntmps13
  go_wp2
  go_loopw [5] (fun i wr => ∃ k : Nat, k ≤ n ∧ i = .int .i64 k ∧ Below w.heap.size w wr) (fun i _ => n - (intOf i).toNat)
  case atStart => exact ⟨0, Nat.zero_le _, rfl, Below.refl _ _⟩
  case round =>
    obtain ⟨k, hk, rfl, hB⟩ := hrel
    by_cases hlt : k < n
    · obtain ⟨x, hxk, ⟨a, rfl, hSa, hat⟩, hb, hc, hmx⟩ := (hx.next hB).get (k := k) (by rw [hl.out]; exact hlt)
      obtain ⟨y, hyk, ⟨a', rfl, hSa', hat'⟩, hb', hc', hmy⟩ := (hx'.next hB).get (k := k) (by rw [hr.out]; exact hlt)
      have hxy : x.d = y.d := by
        have h1 := congrArg (fun l => l[k]?) he.out
        simp only [List.getElem?_map, hxk, hyk, Option.map_some, Option.some.injEq] at h1
        exact h1
      obtain ⟨d, B, e⟩ := x
      obtain ⟨d', B', e'⟩ := y
      simp only at hxy hb hb' hc hc' hmx hmy
      subst hxy
      have hki : (k : Int) < (n : Int) := by omega
      have hk0 : (0 : Int) ≤ (k : Int) := by omega
      have hkn : (k : Int) ≠ (n : Int) := by omega
      have HA : ∀ w', Below wr.heap.size wr w' → De.At w' (a.add (k * 34)) ⟨d, B, e⟩ := fun w' hb => hat.hold fun p hp => hb.cell (by rw [hp]; exact hat.lt)
      have HA' : ∀ w', Below wr.heap.size wr w' → De.At w' (a'.add (k * 34)) ⟨d, B', e'⟩ := fun w' hb => hat'.hold fun p hp => hb.cell (by rw [hp]; exact hat'.lt)
      have HC : ∀ w', Below wr.heap.size wr w' → Calls Try.prog 26 #[.agg (d.vals B e), .agg (d.vals B' e')] w' fun ev w'' => ev = .returned (.bool true) ∧ Below w'.heap.size w' w'' := fun w' hbb => dsame_is d _ _ B B' e e' w' (hb.grown (grown_below hbb none) (by simp)) (hb'.grown (grown_below hbb none) (by simp)) (by omega)
      have HA := Lib.hid HA
      have HA' := Lib.hid HA'
      have HC := Lib.hid HC
      clear hxk hyk hat hat' hb hb' hc hc' hmx hmy
      go_wp2
      refine region_list [] (fun _ w' => Below wr.heap.size wr w') (by kernel_rfl) (by kernel_rfl) (Below.refl _ _).drew ?_
      (refine' SeqS.calm _ (by rfl) (by rfl) (fun w => ?_) ?_; rotate_left; · (go_simp <;> with_reducible rfl))
      simp only [Act.put, List.setIfInBounds_toArray, List.set_cons_zero, List.set_cons_succ]
      (refine' SeqS.calm _ (by rfl) (by rfl) (fun w => ?_) ?_; rotate_left; · (go_simp <;> with_reducible rfl))
      simp only [Act.put, List.setIfInBounds_toArray, List.set_cons_zero, List.set_cons_succ]
      (refine' SeqS.calm _ (by rfl) (by rfl) (fun w => ?_) ?_; rotate_left; · (go_simp <;> with_reducible rfl))
      simp only [Act.put, List.setIfInBounds_toArray, List.set_cons_zero, List.set_cons_succ]
      refine SeqS.take _ (by rfl) (by rfl) (fun p w' hS => exec_load_rdeed_at _ rfl (a.add (k * 34)) ⟨d, B, e⟩ rfl (HA.out w' hS)) ?_
      simp only [Act.put, List.setIfInBounds_toArray, List.set_cons_zero, List.set_cons_succ]
      (refine' SeqS.calm _ (by rfl) (by rfl) (fun w => ?_) ?_; rotate_left; · (go_simp <;> with_reducible rfl))
      simp only [Act.put, List.setIfInBounds_toArray, List.set_cons_zero, List.set_cons_succ]
      (refine' SeqS.calm _ (by rfl) (by rfl) (fun w => ?_) ?_; rotate_left; · (go_simp <;> with_reducible rfl))
      simp only [Act.put, List.setIfInBounds_toArray, List.set_cons_zero, List.set_cons_succ]
      (refine' SeqS.calm _ (by rfl) (by rfl) (fun w => ?_) ?_; rotate_left; · (go_simp <;> with_reducible rfl))
      simp only [Act.put, List.setIfInBounds_toArray, List.set_cons_zero, List.set_cons_succ]
      refine SeqS.take _ (by rfl) (by rfl) (fun p w' hS => exec_load_rdeed_at _ rfl (a'.add (k * 34)) ⟨d, B', e'⟩ rfl (HA'.out w' hS)) ?_
      simp only [Act.put, List.setIfInBounds_toArray, List.set_cons_zero, List.set_cons_succ]
      refine SeqS.call (below_call (Nat.le_refl _) (fun w hS => HC.out w hS)) (by rfl) (by rfl) (fun w => ?_) ?_; · go_simp
      simp only [Act.put, List.setIfInBounds_toArray, List.set_cons_zero, List.set_cons_succ]
      (refine' SeqS.calm _ (by rfl) (by rfl) (fun w => ?_) ?_; rotate_left; · (go_simp <;> with_reducible rfl))
      simp only [Act.put, List.setIfInBounds_toArray, List.set_cons_zero, List.set_cons_succ]
      intro w6 hb6
      have hB6 : Below w.heap.size w w6 := hB.trans (hb6.mono hB.size)
      go_wp2
      go_roundw
      case rel => exact ⟨k + 1, by omega, by go_num, hB6⟩
      case measure => simp [intOf]; omega
    · obtain rfl : k = n := by omega
      go_wp2
      go_ret
      exact ⟨rfl, hB⟩
end Go.Proofs.Ytokaclacejhppaa
namespace Go.Proofs.Ytokaclacejhppaa
open Go.RowKit
set_option linter.unusedVariables false
set_option linter.unusedSimpArgs false

/-- What decoding comes to where bytes are deeds: at any place in memory. -/
def Decodes (xs : List Nat) (ds : List Dd) : Prop :=
  ∀ (m n : Nat) (W : World) (S : Nat → Prop) (A : Option Addr) (c : Nat), xs.length = m → ds.length = n → Lies W S A xs → Calls Try.prog 12 #[.slice A m c] W fun e w' =>
    ∃ (l : List De) (A' : Option Addr) (c' : Nat), e = .returned (.tuple #[.slice A' n c', .int .i64 0, .int .i64 0]) ∧ Hid (l.length = n) ∧ Hid (l.map De.d = ds) ∧ Hid (n ≤ c' ∧ c' ≤ maxLen) ∧ Deeds w' (W.heap.size ≤ ·) A' l ∧ Below W.heap.size W w'
/-- Where they are none. -/
def Fails (xs : List Nat) (at' z : Nat) : Prop :=
  ∀ (m : Nat) (W : World) (S : Nat → Prop) (A : Option Addr) (c : Nat), xs.length = m → Lies W S A xs → Calls Try.prog 12 #[.slice A m c] W fun e w' =>
    e = .returned (.tuple #[.slice none 0 0, .int .i64 (at' : Int), .int .i64 (z : Int)]) ∧ Below W.heap.size W w'

theorem decodes_of {xs : List Nat} {ds : List Dd} {s : Nat × Nat} {s2 : Nat × Nat} (hl : xs.length ≤ 131072) (hb : ∀ x ∈ xs, x < 256) (hi : rdInt xs (0, 0) 64 = (ds.length, s)) (h0 : s.2 = 0) (hn : ds.length ≤ 64) (hr : Reads xs s ds s2) (hd : rdDone xs s2 = 0) : Decodes xs ds := by
  obtain ⟨st, e0, e1, hk⟩ := hr.steps
  rintro m n W S A c rfl rfl hx
  refine (bdecode_ok xs S A c ds st W hx hl hb (by rw [e0]; exact hi) (by rw [e0]; exact h0) hn hk (by rw [e1]; exact hd)).mono ?_
  rintro e w' ⟨l, A', c', rfl, h1, h2, h3, h4, h5⟩
  have hll : l.length = ds.length := by rw [← h1, List.length_map]
  exact ⟨l, A', c', by rw [hll], hll, h1, ⟨by omega, h3⟩, h4, h5⟩

theorem decode_cases (xs : List Nat) (hl : xs.length ≤ 131072) (hb : ∀ x ∈ xs, x < 256) :
    (∃ ds, (∀ d ∈ ds, d.Right) ∧ ds.length ≤ 64 ∧ blk ds = xs ∧ Decodes xs ds) ∨ ∃ at' z, z ≠ 0 ∧ Fails xs at' z := by
  obtain ⟨n, s, hi⟩ : ∃ n s, rdInt xs (0, 0) 64 = (n, s) := ⟨_, _, rfl⟩
  by_cases h0 : s.2 = 0
  · obtain ⟨hn, hs, hf⟩ := rdInt_back (mo := 64) hb hi h0
    rcases reads_is xs n s with ⟨ds, s2, hlen, hr⟩ | ⟨ds, s1, d, y, s2, hlen, hr, hd, he⟩
    · subst hlen
      obtain ⟨g1, g2, g3, g4, g5⟩ := reads_back hb hr hs
      by_cases hd : rdDone xs s2 = 0
      · refine .inl ⟨ds, g1, hn, ?_, decodes_of hl hb hi h0 hn hr hd⟩
        have h2 : s2.1 = xs.length := by
          have h20 := g5 h0
          unfold rdDone at hd
          by_cases hx : s2.2 = 0 ∧ s2.1 < xs.length
          · rw [if_pos hx] at hd; cases hd
          · omega
        unfold blk
        rw [hf, g4, h2]
        have h3 : (xs.drop s.1).take (xs.length - s.1) = xs.drop s.1 := List.take_of_length_le (by rw [List.length_drop]; exact Nat.le_refl _)
        rw [h3, List.take_append_drop]
      · obtain ⟨st, e0, e1, hk⟩ := hr.steps
        refine .inr ⟨ds.length, rdDone xs s2, hd, ?_⟩
        rintro m W S A c rfl hx
        exact bdecode_left xs S A c ds st W hx hl hb (by rw [e0]; exact hi) (by rw [e0]; exact h0) hn hk _ hd (by rw [e1]; exact rfl)
    · obtain ⟨st, e0, e1, hk⟩ := hr.steps
      refine .inr ⟨ds.length, derr y s2, he, ?_⟩
      rintro m W S A c rfl hx
      exact bdecode_no xs S A c ds st W hx hl hb n (by rw [e0]; exact hi) (by rw [e0]; exact h0) hn ds.length rfl hlen hk d y _ s2 (by rw [e1]; exact hd) rfl he
  · refine .inr ⟨0, s.2, h0, ?_⟩
    rintro m W S A c rfl hx
    exact bdecode_num xs S A c n s.2 s W hx hl hb hi rfl h0

/-- What is encoded is decoded as it was. -/
theorem decodes_blk {ds : List Dd} (hr : ∀ d ∈ ds, d.Right) (hn : ds.length ≤ 64) : Decodes (blk ds) ds := by
  have hl := blk_len hr hn
  have hb := blk_lt hr
  have hi := rdInt_ok (bs := blk ds) (rest := dbytes ds) (n := ds.length) (mo := 64) (by omega) hn rfl
  have h1 := reads_form (bs := blk ds) (rest := []) (pos := (form ds.length).length) hr (by unfold blk; rw [List.length_append]; omega) (by unfold blk; rw [List.drop_left, List.append_nil])
  refine decodes_of (by omega) hb hi rfl hn h1 ?_
  unfold rdDone
  rw [if_neg]
  unfold blk
  rw [List.length_append]
  simp
/-- Cut off it is not all there. -/
theorem fails_cut {ds : List Dd} (hr : ∀ d ∈ ds, d.Right) (hn : ds.length ≤ 64) {j : Nat} (hj : j < (blk ds).length) : ∃ at', Fails ((blk ds).take j) at' 50 := by
  have hl := blk_len hr hn
  have hb : ∀ x ∈ (blk ds).take j, x < 256 := fun x hx => blk_lt hr x (List.mem_of_mem_take hx)
  have hll : ((blk ds).take j).length ≤ 131072 := by rw [List.length_take]; omega
  rcases Nat.lt_or_ge j (form ds.length).length with h1 | h1
  · have hi := rdInt_cut (bs := (blk ds).take j) (n := ds.length) (mo := 64) (j := j) (by omega) h1 (by unfold blk; rw [List.take_append_of_le_length (by omega)])
    refine ⟨0, ?_⟩
    rintro m W S A c rfl hx
    exact bdecode_num _ S A c 0 50 _ W hx hll hb hi rfl (Lib.hid (by decide))
  · have e : (blk ds).take j = form ds.length ++ (dbytes ds).take (j - (form ds.length).length) := by unfold blk; rw [List.take_append, List.take_of_length_le h1]
    have hi := rdInt_ok (bs := (blk ds).take j) (rest := (dbytes ds).take (j - (form ds.length).length)) (n := ds.length) (mo := 64) (by omega) hn e
    obtain ⟨m, s1, d, y, s2, hm, g1, g2, g3⟩ := reads_cut (bs := (blk ds).take j) (pos := (form ds.length).length) (j := j - (form ds.length).length) hr (by rw [e, List.length_append]; omega) (by rw [e, List.drop_left]) (by unfold blk at hj; rw [List.length_append] at hj; omega)
    obtain ⟨st, e0, e1, hk⟩ := g1.steps
    have hml : (ds.take m).length = m := by rw [List.length_take]; omega
    rw [hml] at e1
    refine ⟨m, ?_⟩
    rintro k W S A c rfl hx
    exact bdecode_no _ S A c (ds.take m) st W hx hll hb ds.length (by rw [e0]; exact hi) (by rw [e0]; exact rfl) hn m hml hm hk d y 50 s2 (by rw [e1]; exact g2) (Lib.hid (by unfold derr; rw [if_neg (by omega), g3])) (Lib.hid (by decide))

/-- What encoding comes to. -/
def Encodes (l : List De) (bs : List Nat) : Prop :=
  ∀ (n m : Nat) (W : World) (A : Option Addr) (c : Nat), l.length = m → bs.length = n → Deeds W (· < W.heap.size) A l → Calls Try.prog 7 #[.slice A m c] W fun e w' => ∃ v, e = .returned (.tuple #[v, .int .i64 0, .int .i64 0]) ∧ w'.ownsRow W.heap.size 5 1 v n (u8s bs) ∧ Below W.heap.size W w'
def Refuses (l : List De) (at' z : Nat) : Prop :=
  ∀ (m : Nat) (W : World) (A : Option Addr) (c : Nat), l.length = m → Deeds W (· < W.heap.size) A l → Calls Try.prog 7 #[.slice A m c] W fun e w' => e = .returned (.tuple #[.slice none 0 0, .int .i64 (at' : Int), .int .i64 (z : Int)]) ∧ Below W.heap.size W w'
theorem encodes_of {l : List De} (hr : ∀ x ∈ l, x.d.Right) (hn : l.length ≤ 64) : Encodes l (blk (l.map De.d)) := by
  rintro n m W A c rfl rfl h
  exact bencode_ok l A c W h hr hn
theorem encode_cases (l : List De) (hf : ∀ x ∈ l, x.d.Fits) : ((∀ x ∈ l, x.d.Right) ∧ l.length ≤ 64) ∨ ∃ at' z, z ≠ 0 ∧ Refuses l at' z := by
  by_cases hn : l.length ≤ 64
  · rcases first_bad (l.map De.d) with h | ⟨i, d, hi, hd, hb⟩
    · exact .inl ⟨fun x hx => h _ (List.mem_map_of_mem hx), hn⟩
    · rw [List.getElem?_map] at hi
      obtain ⟨x, hx, rfl⟩ := Option.map_eq_some_iff.1 hi
      refine .inr ⟨i, 80, by decide, ?_⟩
      rintro m W A c rfl h
      refine bencode_no l A c W h i x hx hd (hf x (List.mem_of_getElem? hx)) (fun y hy => ?_) hn
      rw [← List.map_take] at hb
      exact hb _ (List.mem_map_of_mem hy)
  · refine .inr ⟨0, 3, by decide, ?_⟩
    rintro m W A c rfl h
    exact bencode_big _ A c W (by omega)

theorem egBlock : blk [egLeave] = [1, 4, 1, 3] := by
  have e : form [egLeave].length = [1] := form_small (n := 1) (by decide)
  unfold blk
  rw [e]
  show [1] ++ dbytes [egLeave] = _
  rw [dbytes_cons, egLeave_bytes]
  rfl
theorem one_of {l : List De} {d : Dd} (h : l.map De.d = [d]) : ∃ x, l = [x] ∧ x.d = d := by
  obtain ⟨x, hx⟩ := List.length_eq_one_iff.1 (by have := congrArg List.length h; rwa [List.length_map] at this)
  subst hx
  rw [List.map_cons, List.map_nil] at h
  exact ⟨x, rfl, (List.cons.inj h).1⟩
theorem addr_zero (a : Addr) : a.add 0 = a := by unfold Addr.add; rw [if_pos rfl]

set_option maxRecDepth 100000 in
set_option maxHeartbeats 2000000 in
theorem blk_awake (w : World) : Calls Try.prog 5 #[] w fun e w' => e = .returned (.bool true) ∧ Below w.heap.size w w' := by
  have k1 := encodes_of (l := []) (by simp) (by simp) 1 0 w none 0 rfl (by decide +kernel) (Deeds.nil _ _ _)
  have e0 : blk (([] : List De).map De.d) = [0] := by
    have e : form ([] : List Dd).length = [0] := form_small (n := 0) (by decide)
    simp only [List.map_nil, blk, e]
    rfl
  rw [e0] at k1
  have k2 := decodes_blk (ds := [egLeave]) (by simp; exact egLeave_right) (by decide)
  rw [egBlock] at k2
  have K2 := fun W => k2 4 1 (W.alloc (.cells (u8s [1, 4, 1, 3]).toArray 5)) _ _ 4 rfl rfl (lies_new W [1, 4, 1, 3])
  have HK := Lib.hid K2
  clear k2 K2 e0
  go_enter Try.func5, Try.ntmps5
  go_upto_region 3 with (first
    | (go_at_call 7; refine k1.mono ?_; clear k1; rintro e w1 ⟨v, rfl, hown, hb1⟩; obtain ⟨A1, c1, rfl, -, -, -, hL1⟩ := Lies.own hown; clear hown)
    | (go_at_call 12; refine (HK.out w1).mono ?_; rintro e w2 ⟨l, A2, c2, rfl, -, hl, -, hD2, hb2⟩))
  obtain ⟨x, rfl, hx⟩ := one_of hl.out
  obtain ⟨⟨a, rfl, -, hat⟩, -⟩ := hD2 0 x rfl
  have ha2 := hat 2 (.int .i64 3) (by show (x.d.vals x.B x.c).toList[2]? = _; rw [hx]; rfl)
  have hb3 : Below w1.heap.size w1 w2 := Below.then ((Below.refl _ _).alloc (Nat.le_refl _) _) hb2
  obtain ⟨a1, rfl, -, h1⟩ := (hL1.grown (grown_below hb3 none) (by simp)).get (k := 0) (by decide)
  rw [Nat.zero_mul, addr_zero, show a.add 2 = ⟨a.block, a.off + 2, none⟩ by unfold Addr.add; rw [if_neg (by decide)]] at ha2
  rw [addr_zero] at h1
  simp only [List.getElem_cons_zero] at h1
  clear hD2 hat hb2 hL1 hl
  go_wp2
  go_ret
  exact ⟨rfl, Below.then hb1 hb3⟩
end Go.Proofs.Ytokaclacejhppaa
namespace Go.Proofs.Ytokaclacejhppaa
open Go.ChangeShapes Go.WideShapes Go.ChangeAt Go.RowKit Go.Deep
set_option linter.unusedVariables false

theorem open_deeds {H : Type} {enc : TypeId × Value → H} {w : World} {base : Nat} {held : Bool} {A : Option Addr} {n c : Nat} {d : DataW H} {p : List MemPlace}
    (h : DataW.Trod enc Try.prog w base (fun _ => true) held 22 (.slice A n c) d p) :
    ∃ l : List De, n = l.length ∧ (∀ x ∈ l, x.d.Fits) ∧ l.length ≤ c ∧ c ≤ maxLen ∧ Deeds w (· < w.heap.size) A l ∧ (∀ x ∈ l, x.B = none → x.c = 0) := by
  obtain ⟨fuel, hf⟩ := h
  rcases open_slice Try.underlying22 hf with ⟨hcs, _⟩ | ⟨a, len, cap, m, n', D, Pl, hcs, hb, hl, hm, hmm, hx, hi⟩
  · simp [Value.cells] at hcs
    obtain ⟨rfl, rfl, rfl⟩ := hcs
    exact ⟨[], rfl, by simp, Nat.le_refl _, Nat.zero_le _, Deeds.nil _ _ _, by simp⟩
  · simp [Value.cells] at hcs
    obtain ⟨rfl, rfl, rfl⟩ := hcs
    simp only [if_true] at hmm
    have hC := deed_cells
    rw [hC] at hi
    have hone : ∀ i, i < n → ∃ x : De, x.d.Fits ∧ De.At w (a.add (i * 34)) x ∧ Lies w (· < w.heap.size) x.B x.d.bits ∧ x.d.bits.length ≤ x.c ∧ x.c ≤ maxLen ∧ (x.B = none → x.c = 0) := by
      intro i hin
      obtain ⟨cs, hc, ht⟩ := hi i (by omega)
      obtain ⟨_, hcl, hat⟩ := World.cells?_some hc
      obtain ⟨d, B, c', e, h1, h2, h3, h4, h5⟩ := deed_cells_open (cs := cs.toArray) (by simpa using hcl) (by simpa using ht)
      refine ⟨⟨d, B, c'⟩, h1, fun j v hv => ?_, h4, h2, h3, h5⟩
      have hj : j < 34 := by have := (List.getElem?_eq_some_iff.1 hv).1; rwa [De.len] at this
      rw [hat j hj, ← hv]
      show cs[j]? = (d.vals B c').toList[j]?
      rw [← e]
    have hch := fun i : Fin n => hone i.1 i.2
    refine ⟨List.ofFn fun i : Fin n => (hch i).choose, by simp, ?_, by simpa using hl, hm, fun k x hv => ?_, ?_⟩
    · intro x hx
      obtain ⟨i, rfl⟩ := (List.mem_ofFn).1 hx
      exact (hch i).choose_spec.1
    · rw [List.getElem?_ofFn] at hv
      split at hv
      · rename_i hk
        simp at hv
        subst hv
        have hs := (hch ⟨k, hk⟩).choose_spec
        refine ⟨⟨a, rfl, ?_, hs.2.1⟩, hs.2.2.1, hs.2.2.2.1, hs.2.2.2.2.1⟩
        have := hs.2.1.lt
        rwa [addr_block] at this
      · simp at hv
    · intro x hx
      obtain ⟨i, rfl⟩ := (List.mem_ofFn).1 hx
      exact (hch i).choose_spec.2.2.2.2.2
end Go.Proofs.Ytokaclacejhppaa
