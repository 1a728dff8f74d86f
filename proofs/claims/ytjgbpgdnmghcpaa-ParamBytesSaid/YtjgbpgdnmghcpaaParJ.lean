/- The reference of layer 5 (coder): a number's bytes; a writer. By contracts. · Deeds as plain data: which are right, their bytes, what is read off bytes: nothing of a program. · What is read off bytes as a deed: nothing of a program. · What is read off the bytes of a deed that are cut off: nothing of a program. · Layer 7 (param), the document's bytes of parameters. By contracts. -/
import Derived.Test.YtjgbpgdnmghcpaaCoderW
import Derived.Laws.AppendOwnNone
import Derived.Maps.AppendAt
import Derived.Test.YtjgbpgdnmghcpaaParH
import Derived.Test.YtjgbpgdnmghcpaaParF
import Derived.Test.YtjgbpgdnmghcpaaParC
import Derived.Deep.CutBlock
namespace Go.Proofs.Ytjgbpgdnmghcpaa
open Go.RowKit
set_option linter.unusedVariables false
set_option linter.unusedSimpArgs false

/-- All but the blocks of which S is said is as it was. -/
structure Keep (S : Nat → Prop) (w w' : World) : Prop where
  os : w'.os = w.os
  tape : w'.tape = w.tape
  output : w'.output = w.output
  size : w.heap.size ≤ w'.heap.size
  block : ∀ k, k < w.heap.size → ¬ S k → w'.heap[k]? = w.heap[k]?

theorem Keep.refl (S : Nat → Prop) (w : World) : Keep S w w := ⟨rfl, rfl, rfl, Nat.le_refl _, fun _ _ _ => rfl⟩
theorem Keep.below {S : Nat → Prop} {B : Nat} {w w' : World} (h : Keep S w w') (hS : ∀ k, S k → B ≤ k) (hB : B ≤ w.heap.size) : Below B w w' :=
  ⟨h.os, h.tape, h.output, h.size, fun k hk => h.block k (by omega) (fun hs => by have := hS k hs; omega)⟩
theorem Keep.of_below {w w' : World} (h : Below w.heap.size w w') (S : Nat → Prop) : Keep S w w' := ⟨h.os, h.tape, h.output, h.size, fun k hk _ => h.block k hk⟩
theorem Keep.trans {S : Nat → Prop} {a b c : World} (h : Keep S a b) (k : Keep S b c) : Keep S a c :=
  ⟨k.os.trans h.os, k.tape.trans h.tape, k.output.trans h.output, Nat.le_trans h.size k.size, fun i hi hs => (k.block i (Nat.lt_of_lt_of_le hi h.size) hs).trans (h.block i hi hs)⟩
theorem Keep.of_grown {w w' : World} {row : Option Nat} (h : w.grownBy w' row) {S : Nat → Prop} (hS : ∀ k, row = some k → S k) : Keep S w w' :=
  ⟨h.os, h.tape, h.output, h.size, fun k hk hs => h.block k hk (fun e => hs (hS k e.symm))⟩
theorem WriterAt.keep {w w' : World} {b : Nat} {F : Nat → Prop} {s : List Nat × Nat} {m : Nat} {p : Value} {pre tail part : List Nat} (h : WriterAt w b F s m p pre tail part) {S : Nat → Prop} (hg : Keep S w w') (hb : ¬ S b) (hF : ∀ k, F k → ¬ S k) : WriterAt w' b F s m p pre tail part :=
  ⟨h.text, h.short, h.whole, h.same, h.most, h.small, Chain.hold (fun k hk hf => hg.block k hk (hF k hf)) (fun _ h => h) m p pre h.chain, fun k hk => ⟨(h.apart k hk).1, Nat.lt_of_lt_of_le (h.apart k hk).2 hg.size⟩, by rw [hg.block b h.lt hb]; exact h.block⟩

theorem own_below0 {w w' : World} {base n : Nat} {e : TypeId} {v : Value} {xs : List Value} (h : w.ownsRow base e 1 v n xs) (hb : Below w.heap.size w w') : w'.ownsRow base e 1 v n xs := by
  refine h.kept (grown_below hb none) ?_
  by_cases h0 : v.ownBlock = none
  · exact .inl h0
  · exact .inr h0

theorem Lies.src0 {w : World} {S : Nat → Prop} {a : Addr} {xs : List Nat} (h : Lies w S (some a) xs) : ∀ q v, (u8s xs)[q]? = some v → w.cell? (a.add q) = some v := by
  intro q v hq
  have hql : q < xs.length := by have := (List.getElem?_eq_some_iff.1 hq).1; rwa [u8s_len] at this
  rw [u8s_get hql] at hq
  cases hq
  obtain ⟨a', ha', _, hc'⟩ := h.get hql
  cases ha'
  exact hc'

set_option maxRecDepth 100000 in
set_option maxHeartbeats 2000000 in
theorem refform_is : ∀ (n : Nat) (w : World), n < 18446744073709551616 →
    Calls Try.prog 45 #[.int .u64 (n : Int)] w fun e w' => ∃ v, e = .returned v ∧ w'.ownsRow w.heap.size 5 1 v (form n).length (u8s (form n)) ∧ Below w.heap.size w w' := by
  intro n
  induction n using Nat.strongRecOn with
  | ind n ih =>
    intro w hn
    obtain ⟨i0, hi0, hz0, hz1, hz2⟩ := info_parts u8_info
    by_cases hlt : n < 128
    · have hcv : IntKind.u8.wrap (n : Int) = (n : Int) := by rw [IntKind.wrap_u8]; omega
      have hnI : (n : Int) < 128 := by omega
      rw [form_small hlt]
      clear ih hlt
      go_enter Try.func45, Try.ntmps45
      go_wp2_with fail
      refine bodyPost_ret (v := .slice (some ⟨w.heap.size, 0, none⟩) 1 1) (by simp [results, Try.results45, go_sem]) rfl ⟨_, rfl, ?_, (Below.refl _ _).alloc (Nat.le_refl _) _⟩
      exact ⟨rfl, .inr ⟨w.heap.size, 1, #[.int .u8 (n : Int)], rfl, Nat.le_refl _, heap_alloc_new w _, Nat.le_refl _, by simp [maxLen], rfl, rfl⟩⟩
    · have k := ih (n / 128) (by omega)
      have hnI : (128 : Int) ≤ (n : Int) := by omega
      have hfl := form_word (n := n) hn
      rw [form_big (by omega)] at hfl ⊢
      obtain ⟨x, hx⟩ : ∃ x : Nat, Hid (n % 128 + 128 = x) := ⟨_, rfl⟩
      have hxI : (n : Int) % 128 + 128 = (x : Int) := by have := hx.out; omega
      have hx256 : x < 256 := by have := hx.out; omega
      have hw1 : IntKind.u64.wrap ((n : Int) % 128 + 128) = (x : Int) := by rw [hxI]; exact IntWalk.u64_in _ (by omega)
      have hw2 : IntKind.u8.wrap (x : Int) = (x : Int) := by rw [IntKind.wrap_u8]; omega
      rw [hx.out] at hfl ⊢
      obtain ⟨r, hr⟩ : ∃ r, Hid (form (n / 128) = r) := ⟨_, rfl⟩
      rw [hr.out] at k hfl ⊢
      have hdv : ((n / 128 : Nat) : Int) = (n : Int) / 128 := by omega
      have k2 : ∀ V, Calls Try.prog 45 #[.int .u64 ((n : Int) / 128)] V fun e w' => ∃ v, e = .returned v ∧ w'.ownsRow V.heap.size 5 1 v r.length (u8s r) ∧ Below V.heap.size V w' := fun V => by rw [← hdv]; exact k V (by omega)
      have hrl : r.length ≤ 10 := by simp at hfl; omega
      have hrp : 0 < r.length := by rw [← hr.out]; exact form_pos _
      clear ih hlt k hdv hfl
      go_enter Try.func45, Try.ntmps45
      go_wp2_with (at_builtin; refine wpList_append_own _ rfl _ _ 40 rfl w.heap.size 5 i0 (.int .u8 0) 1 1 Try.underlying40 hi0 hz0 hz1 hz2 rfl (by decide) _ _ _ rfl (World.ownsRow_nil _ _ _ _) ⟨w.heap.size, 0, none⟩ 1 1 [.int .u8 (x : Int)] rfl rfl ?c1 ?c2 ?c3 ?c4 ?c5 ?_)
      case c1 => exact new_first _ _ _
      case c2 => intro u hu; simp at hu; subst hu; rfl
      case c3 => simp [maxLen]
      case c4 => omega
      case c5 => simp
      intro v1 w1 hown1 hgrow1 _
      have hb1 : Below w.heap.size w w1 := ((Below.refl _ w).alloc (Nat.le_refl _) _).grown hgrow1 (by simp) (by intro k hk; cases hk)
      clear hgrow1
      go_wp2_with (first
        | (go_at_call 45; refine (k2 _).mono ?_; rintro e w2 ⟨v2, rfl, hown2, hb2⟩; have hown3 := own_below0 hown1 hb2; obtain ⟨A2, cc2, rfl, hl1, hl2, _, hL⟩ := Lies.own hown2; obtain ⟨x0, r0, rfl⟩ := List.exists_cons_of_length_pos hrp; obtain ⟨a2, rfl, hSa, _⟩ := hL 0 x0 rfl; have hsrc := hL.src0; have HS := Lib.hid hsrc; clear hsrc k2)
        | (at_builtin; refine wpList_append_own _ rfl _ _ 40 rfl w.heap.size 5 i0 (.int .u8 0) 1 1 Try.underlying40 hi0 hz0 hz1 hz2 rfl (by decide) _ _ _ rfl hown3 a2 (x0 :: r0).length cc2 (u8s (x0 :: r0)) rfl ?d1 ?d2 ?d3 ?d4 ?d5 ?d6 ?_))
      case d1 => simp [u8s_len]
      case d2 => exact HS.out
      case d3 => exact u8s_one
      case d4 => simp only [maxLen]; simp at hrl ⊢; omega
      case d5 => simp at hrl ⊢; omega
      case d6 => exact Nat.le_trans hb1.size hb2.size
      intro v3 w3 hown4 hgrow3 _
      have hb3 : Below w.heap.size w w3 := (hb1.trans (hb2.mono hb1.size)).grown hgrow3 (Nat.le_trans hb1.size hb2.size) (fun k hk => (hown3.lt k hk).1)
      clear hgrow3
      go_wp2
      refine bodyPost_ret (v := v3) (by simp [results, Try.results45, go_sem]) rfl ⟨_, rfl, ?_, hb3⟩
      have e : u8s (x :: x0 :: r0) = [.int .u8 (x : Int)] ++ u8s (x0 :: r0) := rfl
      rw [e]
      rw [Nat.add_comm (x0 :: r0).length 1]
      exact hown4

/-- What an Int writes. -/
def rint (s : List Nat × Nat) (i : Int) : List Nat × Nat := if i < 0 then wneg s else wput s (form i.toNat)

end Go.Proofs.Ytjgbpgdnmghcpaa
namespace Go.Proofs.Ytjgbpgdnmghcpaa
set_option linter.unusedVariables false

/-- A deed. -/
structure Dd where
  kind : Int
  account : Int
  member : Int
  dest : Int
  amount : Nat
  epoch : Int
  bits : List Nat
  what : Int
  par : Par
  motion : Int
  yes : Bool

/-- Nothing. -/
def Dd.none : Dd := ⟨0, 0, 0, 0, 0, 0, [], 0, Par.none, 0, false⟩

/-- Each number has its bits. -/
structure Dd.Fits (d : Dd) : Prop where
  ints : ∀ x ∈ [d.kind, d.account, d.member, d.dest, d.epoch, d.what, d.motion], -9223372036854775808 ≤ x ∧ x ≤ 9223372036854775807
  amount : d.amount < 18446744073709551616
  bits : ∀ x ∈ d.bits, x < 256
  par : d.par.Fits

/-- The deeds that are right, kind by kind. -/
inductive Dd.Right : Dd → Prop
  | send (a t m : Nat) : a ≤ 63 → t ≤ 63 → 1 ≤ m → m ≤ 4611686018427387904 → Dd.Right ⟨1, a, 0, t, m, 0, [], 0, Par.none, 0, false⟩
  | stake (a m : Nat) : a ≤ 63 → 1 ≤ m → m ≤ 4611686018427387904 → Dd.Right ⟨2, a, 0, 0, m, 0, [], 0, Par.none, 0, false⟩
  | top (a b m : Nat) : a ≤ 63 → b ≤ 127 → 1 ≤ m → m ≤ 4611686018427387904 → Dd.Right ⟨3, a, b, 0, m, 0, [], 0, Par.none, 0, false⟩
  | leave (a b : Nat) : a ≤ 63 → b ≤ 127 → Dd.Right ⟨4, a, b, 0, 0, 0, [], 0, Par.none, 0, false⟩
  | mark (e : Nat) (xs : List Nat) : e ≤ 1073741824 → xs.length ≤ 32 → (∀ x ∈ xs, x < 256) → Dd.Right ⟨5, 0, 0, 0, 0, e, xs, 0, Par.none, 0, false⟩
  | params (a : Nat) (p : Par) (T : Nat) : a ≤ 63 → Par.Right p T → p.Fits → Dd.Right ⟨6, a, 0, 0, 0, 0, [], 1, p, 0, false⟩
  | spend (a t m : Nat) : a ≤ 63 → t ≤ 63 → 1 ≤ m → m ≤ 4611686018427387904 → Dd.Right ⟨6, a, 0, t, m, 0, [], 2, Par.none, 0, false⟩
  | other (a k : Nat) : a ≤ 63 → 3 ≤ k → k ≤ 4 → Dd.Right ⟨6, a, 0, 0, 0, 0, [], k, Par.none, 0, false⟩
  | vote (a b n : Nat) (y : Bool) : a ≤ 63 → b ≤ 127 → n ≤ 31 → Dd.Right ⟨7, a, b, 0, 0, 0, [], 0, Par.none, n, y⟩

/-- What is written of a deed, piece by piece. -/
def Dd.parts (d : Dd) : List (List Nat) :=
  if d.kind = 1 then [form 1, form d.account.toNat, form d.dest.toNat, form d.amount]
  else if d.kind = 2 then [form 2, form d.account.toNat, form d.amount]
  else if d.kind = 3 then [form 3, form d.account.toNat, form d.member.toNat, form d.amount]
  else if d.kind = 4 then [form 4, form d.account.toNat, form d.member.toNat]
  else if d.kind = 5 then [form 5, form d.epoch.toNat, form d.bits.length ++ d.bits]
  else if d.kind = 6 then [form 6, form d.account.toNat, form d.what.toNat] ++ (if d.what = 1 then d.par.nums.map form else if d.what = 2 then [form d.dest.toNat, form d.amount] else [])
  else [form 7, form d.account.toNat, form d.member.toNat, form d.motion.toNat, form (if d.yes then 1 else 0)]
def Dd.bytes (d : Dd) : List Nat := d.parts.flatten

/-- A writer behind pieces more. -/
def wputs (s : List Nat × Nat) (l : List (List Nat)) : List Nat × Nat := l.foldl wput s
theorem wputs_ok : ∀ (l : List (List Nat)) (pre : List Nat), pre.length + l.flatten.length ≤ 131072 → wputs (pre, 0) l = (pre ++ l.flatten, 0)
  | [], pre, _ => by simp [wputs]
  | x :: l, pre, h => by
    rw [List.flatten_cons, List.length_append] at h
    have e : wput (pre, 0) x = (pre ++ x, 0) := by
      unfold wput
      rw [if_neg (by simp), if_neg (by simp only; omega)]
    show wputs (wput (pre, 0) x) l = _
    rw [e, wputs_ok l (pre ++ x) (by rw [List.length_append]; omega), List.flatten_cons, List.append_assoc]

theorem parts_send (a t m : Nat) : Dd.parts ⟨1, a, 0, t, m, 0, [], 0, Par.none, 0, false⟩ = [form 1, form a, form t, form m] := rfl
theorem parts_stake (a m : Nat) : Dd.parts ⟨2, a, 0, 0, m, 0, [], 0, Par.none, 0, false⟩ = [form 2, form a, form m] := rfl
theorem parts_top (a b m : Nat) : Dd.parts ⟨3, a, b, 0, m, 0, [], 0, Par.none, 0, false⟩ = [form 3, form a, form b, form m] := rfl
theorem parts_leave (a b : Nat) : Dd.parts ⟨4, a, b, 0, 0, 0, [], 0, Par.none, 0, false⟩ = [form 4, form a, form b] := rfl
theorem parts_mark (e : Nat) (xs : List Nat) : Dd.parts ⟨5, 0, 0, 0, 0, e, xs, 0, Par.none, 0, false⟩ = [form 5, form e, form xs.length ++ xs] := rfl
theorem parts_params (a : Nat) (p : Par) : Dd.parts ⟨6, a, 0, 0, 0, 0, [], 1, p, 0, false⟩ = [form 6, form a, form 1] ++ p.nums.map form := rfl
theorem parts_spend (a t m : Nat) : Dd.parts ⟨6, a, 0, t, m, 0, [], 2, Par.none, 0, false⟩ = [form 6, form a, form 2, form t, form m] := rfl
theorem parts_other (a k : Nat) (h1 : k ≠ 1) (h2 : k ≠ 2) : Dd.parts ⟨6, a, 0, 0, 0, 0, [], k, Par.none, 0, false⟩ = [form 6, form a, form k] := by
  have e1 : ¬ (k : Int) = 1 := by omega
  have e2 : ¬ (k : Int) = 2 := by omega
  simp [Dd.parts, e1, e2]
theorem parts_vote (a b n : Nat) (y : Bool) : Dd.parts ⟨7, a, b, 0, 0, 0, [], 0, Par.none, n, y⟩ = [form 7, form a, form b, form n, form (if y then 1 else 0)] := rfl

/-- Each number stays below its most. -/
def Fit : List Nat → List Nat → Prop
  | [], [] => True
  | n :: ns, m :: ms => (n < 18446744073709551616 ∧ n ≤ m) ∧ Fit ns ms
  | _, _ => False

/-- Numbers read one behind the other, each with its most. -/
def rdL (bs : List Nat) : List Nat → Nat × Nat → List Nat × (Nat × Nat)
  | [], s => ([], s)
  | m :: ms, s => ((rdNum bs s m).1 :: (rdL bs ms (rdNum bs s m).2).1, (rdL bs ms (rdNum bs s m).2).2)

theorem rdL_len (bs : List Nat) : ∀ (ms : List Nat) (s : Nat × Nat), (rdL bs ms s).1.length = ms.length
  | [], s => rfl
  | m :: ms, s => by simp only [rdL, List.length_cons, rdL_len bs ms]
theorem rdNum_failed (bs : List Nat) (s : Nat × Nat) (m : Nat) (h : s.2 ≠ 0) : rdNum bs s m = (0, s) := by unfold rdNum; rw [if_pos h]
theorem rdL_failed (bs : List Nat) : ∀ (ms : List Nat) (s : Nat × Nat), s.2 ≠ 0 → rdL bs ms s = (ms.map (fun _ => 0), s)
  | [], s, h => rfl
  | m :: ms, s, h => by simp only [rdL, rdNum_failed bs s m h, rdL_failed bs ms s h, List.map_cons]
theorem rdL_append (bs : List Nat) : ∀ (l r : List Nat) (s : Nat × Nat), rdL bs (l ++ r) s = ((rdL bs l s).1 ++ (rdL bs r (rdL bs l s).2).1, (rdL bs r (rdL bs l s).2).2)
  | [], r, s => rfl
  | m :: l, r, s => by simp only [List.cons_append, rdL, rdL_append bs l r]
theorem rdSeq_rdL (bs : List Nat) (mo : Nat) : ∀ (k : Nat) (s : Nat × Nat), rdSeq bs mo k s = rdL bs (List.replicate k mo) s
  | 0, s => rfl
  | k + 1, s => by
    rw [List.replicate_succ', rdL_append, ← rdSeq_rdL bs mo k s]
    rfl
theorem rdL_form {bs : List Nat} : ∀ (ns ms : List Nat) (pos : Nat) (rest : List Nat), Fit ns ms → bs.drop pos = ns.flatMap form ++ rest → rdL bs ms (pos, 0) = (ns, (pos + (ns.flatMap form).length, 0))
  | [], [], pos, rest, _, _ => by simp [rdL]
  | n :: ns, m :: ms, pos, rest, hf, h => by
    rw [List.flatMap_cons, List.append_assoc] at h
    have h1 := rdNum_form hf.1.1 hf.1.2 h
    have h2 : bs.drop (pos + (form n).length) = ns.flatMap form ++ rest := by rw [← List.drop_drop, h, List.drop_left]
    simp only [rdL, h1, rdL_form ns ms _ rest hf.2 h2, List.flatMap_cons, List.length_append, Nat.add_assoc]
  | [], _ :: _, _, _, hf, _ => hf.elim
  | _ :: _, [], _, _, hf, _ => hf.elim

/-- A number that is cut off, or is all there. -/
theorem cut_step {bs r : List Nat} {pos n mo j : Nat} (hn : n < 18446744073709551616) (hm : n ≤ mo) (h : bs.drop pos = (form n ++ r).take j) :
    (j < (form n).length ∧ rdNum bs (pos, 0) mo = (0, (pos, 50))) ∨
    ((form n).length ≤ j ∧ rdNum bs (pos, 0) mo = (n, (pos + (form n).length, 0)) ∧ bs.drop (pos + (form n).length) = r.take (j - (form n).length)) := by
  rcases Nat.lt_or_ge j (form n).length with hj | hj
  · refine .inl ⟨hj, ?_⟩
    rw [List.take_append_of_le_length (by omega)] at h
    unfold rdNum
    rw [if_neg (by simp)]
    simp only
    rw [h, scan_cut n 0 0 j (by omega) (by simpa using hn) hj]
    rfl
  · refine .inr ⟨hj, ?_⟩
    have e : bs.drop pos = form n ++ r.take (j - (form n).length) := by rw [h, List.take_append, List.take_of_length_le hj]
    exact ⟨rdNum_form hn hm e, by rw [← List.drop_drop, e, List.drop_left]⟩

theorem rdL_cut {bs : List Nat} : ∀ (ns ms : List Nat) (pos j : Nat) (rest : List Nat), Fit ns ms → bs.drop pos = (ns.flatMap form ++ rest).take j → j < (ns.flatMap form).length → (rdL bs ms (pos, 0)).2.2 = 50
  | [], [], pos, j, rest, _, _, hj => by simp at hj
  | n :: ns, m :: ms, pos, j, rest, hf, h, hj => by
    rw [List.flatMap_cons, List.append_assoc] at h
    rw [List.flatMap_cons, List.length_append] at hj
    rcases cut_step hf.1.1 hf.1.2 h with ⟨_, h1⟩ | ⟨h0, h1, h2⟩
    · simp only [rdL, h1, rdL_failed bs ms (pos, 50) (by simp)]
    · simp only [rdL, h1]
      exact rdL_cut ns ms _ _ rest hf.2 h2 (by omega)
  | [], _ :: _, _, _, _, hf, _, _ => hf.elim
  | _ :: _, [], _, _, _, hf, _, _ => hf.elim
theorem rdL_back {bs : List Nat} (hb : ∀ x ∈ bs, x < 256) : ∀ (ms : List Nat) (s : Nat × Nat), s.1 ≤ bs.length → (rdL bs ms s).2.2 = 0 →
    s.2 = 0 ∧ s.1 ≤ (rdL bs ms s).2.1 ∧ (rdL bs ms s).2.1 ≤ bs.length ∧ (rdL bs ms s).1.flatMap form = (bs.drop s.1).take ((rdL bs ms s).2.1 - s.1)
  | [], s, hs, h => ⟨h, Nat.le_refl _, hs, by simp [rdL]⟩
  | m :: ms, s, hs, h => by
    simp only [rdL] at h ⊢
    rcases Nat.eq_zero_or_pos (rdNum bs s m).2.2 with hm | hm
    · obtain ⟨h1, h2, h3, h4⟩ := rdNum_back hb hs hm
      obtain ⟨_, g2, g3, g4⟩ := rdL_back hb ms _ h3 h
      refine ⟨h1, Nat.le_trans h2 g2, g3, ?_⟩
      rw [List.flatMap_cons, h4, g4]
      generalize (rdL bs ms (rdNum bs s m).2).2.1 = q at *
      generalize (rdNum bs s m).2.1 = p at *
      rw [show q - s.1 = (p - s.1) + (q - p) by omega, List.take_add, List.drop_drop, show s.1 + (p - s.1) = p by omega]
    · exfalso
      rw [rdL_failed bs ms _ (by omega)] at h
      simp only at h
      omega
theorem rdL_fit (bs : List Nat) : ∀ (ms : List Nat) (s : Nat × Nat), (∀ m ∈ ms, m < 18446744073709551616) → Fit (rdL bs ms s).1 ms
  | [], s, _ => trivial
  | m :: ms, s, h => ⟨⟨Nat.lt_of_le_of_lt (rdNum_most bs s m) (h m List.mem_cons_self), rdNum_most bs s m⟩, rdL_fit bs ms _ (fun x hx => h x (List.mem_cons_of_mem _ hx))⟩

/-- Parameters that are right have their bits; what they may be at most. -/
theorem right_fits {p : Par} {T : Nat} (h : Par.Right p T) : p.Fits ∧ Fit p.us (List.replicate 14 18446744073709551615) ∧ Fit (p.is.map Int.toNat) (List.replicate 10 2147483647) ∧ (∀ x ∈ p.is, 0 ≤ x) := by
  obtain ⟨_, _, _, _, _, _, _, _, _, _, _, _, _, _, _, _, _, _, _, _, _, _, _, _, _, _, _, _, _, _, _, _, _, _, _, _, _, _, _, _, _, _, _, _, _⟩ := h.spans
  refine ⟨⟨?_, ?_⟩, ?_, ?_, ?_⟩
  · intro x hx
    simp only [Par.us, List.mem_cons, List.mem_nil_iff, or_false] at hx
    rcases hx with rfl | rfl | rfl | rfl | rfl | rfl | rfl | rfl | rfl | rfl | rfl | rfl | rfl | rfl <;> omega
  · intro x hx
    simp only [Par.is, List.mem_cons, List.mem_nil_iff, or_false] at hx
    rcases hx with rfl | rfl | rfl | rfl | rfl | rfl | rfl | rfl | rfl | rfl <;> omega
  · refine ⟨⟨?_, ?_⟩, ⟨?_, ?_⟩, ⟨?_, ?_⟩, ⟨?_, ?_⟩, ⟨?_, ?_⟩, ⟨?_, ?_⟩, ⟨?_, ?_⟩, ⟨?_, ?_⟩, ⟨?_, ?_⟩, ⟨?_, ?_⟩, ⟨?_, ?_⟩, ⟨?_, ?_⟩, ⟨?_, ?_⟩, ⟨?_, ?_⟩, trivial⟩ <;> omega
  · refine ⟨⟨?_, ?_⟩, ⟨?_, ?_⟩, ⟨?_, ?_⟩, ⟨?_, ?_⟩, ⟨?_, ?_⟩, ⟨?_, ?_⟩, ⟨?_, ?_⟩, ⟨?_, ?_⟩, ⟨?_, ?_⟩, ⟨?_, ?_⟩, trivial⟩ <;> omega
  · intro x hx
    simp only [Par.is, List.mem_cons, List.mem_nil_iff, or_false] at hx
    rcases hx with rfl | rfl | rfl | rfl | rfl | rfl | rfl | rfl | rfl | rfl <;> omega

theorem pbytes_split (p : Par) : p.bytes = p.us.flatMap form ++ (p.is.map Int.toNat).flatMap form := by unfold Par.bytes Par.nums; rw [List.flatMap_append]

/-- Parameters that were written are read as they were. -/
theorem pres_form {p : Par} {T : Nat} (h : Par.Right p T) {bs rest : List Nat} {pos : Nat} (hd : bs.drop pos = p.bytes ++ rest) : PRes bs (pos, 0) p 0 (pos + p.bytes.length, 0) := by
  obtain ⟨hf, f1, f2, hpos⟩ := right_fits h
  have e0 := pbytes_split p
  have h1 := rdL_form p.us (List.replicate 14 18446744073709551615) pos ((p.is.map Int.toNat).flatMap form ++ rest) f1 (by rw [hd, e0, List.append_assoc])
  have h2 := rdL_form (bs := bs) (p.is.map Int.toNat) (List.replicate 10 2147483647) (pos + (p.us.flatMap form).length) rest f2 (by rw [← List.drop_drop, hd, e0, List.append_assoc, List.drop_left])
  have hlen : pos + (p.us.flatMap form).length + ((p.is.map Int.toNat).flatMap form).length = pos + p.bytes.length := by rw [e0, List.length_append]; omega
  rw [hlen] at h2
  rw [← rdSeq_rdL] at h1 h2
  refine ⟨by rw [h1, h2], .inr ⟨rfl, p, by rw [h1], ?_, .inl ⟨⟨T, h⟩, rfl, rfl⟩⟩⟩
  rw [h1, h2]
  simp only [List.map_map]
  rw [List.map_congr_left (g := id) (fun x hx => by simp only [Function.comp, id]; exact Int.toNat_of_nonneg (hpos x hx)), List.map_id]
theorem pres_state {bs : List Nat} {s st : Nat × Nat} {q : Par} {ee : Nat} (h : PRes bs s q ee st) : st = (rdL bs (List.replicate 14 18446744073709551615 ++ List.replicate 10 2147483647) s).2 := by
  rw [h.1, rdL_append, rdSeq_rdL, rdSeq_rdL]
theorem fit_append : ∀ {a b c d : List Nat}, Fit a b → Fit c d → Fit (a ++ c) (b ++ d)
  | [], [], _, _, _, h => h
  | _ :: _, _ :: _, _, _, ⟨h1, h2⟩, h => ⟨h1, fit_append h2 h⟩
  | [], _ :: _, _, _, h, _ => h.elim
  | _ :: _, [], _, _, h, _ => h.elim
theorem pres_cut {p : Par} {T : Nat} (h : Par.Right p T) {bs rest : List Nat} {pos j : Nat} (hd : bs.drop pos = (p.bytes ++ rest).take j) (hj : j < p.bytes.length) {q : Par} {ee : Nat} {st : Nat × Nat} (hp : PRes bs (pos, 0) q ee st) : st.2 = 50 := by
  obtain ⟨hf, f1, f2, hpos⟩ := right_fits h
  rw [pres_state hp]
  have e0 : p.bytes = (p.us ++ p.is.map Int.toNat).flatMap form := rfl
  rw [e0] at hd hj
  exact rdL_cut _ _ pos j rest (fit_append f1 f2) hd hj
theorem pres_good {bs : List Nat} (hb : ∀ x ∈ bs, x < 256) {s st : Nat × Nat} {q : Par} (hs : s.1 ≤ bs.length) (h : PRes bs s q 0 st) :
    (∃ N, Par.Right q N) ∧ q.Fits ∧ s.2 = 0 ∧ st.2 = 0 ∧ s.1 ≤ st.1 ∧ st.1 ≤ bs.length ∧ q.bytes = (bs.drop s.1).take (st.1 - s.1) := by
  have he := pres_state h
  have hbk := rdL_back hb (List.replicate 14 18446744073709551615 ++ List.replicate 10 2147483647) s hs
  rw [← he] at hbk
  rcases h.2 with ⟨h0, _, h2⟩ | ⟨h0, p, h1, h2, ⟨hR, rfl, _⟩ | ⟨_, _, h3⟩⟩
  · exact absurd h2.symm h0
  · obtain ⟨g1, g2, g3, g4⟩ := hbk h0
    refine ⟨hR, read_fits h1 h2, g1, h0, g2, g3, ?_⟩
    rw [← g4, rdL_append, pbytes_split, List.flatMap_append, ← rdSeq_rdL, ← rdSeq_rdL, h1, h2, List.map_map]
    simp only [Function.comp_def, Int.toNat_natCast, List.map_id']
  · omega
end Go.Proofs.Ytjgbpgdnmghcpaa
namespace Go.Proofs.Ytjgbpgdnmghcpaa
set_option linter.unusedVariables false

/-- What is read as a deed: the deed, why it is none, where the reader is then. -/
inductive DRaw (bs : List Nat) (s : Nat × Nat) : Dd → Nat → Nat × Nat → Prop
  | bad (k : Nat) (st : Nat × Nat) : rdL bs [255] s = ([k], st) → (k = 0 ∨ 7 < k) → DRaw bs s ⟨k, 0, 0, 0, 0, 0, [], 0, Par.none, 0, false⟩ 80 st
  | send (a t m : Nat) (st : Nat × Nat) : rdL bs [255, 63, 63, 4611686018427387904] s = ([1, a, t, m], st) → DRaw bs s ⟨1, a, 0, t, m, 0, [], 0, Par.none, 0, false⟩ (if m = 0 then 80 else 0) st
  | stake (a m : Nat) (st : Nat × Nat) : rdL bs [255, 63, 4611686018427387904] s = ([2, a, m], st) → DRaw bs s ⟨2, a, 0, 0, m, 0, [], 0, Par.none, 0, false⟩ (if m = 0 then 80 else 0) st
  | top (a b m : Nat) (st : Nat × Nat) : rdL bs [255, 63, 127, 4611686018427387904] s = ([3, a, b, m], st) → DRaw bs s ⟨3, a, b, 0, m, 0, [], 0, Par.none, 0, false⟩ (if m = 0 then 80 else 0) st
  | leave (a b : Nat) (st : Nat × Nat) : rdL bs [255, 63, 127] s = ([4, a, b], st) → DRaw bs s ⟨4, a, b, 0, 0, 0, [], 0, Par.none, 0, false⟩ 0 st
  | mark (e : Nat) (s1 : Nat × Nat) (xs : List Nat) (st : Nat × Nat) : rdL bs [255, 1073741824] s = ([5, e], s1) → rdRaw bs s1 32 = (xs, st) → DRaw bs s ⟨5, 0, 0, 0, 0, e, xs, 0, Par.none, 0, false⟩ 0 st
  | params (a : Nat) (s1 : Nat × Nat) (q : Par) (ee : Nat) (st : Nat × Nat) : rdL bs [255, 63, 255] s = ([6, a, 1], s1) → PRes bs s1 q ee st → DRaw bs s ⟨6, a, 0, 0, 0, 0, [], 1, q, 0, false⟩ ee st
  | spend (a t m : Nat) (st : Nat × Nat) : rdL bs [255, 63, 255, 63, 4611686018427387904] s = ([6, a, 2, t, m], st) → DRaw bs s ⟨6, a, 0, t, m, 0, [], 2, Par.none, 0, false⟩ (if m = 0 then 80 else 0) st
  | other (a k : Nat) (st : Nat × Nat) : rdL bs [255, 63, 255] s = ([6, a, k], st) → k ≠ 1 → k ≠ 2 → DRaw bs s ⟨6, a, 0, 0, 0, 0, [], k, Par.none, 0, false⟩ (if 3 ≤ k ∧ k ≤ 4 then 0 else 80) st
  | vote (a b n y : Nat) (st : Nat × Nat) : rdL bs [255, 63, 127, 31, 1] s = ([7, a, b, n, y], st) → DRaw bs s ⟨7, a, b, 0, 0, 0, [], 0, Par.none, n, decide (y = 1)⟩ 0 st

theorem len1 {l : List Nat} (h : l.length = 1) : ∃ a, l = [a] := by
  match l, h with | [a], _ => exact ⟨a, rfl⟩
theorem len2 {l : List Nat} (h : l.length = 2) : ∃ a b, l = [a, b] := by
  match l, h with | [a, b], _ => exact ⟨a, b, rfl⟩
theorem len3 {l : List Nat} (h : l.length = 3) : ∃ a b c, l = [a, b, c] := by
  match l, h with | [a, b, c], _ => exact ⟨a, b, c, rfl⟩
theorem len4 {l : List Nat} (h : l.length = 4) : ∃ a b c d, l = [a, b, c, d] := by
  match l, h with | [a, b, c, d], _ => exact ⟨a, b, c, d, rfl⟩
theorem rdL_one {bs : List Nat} {s : Nat × Nat} {m n : Nat} {t : Nat × Nat} (h : rdNum bs s m = (n, t)) (ms : List Nat) : rdL bs (m :: ms) s = (n :: (rdL bs ms t).1, (rdL bs ms t).2) := by simp only [rdL, h]
theorem rdL_inv {bs : List Nat} {m n : Nat} {ms ns : List Nat} {s t : Nat × Nat} (h : rdL bs (m :: ms) s = (n :: ns, t)) : ∃ s1, rdNum bs s m = (n, s1) ∧ rdL bs ms s1 = (ns, t) := by
  simp only [rdL, Prod.mk.injEq, List.cons.injEq] at h
  exact ⟨_, by rw [← h.1.1], by rw [← h.1.2, ← h.2]⟩
theorem rdL_nil {bs : List Nat} {s t : Nat × Nat} (h : rdL bs [] s = ([], t)) : t = s := by simpa [rdL] using h.symm

/-- Something is read. -/
theorem draw_is (bs : List Nat) (s : Nat × Nat) : ∃ d y st, DRaw bs s d y st := by
  obtain ⟨k, s1, h1⟩ : ∃ k s1, rdNum bs s 255 = (k, s1) := ⟨_, _, rfl⟩
  by_cases hk : k = 0 ∨ 7 < k
  · exact ⟨_, _, _, .bad k s1 (rdL_one h1 []) hk⟩
  · have hc : k = 1 ∨ k = 2 ∨ k = 3 ∨ k = 4 ∨ k = 5 ∨ k = 6 ∨ k = 7 := by omega
    rcases hc with rfl | rfl | rfl | rfl | rfl | rfl | rfl
    · obtain ⟨a, b, c, hl⟩ := len3 (rdL_len bs [63, 63, 4611686018427387904] s1)
      exact ⟨_, _, _, .send a b c _ ((rdL_one h1 _).trans (by rw [hl]))⟩
    · obtain ⟨a, b, hl⟩ := len2 (rdL_len bs [63, 4611686018427387904] s1)
      exact ⟨_, _, _, .stake a b _ ((rdL_one h1 _).trans (by rw [hl]))⟩
    · obtain ⟨a, b, c, hl⟩ := len3 (rdL_len bs [63, 127, 4611686018427387904] s1)
      exact ⟨_, _, _, .top a b c _ ((rdL_one h1 _).trans (by rw [hl]))⟩
    · obtain ⟨a, b, hl⟩ := len2 (rdL_len bs [63, 127] s1)
      exact ⟨_, _, _, .leave a b _ ((rdL_one h1 _).trans (by rw [hl]))⟩
    · obtain ⟨a, hl⟩ := len1 (rdL_len bs [1073741824] s1)
      exact ⟨_, _, _, .mark a _ _ _ ((rdL_one h1 _).trans (by rw [hl])) rfl⟩
    · obtain ⟨a, k, hl⟩ := len2 (rdL_len bs [63, 255] s1)
      have e : rdL bs [255, 63, 255] s = ([6, a, k], (rdL bs [63, 255] s1).2) := (rdL_one h1 _).trans (by rw [hl])
      by_cases h61 : k = 1
      · subst h61
        obtain ⟨q, ee, st, hp⟩ := pres_is bs (rdL bs [63, 255] s1).2
        exact ⟨_, _, _, .params a _ q ee st e hp⟩
      · by_cases h62 : k = 2
        · subst h62
          obtain ⟨t, m, hl2⟩ := len2 (rdL_len bs [63, 4611686018427387904] (rdL bs [63, 255] s1).2)
          refine ⟨_, _, _, .spend a t m (rdL bs [63, 4611686018427387904] (rdL bs [63, 255] s1).2).2 ?_⟩
          have := rdL_append bs [255, 63, 255] [63, 4611686018427387904] s
          rw [e, hl2] at this
          exact this
        · exact ⟨_, _, _, .other a k _ e h61 h62⟩
    · obtain ⟨a, b, c, d, hl⟩ := len4 (rdL_len bs [63, 127, 31, 1] s1)
      exact ⟨_, _, _, .vote a b c d _ ((rdL_one h1 _).trans (by rw [hl]))⟩

theorem flat_map (l : List Nat) : (l.map form).flatten = l.flatMap form := by rw [List.flatMap_def]

theorem rdRaw_good {bs : List Nat} (hb : ∀ x ∈ bs, x < 256) {s st : Nat × Nat} {mo : Nat} {xs : List Nat} (hs : s.1 ≤ bs.length) (h : rdRaw bs s (mo : Int) = (xs, st)) (h0 : st.2 = 0) :
    s.2 = 0 ∧ s.1 ≤ st.1 ∧ st.1 ≤ bs.length ∧ xs.length ≤ mo ∧ (∀ x ∈ xs, x < 256) ∧ form xs.length ++ xs = (bs.drop s.1).take (st.1 - s.1) := by
  unfold rdRaw at h
  by_cases h1 : s.2 ≠ 0
  · rw [if_pos h1] at h; cases h; exact absurd h0 h1
  · rw [if_neg h1, rdInt_cast] at h
    have hbk := rdNum_back hb (mo := mo) hs
    have hmo := rdNum_most bs s mo
    obtain ⟨n, t, e⟩ : ∃ n t, rdNum bs s mo = (n, t) := ⟨_, _, rfl⟩
    rw [e] at h hbk hmo
    simp only at h hbk hmo
    by_cases h2 : t.2 ≠ 0
    · rw [if_pos h2] at h; cases h; exact absurd h0 h2
    · rw [if_neg h2] at h
      obtain ⟨_, g2, g3, g4⟩ := hbk (by omega)
      by_cases h3 : bs.length - t.1 < n
      · rw [if_pos h3] at h; cases h; simp at h0
      · rw [if_neg h3] at h
        cases h
        have hl : ((bs.drop t.1).take n).length = n := by rw [List.length_take, List.length_drop]; omega
        refine ⟨by omega, by simp only; omega, by simp only; omega, by rw [hl]; exact hmo, fun x hx => hb x (List.mem_of_mem_drop (List.mem_of_mem_take hx)), ?_⟩
        simp only
        rw [hl, g4, show t.1 + n - s.1 = (t.1 - s.1) + n by omega, List.take_add, List.drop_drop, show s.1 + (t.1 - s.1) = t.1 by omega]

theorem join {bs : List Nat} {p q r : Nat} (h1 : p ≤ q) (h2 : q ≤ r) : (bs.drop p).take (q - p) ++ (bs.drop q).take (r - q) = (bs.drop p).take (r - p) := by
  rw [show r - p = (q - p) + (r - q) by omega, List.take_add, List.drop_drop, show p + (q - p) = q by omega]

/-- A deed that was read without a fault is right, and has just these bytes. -/
theorem draw_good {bs : List Nat} (hb : ∀ x ∈ bs, x < 256) {s st : Nat × Nat} {d : Dd} (hs : s.1 ≤ bs.length) (h : DRaw bs s d 0 st) (h0 : st.2 = 0) :
    d.Right ∧ s.2 = 0 ∧ s.1 ≤ st.1 ∧ st.1 ≤ bs.length ∧ d.bytes = (bs.drop s.1).take (st.1 - s.1) := by
  have key : ∀ (ms ns : List Nat) (t : Nat × Nat), rdL bs ms s = (ns, t) → t.2 = 0 → (∀ m ∈ ms, m < 18446744073709551616) → Fit ns ms ∧ s.2 = 0 ∧ s.1 ≤ t.1 ∧ t.1 ≤ bs.length ∧ ns.flatMap form = (bs.drop s.1).take (t.1 - s.1) := by
    intro ms ns t e ht hm
    have h1 := rdL_back hb ms s hs
    have h2 := rdL_fit bs ms s hm
    rw [e] at h1 h2
    exact ⟨h2, h1 ht⟩
  obtain ⟨y, hy, h⟩ : ∃ y, 0 = y ∧ DRaw bs s d y st := ⟨0, rfl, h⟩
  cases h with
  | bad k st h1 h2 => omega
  | send a t m st h1 =>
    obtain ⟨f, g1, g2, g3, g4⟩ := key _ _ _ h1 h0 (by decide)
    simp only [Fit] at f
    have hm : m ≠ 0 := fun e => by rw [if_pos e] at hy; omega
    exact ⟨.send a t m (by omega) (by omega) (by omega) (by omega), g1, g2, g3, by rw [← g4, ← flat_map]; rfl⟩
  | stake a m st h1 =>
    obtain ⟨f, g1, g2, g3, g4⟩ := key _ _ _ h1 h0 (by decide)
    simp only [Fit] at f
    have hm : m ≠ 0 := fun e => by rw [if_pos e] at hy; omega
    exact ⟨.stake a m (by omega) (by omega) (by omega), g1, g2, g3, by rw [← g4, ← flat_map]; rfl⟩
  | top a b m st h1 =>
    obtain ⟨f, g1, g2, g3, g4⟩ := key _ _ _ h1 h0 (by decide)
    simp only [Fit] at f
    have hm : m ≠ 0 := fun e => by rw [if_pos e] at hy; omega
    exact ⟨.top a b m (by omega) (by omega) (by omega) (by omega), g1, g2, g3, by rw [← g4, ← flat_map]; rfl⟩
  | leave a b st h1 =>
    obtain ⟨f, g1, g2, g3, g4⟩ := key _ _ _ h1 h0 (by decide)
    simp only [Fit] at f
    exact ⟨.leave a b (by omega) (by omega), g1, g2, g3, by rw [← g4, ← flat_map]; rfl⟩
  | mark e s1 xs st h1 h2 =>
    have hle := (rdL_back hb [255, 1073741824] s hs)
    rw [h1] at hle
    have hf := rdL_failed bs [255, 1073741824] s
    by_cases hs1 : s1.2 = 0
    · obtain ⟨f, g1, g2, g3, g4⟩ := key _ _ _ h1 hs1 (by decide)
      simp only [Fit] at f
      obtain ⟨r1, r2, r3, r4, r5, r6⟩ := rdRaw_good hb (mo := 32) g3 h2 h0
      refine ⟨.mark e xs (by omega) r4 r5, g1, by omega, r3, ?_⟩
      rw [← join g2 r2, ← g4, ← r6, ← flat_map]
      show [form 5, form e, form xs.length ++ xs].flatten = _
      simp
    · unfold rdRaw at h2
      rw [if_pos hs1] at h2
      cases h2
      exact absurd h0 hs1
  | params a s1 q ee st h1 h2 =>
    subst hy
    have hle := (rdL_back hb [255, 63, 255] s hs)
    rw [h1] at hle
    have hs1 : s1.2 = 0 := by
      have := pres_state h2
      by_cases hx : s1.2 = 0
      · exact hx
      · rw [rdL_failed bs _ s1 hx] at this
        rw [this] at h0
        exact h0
    obtain ⟨f, g1, g2, g3, g4⟩ := key _ _ _ h1 hs1 (by decide)
    simp only [Fit] at f
    obtain ⟨⟨N, r1⟩, r2, r3, r4, r5, r6, r7⟩ := pres_good hb g3 h2
    refine ⟨.params a q N (by omega) r1 r2, g1, by omega, r6, ?_⟩
    rw [← join g2 r5, ← g4, ← r7, ← flat_map]
    show ([form 6, form a, form 1] ++ q.nums.map form).flatten = _
    rw [List.flatten_append, flat_map]
    rfl
  | spend a t m st h1 =>
    obtain ⟨f, g1, g2, g3, g4⟩ := key _ _ _ h1 h0 (by decide)
    simp only [Fit] at f
    have hm : m ≠ 0 := fun e => by rw [if_pos e] at hy; omega
    exact ⟨.spend a t m (by omega) (by omega) (by omega) (by omega), g1, g2, g3, by rw [← g4, ← flat_map]; rfl⟩
  | other a k st h1 k1 k2 =>
    obtain ⟨f, g1, g2, g3, g4⟩ := key _ _ _ h1 h0 (by decide)
    simp only [Fit] at f
    have hk : 3 ≤ k ∧ k ≤ 4 := Decidable.byContradiction fun e => by rw [if_neg e] at hy; omega
    exact ⟨.other a k (by omega) hk.1 hk.2, g1, g2, g3, by rw [← g4, ← flat_map, Dd.bytes, parts_other a k k1 k2]; rfl⟩
  | vote a b n y st h1 =>
    obtain ⟨f, g1, g2, g3, g4⟩ := key _ _ _ h1 h0 (by decide)
    simp only [Fit] at f
    refine ⟨.vote a b n _ (by omega) (by omega) (by omega), g1, g2, g3, ?_⟩
    rw [← g4, ← flat_map, Dd.bytes, parts_vote]
    have hy1 : y ≤ 1 := f.2.2.2.2.1.2
    have e : (if decide (y = 1) = true then 1 else 0) = y := by
      by_cases h : y = 1
      · simp [h]
      · simp [h]; omega
    rw [e]; rfl

theorem small_fit {n m : Nat} (h : n ≤ m) (hm : m < 18446744073709551616) : n < 18446744073709551616 ∧ n ≤ m := ⟨by omega, h⟩

/-- The numbers that a right deed begins with, with their most. -/
theorem rdRaw_form {bs rest xs : List Nat} {pos mo : Nat} (hl : xs.length ≤ mo) (hm : mo < 18446744073709551616) (h : bs.drop pos = form xs.length ++ xs ++ rest) (hp : pos ≤ bs.length) : rdRaw bs (pos, 0) (mo : Int) = (xs, (pos + (form xs.length ++ xs).length, 0)) := by
  have e1 := rdNum_form (bs := bs) (rest := xs ++ rest) (pos := pos) (n := xs.length) (mo := mo) (by omega) hl (by rw [h, List.append_assoc])
  unfold rdRaw
  rw [if_neg (by simp), rdInt_cast, e1]
  simp only
  have e2 : bs.drop (pos + (form xs.length).length) = xs ++ rest := by rw [← List.drop_drop, h, List.append_assoc, List.drop_left]
  have e3 : xs.length ≤ bs.length - (pos + (form xs.length).length) := by
    rw [← List.length_drop, e2, List.length_append]; omega
  rw [if_neg (by simp), if_neg (by omega), e2, List.take_left, List.length_append, Nat.add_assoc]

/-- What was written as a right deed is read as it was. -/
theorem draw_form {d : Dd} (hd : d.Right) {bs rest : List Nat} {pos : Nat} (hp : pos ≤ bs.length) (h : bs.drop pos = d.bytes ++ rest) : DRaw bs (pos, 0) d 0 (pos + d.bytes.length, 0) := by
  cases hd with
  | send a t m h1 h2 h3 h4 =>
    have e := rdL_form (bs := bs) [1, a, t, m] [255, 63, 63, 4611686018427387904] pos rest (by simp only [Fit, and_true]; omega) h
    have := DRaw.send (bs := bs) (s := (pos, 0)) a t m _ e
    rw [if_neg (by omega)] at this
    exact this
  | stake a m h1 h2 h3 =>
    have e := rdL_form (bs := bs) [2, a, m] [255, 63, 4611686018427387904] pos rest (by simp only [Fit, and_true]; omega) h
    have := DRaw.stake (bs := bs) (s := (pos, 0)) a m _ e
    rw [if_neg (by omega)] at this
    exact this
  | top a b m h1 h2 h3 h4 =>
    have e := rdL_form (bs := bs) [3, a, b, m] [255, 63, 127, 4611686018427387904] pos rest (by simp only [Fit, and_true]; omega) h
    have := DRaw.top (bs := bs) (s := (pos, 0)) a b m _ e
    rw [if_neg (by omega)] at this
    exact this
  | leave a b h1 h2 =>
    have e := rdL_form (bs := bs) [4, a, b] [255, 63, 127] pos rest (by simp only [Fit, and_true]; omega) h
    exact DRaw.leave (bs := bs) (s := (pos, 0)) a b _ e
  | mark ep xs h1 h2 h3 =>
    have eb : Dd.bytes ⟨5, 0, 0, 0, 0, ep, xs, 0, Par.none, 0, false⟩ = [5, ep].flatMap form ++ (form xs.length ++ xs) := by
      show [form 5, form ep, form xs.length ++ xs].flatten = _
      simp
    rw [eb] at h ⊢
    have e := rdL_form (bs := bs) [5, ep] [255, 1073741824] pos ((form xs.length ++ xs) ++ rest) (by simp only [Fit, and_true]; omega) (by rw [h, List.append_assoc])
    have hd2 : bs.drop (pos + ([5, ep].flatMap form).length) = form xs.length ++ xs ++ rest := by rw [← List.drop_drop, h, List.append_assoc, List.drop_left]
    have hle : pos + ([5, ep].flatMap form).length ≤ bs.length := by
      have : (bs.drop pos).length = _ := congrArg List.length h
      rw [List.length_drop, List.length_append, List.length_append] at this
      omega
    have := DRaw.mark (bs := bs) (s := (pos, 0)) ep _ xs _ e (rdRaw_form (mo := 32) h2 (by omega) hd2 hle)
    rw [List.length_append, ← Nat.add_assoc]
    exact this
  | params a p T h1 h2 h3 =>
    have eb : Dd.bytes ⟨6, a, 0, 0, 0, 0, [], 1, p, 0, false⟩ = [6, a, 1].flatMap form ++ p.bytes := by
      show ([form 6, form a, form 1] ++ p.nums.map form).flatten = _
      rw [List.flatten_append, flat_map]; simp [Par.bytes]
    rw [eb] at h ⊢
    have e := rdL_form (bs := bs) [6, a, 1] [255, 63, 255] pos (p.bytes ++ rest) (by simp only [Fit, and_true]; omega) (by rw [h, List.append_assoc])
    have hd2 : bs.drop (pos + ([6, a, 1].flatMap form).length) = p.bytes ++ rest := by rw [← List.drop_drop, h, List.append_assoc, List.drop_left]
    have := DRaw.params (bs := bs) (s := (pos, 0)) a _ p 0 _ e (pres_form h2 hd2)
    rw [List.length_append, ← Nat.add_assoc]
    exact this
  | spend a t m h1 h2 h3 h4 =>
    have e := rdL_form (bs := bs) [6, a, 2, t, m] [255, 63, 255, 63, 4611686018427387904] pos rest (by simp only [Fit, and_true]; omega) h
    have := DRaw.spend (bs := bs) (s := (pos, 0)) a t m _ e
    rw [if_neg (by omega)] at this
    exact this
  | other a k h1 h2 h3 =>
    rw [Dd.bytes, parts_other a k (by omega) (by omega)] at h ⊢
    have e := rdL_form (bs := bs) [6, a, k] [255, 63, 255] pos rest (by simp only [Fit, and_true]; omega) h
    have := DRaw.other (bs := bs) (s := (pos, 0)) a k _ e (by omega) (by omega)
    rw [if_pos ⟨h2, h3⟩] at this
    exact this
  | vote a b n y h1 h2 h3 =>
    have e := rdL_form (bs := bs) [7, a, b, n, if y then 1 else 0] [255, 63, 127, 31, 1] pos rest (by simp only [Fit, and_true]; cases y <;> simp <;> omega) h
    have := DRaw.vote (bs := bs) (s := (pos, 0)) a b n _ _ e
    have ey : decide ((if y = true then 1 else 0) = 1) = y := by cases y <;> rfl
    rw [ey] at this
    exact this
end Go.Proofs.Ytjgbpgdnmghcpaa
namespace Go.Proofs.Ytjgbpgdnmghcpaa
set_option linter.unusedVariables false

theorem rdL_first {bs : List Nat} {n m : Nat} {ns ms : List Nat} {j : Nat} (hf : Fit (n :: ns) (m :: ms)) (h : bs = ((n :: ns).flatMap form).take j) (hj : j < ((n :: ns).flatMap form).length) :
    rdL bs [m] (0, 0) = ([0], (0, 50)) ∨ ∃ vs st, rdL bs (m :: ms) (0, 0) = (n :: vs, st) ∧ vs.length = ms.length ∧ st.2 = 50 := by
  have hc := rdL_cut (bs := bs) (n :: ns) (m :: ms) 0 j [] hf (by rw [List.append_nil]; exact h) hj
  have h1 : bs.drop 0 = (form n ++ ns.flatMap form).take j := by rw [List.drop_zero, h, List.flatMap_cons]
  rcases cut_step hf.1.1 hf.1.2 h1 with ⟨_, h2⟩ | ⟨_, h2, _⟩
  · exact .inl (rdL_one h2 [])
  · refine .inr ⟨(rdL bs ms (0 + (form n).length, 0)).1, (rdL bs ms (0 + (form n).length, 0)).2, rdL_one h2 ms, rdL_len _ _ _, ?_⟩
    rw [rdL_one h2 ms] at hc
    exact hc

theorem bad_cut {bs : List Nat} (h : rdL bs [255] (0, 0) = ([0], (0, 50))) : ∃ d y st, DRaw bs (0, 0) d y st ∧ st.2 = 50 := ⟨_, _, _, .bad 0 _ h (.inl rfl), rfl⟩

/-- A motion whose reader has failed by the time that it is known what it is about. -/
theorem move_cut {bs : List Nat} {a k : Nat} {s1 : Nat × Nat} (h : rdL bs [255, 63, 255] (0, 0) = ([6, a, k], s1)) (h0 : s1.2 = 50) : ∃ d y st, DRaw bs (0, 0) d y st ∧ st.2 = 50 := by
  by_cases h1 : k = 1
  · subst h1
    obtain ⟨q, ee, st, hp⟩ := pres_is bs s1
    refine ⟨_, _, _, .params a s1 q ee st h hp, ?_⟩
    have := pres_state hp
    rw [rdL_failed bs _ s1 (by omega)] at this
    rw [this]; exact h0
  · by_cases h2 : k = 2
    · subst h2
      refine ⟨_, _, _, .spend a 0 0 s1 ?_, h0⟩
      have := rdL_append bs [255, 63, 255] [63, 4611686018427387904] (0, 0)
      rw [h] at this
      simp only at this
      rw [rdL_failed bs _ s1 (by omega)] at this
      exact this
    · exact ⟨_, _, _, .other a k s1 h h1 h2, h0⟩

theorem two {l : List Nat} {α : Type} {b c : α} (h : l.length = [b, c].length) : ∃ x y, l = [x, y] := len2 h
theorem three {l : List Nat} {α : Type} {a b c : α} (h : l.length = [a, b, c].length) : ∃ x y z, l = [x, y, z] := len3 h

theorem rdRaw_cut {bs xs : List Nat} {pos mo j : Nat} (hl : xs.length ≤ mo) (hm : mo < 18446744073709551616) (h : bs.drop pos = (form xs.length ++ xs).take j) (hj : j < (form xs.length ++ xs).length) (hp : pos ≤ bs.length) : (rdRaw bs (pos, 0) (mo : Int)).2.2 = 50 := by
  unfold rdRaw
  rw [if_neg (by simp), rdInt_cast]
  rcases cut_step (by omega) hl h with ⟨_, h1⟩ | ⟨h0, h1, h2⟩
  · rw [h1, if_pos (by simp)]
  · rw [h1]
    simp only
    rw [if_neg (by simp), if_pos]
    rw [← List.length_drop, h2, List.length_take]
    rw [List.length_append] at hj
    omega

theorem draw_cut {d : Dd} (hd : d.Right) {bs : List Nat} {j : Nat} (h : bs = d.bytes.take j) (hj : j < d.bytes.length) : ∃ d' y st, DRaw bs (0, 0) d' y st ∧ st.2 = 50 := by
  cases hd with
  | send a t m h1 h2 h3 h4 =>
    rcases rdL_first (ns := [a, t, m]) (ms := [63, 63, 4611686018427387904]) (n := 1) (m := 255) (by simp only [Fit, and_true]; omega) h hj with e | ⟨vs, st, e, hl, h0⟩
    · exact bad_cut e
    · obtain ⟨x, y, z, rfl⟩ := three hl
      exact ⟨_, _, _, .send x y z st e, h0⟩
  | stake a m h1 h2 h3 =>
    rcases rdL_first (ns := [a, m]) (ms := [63, 4611686018427387904]) (n := 2) (m := 255) (by simp only [Fit, and_true]; omega) h hj with e | ⟨vs, st, e, hl, h0⟩
    · exact bad_cut e
    · obtain ⟨x, y, rfl⟩ := two hl
      exact ⟨_, _, _, .stake x y st e, h0⟩
  | top a b m h1 h2 h3 h4 =>
    rcases rdL_first (ns := [a, b, m]) (ms := [63, 127, 4611686018427387904]) (n := 3) (m := 255) (by simp only [Fit, and_true]; omega) h hj with e | ⟨vs, st, e, hl, h0⟩
    · exact bad_cut e
    · obtain ⟨x, y, z, rfl⟩ := three hl
      exact ⟨_, _, _, .top x y z st e, h0⟩
  | leave a b h1 h2 =>
    rcases rdL_first (ns := [a, b]) (ms := [63, 127]) (n := 4) (m := 255) (by simp only [Fit, and_true]; omega) h hj with e | ⟨vs, st, e, hl, h0⟩
    · exact bad_cut e
    · obtain ⟨x, y, rfl⟩ := two hl
      exact ⟨_, _, _, .leave x y st e, h0⟩
  | mark ep xs h1 h2 h3 =>
    have eb : Dd.bytes ⟨5, 0, 0, 0, 0, ep, xs, 0, Par.none, 0, false⟩ = [5, ep].flatMap form ++ (form xs.length ++ xs) := by
      show [form 5, form ep, form xs.length ++ xs].flatten = _
      simp
    rw [eb] at h hj
    have hf : Fit [5, ep] [255, 1073741824] := by simp only [Fit, and_true]; omega
    rcases Nat.lt_or_ge j ([5, ep].flatMap form).length with hlt | hge
    · rw [List.take_append_of_le_length (by omega)] at h
      rcases rdL_first hf h hlt with e | ⟨vs, st, e, hl, h0⟩
      · exact bad_cut e
      · obtain ⟨x, rfl⟩ := len1 hl
        refine ⟨_, _, _, .mark x st [] st e ?_, h0⟩
        unfold rdRaw
        rw [if_pos (by omega)]
    · have hx : bs = [5, ep].flatMap form ++ (form xs.length ++ xs).take (j - ([5, ep].flatMap form).length) := by rw [h, List.take_append, List.take_of_length_le hge]
      have e := rdL_form (bs := bs) [5, ep] [255, 1073741824] 0 _ hf (by rw [List.drop_zero]; exact hx)
      have hc := rdRaw_cut (bs := bs) (xs := xs) (pos := 0 + ([5, ep].flatMap form).length) (mo := 32) (j := j - ([5, ep].flatMap form).length) h2 (by omega) (by rw [Nat.zero_add, hx, List.drop_left]) (by rw [List.length_append] at hj; omega) (by rw [hx, List.length_append]; omega)
      exact ⟨_, _, _, .mark ep _ _ _ e rfl, hc⟩
  | params a p T h1 h2 h3 =>
    have eb : Dd.bytes ⟨6, a, 0, 0, 0, 0, [], 1, p, 0, false⟩ = [6, a, 1].flatMap form ++ p.bytes := by
      show ([form 6, form a, form 1] ++ p.nums.map form).flatten = _
      rw [List.flatten_append, flat_map]; simp [Par.bytes]
    rw [eb] at h hj
    have hf : Fit [6, a, 1] [255, 63, 255] := by simp only [Fit, and_true]; omega
    rcases Nat.lt_or_ge j ([6, a, 1].flatMap form).length with hlt | hge
    · rw [List.take_append_of_le_length (by omega)] at h
      rcases rdL_first hf h hlt with e | ⟨vs, st, e, hl, h0⟩
      · exact bad_cut e
      · obtain ⟨x, y, rfl⟩ := two hl
        exact move_cut e h0
    · have hx : bs = [6, a, 1].flatMap form ++ p.bytes.take (j - ([6, a, 1].flatMap form).length) := by rw [h, List.take_append, List.take_of_length_le hge]
      have e := rdL_form (bs := bs) [6, a, 1] [255, 63, 255] 0 _ hf (by rw [List.drop_zero]; exact hx)
      obtain ⟨q, ee, st, hp⟩ := pres_is bs (0 + ([6, a, 1].flatMap form).length, 0)
      refine ⟨_, _, _, .params a _ q ee st e hp, ?_⟩
      exact pres_cut h2 (rest := []) (j := j - ([6, a, 1].flatMap form).length) (by rw [Nat.zero_add, hx, List.drop_left, List.append_nil]) (by rw [List.length_append] at hj; omega) hp
  | spend a t m h1 h2 h3 h4 =>
    have hf : Fit [6, a, 2] [255, 63, 255] := by simp only [Fit, and_true]; omega
    have eb : Dd.bytes ⟨6, a, 0, t, m, 0, [], 2, Par.none, 0, false⟩ = [6, a, 2].flatMap form ++ [t, m].flatMap form := by
      show [form 6, form a, form 2, form t, form m].flatten = _
      simp
    rw [eb] at h hj
    rcases Nat.lt_or_ge j ([6, a, 2].flatMap form).length with hlt | hge
    · rw [List.take_append_of_le_length (by omega)] at h
      rcases rdL_first hf h hlt with e | ⟨vs, st, e, hl, h0⟩
      · exact bad_cut e
      · obtain ⟨x, y, rfl⟩ := two hl
        exact move_cut e h0
    · have hx : bs = [6, a, 2].flatMap form ++ ([t, m].flatMap form).take (j - ([6, a, 2].flatMap form).length) := by rw [h, List.take_append, List.take_of_length_le hge]
      have e := rdL_form (bs := bs) [6, a, 2] [255, 63, 255] 0 _ hf (by rw [List.drop_zero]; exact hx)
      have hc := rdL_cut (bs := bs) [t, m] [63, 4611686018427387904] (0 + ([6, a, 2].flatMap form).length) (j - ([6, a, 2].flatMap form).length) [] (by simp only [Fit, and_true]; omega) (by rw [Nat.zero_add, hx, List.drop_left, List.append_nil]) (by rw [List.length_append] at hj; omega)
      obtain ⟨x, y, hl⟩ := len2 (rdL_len bs [63, 4611686018427387904] (0 + ([6, a, 2].flatMap form).length, 0))
      have e2 := rdL_append bs [255, 63, 255] [63, 4611686018427387904] (0, 0)
      rw [e, hl] at e2
      exact ⟨_, _, _, .spend a x y _ e2, hc⟩
  | other a k h1 h2 h3 =>
    rw [Dd.bytes, parts_other a k (by omega) (by omega)] at h hj
    have hf : Fit [6, a, k] [255, 63, 255] := by simp only [Fit, and_true]; omega
    rcases rdL_first hf h hj with e | ⟨vs, st, e, hl, h0⟩
    · exact bad_cut e
    · obtain ⟨x, y, rfl⟩ := two hl
      exact move_cut e h0
  | vote a b n y h1 h2 h3 =>
    rcases rdL_first (ns := [a, b, n, if y then 1 else 0]) (ms := [63, 127, 31, 1]) (n := 7) (m := 255) (by simp only [Fit, and_true]; cases y <;> simp <;> omega) h hj with e | ⟨vs, st, e, hl, h0⟩
    · exact bad_cut e
    · obtain ⟨x, y, z, u, rfl⟩ := len4 hl
      exact ⟨_, _, _, .vote x y z u st e, h0⟩

theorem bytes_lt {d : Dd} (hd : d.Right) : ∀ x ∈ d.bytes, x < 256 := by
  have hm : ∀ (l : List Nat), ∀ x ∈ l.flatMap form, x < 256 := fun l x hx => by
    obtain ⟨n, _, h⟩ := List.mem_flatMap.1 hx
    exact form_lt n x h
  cases hd with
  | send a t m h1 h2 h3 h4 => exact hm [1, a, t, m]
  | stake a m h1 h2 h3 => exact hm [2, a, m]
  | top a b m h1 h2 h3 h4 => exact hm [3, a, b, m]
  | leave a b h1 h2 => exact hm [4, a, b]
  | mark ep xs h1 h2 h3 =>
    intro x hx
    have : x ∈ form 5 ++ (form ep ++ ((form xs.length ++ xs) ++ [])) := hx
    simp only [List.mem_append, List.append_nil] at this
    rcases this with h | h | h | h
    · exact form_lt _ x h
    · exact form_lt _ x h
    · exact form_lt _ x h
    · exact h3 x h
  | params a p T h1 h2 h3 =>
    intro x hx
    have e : Dd.bytes ⟨6, a, 0, 0, 0, 0, [], 1, p, 0, false⟩ = ([6, a, 1] ++ p.nums).flatMap form := by
      show ([form 6, form a, form 1] ++ p.nums.map form).flatten = _
      rw [List.flatten_append, flat_map]; simp
    rw [e] at hx
    exact hm _ x hx
  | spend a t m h1 h2 h3 h4 => exact hm [6, a, 2, t, m]
  | other a k h1 h2 h3 =>
    rw [Dd.bytes, parts_other a k (by omega) (by omega)]
    exact hm [6, a, k]
  | vote a b n y h1 h2 h3 => exact hm [7, a, b, n, if y then 1 else 0]

theorem forms_len (l : List Nat) (h : ∀ n ∈ l, n < 18446744073709551616) : (l.flatMap form).length ≤ l.length * 10 := by
  induction l with
  | nil => simp
  | cons n l ih =>
    have h1 := form_word (h n List.mem_cons_self)
    have h2 := ih (fun x hx => h x (List.mem_cons_of_mem _ hx))
    rw [List.flatMap_cons, List.length_append, List.length_cons]
    omega
theorem bytes_len {d : Dd} (hd : d.Right) : 0 < d.bytes.length ∧ d.bytes.length ≤ 280 := by
  have hm : ∀ (l : List Nat) (n : Nat), (∀ x ∈ n :: l, x < 18446744073709551616) → l.length ≤ 26 → 0 < ((n :: l).flatMap form).length ∧ ((n :: l).flatMap form).length ≤ 280 := fun l n h hl => by
    have h1 := forms_len (n :: l) h
    have h2 := form_pos n
    rw [List.length_cons] at h1
    refine ⟨?_, by omega⟩
    rw [List.flatMap_cons, List.length_append]
    omega
  cases hd with
  | send a t m h1 h2 h3 h4 => exact hm [a, t, m] 1 (by simp; omega) (by simp)
  | stake a m h1 h2 h3 => exact hm [a, m] 2 (by simp; omega) (by simp)
  | top a b m h1 h2 h3 h4 => exact hm [a, b, m] 3 (by simp; omega) (by simp)
  | leave a b h1 h2 => exact hm [a, b] 4 (by simp; omega) (by simp)
  | mark ep xs h1 h2 h3 =>
    have e : Dd.bytes ⟨5, 0, 0, 0, 0, ep, xs, 0, Par.none, 0, false⟩ = form 5 ++ (form ep ++ (form xs.length ++ xs)) := by
      show [form 5, form ep, form xs.length ++ xs].flatten = _
      simp
    have f1 := form_pos 5
    have f2 := form_word (n := 5) (by omega)
    have f3 := form_word (n := ep) (by omega)
    have f4 := form_word (n := xs.length) (by omega)
    rw [e]
    simp only [List.length_append]
    omega
  | params a p T h1 h2 h3 =>
    have e : Dd.bytes ⟨6, a, 0, 0, 0, 0, [], 1, p, 0, false⟩ = (6 :: ([a, 1] ++ p.nums)).flatMap form := by
      show ([form 6, form a, form 1] ++ p.nums.map form).flatten = _
      rw [List.flatten_append, flat_map]; simp
    rw [e]
    refine hm _ 6 ?_ ?_
    · intro x hx
      rcases List.mem_cons.1 hx with rfl | hx
      · omega
      · rcases List.mem_append.1 hx with hx | hx
        · simp at hx; omega
        · rcases List.mem_append.1 hx with h | h
          · exact h3.us x h
          · obtain ⟨y, hy, rfl⟩ := List.mem_map.1 h
            have := h3.is y hy
            omega
    · simp [Par.nums, Par.us, Par.is]
  | spend a t m h1 h2 h3 h4 => exact hm [a, 2, t, m] 6 (by simp; omega) (by simp)
  | other a k h1 h2 h3 =>
    rw [Dd.bytes, parts_other a k (by omega) (by omega)]
    exact hm [a, k] 6 (by simp; omega) (by simp)
  | vote a b n y h1 h2 h3 => exact hm [a, b, n, if y then 1 else 0] 7 (by simp; cases y <;> simp <;> omega) (by simp)
end Go.Proofs.Ytjgbpgdnmghcpaa
namespace Go.Proofs.Ytjgbpgdnmghcpaa
open Go.RowKit
set_option linter.unusedVariables false
set_option linter.unusedSimpArgs false

theorem lies_at {w : World} {S : Nat → Prop} {A : Option Addr} {xs : List Nat} (h : Lies w S A xs) (h0 : 0 < xs.length) : ∃ a, A = some a := by
  obtain ⟨a, ha, _⟩ := h.get h0
  exact ⟨a, ha⟩


/-- Words, as values. -/
def w64s (ns : List Nat) : List Value := ns.map fun (n : Nat) => Value.int .u64 (n : Int)
theorem row_w64s (w : World) (ns : List Nat) (T : TypeId) : Row (w.alloc (.cells (w64s ns).toArray T)) (w.heap.size + 1) (some ⟨w.heap.size, 0, none⟩) (w64s ns) := fun k v hk => by
  refine ⟨_, rfl, Nat.lt_succ_self _, ?_⟩
  rw [Addr.add_mid, Nat.zero_add]
  exact new_row w _ _ k v (by simpa using hk)
/-- Ints, as values. -/
def i64s (ns : List Nat) : List Value := ns.map fun (n : Nat) => Value.int .i64 (n : Int)
theorem row_i64s (w : World) (ns : List Nat) (T : TypeId) : Row (w.alloc (.cells (i64s ns).toArray T)) (w.heap.size + 1) (some ⟨w.heap.size, 0, none⟩) (i64s ns) := fun k v hk => by
  refine ⟨_, rfl, Nat.lt_succ_self _, ?_⟩
  rw [Addr.add_mid, Nat.zero_add]
  exact new_row w _ _ k v (by simpa using hk)
theorem flat_succ (l : List Nat) (k x : Nat) (h : l[k]? = some x) : (l.take (k + 1)).flatMap form = (l.take k).flatMap form ++ form x := by
  rw [List.take_add_one, h, Option.toList_some, List.flatMap_append]
  simp
theorem take_len (l : List Nat) (k : Nat) (h : ∀ n ∈ l, n < 18446744073709551616) (hl : l.length ≤ 14) : ((l.take k).flatMap form).length ≤ 140 := by
  have := forms_len (l.take k) (fun n hn => h n (List.mem_of_mem_take hn))
  have h2 : (l.take k).length ≤ l.length := by rw [List.length_take]; omega
  omega

set_option maxRecDepth 100000 in
set_option maxHeartbeats 4000000 in
theorem rparform_is (p : Par) (T : Nat) (w : World) (h : Par.Right p T) :
    Calls Try.prog 21 #[.agg p.vals] w fun e w' => ∃ v, e = .returned v ∧ w'.ownsRow w.heap.size 5 1 v p.bytes.length (u8s p.bytes) ∧ Below w.heap.size w w' := by
  obtain ⟨hf, f1, f2, hpos⟩ := right_fits h
  obtain ⟨i0, hi0, hz0, hz1, hz2⟩ := info_parts u8_info
  have kf := fun (n : Nat) w (hn : n < 18446744073709551616) => refform_is n w hn
  obtain ⟨us, hus⟩ : ∃ us, Hid (p.us = us) := ⟨_, rfl⟩
  obtain ⟨js, hjs⟩ : ∃ js, Hid (p.is.map Int.toNat = js) := ⟨_, rfl⟩
  have hul : us.length = 14 := by rw [← hus.out]; rfl
  have hjl : js.length = 10 := by rw [← hjs.out]; rfl
  have hub : ∀ x ∈ us, x < 18446744073709551616 := by rw [← hus.out]; exact hf.us
  have hjb : ∀ x ∈ js, x < 9223372036854775808 := by
    rw [← hjs.out]
    intro x hx
    obtain ⟨y, hy, rfl⟩ := List.mem_map.1 hx
    have := hf.is y hy
    omega
  have hbytes : p.bytes = us.flatMap form ++ js.flatMap form := by rw [pbytes_split, hus.out, hjs.out]
  have hrow1 : w64s p.us = w64s us := by rw [hus.out]
  have hrow2 : p.is.map (fun z => Value.int .i64 z) = i64s js := by
    rw [← hjs.out]
    unfold i64s
    rw [List.map_map]
    refine List.map_congr_left fun z hz => ?_
    simp only [Function.comp]
    rw [Int.toNat_of_nonneg (hpos z hz)]
  have u0 : p.vals[0]? = some (.int .u64 (p.inc : Int)) := rfl
  have u1 : p.vals[1]? = some (.int .u64 (p.maxEff : Int)) := rfl
  have u2 : p.vals[2]? = some (.int .u64 (p.floor : Int)) := rfl
  have u3 : p.vals[3]? = some (.int .u64 (p.cap : Int)) := rfl
  have u4 : p.vals[4]? = some (.int .u64 (p.up : Int)) := rfl
  have u5 : p.vals[5]? = some (.int .u64 (p.down : Int)) := rfl
  have u6 : p.vals[6]? = some (.int .u64 (p.bias : Int)) := rfl
  have u7 : p.vals[7]? = some (.int .u64 (p.quot : Int)) := rfl
  have u8 : p.vals[8]? = some (.int .u64 (p.biasEm : Int)) := rfl
  have u9 : p.vals[9]? = some (.int .u64 (p.quotEm : Int)) := rfl
  have u10 : p.vals[10]? = some (.int .u64 (p.recover : Int)) := rfl
  have u11 : p.vals[11]? = some (.int .u64 (p.scoreCap : Int)) := rfl
  have u12 : p.vals[12]? = some (.int .u64 (p.rate : Int)) := rfl
  have u13 : p.vals[13]? = some (.int .u64 (p.bond : Int)) := rfl
  have u14 : p.vals[14]? = some (.int .i64 p.delay) := rfl
  have u15 : p.vals[15]? = some (.int .i64 p.streak) := rfl
  have u16 : p.vals[16]? = some (.int .i64 p.boost) := rfl
  have u17 : p.vals[17]? = some (.int .i64 p.absent) := rfl
  have u18 : p.vals[18]? = some (.int .i64 p.burn) := rfl
  have u19 : p.vals[19]? = some (.int .i64 p.churn) := rfl
  have u20 : p.vals[20]? = some (.int .i64 p.wait) := rfl
  have u21 : p.vals[21]? = some (.int .i64 p.poll) := rfl
  have u22 : p.vals[22]? = some (.int .i64 p.enact) := rfl
  have u23 : p.vals[23]? = some (.int .i64 p.quorum) := rfl
  obtain ⟨U, hUU⟩ : ∃ U, Hid (us.flatMap form = U) := ⟨_, rfl⟩
  rw [hbytes, hUU.out]
  clear h f1 f2 hpos hf hbytes
  go_enter Try.func21, Try.ntmps21
  go_upto_region 4 with fail
  generalize hW : World.alloc (World.alloc (World.alloc _ _) _) _ = W
  have hW1 : ((w.alloc (.cells p.vals 30)).alloc (.cells (w64s p.us).toArray 22)).alloc (.cells (p.is.map (fun z => Value.int .i64 z)).toArray 3) = W := hW
  rw [hrow1, hrow2] at hW1
  have hB : Below w.heap.size w W := by rw [← hW1]; exact (((Below.refl _ _).alloc (Nat.le_refl _) _).alloc (by simp) _).alloc (by simp; omega) _
  have r1 : Row W W.heap.size (some ⟨w.heap.size + 1, 0, none⟩) (w64s us) := by
    have := (row_w64s (w.alloc (.cells p.vals 30)) us 22).alloc (B := (w.alloc (.cells p.vals 30)).heap.size + 1) (by simp) (.cells (i64s js).toArray 3)
    rw [hW1] at this
    rw [show (w.alloc (.cells p.vals 30)).heap.size = w.heap.size + 1 by simp] at this
    exact this.up (by rw [← hW1]; simp)
  have r2 : Row W W.heap.size (some ⟨w.heap.size + 1 + 1, 0, none⟩) (i64s js) := by
    have := row_i64s ((w.alloc (.cells p.vals 30)).alloc (.cells (w64s us).toArray 22)) js 3
    rw [hW1] at this
    rw [show ((w.alloc (.cells p.vals 30)).alloc (.cells (w64s us).toArray 22)).heap.size = w.heap.size + 1 + 1 by simp] at this
    exact this.up (by rw [← hW1]; simp)
  clear hW hW1 hrow1 hrow2 hus hjs u0 u1 u2 u3 u4 u5 u6 u7 u8 u9 u10 u11 u12 u13 u14 u15 u16 u17 u18 u19 u20 u21 u22 u23
  obtain ⟨a1, ha1⟩ : ∃ a1 : Addr, Hid ((⟨w.heap.size + 1, 0, none⟩ : Addr) = a1) := ⟨_, rfl⟩
  obtain ⟨a2, ha2⟩ : ∃ a2 : Addr, Hid ((⟨w.heap.size + 1 + 1, 0, none⟩ : Addr) = a2) := ⟨_, rfl⟩
  rw [ha1.out] at r1 ⊢
  rw [ha2.out] at r2 ⊢
  clear ha1 ha2
  have R1 := Lib.hid r1
  have R2 := Lib.hid r2
  have HB := Lib.hid hB
  have HU := Lib.hid hub
  have HJ := Lib.hid hjb
  have HUL := Lib.hid hul
  have HJL := Lib.hid hjl
  have HK := Lib.hid kf
  clear r1 r2 hB hub hjb hul hjl kf
  go_wp2
  go_loopw [5, 6] (fun ov iv wr => ∃ (k : Nat) (vo : Value), k ≤ 14 ∧ iv = .int .i64 (k : Int) ∧ vo = ov ∧ wr.ownsRow W.heap.size 5 1 vo ((us.take k).flatMap form).length (u8s ((us.take k).flatMap form)) ∧ Below W.heap.size W wr) (fun _ iv _ => 14 - (intOf iv).toNat)
  case atStart => exact ⟨0, _, Nat.zero_le _, rfl, rfl, World.ownsRow_nil _ _ _ _, Below.refl _ _⟩
  case round =>
    obtain ⟨k, vo, hk, rfl, rfl, hown, hBr⟩ := hrel
    by_cases hlt : k < 14
    · have hkl : k < us.length := by rw [HUL.out]; exact hlt
      obtain ⟨x, hx⟩ : ∃ x, us[k]? = some x := ⟨_, List.getElem?_eq_getElem hkl⟩
      have hxb := HU.out x (List.mem_of_getElem? hx)
      have hxv : (w64s us)[k]? = some (.int .u64 (x : Int)) := by unfold w64s; rw [List.getElem?_map, hx]; rfl
      obtain ⟨a1', ha, _, hc⟩ := (R1.out.below hBr) k _ hxv
      cases ha
      have hFS := flat_succ us k x hx
      have hpl := take_len us k HU.out (by rw [HUL.out]; omega)
      obtain ⟨P, hP⟩ : ∃ P, Hid ((us.take k).flatMap form = P) := ⟨_, rfl⟩
      have HFS := Lib.hid hFS
      rw [hP.out] at hown hpl HFS
      have kk := HK.out x wr hxb
      have hfl := form_word hxb
      have hfp := form_pos x
      obtain ⟨F, hF⟩ : ∃ F, Hid (form x = F) := ⟨_, rfl⟩
      rw [hF.out] at kk hfl hfp HFS
      have hkI : (k : Int) < 14 := by omega
      have hkI2 : decide ((k : Int) < 14) = true := by simpa using hkI
      clear hFS hx hxb hxv hkl
      go_wp2_with (first
        | (go_at_call 45; refine kk.mono ?_; clear kk; rintro e w2 ⟨v2, rfl, hown2, hb2⟩; have hown3 := own_below0 hown hb2; obtain ⟨A2, c2, rfl, hl1, hl2, -, hL⟩ := Lies.own hown2; obtain ⟨b2, rfl⟩ := lies_at hL hfp; have HS := Lib.hid hL.src0)
        | (at_builtin; refine wpList_append_own _ rfl _ _ 40 rfl W.heap.size 5 i0 (.int .u8 0) 1 1 Try.underlying40 hi0 hz0 hz1 hz2 rfl (by decide) _ _ _ rfl hown3 b2 F.length c2 (u8s F) rfl ?d1 ?d2 ?d3 ?d4 ?d5 ?d6 ?_))
      case d1 => simp [u8s_len]
      case d2 => exact HS.out
      case d3 => exact u8s_one
      case d4 => simp only [maxLen]; omega
      case d5 => omega
      case d6 => exact Nat.le_trans hBr.size hb2.size
      intro v3 w3 hown4 hgrow3 _
      have hb3 : Below W.heap.size W w3 := (hBr.trans (hb2.mono hBr.size)).grown hgrow3 (Nat.le_trans hBr.size hb2.size) (fun k hk => (hown3.lt k hk).1)
      clear hgrow3
      go_wp2
      go_roundw
      case rel =>
        refine ⟨k + 1, _, by omega, by go_num, rfl, ?_, hb3⟩
        rw [HFS.out, List.length_append, u8s_append]
        exact hown4
      case measure => simp [intOf]; omega
    · obtain rfl : k = 14 := by omega
      have hU : (us.take 14).flatMap form = U := by rw [List.take_of_length_le (by rw [HUL.out]; exact Nat.le_refl _)]; exact hUU.out
      rw [hU] at hown
      have hUl : U.length ≤ 140 := by have := take_len us 14 HU.out (by rw [HUL.out]; omega); rwa [hU] at this
      clear hU R1 HU HUL hUU
      rw [show ((14 : Nat) : Int) = 14 from rfl]
      go_wp2
      go_loopw [5, 7] (fun ov iv wr => ∃ (k : Nat) (vo : Value), k ≤ 10 ∧ iv = .int .i64 (k : Int) ∧ vo = ov ∧ wr.ownsRow W.heap.size 5 1 vo (U ++ (js.take k).flatMap form).length (u8s (U ++ (js.take k).flatMap form)) ∧ Below W.heap.size W wr) (fun _ iv _ => 10 - (intOf iv).toNat)
      case atStart => exact ⟨0, _, Nat.zero_le _, rfl, rfl, by simpa using hown, hBr⟩
      case round =>
        clear hown hBr
        obtain ⟨k, vo, hk, rfl, rfl, hown, hBr⟩ := hrel
        by_cases hlt : k < 10
        · have hkl : k < js.length := by rw [HJL.out]; exact hlt
          obtain ⟨x, hx⟩ : ∃ x, js[k]? = some x := ⟨_, List.getElem?_eq_getElem hkl⟩
          have hxb := HJ.out x (List.mem_of_getElem? hx)
          have hxv : (i64s js)[k]? = some (.int .i64 (x : Int)) := by unfold i64s; rw [List.getElem?_map, hx]; rfl
          obtain ⟨a2', ha, _, hc⟩ := (R2.out.below hBr) k _ hxv
          cases ha
          have hFS := flat_succ js k x hx
          have hpl := take_len js k (fun n hn => by have := HJ.out n hn; omega) (by rw [HJL.out]; omega)
          have hFS2 : U ++ (js.take (k + 1)).flatMap form = (U ++ (js.take k).flatMap form) ++ form x := by rw [hFS, List.append_assoc]
          have hpl2 : (U ++ (js.take k).flatMap form).length ≤ 280 := by rw [List.length_append]; omega
          obtain ⟨P, hP⟩ : ∃ P, Hid (U ++ (js.take k).flatMap form = P) := ⟨_, rfl⟩
          have HFS := Lib.hid hFS2
          rw [hP.out] at hown hpl2 HFS
          have kk := HK.out x wr (by omega)
          have hfl := form_word (n := x) (by omega)
          have hfp := form_pos x
          obtain ⟨F, hF⟩ : ∃ F, Hid (form x = F) := ⟨_, rfl⟩
          rw [hF.out] at kk hfl hfp HFS
          have hwr : IntKind.u64.wrap (x : Int) = (x : Int) := IntWalk.u64_in _ (by omega)
          have hkI : (k : Int) < 10 := by omega
          have hkI2 : decide ((k : Int) < 10) = true := by simpa using hkI
          clear hFS hFS2 hpl hx hxb hxv hkl
          go_wp2_with (first
            | (go_at_call 45; refine kk.mono ?_; clear kk; rintro e w2 ⟨v2, rfl, hown2, hb2⟩; have hown3 := own_below0 hown hb2; obtain ⟨A2, c2, rfl, hl1, hl2, -, hL⟩ := Lies.own hown2; obtain ⟨b2, rfl⟩ := lies_at hL hfp; have HS := Lib.hid hL.src0)
            | (at_builtin; refine wpList_append_own _ rfl _ _ 40 rfl W.heap.size 5 i0 (.int .u8 0) 1 1 Try.underlying40 hi0 hz0 hz1 hz2 rfl (by decide) _ _ _ rfl hown3 b2 F.length c2 (u8s F) rfl ?d1 ?d2 ?d3 ?d4 ?d5 ?d6 ?_))
          case d1 => simp [u8s_len]
          case d2 => exact HS.out
          case d3 => exact u8s_one
          case d4 => simp only [maxLen]; omega
          case d5 => omega
          case d6 => exact Nat.le_trans hBr.size hb2.size
          intro v3 w3 hown4 hgrow3 _
          have hb3 : Below W.heap.size W w3 := (hBr.trans (hb2.mono hBr.size)).grown hgrow3 (Nat.le_trans hBr.size hb2.size) (fun k hk => (hown3.lt k hk).1)
          clear hgrow3
          go_wp2
          go_roundw
          case rel =>
            refine ⟨k + 1, _, by omega, by go_num, rfl, ?_, hb3⟩
            rw [HFS.out, List.length_append, u8s_append]
            exact hown4
          case measure => simp [intOf]; omega
        · obtain rfl : k = 10 := by omega
          have hU : (js.take 10).flatMap form = js.flatMap form := by rw [List.take_of_length_le (by rw [HJL.out]; exact Nat.le_refl _)]
          rw [hU] at hown
          clear hU
          go_wp2
          have hBB := Below.then HB.out hBr
          exact bodyPost_ret (v := vo) (by simp [results, Try.results21, go_sem]) rfl ⟨_, rfl, ⟨hown.1, hown.2.imp id fun ⟨g, cap, cur, h1, h2, h3⟩ => ⟨g, cap, cur, h1, Nat.le_trans HB.out.size h2, h3⟩⟩, hBB⟩
end Go.Proofs.Ytjgbpgdnmghcpaa
