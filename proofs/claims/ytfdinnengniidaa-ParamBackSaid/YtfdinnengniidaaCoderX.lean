/- The reference of layer 5 (coder): a number's bytes; a writer. By contracts. -/
import Derived.Test.YtfdinnengniidaaCoderW
import Derived.Laws.AppendOwnNone
import Derived.Maps.AppendAt
namespace Go.Proofs.Ytfdinnengniidaa
open Go.RowKit
set_option linter.unusedVariables false
set_option linter.unusedSimpArgs false

/-- All but the blocks of which S is said is as it was. -/
structure Keep (S : Nat → Prop) (w w' : World) : Prop where
  os : w'.os = w.os
  tape : w'.tape = w.tape
  output : w'.output = w.output
  size : w.heap.size ≤ w'.heap.size
  block : ∀ k, k < w.heap.size → ¬ S k → w'.heap[k]? = w.heap[k]?

theorem Keep.refl (S : Nat → Prop) (w : World) : Keep S w w := ⟨rfl, rfl, rfl, Nat.le_refl _, fun _ _ _ => rfl⟩
theorem Keep.below {S : Nat → Prop} {B : Nat} {w w' : World} (h : Keep S w w') (hS : ∀ k, S k → B ≤ k) (hB : B ≤ w.heap.size) : Below B w w' :=
  ⟨h.os, h.tape, h.output, h.size, fun k hk => h.block k (by omega) (fun hs => by have := hS k hs; omega)⟩
theorem Keep.of_below {w w' : World} (h : Below w.heap.size w w') (S : Nat → Prop) : Keep S w w' := ⟨h.os, h.tape, h.output, h.size, fun k hk _ => h.block k hk⟩
theorem Keep.trans {S : Nat → Prop} {a b c : World} (h : Keep S a b) (k : Keep S b c) : Keep S a c :=
  ⟨k.os.trans h.os, k.tape.trans h.tape, k.output.trans h.output, Nat.le_trans h.size k.size, fun i hi hs => (k.block i (Nat.lt_of_lt_of_le hi h.size) hs).trans (h.block i hi hs)⟩
theorem Keep.of_grown {w w' : World} {row : Option Nat} (h : w.grownBy w' row) {S : Nat → Prop} (hS : ∀ k, row = some k → S k) : Keep S w w' :=
  ⟨h.os, h.tape, h.output, h.size, fun k hk hs => h.block k hk (fun e => hs (hS k e.symm))⟩
theorem WriterAt.keep {w w' : World} {b : Nat} {F : Nat → Prop} {s : List Nat × Nat} {m : Nat} {p : Value} {pre tail part : List Nat} (h : WriterAt w b F s m p pre tail part) {S : Nat → Prop} (hg : Keep S w w') (hb : ¬ S b) (hF : ∀ k, F k → ¬ S k) : WriterAt w' b F s m p pre tail part :=
  ⟨h.text, h.short, h.whole, h.same, h.most, h.small, Chain.hold (fun k hk hf => hg.block k hk (hF k hf)) (fun _ h => h) m p pre h.chain, fun k hk => ⟨(h.apart k hk).1, Nat.lt_of_lt_of_le (h.apart k hk).2 hg.size⟩, by rw [hg.block b h.lt hb]; exact h.block⟩

theorem own_below0 {w w' : World} {base n : Nat} {e : TypeId} {v : Value} {xs : List Value} (h : w.ownsRow base e 1 v n xs) (hb : Below w.heap.size w w') : w'.ownsRow base e 1 v n xs := by
  refine h.kept (grown_below hb none) ?_
  by_cases h0 : v.ownBlock = none
  · exact .inl h0
  · exact .inr h0

theorem Lies.src0 {w : World} {S : Nat → Prop} {a : Addr} {xs : List Nat} (h : Lies w S (some a) xs) : ∀ q v, (u8s xs)[q]? = some v → w.cell? (a.add q) = some v := by
  intro q v hq
  have hql : q < xs.length := by have := (List.getElem?_eq_some_iff.1 hq).1; rwa [u8s_len] at this
  rw [u8s_get hql] at hq
  cases hq
  obtain ⟨a', ha', _, hc'⟩ := h.get hql
  cases ha'
  exact hc'

set_option maxRecDepth 100000 in
set_option maxHeartbeats 2000000 in
theorem refform_is : ∀ (n : Nat) (w : World), n < 18446744073709551616 →
    Calls Try.prog 45 #[.int .u64 (n : Int)] w fun e w' => ∃ v, e = .returned v ∧ w'.ownsRow w.heap.size 5 1 v (form n).length (u8s (form n)) ∧ Below w.heap.size w w' := by
  intro n
  induction n using Nat.strongRecOn with
  | ind n ih =>
    intro w hn
    obtain ⟨i0, hi0, hz0, hz1, hz2⟩ := info_parts u8_info
    by_cases hlt : n < 128
    · have hcv : IntKind.u8.wrap (n : Int) = (n : Int) := by rw [IntKind.wrap_u8]; omega
      have hnI : (n : Int) < 128 := by omega
      rw [form_small hlt]
      clear ih hlt
      go_enter Try.func45, Try.ntmps45
      go_wp2_with fail
      refine bodyPost_ret (v := .slice (some ⟨w.heap.size, 0, none⟩) 1 1) (by simp [results, Try.results45, go_sem]) rfl ⟨_, rfl, ?_, (Below.refl _ _).alloc (Nat.le_refl _) _⟩
      exact ⟨rfl, .inr ⟨w.heap.size, 1, #[.int .u8 (n : Int)], rfl, Nat.le_refl _, heap_alloc_new w _, Nat.le_refl _, by simp [maxLen], rfl, rfl⟩⟩
    · have k := ih (n / 128) (by omega)
      have hnI : (128 : Int) ≤ (n : Int) := by omega
      have hfl := form_word (n := n) hn
      rw [form_big (by omega)] at hfl ⊢
      obtain ⟨x, hx⟩ : ∃ x : Nat, Hid (n % 128 + 128 = x) := ⟨_, rfl⟩
      have hxI : (n : Int) % 128 + 128 = (x : Int) := by have := hx.out; omega
      have hx256 : x < 256 := by have := hx.out; omega
      have hw1 : IntKind.u64.wrap ((n : Int) % 128 + 128) = (x : Int) := by rw [hxI]; exact IntWalk.u64_in _ (by omega)
      have hw2 : IntKind.u8.wrap (x : Int) = (x : Int) := by rw [IntKind.wrap_u8]; omega
      rw [hx.out] at hfl ⊢
      obtain ⟨r, hr⟩ : ∃ r, Hid (form (n / 128) = r) := ⟨_, rfl⟩
      rw [hr.out] at k hfl ⊢
      have hdv : ((n / 128 : Nat) : Int) = (n : Int) / 128 := by omega
      have k2 : ∀ V, Calls Try.prog 45 #[.int .u64 ((n : Int) / 128)] V fun e w' => ∃ v, e = .returned v ∧ w'.ownsRow V.heap.size 5 1 v r.length (u8s r) ∧ Below V.heap.size V w' := fun V => by rw [← hdv]; exact k V (by omega)
      have hrl : r.length ≤ 10 := by simp at hfl; omega
      have hrp : 0 < r.length := by rw [← hr.out]; exact form_pos _
      clear ih hlt k hdv hfl
      go_enter Try.func45, Try.ntmps45
      go_wp2_with (at_builtin; refine wpList_append_own _ rfl _ _ 40 rfl w.heap.size 5 i0 (.int .u8 0) 1 1 Try.underlying40 hi0 hz0 hz1 hz2 rfl (by decide) _ _ _ rfl (World.ownsRow_nil _ _ _ _) ⟨w.heap.size, 0, none⟩ 1 1 [.int .u8 (x : Int)] rfl rfl ?c1 ?c2 ?c3 ?c4 ?c5 ?_)
      case c1 => exact new_first _ _ _
      case c2 => intro u hu; simp at hu; subst hu; rfl
      case c3 => simp [maxLen]
      case c4 => omega
      case c5 => simp
      intro v1 w1 hown1 hgrow1 _
      have hb1 : Below w.heap.size w w1 := ((Below.refl _ w).alloc (Nat.le_refl _) _).grown hgrow1 (by simp) (by intro k hk; cases hk)
      clear hgrow1
      go_wp2_with (first
        | (go_at_call 45; refine (k2 _).mono ?_; rintro e w2 ⟨v2, rfl, hown2, hb2⟩; have hown3 := own_below0 hown1 hb2; obtain ⟨A2, cc2, rfl, hl1, hl2, _, hL⟩ := Lies.own hown2; obtain ⟨x0, r0, rfl⟩ := List.exists_cons_of_length_pos hrp; obtain ⟨a2, rfl, hSa, _⟩ := hL 0 x0 rfl; have hsrc := hL.src0; have HS := Lib.hid hsrc; clear hsrc k2)
        | (at_builtin; refine wpList_append_own _ rfl _ _ 40 rfl w.heap.size 5 i0 (.int .u8 0) 1 1 Try.underlying40 hi0 hz0 hz1 hz2 rfl (by decide) _ _ _ rfl hown3 a2 (x0 :: r0).length cc2 (u8s (x0 :: r0)) rfl ?d1 ?d2 ?d3 ?d4 ?d5 ?d6 ?_))
      case d1 => simp [u8s_len]
      case d2 => exact HS.out
      case d3 => exact u8s_one
      case d4 => simp only [maxLen]; simp at hrl ⊢; omega
      case d5 => simp at hrl ⊢; omega
      case d6 => exact Nat.le_trans hb1.size hb2.size
      intro v3 w3 hown4 hgrow3 _
      have hb3 : Below w.heap.size w w3 := (hb1.trans (hb2.mono hb1.size)).grown hgrow3 (Nat.le_trans hb1.size hb2.size) (fun k hk => (hown3.lt k hk).1)
      clear hgrow3
      go_wp2
      refine bodyPost_ret (v := v3) (by simp [results, Try.results45, go_sem]) rfl ⟨_, rfl, ?_, hb3⟩
      have e : u8s (x :: x0 :: r0) = [.int .u8 (x : Int)] ++ u8s (x0 :: r0) := rfl
      rw [e]
      rw [Nat.add_comm (x0 :: r0).length 1]
      exact hown4

/-- What an Int writes. -/
def rint (s : List Nat × Nat) (i : Int) : List Nat × Nat := if i < 0 then wneg s else wput s (form i.toNat)

end Go.Proofs.Ytfdinnengniidaa
