/- The reference of layer 5 (coder): a number's bytes; a writer. By contracts. -/
import Derived.Test.YtmagjfjmaojemaaCoderW
import Derived.Laws.AppendOwnNone
import Derived.Maps.AppendAt
namespace Go.Proofs.Ytmagjfjmaojemaa
open Go.RowKit
set_option linter.unusedVariables false
set_option linter.unusedSimpArgs false

/-- All but the blocks of which S is said is as it was. -/
structure Keep (S : Nat → Prop) (w w' : World) : Prop where
  os : w'.os = w.os
  tape : w'.tape = w.tape
  output : w'.output = w.output
  size : w.heap.size ≤ w'.heap.size
  block : ∀ k, k < w.heap.size → ¬ S k → w'.heap[k]? = w.heap[k]?

theorem Keep.refl (S : Nat → Prop) (w : World) : Keep S w w := ⟨rfl, rfl, rfl, Nat.le_refl _, fun _ _ _ => rfl⟩
theorem Keep.below {S : Nat → Prop} {B : Nat} {w w' : World} (h : Keep S w w') (hS : ∀ k, S k → B ≤ k) (hB : B ≤ w.heap.size) : Below B w w' :=
  ⟨h.os, h.tape, h.output, h.size, fun k hk => h.block k (by omega) (fun hs => by have := hS k hs; omega)⟩
theorem Keep.of_below {w w' : World} (h : Below w.heap.size w w') (S : Nat → Prop) : Keep S w w' := ⟨h.os, h.tape, h.output, h.size, fun k hk _ => h.block k hk⟩
theorem Keep.trans {S : Nat → Prop} {a b c : World} (h : Keep S a b) (k : Keep S b c) : Keep S a c :=
  ⟨k.os.trans h.os, k.tape.trans h.tape, k.output.trans h.output, Nat.le_trans h.size k.size, fun i hi hs => (k.block i (Nat.lt_of_lt_of_le hi h.size) hs).trans (h.block i hi hs)⟩
theorem Keep.of_grown {w w' : World} {row : Option Nat} (h : w.grownBy w' row) {S : Nat → Prop} (hS : ∀ k, row = some k → S k) : Keep S w w' :=
  ⟨h.os, h.tape, h.output, h.size, fun k hk hs => h.block k hk (fun e => hs (hS k e.symm))⟩
theorem WriterAt.keep {w w' : World} {b : Nat} {F : Nat → Prop} {s : List Nat × Nat} {m : Nat} {p : Value} {pre tail part : List Nat} (h : WriterAt w b F s m p pre tail part) {S : Nat → Prop} (hg : Keep S w w') (hb : ¬ S b) (hF : ∀ k, F k → ¬ S k) : WriterAt w' b F s m p pre tail part :=
  ⟨h.text, h.short, h.whole, h.same, h.most, h.small, Chain.hold (fun k hk hf => hg.block k hk (hF k hf)) (fun _ h => h) m p pre h.chain, fun k hk => ⟨(h.apart k hk).1, Nat.lt_of_lt_of_le (h.apart k hk).2 hg.size⟩, by rw [hg.block b h.lt hb]; exact h.block⟩

theorem own_below0 {w w' : World} {base n : Nat} {e : TypeId} {v : Value} {xs : List Value} (h : w.ownsRow base e 1 v n xs) (hb : Below w.heap.size w w') : w'.ownsRow base e 1 v n xs := by
  refine h.kept (grown_below hb none) ?_
  by_cases h0 : v.ownBlock = none
  · exact .inl h0
  · exact .inr h0

theorem Lies.src0 {w : World} {S : Nat → Prop} {a : Addr} {xs : List Nat} (h : Lies w S (some a) xs) : ∀ q v, (u8s xs)[q]? = some v → w.cell? (a.add q) = some v := by
  intro q v hq
  have hql : q < xs.length := by have := (List.getElem?_eq_some_iff.1 hq).1; rwa [u8s_len] at this
  rw [u8s_get hql] at hq
  cases hq
  obtain ⟨a', ha', _, hc'⟩ := h.get hql
  cases ha'
  exact hc'

set_option maxRecDepth 100000 in
set_option maxHeartbeats 2000000 in
theorem refform_is : ∀ (n : Nat) (w : World), n < 18446744073709551616 →
    Calls Try.prog 12 #[.int .u64 (n : Int)] w fun e w' => ∃ v, e = .returned v ∧ w'.ownsRow w.heap.size 5 1 v (form n).length (u8s (form n)) ∧ Below w.heap.size w w' := by
  intro n
  induction n using Nat.strongRecOn with
  | ind n ih =>
    intro w hn
    obtain ⟨i0, hi0, hz0, hz1, hz2⟩ := info_parts u8_info
    by_cases hlt : n < 128
    · have hcv : IntKind.u8.wrap (n : Int) = (n : Int) := by rw [IntKind.wrap_u8]; omega
      have hnI : (n : Int) < 128 := by omega
      rw [form_small hlt]
      clear ih hlt
      go_enter Try.func12, Try.ntmps12
      go_wp2_with fail
      refine bodyPost_ret (v := .slice (some ⟨w.heap.size, 0, none⟩) 1 1) (by simp [results, Try.results12, go_sem]) rfl ⟨_, rfl, ?_, (Below.refl _ _).alloc (Nat.le_refl _) _⟩
      exact ⟨rfl, .inr ⟨w.heap.size, 1, #[.int .u8 (n : Int)], rfl, Nat.le_refl _, heap_alloc_new w _, Nat.le_refl _, by simp [maxLen], rfl, rfl⟩⟩
    · have k := ih (n / 128) (by omega)
      have hnI : (128 : Int) ≤ (n : Int) := by omega
      have hfl := form_word (n := n) hn
      rw [form_big (by omega)] at hfl ⊢
      obtain ⟨x, hx⟩ : ∃ x : Nat, Hid (n % 128 + 128 = x) := ⟨_, rfl⟩
      have hxI : (n : Int) % 128 + 128 = (x : Int) := by have := hx.out; omega
      have hx256 : x < 256 := by have := hx.out; omega
      have hw1 : IntKind.u64.wrap ((n : Int) % 128 + 128) = (x : Int) := by rw [hxI]; exact IntWalk.u64_in _ (by omega)
      have hw2 : IntKind.u8.wrap (x : Int) = (x : Int) := by rw [IntKind.wrap_u8]; omega
      rw [hx.out] at hfl ⊢
      obtain ⟨r, hr⟩ : ∃ r, Hid (form (n / 128) = r) := ⟨_, rfl⟩
      rw [hr.out] at k hfl ⊢
      have hdv : ((n / 128 : Nat) : Int) = (n : Int) / 128 := by omega
      have k2 : ∀ V, Calls Try.prog 12 #[.int .u64 ((n : Int) / 128)] V fun e w' => ∃ v, e = .returned v ∧ w'.ownsRow V.heap.size 5 1 v r.length (u8s r) ∧ Below V.heap.size V w' := fun V => by rw [← hdv]; exact k V (by omega)
      have hrl : r.length ≤ 10 := by simp at hfl; omega
      have hrp : 0 < r.length := by rw [← hr.out]; exact form_pos _
      clear ih hlt k hdv hfl
      go_enter Try.func12, Try.ntmps12
      go_wp2_with (at_builtin; refine wpList_append_own _ rfl _ _ 34 rfl w.heap.size 5 i0 (.int .u8 0) 1 1 Try.underlying34 hi0 hz0 hz1 hz2 rfl (by decide) _ _ _ rfl (World.ownsRow_nil _ _ _ _) ⟨w.heap.size, 0, none⟩ 1 1 [.int .u8 (x : Int)] rfl rfl ?c1 ?c2 ?c3 ?c4 ?c5 ?_)
      case c1 => exact new_first _ _ _
      case c2 => intro u hu; simp at hu; subst hu; rfl
      case c3 => simp [maxLen]
      case c4 => omega
      case c5 => simp
      intro v1 w1 hown1 hgrow1 _
      have hb1 : Below w.heap.size w w1 := ((Below.refl _ w).alloc (Nat.le_refl _) _).grown hgrow1 (by simp) (by intro k hk; cases hk)
      clear hgrow1
      go_wp2_with (first
        | (go_at_call 12; refine (k2 _).mono ?_; rintro e w2 ⟨v2, rfl, hown2, hb2⟩; have hown3 := own_below0 hown1 hb2; obtain ⟨A2, cc2, rfl, hl1, hl2, _, hL⟩ := Lies.own hown2; obtain ⟨x0, r0, rfl⟩ := List.exists_cons_of_length_pos hrp; obtain ⟨a2, rfl, hSa, _⟩ := hL 0 x0 rfl; have hsrc := hL.src0; have HS := Lib.hid hsrc; clear hsrc k2)
        | (at_builtin; refine wpList_append_own _ rfl _ _ 34 rfl w.heap.size 5 i0 (.int .u8 0) 1 1 Try.underlying34 hi0 hz0 hz1 hz2 rfl (by decide) _ _ _ rfl hown3 a2 (x0 :: r0).length cc2 (u8s (x0 :: r0)) rfl ?d1 ?d2 ?d3 ?d4 ?d5 ?d6 ?_))
      case d1 => simp [u8s_len]
      case d2 => exact HS.out
      case d3 => exact u8s_one
      case d4 => simp only [maxLen]; simp at hrl ⊢; omega
      case d5 => simp at hrl ⊢; omega
      case d6 => exact Nat.le_trans hb1.size hb2.size
      intro v3 w3 hown4 hgrow3 _
      have hb3 : Below w.heap.size w w3 := (hb1.trans (hb2.mono hb1.size)).grown hgrow3 (Nat.le_trans hb1.size hb2.size) (fun k hk => (hown3.lt k hk).1)
      clear hgrow3
      go_wp2
      refine bodyPost_ret (v := v3) (by simp [results, Try.results12, go_sem]) rfl ⟨_, rfl, ?_, hb3⟩
      have e : u8s (x :: x0 :: r0) = [.int .u8 (x : Int)] ++ u8s (x0 :: r0) := rfl
      rw [e]
      rw [Nat.add_comm (x0 :: r0).length 1]
      exact hown4

set_option maxRecDepth 100000 in
set_option maxHeartbeats 1000000 in
theorem refraw_is (xs : List Nat) (S : Nat → Prop) (A : Option Addr) (c : Nat) (w : World) (hx : Lies w S A xs) (hl : xs.length ≤ 1000000) (hAc : A = none → c = 0) :
    Calls Try.prog 17 #[.slice A xs.length c] w fun e w' => ∃ v, e = .returned v ∧ w'.ownsRow w.heap.size 5 1 v ((form xs.length).length + xs.length) (u8s (form xs.length ++ xs)) ∧ Below w.heap.size w w' := by
  have k := refform_is xs.length w (by omega)
  obtain ⟨i0, hi0, hz0, hz1, hz2⟩ := info_parts u8_info
  have hwr : IntKind.u64.wrap (xs.length : Int) = (xs.length : Int) := IntWalk.u64_in _ (by omega)
  have hfl := form_word (n := xs.length) (by omega)
  obtain ⟨H, hH⟩ : ∃ H, Hid (form xs.length = H) := ⟨_, rfl⟩
  rw [hH.out] at k hfl ⊢
  rcases A with _ | a
  · have : xs = [] := by
      cases xs with
      | nil => rfl
      | cons x r => obtain ⟨a, ha, _⟩ := hx 0 x rfl; cases ha
    subst this
    obtain rfl := hAc rfl
    rw [List.append_nil]
    clear hAc
    go_enter Try.func17, Try.ntmps17
    go_wp2_with (first
      | (go_at_call 12; refine k.mono ?_; rintro e w2 ⟨v2, rfl, hown2, hb2⟩)
      | (at_builtin; refine wpList_append_own_none rfl _ _ 34 rfl w.heap.size 5 i0 1 Try.underlying34 hi0 _ _ _ rfl hown2 rfl ?_))
    go_wp2
    exact bodyPost_ret (v := v2) (by simp [results, Try.results17, go_sem]) rfl ⟨_, rfl, hown2, hb2⟩
  · clear hAc
    go_enter Try.func17, Try.ntmps17
    go_wp2_with (first
      | (go_at_call 12; refine k.mono ?_; rintro e w2 ⟨v2, rfl, hown2, hb2⟩; have hsrc := (hx.grown (grown_below hb2 none) (by simp)).src0; have HS := Lib.hid hsrc; clear hsrc)
      | (at_builtin; refine wpList_append_own _ rfl _ _ 34 rfl w.heap.size 5 i0 (.int .u8 0) 1 1 Try.underlying34 hi0 hz0 hz1 hz2 rfl (by decide) _ _ _ rfl hown2 a xs.length c (u8s xs) rfl ?d1 ?d2 ?d3 ?d4 ?d5 ?d6 ?_))
    case d1 => simp [u8s_len]
    case d2 => exact HS.out
    case d3 => exact u8s_one
    case d4 => simp only [maxLen]; omega
    case d5 => omega
    case d6 => exact hb2.size
    intro v3 w3 hown4 hgrow3 _
    have hb3 : Below w.heap.size w w3 := hb2.grown hgrow3 hb2.size (fun k hk => (hown2.lt k hk).1)
    clear hgrow3
    go_wp2
    exact bodyPost_ret (v := v3) (by simp [results, Try.results17, go_sem]) rfl ⟨_, rfl, by rw [u8s_append]; exact hown4, hb3⟩

/-- In block d lies the reference's writer; what it wrote lies in a row of its own. -/
structure RefW (w : World) (d : Nat) (G : Nat → Prop) (s : List Nat × Nat) (v : Value) : Prop where
  block : w.heap[d]? = some (.cells #[v, .int .i64 (s.2 : Int)] 36 (0, 0))
  owns : w.ownsRow (d + 1) 5 1 v s.1.length (u8s s.1)
  foot : ∀ g, v.ownBlock = some g → G g
  most : s.1.length ≤ 131072
  small : s.2 ≤ 100

theorem RefW.lt {w : World} {d : Nat} {G : Nat → Prop} {s : List Nat × Nat} {v : Value} (h : RefW w d G s v) : d < w.heap.size := by
  have := h.block
  rw [Array.getElem?_eq_some_iff] at this
  exact this.1
theorem RefW.grown {w w' : World} {d : Nat} {G : Nat → Prop} {s : List Nat × Nat} {v : Value} (h : RefW w d G s v) {row : Option Nat} (hg : w.grownBy w' row) (hd : some d ≠ row) (hG : ∀ k, G k → some k ≠ row) : RefW w' d G s v :=
  ⟨by rw [hg.block d h.lt hd]; exact h.block, h.owns.kept hg (by
    rcases hv : v.ownBlock with _ | g
    · exact .inl rfl
    · exact .inr (hG g (h.foot g hv))), h.foot, h.most, h.small⟩
theorem RefW.cells {w : World} {d : Nat} {G : Nat → Prop} {s : List Nat × Nat} {v : Value} (h : RefW w d G s v) :
    w.cell? ⟨d, 0, none⟩ = some v ∧ w.cell? ⟨d, 1, none⟩ = some (.int .i64 (s.2 : Int)) ∧ w.frozen? ⟨d, 0, none⟩ = false ∧ w.frozen? ⟨d, 1, none⟩ = false :=
  ⟨by rw [cell_of_row w d 0 _ _ (0, 0) h.block]; rfl, by rw [cell_of_row w d 1 _ _ (0, 0) h.block]; rfl, frozen_of_row w d 0 _ _ h.block, frozen_of_row w d 1 _ _ h.block⟩

/-- What a call on it leaves. -/
def RLeft (w : World) (d : Nat) (G : Nat → Prop) (s : List Nat × Nat) (w' : World) : Prop := (∃ G' v', RefW w' d G' s v' ∧ ∀ k, G' k → G k ∨ w.heap.size ≤ k) ∧ Keep (fun k => k = d ∨ G k) w w'

theorem RefW.failing {w : World} {d : Nat} {G : Nat → Prop} {s : List Nat × Nat} {v : Value} (h : RefW w d G s v) (e : Nat) (he : e ≤ 100) : RLeft w d G (s.1, e) (w.setCell ⟨d, 1, none⟩ (.int .i64 (e : Int))) := by
  have hg := grown_set w d 1 (.int .i64 (e : Int))
  refine ⟨⟨G, v, ⟨?_, h.owns.kept hg ?_, h.foot, h.most, he⟩, fun k hk => .inl hk⟩, Keep.of_grown hg (fun k hk => by injection hk with hk; exact .inl hk.symm)⟩
  · rw [heap_setCell_same w d 1 _ _ _ h.block]; rfl
  · rcases hv : v.ownBlock with _ | g
    · exact .inl rfl
    · refine .inr (fun e => ?_)
      have := (h.owns.lt g hv).1
      injection e with e
      omega

theorem put_left {w w3 : World} {d : Nat} {G : Nat → Prop} {txt xs : List Nat} {v v3 : Value} (hW : RefW w d G (txt, 0) v) (hown : w.ownsRow (d + 1) 5 1 v txt.length (u8s txt)) (hg : w.grownBy w3 v.ownBlock) (hat : v3.ownBlock = v.ownBlock ∨ v3.ownBlock = some w.heap.size)
    (hown3 : w3.ownsRow (d + 1) 5 1 v3 (txt ++ xs).length (u8s (txt ++ xs))) (hm : (txt ++ xs).length ≤ 131072) (hb : w3.heap[d]? = some (.cells #[v, .int .i64 0] 36 (0, 0))) :
    RLeft w d G (txt ++ xs, 0) (w3.setCell ⟨d, 0, none⟩ v3) := by
  have hg3 := grown_set w3 d 0 v3
  have hne : v3.ownBlock = none ∨ v3.ownBlock ≠ some d := by
    rcases hv : v3.ownBlock with _ | g
    · exact .inl rfl
    · refine .inr (fun e => ?_)
      have := (hown3.lt g hv).1
      injection e with e
      omega
  refine ⟨⟨fun k => G k ∨ w.heap.size ≤ k ∨ v3.ownBlock = some k, v3, ⟨?_, hown3.kept hg3 hne, fun g hg => .inr (.inr hg), hm, by simp⟩, ?_⟩, ?_⟩
  · rw [heap_setCell_same w3 d 0 _ _ _ hb]; rfl
  · intro k hk
    rcases hk with h | h | h
    · exact .inl h
    · exact .inr h
    · rcases hat with h1 | h1
      · exact .inl (hW.foot k (h1.symm.trans h))
      · rw [h] at h1; injection h1 with h1; exact .inr (by omega)
  · exact (Keep.of_grown hg (fun k hk => .inr (hW.foot k hk))).trans (Keep.of_grown hg3 (fun k hk => by injection hk with hk; exact .inl hk.symm))

set_option maxRecDepth 100000 in
set_option maxHeartbeats 1000000 in
theorem refput_is (d : Nat) (G : Nat → Prop) (s : List Nat × Nat) (v : Value) (xs : List Nat) (S : Nat → Prop) (a : Addr) (c : Nat) (w : World) (hW : RefW w d G s v) (hx : Lies w S (some a) xs) (hl : xs.length ≤ 1000000) :
    Calls Try.prog 11 #[.pointer (some ⟨d, 0, none⟩), .slice (some a) xs.length c] w fun e w' => e = .returned (.tuple #[]) ∧ RLeft w d G (wput s xs) w' := by
  obtain ⟨txt, e⟩ := s
  obtain ⟨c0, c1, f0, f1⟩ := hW.cells
  simp only at c1
  have hdl := hW.lt
  by_cases he : e = 0
  · subst he
    obtain ⟨i0, hi0, hz0, hz1, hz2⟩ := info_parts u8_info
    obtain ⟨N, hN⟩ : ∃ N, Hid (txt.length = N) := ⟨_, rfl⟩
    have hNm : N ≤ 131072 := by rw [← hN.out]; exact hW.most
    have hown := hW.owns
    simp only [hN.out] at hown
    obtain ⟨A0, cc, hv, hl1, hl2, hnl, hL⟩ := Lies.own hown
    clear hnl hL
    subst hv
    by_cases hfit : N + xs.length ≤ 131072
    · have hput : wput (txt, 0) xs = (txt ++ xs, 0) := by
        unfold wput
        rw [if_neg (by simp), if_neg (by simp only; rw [hN.out]; omega)]
      rw [hput]
      have hfI : (N : Int) + (xs.length : Int) ≤ 131072 := by omega
      have hsrc := hx.src0
      have HS := Lib.hid hsrc
      clear hput hsrc
      go_enter Try.func11, Try.ntmps11
      go_wp2_with (at_builtin; refine wpList_append_own_at _ rfl _ _ 34 rfl (d + 1) 5 i0 (.int .u8 0) 1 1 Try.underlying34 hi0 hz0 hz1 hz2 rfl (by decide) _ _ _ rfl hown a xs.length c (u8s xs) rfl ?d1 ?d2 ?d3 ?d4 ?d5 ?d6 ?_)
      case d1 => simp [u8s_len]
      case d2 => exact HS.out
      case d3 => exact u8s_one
      case d4 => simp only [maxLen]; omega
      case d5 => omega
      case d6 => omega
      intro v3 w3 hown4 hgrow3 _ hat3
      rw [← u8s_append] at hown4
      obtain ⟨A3, c3, hv3, _, _, hn3, _⟩ := Lies.own hown4
      clear hn3
      subst hv3
      have hfar : some d ≠ (Value.slice A0 N cc).ownBlock := fun e => by have := (hown.lt d e.symm).1; omega
      have hblk3 := (hgrow3.block d hdl hfar).trans hW.block
      obtain ⟨d0, hd0⟩ : ∃ x, w3.cell? ⟨d, 0, none⟩ = some x := ⟨_, by rw [cell_of_row w3 d 0 _ _ (0, 0) hblk3]; rfl⟩
      have g0 := frozen_of_row w3 d 0 _ _ hblk3
      have HB3 := Lib.hid hblk3
      clear hblk3 hfar
      go_wp2
      go_end0
      exact ⟨rfl, put_left hW hW.owns hgrow3 hat3 (by simpa [hN.out] using hown4) (by simp [hN.out]; omega) HB3.out⟩
    · have hput : wput (txt, 0) xs = (txt, 3) := by
        unfold wput
        rw [if_neg (by simp), if_pos (by simp only; rw [hN.out]; omega)]
      rw [hput]
      have hfI : 131072 < (N : Int) + (xs.length : Int) := by omega
      clear hput
      go_enter Try.func11, Try.ntmps11
      go_wp2_with fail
      exact bodyPost_ret (v := .tuple #[]) (by simp [results, Try.results11, go_sem]) rfl ⟨rfl, hW.failing 3 (by omega)⟩
  · have hput : wput (txt, e) xs = (txt, e) := by unfold wput; rw [if_pos he]
    rw [hput]
    have h1 : ((e : Int) != 0) = true := by simp; omega
    have h2 : ((e : Int) == 0) = false := by simp; omega
    clear hput he
    go_enter Try.func11, Try.ntmps11
    go_wp2_with fail
    exact bodyPost_ret (v := .tuple #[]) (by simp [results, Try.results11, go_sem]) rfl ⟨rfl, ⟨G, v, hW, fun k hk => .inl hk⟩, Keep.refl _ _⟩

theorem RLeft.behind {w w1 w2 : World} {d : Nat} {G : Nat → Prop} {s : List Nat × Nat} (hb : Below w.heap.size w w1) (h : RLeft w1 d G s w2) : RLeft w d G s w2 := by
  obtain ⟨⟨G', v', hW, hG⟩, hk⟩ := h
  exact ⟨⟨G', v', hW, fun k hk => by rcases hG k hk with h1 | h1; exact .inl h1; exact .inr (Nat.le_trans hb.size h1)⟩, (Keep.of_below hb _).trans hk⟩

/-- What an Int writes. -/
def rint (s : List Nat × Nat) (i : Int) : List Nat × Nat := if i < 0 then wneg s else wput s (form i.toNat)

set_option maxRecDepth 100000 in
set_option maxHeartbeats 1000000 in
theorem refint_is (d : Nat) (G : Nat → Prop) (s : List Nat × Nat) (v : Value) (i : Int) (w : World) (hW : RefW w d G s v) (h0 : -9223372036854775808 ≤ i) (h1 : i ≤ 9223372036854775807) :
    Calls Try.prog 14 #[.pointer (some ⟨d, 0, none⟩), .int .i64 i] w fun e w' => e = .returned (.tuple #[]) ∧ RLeft w d G (rint s i) w' := by
  by_cases hi : i < 0
  · have hw : rint s i = wneg s := by unfold rint; rw [if_pos hi]
    rw [hw]
    clear hw
    obtain ⟨txt, e⟩ := s
    obtain ⟨c0, c1, f0, f1⟩ := hW.cells
    simp only at c1
    by_cases he : e = 0
    · subst he
      have hn : wneg (txt, 0) = (txt, 2) := by unfold wneg; rw [if_neg (by simp)]
      rw [hn]
      clear hn
      go_enter Try.func14, Try.ntmps14
      go_wp2_with fail
      exact bodyPost_ret (v := .tuple #[]) (by simp [results, Try.results14, go_sem]) rfl ⟨rfl, hW.failing 2 (by omega)⟩
    · have hn : wneg (txt, e) = (txt, e) := by unfold wneg; rw [if_pos he]
      rw [hn]
      have he1 : ((e : Int) != 0) = true := by simp; omega
      have he2 : ((e : Int) == 0) = false := by simp; omega
      clear hn he
      go_enter Try.func14, Try.ntmps14
      go_wp2_with fail
      exact bodyPost_ret (v := .tuple #[]) (by simp [results, Try.results14, go_sem]) rfl ⟨rfl, ⟨G, v, hW, fun k hk => .inl hk⟩, Keep.refl _ _⟩
  · obtain ⟨n, rfl⟩ := Int.eq_ofNat_of_zero_le (by omega : 0 ≤ i)
    have hw : rint s (n : Int) = wput s (form n) := by unfold rint; rw [if_neg hi]; rfl
    rw [hw]
    have k := refform_is n w (by omega)
    have hwr : IntKind.u64.wrap (n : Int) = (n : Int) := IntWalk.u64_in _ (by omega)
    have hn0 : (0 : Int) ≤ (n : Int) := by omega
    have hfl := form_word (n := n) (by omega)
    have hfp := form_pos n
    clear hw hi
    go_enter Try.func14, Try.ntmps14
    go_wp2_with (first
      | (go_at_call 12; refine k.mono ?_; clear k; rintro e w1 ⟨v1, rfl, hown, hb1⟩; obtain ⟨A1, c1, rfl, hl1, hl2, hl3, hL⟩ := Lies.own hown; clear hl3; obtain ⟨a1, rfl, _, _⟩ := hL.get (k := 0) hfp; have hW1 := hW.grown (grown_below hb1 none) (by simp) (by simp); have kp := refput_is d G s v (form n) _ a1 c1 w1 hW1 hL (by omega))
      | (go_at_call 11; refine kp.mono ?_; clear kp; rintro e w2 ⟨rfl, hR⟩))
    go_end0
    exact ⟨rfl, hR.behind hb1⟩
end Go.Proofs.Ytmagjfjmaojemaa
