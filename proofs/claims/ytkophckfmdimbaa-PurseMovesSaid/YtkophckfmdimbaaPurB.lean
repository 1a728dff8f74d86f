/- Layer 17 (purse), the document's: a list with one sum changed; pdrawn, ppaid and pmoved. By contracts. A copy of the call's own. -/
import Derived.Test.YtkophckfmdimbaaPurA
import Derived.Laws.AppendOwnNone
namespace Go.Proofs.Ytkophckfmdimbaa
open Go.RowKit
set_option linter.unusedVariables false
set_option linter.unusedSimpArgs false

theorem change_take (l : List Nat) (i k x : Nat) (hk : k < l.length) : (l.set i x).take (k + 1) = (l.set i x).take k ++ [if k = i then x else l[k]] := by
  rw [List.take_succ_eq_append_getElem (by simpa using hk), List.getElem_set]
  congr 2
  by_cases h : i = k
  · rw [if_pos h, if_pos h.symm]
  · rw [if_neg h, if_neg (fun e => h e.symm)]

set_option maxRecDepth 100000 in
set_option maxHeartbeats 1000000 in
theorem change_is (l : List Nat) (B : Nat) (A : Option Addr) (c i x : Nat) (w : World) (hr : Row w B A (u64s l)) (hB0 : B ≤ w.heap.size) (hl : l.length ≤ 1000000) :
    Calls Try.prog 22 #[.slice A l.length c, .int .i64 (i : Int), .int .u64 (x : Int)] w fun e w' => ∃ v, e = .returned v ∧ w'.ownsRow w.heap.size 23 1 v (l.set i x).length (u64s (l.set i x)) ∧ Below w.heap.size w w' := by
  obtain ⟨i0, hi0, hz0, hz1, hz2⟩ := info_parts u64_info
  have hln : (l.set i x).length = l.length := by simp
  have ht := change_take l i
  obtain ⟨P, hP⟩ : ∃ P, ∀ x', x' = x → l.set i x' = P := ⟨_, fun x' e => by subst e; rfl⟩
  have hP := hP x rfl
  rw [hln, hP]
  rw [hP] at hln
  have HT := Lib.hid (fun k => ht k x)
  have HP := Lib.hid hP
  have HL := Lib.hid hln
  clear ht hP hln
  go_enter Try.func22, Try.ntmps22
  go_wp2
  go_loopw [7, 8] (fun ov iv wr => ∃ (k : Nat) (vo : Value), k ≤ l.length ∧ iv = .int .i64 (k : Int) ∧ vo = ov ∧
      wr.ownsRow w.heap.size 23 1 vo k (u64s (P.take k)) ∧ Below w.heap.size w wr) (fun _ iv _ => l.length - (intOf iv).toNat)
  case atStart => exact ⟨0, _, Nat.zero_le _, rfl, rfl, World.ownsRow_nil _ _ _ _, Below.refl _ _⟩
  case round =>
    obtain ⟨k, vo, hk, rfl, rfl, hown, hB⟩ := hrel
    by_cases hlt : k < l.length
    · obtain ⟨a, rfl, hb, hc⟩ := (hr.below (hB.mono hB0)).word hlt
      have e1 := HT.out k hlt
      rw [HP.out] at e1
      have hki : (k : Int) < (l.length : Int) := by omega
      have hk0 : (0 : Int) ≤ (k : Int) := by omega
      by_cases hyx : k = i
      · rw [if_pos hyx] at e1
        have E1 := Lib.hid e1
        subst hyx
        clear e1 hc
        go_wp2_with (at_builtin; refine wpList_append_own _ rfl _ _ 22 rfl w.heap.size 23 i0 (.int .u64 0) 1 8 Try.underlying22 hi0 hz0 hz1 hz2 rfl (by decide) _ _ _ rfl (hown.alloc _) ⟨wr.heap.size, 0, none⟩ 1 1 [.int .u64 (x : Int)] rfl rfl ?c1 ?c2 ?c3 ?c4 ?c5 ?_)
        case c1 => exact new_one _ _ _
        case c2 => intro u hu; simp at hu; subst hu; rfl
        case c3 => simp only [maxLen]; omega
        case c4 => omega
        case c5 => have := hB.size; simp; omega
        intro v' w4 hown' hgrow _
        have hb' := app_below_nat hB (Nat.le_refl _) hB.size hown hgrow
        clear hgrow hown
        go_wp2
        go_roundw
        case rel =>
          refine ⟨k + 1, _, by omega, by go_num, rfl, ?_, hb'⟩
          rw [E1.out, u64s_snoc]
          exact hown'
        case measure => simp [intOf]; omega
      · rw [if_neg hyx] at e1
        obtain ⟨y, hy⟩ : ∃ y, l[k] = y := ⟨_, rfl⟩
        rw [hy] at hc e1
        have E1 := Lib.hid e1
        have hne : ((k : Int) == (i : Int)) = false := by simp; omega
        clear e1 hy
        go_wp2_with (at_builtin; refine wpList_append_own _ rfl _ _ 22 rfl w.heap.size 23 i0 (.int .u64 0) 1 8 Try.underlying22 hi0 hz0 hz1 hz2 rfl (by decide) _ _ _ rfl (hown.alloc _) ⟨wr.heap.size, 0, none⟩ 1 1 [.int .u64 (y : Int)] rfl rfl ?c1 ?c2 ?c3 ?c4 ?c5 ?_)
        case c1 => exact new_one _ _ _
        case c2 => intro u hu; simp at hu; subst hu; rfl
        case c3 => simp only [maxLen]; omega
        case c4 => omega
        case c5 => have := hB.size; simp; omega
        intro v' w4 hown' hgrow _
        have hb' := app_below_nat hB (Nat.le_refl _) hB.size hown hgrow
        clear hgrow hown
        go_wp2
        go_roundw
        case rel =>
          refine ⟨k + 1, _, by omega, by go_num, rfl, ?_, hb'⟩
          rw [E1.out, u64s_snoc]
          exact hown'
        case measure => simp [intOf]; omega
    · obtain rfl : k = l.length := by omega
      rw [← HL.out, List.take_length, HL.out] at hown
      go_wp2
      refine bodyPost_ret (v := vo) (by simp [results, Try.results22, go_sem]) rfl ⟨_, rfl, hown, hB⟩

set_option maxRecDepth 100000 in
set_option maxHeartbeats 1000000 in
theorem rpdraw_is (xs : List Nat) (i : Int) (n : Nat) (A : Option Addr) (c : Nat) (w : World) (hr : Row w w.heap.size A (u64s xs)) (hl : xs.length ≤ 1000000) (hx : ∀ x ∈ xs, x ≤ 18446744073709551615) :
    Calls Try.prog 12 #[.slice A xs.length c, .int .i64 i, .int .u64 (n : Int)] w fun e w' => Lists w (pdrawn xs i n) e w' := by
  by_cases h : NoPurse xs i
  · rw [pdrawn_no n h]
    unfold NoPurse at h
    by_cases h0 : i < 0
    · clear h
      go_enter Try.func12, Try.ntmps12
      go_wp2
      refine bodyPost_ret (v := .tuple #[.slice none 0 0, .int .i64 170]) (by simp [results, Try.results12, go_sem]) rfl (Lists.none 170 (Below.refl _ _))
    · have h1 : (xs.length : Int) ≤ i := by omega
      clear h
      go_enter Try.func12, Try.ntmps12
      go_wp2
      refine bodyPost_ret (v := .tuple #[.slice none 0 0, .int .i64 170]) (by simp [results, Try.results12, go_sem]) rfl (Lists.none 170 (Below.refl _ _))
  · obtain ⟨k, rfl, hk⟩ := purse_at h
    obtain ⟨a, rfl, hb, hc⟩ := hr.word hk
    have hxk := hx xs[k] (List.getElem_mem hk)
    have h0 : ¬ (k : Int) < 0 := by omega
    have h1 : (k : Int) < (xs.length : Int) := by omega
    have h2 : (0 : Int) ≤ (k : Int) := by omega
    by_cases hlt : xs[k] < n
    · rw [pdrawn_less hk hlt]
      obtain ⟨x, hx⟩ : ∃ x, xs[k] = x := ⟨_, rfl⟩
      rw [hx] at hc hlt hxk
      have hlI : (x : Int) < (n : Int) := by omega
      clear hx h hlt
      go_enter Try.func12, Try.ntmps12
      go_wp2
      refine bodyPost_ret (v := .tuple #[.slice none 0 0, .int .i64 171]) (by simp [results, Try.results12, go_sem]) rfl (Lists.none 171 (Below.refl _ _))
    · rw [pdrawn_ok hk hlt]
      have k3 := change_is xs w.heap.size (some a) c k (xs[k] - n) w hr (Nat.le_refl _) hl
      obtain ⟨x, hx⟩ : ∃ x, xs[k] = x := ⟨_, rfl⟩
      rw [hx] at hc k3 hlt hxk ⊢
      have hlI : ¬ (x : Int) < (n : Int) := by omega
      obtain ⟨y, hy⟩ : ∃ y, x - n = y := ⟨_, rfl⟩
      have hwr : IntKind.u64.wrap ((x : Int) - (n : Int)) = (y : Int) := by rw [IntKind.wrap_u64]; omega
      rw [hy] at k3 ⊢
      clear hx h hlt hy
      go_enter Try.func12, Try.ntmps12
      go_wp2_with (go_at_call 22; refine k3.mono ?_; clear k3; rintro e w2 ⟨v, rfl, hown, hb2⟩)
      refine bodyPost_ret (v := .tuple #[v, .int .i64 0]) (by simp [results, Try.results12, go_sem]) rfl (Lists.own hown hb2)

set_option maxRecDepth 100000 in
set_option maxHeartbeats 1000000 in
theorem rppay_is (xs : List Nat) (i : Int) (n : Nat) (A : Option Addr) (c : Nat) (w : World) (hr : Row w w.heap.size A (u64s xs)) (hl : xs.length ≤ 1000000) (hx : ∀ x ∈ xs, x ≤ 18446744073709551615) (hn : n ≤ 18446744073709551615) :
    Calls Try.prog 13 #[.slice A xs.length c, .int .i64 i, .int .u64 (n : Int)] w fun e w' => Lists w (ppaid xs i n) e w' := by
  by_cases h : NoPurse xs i
  · rw [ppaid_no n h]
    unfold NoPurse at h
    by_cases h0 : i < 0
    · clear h
      go_enter Try.func13, Try.ntmps13
      go_wp2
      refine bodyPost_ret (v := .tuple #[.slice none 0 0, .int .i64 170]) (by simp [results, Try.results13, go_sem]) rfl (Lists.none 170 (Below.refl _ _))
    · have h1 : (xs.length : Int) ≤ i := by omega
      clear h
      go_enter Try.func13, Try.ntmps13
      go_wp2
      refine bodyPost_ret (v := .tuple #[.slice none 0 0, .int .i64 170]) (by simp [results, Try.results13, go_sem]) rfl (Lists.none 170 (Below.refl _ _))
  · obtain ⟨k, rfl, hk⟩ := purse_at h
    obtain ⟨a, rfl, hb, hc⟩ := hr.word hk
    have hxk := hx xs[k] (List.getElem_mem hk)
    have h0 : ¬ (k : Int) < 0 := by omega
    have h1 : (k : Int) < (xs.length : Int) := by omega
    have h2 : (0 : Int) ≤ (k : Int) := by omega
    have H1 := Lib.hid h1
    by_cases hlt : 4611686018427387904 < xs[k] + n
    · rw [ppaid_over hk hlt]
      obtain ⟨x, hx⟩ : ∃ x, xs[k] = x := ⟨_, rfl⟩
      rw [hx] at hc hlt hxk
      by_cases d1 : 4611686018427387904 < n
      · have e1 : decide ((4611686018427387904 : Int) < (n : Int)) = true := decide_eq_true (by omega)
        clear hx h hlt d1
        go_enter Try.func13, Try.ntmps13
        go_wp2
        refine bodyPost_ret (v := .tuple #[.slice none 0 0, .int .i64 10]) (by simp [results, Try.results13, go_sem]) rfl (Lists.none 10 (Below.refl _ _))
      · have e1 : decide ((4611686018427387904 : Int) < (n : Int)) = false := decide_eq_false (by omega)
        by_cases d2 : 4611686018427387904 < x
        · have e2 : decide ((4611686018427387904 : Int) < (x : Int)) = true := decide_eq_true (by omega)
          clear hx h hlt d1 d2
          go_enter Try.func13, Try.ntmps13
          go_wp2
          refine bodyPost_ret (v := .tuple #[.slice none 0 0, .int .i64 10]) (by simp [results, Try.results13, go_sem]) rfl (Lists.none 10 (Below.refl _ _))
        · have e2 : decide ((4611686018427387904 : Int) < (x : Int)) = false := decide_eq_false (by omega)
          obtain ⟨s, hs⟩ : ∃ s, x + n = s := ⟨_, rfl⟩
          have hwr : IntKind.u64.wrap ((x : Int) + (n : Int)) = (s : Int) := by rw [IntKind.wrap_u64]; omega
          have e3 : decide ((4611686018427387904 : Int) < (s : Int)) = true := decide_eq_true (by omega)
          clear hx h hlt d1 d2 hs
          go_enter Try.func13, Try.ntmps13
          go_wp2
          refine bodyPost_ret (v := .tuple #[.slice none 0 0, .int .i64 10]) (by simp [results, Try.results13, go_sem]) rfl (Lists.none 10 (Below.refl _ _))
    · rw [ppaid_ok hk hlt]
      have k3 := change_is xs w.heap.size (some a) c k (xs[k] + n) w hr (Nat.le_refl _) hl
      obtain ⟨x, hx⟩ : ∃ x, xs[k] = x := ⟨_, rfl⟩
      rw [hx] at hc k3 hlt hxk ⊢
      obtain ⟨s, hs⟩ : ∃ s, x + n = s := ⟨_, rfl⟩
      have e1 : decide ((4611686018427387904 : Int) < (n : Int)) = false := decide_eq_false (by omega)
      have e2 : decide ((4611686018427387904 : Int) < (x : Int)) = false := decide_eq_false (by omega)
      have hwr : IntKind.u64.wrap ((x : Int) + (n : Int)) = (s : Int) := by rw [IntKind.wrap_u64]; omega
      have e3 : decide ((4611686018427387904 : Int) < (s : Int)) = false := decide_eq_false (by omega)
      rw [hs] at k3 ⊢
      clear hx h hlt hs
      go_enter Try.func13, Try.ntmps13
      go_wp2_with (go_at_call 22; refine k3.mono ?_; clear k3; rintro e w2 ⟨v, rfl, hown, hb2⟩)
      refine bodyPost_ret (v := .tuple #[v, .int .i64 0]) (by simp [results, Try.results13, go_sem]) rfl (Lists.own hown hb2)

/-- The document's tests of both accounts: the first that says no, and what those before it say. -/
theorem rpmove_no (xs : List Nat) (i j : Int) (n : Nat) (A : Option Addr) (c : Nat) (w : World) (h : NoPurse xs i ∨ NoPurse xs j) :
    Calls Try.prog 14 #[.slice A xs.length c, .int .i64 i, .int .i64 j, .int .u64 (n : Int)] w fun e w' => Lists w ([], 170) e w' := by
  unfold NoPurse at h
  by_cases h0 : i < 0
  · clear h
    go_enter Try.func14, Try.ntmps14
    go_wp2
    refine bodyPost_ret (v := .tuple #[.slice none 0 0, .int .i64 170]) (by simp [results, Try.results14, go_sem]) rfl (Lists.none 170 (Below.refl _ _))
  · by_cases h1 : (xs.length : Int) ≤ i
    · clear h
      go_enter Try.func14, Try.ntmps14
      go_wp2
      refine bodyPost_ret (v := .tuple #[.slice none 0 0, .int .i64 170]) (by simp [results, Try.results14, go_sem]) rfl (Lists.none 170 (Below.refl _ _))
    · have h1' : i < (xs.length : Int) := by omega
      by_cases h2 : j < 0
      · clear h h1
        go_enter Try.func14, Try.ntmps14
        go_wp2
        refine bodyPost_ret (v := .tuple #[.slice none 0 0, .int .i64 170]) (by simp [results, Try.results14, go_sem]) rfl (Lists.none 170 (Below.refl _ _))
      · have h3 : (xs.length : Int) ≤ j := by omega
        clear h h1
        go_enter Try.func14, Try.ntmps14
        go_wp2
        refine bodyPost_ret (v := .tuple #[.slice none 0 0, .int .i64 170]) (by simp [results, Try.results14, go_sem]) rfl (Lists.none 170 (Below.refl _ _))

set_option maxRecDepth 100000 in
set_option maxHeartbeats 1000000 in
theorem rpmove_is (xs : List Nat) (i j : Int) (n : Nat) (A : Option Addr) (c : Nat) (w : World) (hr : Row w w.heap.size A (u64s xs)) (hl : xs.length ≤ 1000000) (hx : ∀ x ∈ xs, x ≤ 18446744073709551615) (hn : n ≤ 18446744073709551615) :
    Calls Try.prog 14 #[.slice A xs.length c, .int .i64 i, .int .i64 j, .int .u64 (n : Int)] w fun e w' => Lists w (pmoved xs i j n) e w' := by
  by_cases h : NoPurse xs j
  · rw [pmoved_no n h]
    exact rpmove_no xs i j n A c w (.inr h)
  · by_cases hi : NoPurse xs i
    · rw [pmoved_not h (by rw [pdrawn_no n hi]; simp), pdrawn_no n hi]
      exact rpmove_no xs i j n A c w (.inl hi)
    · have k2 := rpdraw_is xs i n A c w hr hl hx
      have ha := pdrawn_answer xs i n
      obtain ⟨m, rfl, hm⟩ := purse_at hi
      obtain ⟨k, rfl, hk⟩ := purse_at h
      have a0 : ¬ (k : Int) < 0 := by omega
      have a1 : (k : Int) < (xs.length : Int) := by omega
      have a2 : ¬ (m : Int) < 0 := by omega
      have a3 : (m : Int) < (xs.length : Int) := by omega
      by_cases hd : (pdrawn xs (m : Int) n).2 = 0
      · rw [pmoved_paid h hd]
        have k3 : ∀ A c (u : World), Row u u.heap.size A (u64s (pdrawn xs (m : Int) n).1) → Calls Try.prog 13 #[.slice A (pdrawn xs (m : Int) n).1.length c, .int .i64 (k : Int), .int .u64 (n : Int)] u fun e w' => Lists u (ppaid (pdrawn xs (m : Int) n).1 (k : Int) n) e w' := fun A c u hr => by
          rcases ha with ⟨_, h1⟩ | ⟨h1, _, h3⟩
          · omega
          · exact rppay_is _ _ n A c u hr (by omega) (h3 hx) hn
        obtain ⟨r, hr2⟩ : ∃ r, pdrawn xs (m : Int) n = r := ⟨_, rfl⟩
        rw [hr2] at hd k2 k3 ⊢
        obtain ⟨l, y⟩ := r
        obtain rfl : y = 0 := hd
        obtain ⟨q, hq⟩ : ∃ q, ppaid l (k : Int) n = q := ⟨_, rfl⟩
        simp only [hq] at k3 ⊢
        have K3 := Lib.hid k3
        clear k3 hr2 ha h hi hx hk hm hq
        go_enter Try.func14, Try.ntmps14
        go_wp2_with (first
          | (go_at_call 12; refine k2.mono ?_; clear k2; rintro e w2 ⟨A2, c2, rfl, hc2, hm2, hz2, hr2, hb2⟩)
          | (go_at_call 13; refine (K3.out A2 c2 w2 hr2).mono ?_; rintro e w3 ⟨A3, c3, rfl, hc3, hm3, hz3, hr3, hb3⟩))
        refine bodyPost_ret (v := .tuple #[.slice A3 q.1.length c3, .int .i64 (q.2 : Int)]) (by simp [results, Try.results14, go_sem]) rfl ⟨A3, c3, rfl, hc3, hm3, hz3, hr3, Below.then hb2 hb3⟩
      · rw [pmoved_not h hd]
        have hs := ha.small
        obtain ⟨r, hr2⟩ : ∃ r, pdrawn xs (m : Int) n = r := ⟨_, rfl⟩
        rw [hr2] at hd hs k2 ⊢
        obtain ⟨l, y⟩ := r
        simp only at hd hs k2 ⊢
        have hy0 : ((y : Int) == 0) = false := by simp; omega
        have hy1 : ((y : Int) != 0) = true := by simp; omega
        clear ha h hi hx hk hm hd hs hr2
        go_enter Try.func14, Try.ntmps14
        go_wp2_with (go_at_call 12; refine k2.mono ?_; clear k2; rintro e w2 ⟨A2, c2, rfl, hc2, hm2, hz2, hr2, hb2⟩)
        refine bodyPost_ret (v := .tuple #[.slice none 0 0, .int .i64 (y : Int)]) (by simp [results, Try.results14, go_sem]) rfl (Lists.none y hb2)

set_option maxRecDepth 100000 in
set_option maxHeartbeats 1000000 in
/-- A copy in memory of its own (the law's). -/
theorem own17_is (l : List Nat) (B : Nat) (A : Option Addr) (c : Nat) (w : World) (hr : Row w B A (u64s l)) (hl : l.length ≤ 1000000) (hA : A = none → c = 0) :
    Calls Try.prog 7 #[.slice A l.length c] w fun e w' => ∃ v, e = .returned v ∧ w'.ownsRow w.heap.size 23 1 v l.length (u64s l) ∧ Below w.heap.size w w' := by
  obtain ⟨i0, hi0, hz0, hz1, hz2⟩ := info_parts u64_info
  have hB0 : Below w.heap.size w (w.alloc (.cells #[] 23)) := (Below.refl _ w).alloc (Nat.le_refl _) _
  have hst : (w.alloc (.cells #[] 23)).ownsRow w.heap.size 23 1 (.slice (some ⟨w.heap.size, 0, none⟩) 0 0) 0 [] := World.ownsRow_made w #[] 0 (Nat.le_refl _) (Nat.zero_le _) rfl
  rcases A with _ | a
  · have h0 := hr.none_nil
    have : l = [] := List.eq_nil_of_length_eq_zero (by have := u64s_len l; rw [h0] at this; simpa using this.symm)
    subst this
    obtain rfl := hA rfl
    go_enter Try.func7, Try.ntmps7
    go_wp2_with (at_builtin; refine wpList_append_own_none rfl _ _ 22 rfl w.heap.size 23 i0 1 Try.underlying22 hi0 (.slice (some ⟨w.heap.size, 0, none⟩) 0 0) 0 [] rfl hst rfl ?_)
    go_wp2
    refine bodyPost_ret (v := .slice (some ⟨w.heap.size, 0, none⟩) 0 0) (by simp [results, Try.results7, go_sem]) rfl ⟨_, rfl, hst, hB0⟩
  · have hsrc : ∀ j v, (u64s l)[j]? = some v → (w.alloc (.cells #[] 23)).cell? (a.add j) = some v := fun j v hj => by
      have h := hr.src j v hj
      rw [World.cell?_alloc_lt _ _ _ (World.block_lt_of_cell? w _ h)]
      exact h
    have HS := Lib.hid hsrc
    clear hsrc
    go_enter Try.func7, Try.ntmps7
    go_wp2_with (at_builtin; refine wpList_append_own _ rfl _ _ 22 rfl w.heap.size 23 i0 (.int .u64 0) 1 8 Try.underlying22 hi0 hz0 hz1 hz2 rfl (by decide) _ _ _ rfl hst a l.length c (u64s l) rfl ?c1 ?c2 ?c3 ?c4 ?c5 ?c6 ?_)
    case c1 => simp [u64s_len]
    case c2 => exact HS.out
    case c3 => exact u64s_one
    case c4 => simp only [maxLen]; omega
    case c5 => omega
    case c6 => simp
    intro v' w3 hown hgrow _
    have hb' : Below w.heap.size w w3 := hB0.grown hgrow (by simp) (by intro k hk; simp [Value.ownBlock] at hk; omega)
    clear hgrow
    go_wp2
    refine bodyPost_ret (v := v') (by simp [results, Try.results7, go_sem]) rfl ⟨_, rfl, by simpa using hown, hb'⟩
end Go.Proofs.Ytkophckfmdimbaa
