/- Layer 17 (purse): what an account has; a copy of a list with one sum changed; pdrawn, ppaid and pmoved. By contracts. -/
import Derived.Test.YtkophckfmdimbaaPurM
import Derived.Test.YtkophckfmdimbaaRef4
import Derived.Laws.CopyOwn
namespace Go.Proofs.Ytkophckfmdimbaa
open Go.RowKit
set_option linter.unusedVariables false
set_option linter.unusedSimpArgs false

theorem u64s_one {l : List Nat} : ∀ v ∈ u64s l, v.oneCell' = true := by
  intro v hv
  obtain ⟨x, _, rfl⟩ := List.mem_map.1 hv
  rfl
theorem u64_size : (Try.prog.info? 23).map (·.size) = some 1 := by kernel_rfl
theorem u64s_get {l : List Nat} {k : Nat} (h : k < l.length) : (u64s l)[k]? = some (.int .u64 (l[k] : Int)) := by simp [u64s, h]
theorem u64s_set (l : List Nat) (k x : Nat) : (u64s l).set k (.int .u64 (x : Int)) = u64s (l.set k x) := by unfold u64s; rw [List.map_set]
/-- One of a list of words. -/
theorem Row.word {w : World} {B : Nat} {A : Option Addr} {l : List Nat} (h : Row w B A (u64s l)) {k : Nat} (hk : k < l.length) : ∃ a, A = some a ∧ a.block < B ∧ w.cell? (a.add k) = some (.int .u64 (l[k] : Int)) := h k _ (u64s_get hk)
theorem Row.src {w : World} {B : Nat} {a : Addr} {xs : List Value} (h : Row w B (some a) xs) : ∀ q v, xs[q]? = some v → w.cell? (a.add q) = some v := fun q v hq => by
  obtain ⟨a', ha', _, hc'⟩ := h q v hq
  cases ha'
  exact hc'
/-- Behind a call that turned nothing of what was there. -/
theorem Row.next {w w' : World} {A : Option Addr} {xs : List Value} (h : Row w w.heap.size A xs) (hb : Below w.heap.size w w') : Row w' w'.heap.size A xs := (h.below hb).up hb.size
theorem Row.none_nil {w : World} {B : Nat} {xs : List Value} (h : Row w B none xs) : xs = [] := by
  cases xs with
  | nil => rfl
  | cons x r => obtain ⟨a, ha, _⟩ := h 0 x rfl; cases ha
/-- A row of words that the call made and filled. -/
theorem owns_words {w : World} {g n base : Nat} {xs : List Nat} (hb : base ≤ g) (hn : xs.length = n) (hm : n ≤ maxLen) (h : w.heap[g]? = some (.cells (u64s xs).toArray 23 (0, 0))) :
    w.ownsRow base 23 1 (.slice (some ⟨g, 0, none⟩) n n) n (u64s xs) :=
  ⟨by rw [u64s_len, Nat.mul_one, hn], .inr ⟨g, n, (u64s xs).toArray, rfl, hb, h, Nat.le_refl _, hm, by simp [u64s_len, hn], by rw [Nat.mul_one, ← hn, ← u64s_len]; simp⟩⟩
theorem splice_words {Z : List Value} {xs : List Nat} (h : Z.length = xs.length) : splice Z 0 (u64s xs) = u64s xs := by
  unfold splice
  rw [List.drop_eq_nil_of_le (by rw [u64s_len]; omega)]
  simp
theorem word_cell {w : World} {base g n c : Nat} {e : TypeId} {xs : List Nat} (h : w.ownsRow base e 1 (.slice (some ⟨g, 0, none⟩) n c) n (u64s xs)) {k : Nat} (hk : k < xs.length) : w.cell? ⟨g, k, none⟩ = some (.int .u64 (xs[k] : Int)) := by
  have := h.cells (g := g) rfl k _ (u64s_get hk)
  rwa [Addr.add_mid, Nat.zero_add] at this

/-- An answer: a list of words, in the call's own memory or none, and an error's number. -/
def Lists (w0 : World) (r : List Nat × Nat) (e : Ending) (w : World) : Prop :=
  ∃ A c, e = .returned (.tuple #[.slice A r.1.length c, .int .i64 (r.2 : Int)]) ∧ r.1.length ≤ c ∧ c ≤ maxLen ∧ (A = none → c = 0) ∧ Row w w.heap.size A (u64s r.1) ∧ Below w0.heap.size w0 w
theorem Lists.none {w0 w : World} (y : Nat) (h : Below w0.heap.size w0 w) : Lists w0 ([], y) (.returned (.tuple #[.slice none 0 0, .int .i64 (y : Int)])) w :=
  ⟨_, _, rfl, Nat.le_refl _, Nat.zero_le _, fun _ => rfl, Row.nil _ _ _, h⟩
theorem Lists.own {w0 w : World} {v : Value} {base : Nat} {xs : List Nat} (h : w.ownsRow base 23 1 v xs.length (u64s xs)) (hb : Below w0.heap.size w0 w) : Lists w0 (xs, 0) (.returned (.tuple #[v, .int .i64 0])) w := by
  obtain ⟨A, c, rfl, hc, hm, hr⟩ := Row.of_own h
  exact ⟨A, c, rfl, hc, hm, (own_from h).2, hr, hb⟩

theorem phas_no (xs : List Nat) (A : Option Addr) (c : Nat) (i : Int) (w : World) (h : NoPurse xs i) :
    Calls Try.prog 11 #[.slice A xs.length c, .int .i64 i] w fun e w' => e = .returned (.tuple #[.int .u64 0, .int .i64 170]) ∧ w = w' := by
  unfold NoPurse at h
  by_cases h0 : i < 0
  · clear h
    go_enter Try.func11, Try.ntmps11
    go_wp2
    go_ret2
    exact ⟨rfl, rfl⟩
  · have h1 : (xs.length : Int) ≤ i := by omega
    clear h
    go_enter Try.func11, Try.ntmps11
    go_wp2
    go_ret2
    exact ⟨rfl, rfl⟩
theorem phas_ok (xs : List Nat) (B : Nat) (A : Option Addr) (c k : Nat) (w : World) (hr : Row w B A (u64s xs)) (hk : k < xs.length) :
    Calls Try.prog 11 #[.slice A xs.length c, .int .i64 (k : Int)] w fun e w' => e = .returned (.tuple #[.int .u64 (xs[k] : Int), .int .i64 0]) ∧ w = w' := by
  obtain ⟨a, rfl, hb, hc⟩ := hr.word hk
  obtain ⟨x, hx⟩ : ∃ x, xs[k] = x := ⟨_, rfl⟩
  rw [hx] at hc ⊢
  have h0 : ¬ (k : Int) < 0 := by omega
  have h1 : (k : Int) < (xs.length : Int) := by omega
  clear hx
  go_enter Try.func11, Try.ntmps11
  go_wp2
  go_ret2
  exact ⟨rfl, rfl⟩

set_option maxRecDepth 100000 in
set_option maxHeartbeats 1000000 in
/-- A copy in which one account has another sum. -/
theorem with_is (xs : List Nat) (B : Nat) (A : Option Addr) (c k x : Nat) (w : World) (hr : Row w B A (u64s xs)) (hk : k < xs.length) (hl : xs.length ≤ 1000000) :
    Calls Try.prog 20 #[.slice A xs.length c, .int .i64 (k : Int), .int .u64 (x : Int)] w fun e w' => ∃ v, e = .returned v ∧ w'.ownsRow w.heap.size 23 1 v (xs.set k x).length (u64s (xs.set k x)) ∧ Below w.heap.size w w' := by
  obtain ⟨i0, hi0, hz0, hz1, hz2⟩ := info_parts u64_info
  obtain ⟨Z, hZ, hZl⟩ : ∃ Z : List Value, madeCells #[.int .u64 0] xs.length = Z.toArray ∧ Z.length = xs.length := ⟨(madeCells #[.int .u64 0] xs.length).toList, by simp, by simp [size_madeCells]⟩
  have hmk : ∀ V : World, (Instr.makeSlice 22 (.int .i64 (xs.length : Int)) (.int .i64 (xs.length : Int))).run Try.prog V =
      .ok (.slice (some ⟨V.heap.size, 0, none⟩) xs.length xs.length) (V.alloc (.cells Z.toArray 23)) := by
    intro V
    have h := run_make (P := Try.prog) V 22 23 i0 (.int .u64 0) Try.underlying22 hi0 hz0 .i64 .i64 (xs.length : Int) (xs.length : Int) (by omega) (by omega) (by rw [hz2]; omega) (by omega)
    rw [hz1, Int.toNat_natCast, Nat.mul_one] at h
    rw [← hZ]
    exact h
  obtain ⟨a, rfl, hb, hc⟩ := hr.word hk
  have hB0 : Below w.heap.size w (w.alloc (.cells Z.toArray 23)) := (Below.refl _ w).alloc (Nat.le_refl _) _
  have hsrc : ∀ j v, (u64s xs)[j]? = some v → (w.alloc (.cells Z.toArray 23)).cell? (a.add j) = some v := fun j v hj => by
    have h := hr.src j v hj
    rw [World.cell?_alloc_lt _ _ _ (World.block_lt_of_cell? w _ h)]
    exact h
  have HS := Lib.hid hsrc
  have HZ := Lib.hid hZl
  have HK := Lib.hid hk
  have h0 : (0 : Int) ≤ (k : Int) := by omega
  have h1 : (k : Int) < (xs.length : Int) := by omega
  have hln : (xs.set k x).length = xs.length := by simp
  rw [hln]
  clear hZ hZl hc hsrc hln hi0 hz0 hz1 hz2
  go_enter Try.func20, Try.ntmps20
  go_wp2_with (with_reducible refine wpList_copy_splice rfl (.tmp 11) (.tmp 12) 22 22 rfl 23 Try.underlying22 u64_size _ _ _ _ _ _ rfl rfl w.heap.size 0 Z 23 (heap_alloc_new w _) (u64s xs) ?c1 ?c2 ?c3 u64s_one w.heap.size w hB0 (Nat.le_refl _) ?_)
  case c1 => rw [u64s_len]; exact (Nat.min_self _).symm
  case c2 => intro h; exact HS.out
  case c3 => rw [u64s_len, HZ.out]; omega
  intro w3 HG hB3
  have hG := HG.out
  rw [splice_words HZ.out] at hG
  have hown := owns_words (base := w.heap.size) (Nat.le_refl _) rfl (by unfold maxLen; omega) hG
  have hcD := word_cell hown HK.out
  have hfD : w3.frozen? ⟨w.heap.size, k, none⟩ = false := hown.frozenAt k
  have HO := Lib.hid hown
  have hkm : (k : Int) < (xs.length : Int) := by have := HK.out; omega
  clear hG HG hown hmk
  go_wp2
  refine bodyPost_ret (v := .slice (some ⟨w.heap.size, 0, none⟩) xs.length xs.length) (by simp [results, Try.results20, go_sem]) rfl ⟨_, rfl, ?_, hB3.setCell (Nat.le_refl _) _⟩
  rw [← u64s_set]
  exact (World.ownsRow.stored HO.out k _).1

set_option maxRecDepth 100000 in
set_option maxHeartbeats 1000000 in
theorem pdraw_is (xs : List Nat) (i : Int) (n : Nat) (A : Option Addr) (c : Nat) (w : World) (hr : Row w w.heap.size A (u64s xs)) (hl : xs.length ≤ 1000000) (hx : ∀ x ∈ xs, x ≤ 18446744073709551615) :
    Calls Try.prog 8 #[.slice A xs.length c, .int .i64 i, .int .u64 (n : Int)] w fun e w' => Lists w (pdrawn xs i n) e w' := by
  by_cases h : NoPurse xs i
  · rw [pdrawn_no n h]
    have k1 := phas_no xs A c i w h
    clear h
    go_enter Try.func8, Try.ntmps8
    go_wp2_with (go_at_call 11; refine k1.mono ?_; rintro e w1 ⟨rfl, rfl⟩)
    refine bodyPost_ret (v := .tuple #[.slice none 0 0, .int .i64 170]) (by simp [results, Try.results8, go_sem]) rfl (Lists.none 170 (Below.refl _ _))
  · obtain ⟨k, rfl, hk⟩ := purse_at h
    have k1 := phas_ok xs w.heap.size A c k w hr hk
    have hxk := hx xs[k] (List.getElem_mem hk)
    by_cases hlt : xs[k] < n
    · rw [pdrawn_less hk hlt]
      obtain ⟨x, hx⟩ : ∃ x, xs[k] = x := ⟨_, rfl⟩
      rw [hx] at k1 hlt hxk
      have k2 := money_sub_under (x : Int) (n : Int) w (by omega)
      clear hx h hlt
      go_enter Try.func8, Try.ntmps8
      go_wp2_with (first
        | (go_at_call 11; refine k1.mono ?_; clear k1; rintro e w1 ⟨rfl, rfl⟩)
        | (go_at_call 19; refine k2.mono ?_; clear k2; rintro e w1 ⟨rfl, rfl⟩))
      refine bodyPost_ret (v := .tuple #[.slice none 0 0, .int .i64 171]) (by simp [results, Try.results8, go_sem]) rfl (Lists.none 171 (Below.refl _ _))
    · rw [pdrawn_ok hk hlt]
      have k3 := with_is xs w.heap.size A c k (xs[k] - n) w hr hk hl
      obtain ⟨x, hx⟩ : ∃ x, xs[k] = x := ⟨_, rfl⟩
      rw [hx] at k1 k3 hlt hxk ⊢
      have k2 := money_sub_ok (x : Int) (n : Int) w (by omega) (by omega) (by omega)
      obtain ⟨y, hy⟩ : ∃ y, x - n = y := ⟨_, rfl⟩
      rw [show (x : Int) - (n : Int) = (y : Int) by omega] at k2
      rw [hy] at k3 ⊢
      clear hx h hlt hy
      go_enter Try.func8, Try.ntmps8
      go_wp2_with (first
        | (go_at_call 11; refine k1.mono ?_; clear k1; rintro e w1 ⟨rfl, rfl⟩)
        | (go_at_call 19; refine k2.mono ?_; clear k2; rintro e w1 ⟨rfl, rfl⟩)
        | (go_at_call 20; refine k3.mono ?_; clear k3; rintro e w2 ⟨v, rfl, hown, hb2⟩))
      refine bodyPost_ret (v := .tuple #[v, .int .i64 0]) (by simp [results, Try.results8, go_sem]) rfl (Lists.own hown hb2)

set_option maxRecDepth 100000 in
set_option maxHeartbeats 1000000 in
theorem ppay_is (xs : List Nat) (i : Int) (n : Nat) (A : Option Addr) (c : Nat) (w : World) (hr : Row w w.heap.size A (u64s xs)) (hl : xs.length ≤ 1000000) (hx : ∀ x ∈ xs, x ≤ 18446744073709551615) (hn : n ≤ 18446744073709551615) :
    Calls Try.prog 9 #[.slice A xs.length c, .int .i64 i, .int .u64 (n : Int)] w fun e w' => Lists w (ppaid xs i n) e w' := by
  by_cases h : NoPurse xs i
  · rw [ppaid_no n h]
    have k1 := phas_no xs A c i w h
    clear h
    go_enter Try.func9, Try.ntmps9
    go_wp2_with (go_at_call 11; refine k1.mono ?_; rintro e w1 ⟨rfl, rfl⟩)
    refine bodyPost_ret (v := .tuple #[.slice none 0 0, .int .i64 170]) (by simp [results, Try.results9, go_sem]) rfl (Lists.none 170 (Below.refl _ _))
  · obtain ⟨k, rfl, hk⟩ := purse_at h
    have k1 := phas_ok xs w.heap.size A c k w hr hk
    have hxk := hx xs[k] (List.getElem_mem hk)
    by_cases hlt : 4611686018427387904 < xs[k] + n
    · rw [ppaid_over hk hlt]
      obtain ⟨x, hx⟩ : ∃ x, xs[k] = x := ⟨_, rfl⟩
      rw [hx] at k1 hlt hxk
      by_cases ho : x + n ≤ 18446744073709551615
      · have k2 := money_add_ok (x : Int) (n : Int) w (by omega) (by omega) (by omega)
        obtain ⟨s, hs⟩ : ∃ s, x + n = s := ⟨_, rfl⟩
        rw [show (x : Int) + (n : Int) = (s : Int) by omega] at k2
        have hd : decide ((4611686018427387904 : Int) < (s : Int)) = true := decide_eq_true (by omega)
        clear hx h hlt hs ho
        go_enter Try.func9, Try.ntmps9
        go_wp2_with (first
          | (go_at_call 11; refine k1.mono ?_; clear k1; rintro e w1 ⟨rfl, rfl⟩)
          | (go_at_call 21; refine k2.mono ?_; clear k2; rintro e w1 ⟨rfl, rfl⟩))
        refine bodyPost_ret (v := .tuple #[.slice none 0 0, .int .i64 10]) (by simp [results, Try.results9, go_sem]) rfl (Lists.none 10 (Below.refl _ _))
      · have k2 := money_add_over (x : Int) (n : Int) w (by omega) (by omega) (by omega) (by omega) (by omega)
        clear hx h hlt ho
        go_enter Try.func9, Try.ntmps9
        go_wp2_with (first
          | (go_at_call 11; refine k1.mono ?_; clear k1; rintro e w1 ⟨rfl, rfl⟩)
          | (go_at_call 21; refine k2.mono ?_; clear k2; rintro e w1 ⟨rfl, rfl⟩))
        refine bodyPost_ret (v := .tuple #[.slice none 0 0, .int .i64 10]) (by simp [results, Try.results9, go_sem]) rfl (Lists.none 10 (Below.refl _ _))
    · rw [ppaid_ok hk hlt]
      have k3 := with_is xs w.heap.size A c k (xs[k] + n) w hr hk hl
      obtain ⟨x, hx⟩ : ∃ x, xs[k] = x := ⟨_, rfl⟩
      rw [hx] at k1 k3 hlt hxk ⊢
      have k2 := money_add_ok (x : Int) (n : Int) w (by omega) (by omega) (by omega)
      obtain ⟨s, hs⟩ : ∃ s, x + n = s := ⟨_, rfl⟩
      rw [show (x : Int) + (n : Int) = (s : Int) by omega] at k2
      have hd : decide ((4611686018427387904 : Int) < (s : Int)) = false := decide_eq_false (by omega)
      rw [hs] at k3 ⊢
      clear hx h hlt hs
      go_enter Try.func9, Try.ntmps9
      go_wp2_with (first
        | (go_at_call 11; refine k1.mono ?_; clear k1; rintro e w1 ⟨rfl, rfl⟩)
        | (go_at_call 21; refine k2.mono ?_; clear k2; rintro e w1 ⟨rfl, rfl⟩)
        | (go_at_call 20; refine k3.mono ?_; clear k3; rintro e w2 ⟨v, rfl, hown, hb2⟩))
      refine bodyPost_ret (v := .tuple #[v, .int .i64 0]) (by simp [results, Try.results9, go_sem]) rfl (Lists.own hown hb2)

set_option maxRecDepth 100000 in
set_option maxHeartbeats 1000000 in
theorem pmove_is (xs : List Nat) (i j : Int) (n : Nat) (A : Option Addr) (c : Nat) (w : World) (hr : Row w w.heap.size A (u64s xs)) (hl : xs.length ≤ 1000000) (hx : ∀ x ∈ xs, x ≤ 18446744073709551615) (hn : n ≤ 18446744073709551615) :
    Calls Try.prog 10 #[.slice A xs.length c, .int .i64 i, .int .i64 j, .int .u64 (n : Int)] w fun e w' => Lists w (pmoved xs i j n) e w' := by
  by_cases h : NoPurse xs j
  · rw [pmoved_no n h]
    have k1 := phas_no xs A c j w h
    clear h hx
    go_enter Try.func10, Try.ntmps10
    go_wp2_with (go_at_call 11; refine k1.mono ?_; rintro e w1 ⟨rfl, rfl⟩)
    refine bodyPost_ret (v := .tuple #[.slice none 0 0, .int .i64 170]) (by simp [results, Try.results10, go_sem]) rfl (Lists.none 170 (Below.refl _ _))
  · obtain ⟨k, rfl, hk⟩ := purse_at h
    have k1 := phas_ok xs w.heap.size A c k w hr hk
    have k2 := pdraw_is xs i n A c w hr hl hx
    have ha := pdrawn_answer xs i n
    obtain ⟨x, hxk⟩ : ∃ x, xs[k] = x := ⟨_, rfl⟩
    rw [hxk] at k1
    by_cases hd : (pdrawn xs i n).2 = 0
    · rw [pmoved_paid h hd]
      have k3 : ∀ A c (u : World), Row u u.heap.size A (u64s (pdrawn xs i n).1) → Calls Try.prog 9 #[.slice A (pdrawn xs i n).1.length c, .int .i64 (k : Int), .int .u64 (n : Int)] u fun e w' => Lists u (ppaid (pdrawn xs i n).1 (k : Int) n) e w' := fun A c u hr => by
        rcases ha with ⟨_, h1⟩ | ⟨h1, _, h3⟩
        · omega
        · exact ppay_is _ _ n A c u hr (by omega) (h3 hx) hn
      obtain ⟨r, hr2⟩ : ∃ r, pdrawn xs i n = r := ⟨_, rfl⟩
      rw [hr2] at hd k2 k3 ⊢
      obtain ⟨l, y⟩ := r
      obtain rfl : y = 0 := hd
      obtain ⟨q, hq⟩ : ∃ q, ppaid l (k : Int) n = q := ⟨_, rfl⟩
      simp only [hq] at k3 ⊢
      have K3 := Lib.hid k3
      clear k3 hr2 ha h hx hxk hk hq
      go_enter Try.func10, Try.ntmps10
      go_wp2_with (first
        | (go_at_call 11; refine k1.mono ?_; clear k1; rintro e w1 ⟨rfl, rfl⟩)
        | (go_at_call 8; refine k2.mono ?_; clear k2; rintro e w2 ⟨A2, c2, rfl, hc2, hm2, hz2, hr2, hb2⟩)
        | (go_at_call 9; refine (K3.out A2 c2 w2 hr2).mono ?_; rintro e w3 ⟨A3, c3, rfl, hc3, hm3, hz3, hr3, hb3⟩))
      refine bodyPost_ret (v := .tuple #[.slice A3 q.1.length c3, .int .i64 (q.2 : Int)]) (by simp [results, Try.results10, go_sem]) rfl ⟨A3, c3, rfl, hc3, hm3, hz3, hr3, Below.then hb2 hb3⟩
    · rw [pmoved_not h hd]
      have hs := ha.small
      obtain ⟨r, hr2⟩ : ∃ r, pdrawn xs i n = r := ⟨_, rfl⟩
      rw [hr2] at hd hs k2 ⊢
      obtain ⟨l, y⟩ := r
      simp only at hd hs k2 ⊢
      have hy0 : ((y : Int) == 0) = false := by simp; omega
      have hy1 : ((y : Int) != 0) = true := by simp; omega
      clear ha h hx hxk hk hd hs hr2
      go_enter Try.func10, Try.ntmps10
      go_wp2_with (first
        | (go_at_call 11; refine k1.mono ?_; clear k1; rintro e w1 ⟨rfl, rfl⟩)
        | (go_at_call 8; refine k2.mono ?_; clear k2; rintro e w2 ⟨A2, c2, rfl, hc2, hm2, hz2, hr2, hb2⟩))
      refine bodyPost_ret (v := .tuple #[.slice none 0 0, .int .i64 (y : Int)]) (by simp [results, Try.results10, go_sem]) rfl (Lists.none y hb2)
end Go.Proofs.Ytkophckfmdimbaa
