/- Layer 16 (line): the document's Push, Pop, Drop. By contracts. -/
import Derived.Test.YtmpkhjbfanbfiaaLinR
import Derived.Laws.AppendOwnNone
import Derived.Deep.AppendLies
namespace Go.Proofs.Ytmpkhjbfanbfiaa
open Go.RowKit Go.Shelf
set_option linter.unusedVariables false
set_option linter.unusedSimpArgs false

/-- A list of the document's: its slice, whose memory is not that of block g. -/
structure DocAt (w : World) (g : Nat) (A : Option Addr) (c : Nat) (l : List Int) : Prop where
  le : l.length ≤ c
  cap : c ≤ maxLen
  lie : Lie w (· ≠ g) A (ivals l)
  bare : A = none → c = 0
theorem DocAt.below {w w' : World} {g : Nat} {A : Option Addr} {c : Nat} {l : List Int} (h : DocAt w g A c l) (hb : Below w.heap.size w w') : DocAt w' g A c l := ⟨h.le, h.cap, h.lie.below hb, h.bare⟩
theorem DocAt.turned {w w' : World} {g : Nat} {A : Option Addr} {c : Nat} {l : List Int} (h : DocAt w g A c l) (hb : w.grownBy w' (some g)) : DocAt w' g A c l :=
  ⟨h.le, h.cap, h.lie.grown hb (fun k hk e => hk (Option.some.inj e)), h.bare⟩
theorem DocAt.own {w : World} {g base : Nat} {v : Value} {l : List Int} (h : w.ownsRow base 3 1 v l.length (ivals l)) (hg : g < base) : ∃ A c, v = .slice A l.length c ∧ DocAt w g A c l := by
  obtain ⟨A, c, rfl, h1, h2, h3, h4⟩ := Lie.own h
  refine ⟨A, c, rfl, h1, h2, h4.imp (fun k _ hk => by omega), ?_⟩
  intro hA
  subst hA
  rcases h.2 with ⟨h5, _⟩ | ⟨g', cap, cur, h5, _⟩
  · injection h5 with _ _ h6
  · cases h5

set_option maxRecDepth 100000 in
theorem rpush_below (g : Nat) (A : Option Addr) (c : Nat) (l : List Int) (x : Int) (w : World) (h : DocAt w g A c l) (hx : x < 0) :
    Calls Try.prog 9 #[.slice A l.length c, .int .i64 x] w fun e w' => e = .returned (.tuple #[.slice A l.length c, .int .i64 2]) ∧ w = w' := by
  clear h
  go_enter Try.func9, Try.ntmps9
  go_wp2
  refine bodyPost_ret (v := .tuple #[.slice A l.length c, .int .i64 2]) (by simp [results, Try.results9, go_sem]) rfl ⟨rfl, rfl⟩
set_option maxRecDepth 100000 in
theorem rpush_twice (g : Nat) (A : Option Addr) (c : Nat) (l : List Int) (x : Int) (w : World) (h : DocAt w g A c l) (hx : ¬ x < 0) (hm : x ∈ l) :
    Calls Try.prog 9 #[.slice A l.length c, .int .i64 x] w fun e w' => e = .returned (.tuple #[.slice A l.length c, .int .i64 231]) ∧ w = w' := by
  rcases fnd_cases l x with ⟨h0, _⟩ | ⟨k, hk, hkx, hi, _⟩
  · exact absurd hm h0
  have k1 := rfind_is l x _ A c w h.lie (Nat.le_trans h.le h.cap)
  rw [hi] at k1
  clear h hm hkx hi
  go_enter Try.func9, Try.ntmps9
  go_wp2_with (go_at_call 14; refine k1.mono ?_; clear k1; rintro e w1 ⟨rfl, rfl⟩)
  refine bodyPost_ret (v := .tuple #[.slice A l.length c, .int .i64 231]) (by simp [results, Try.results9, go_sem]) rfl ⟨rfl, rfl⟩
set_option maxRecDepth 100000 in
theorem rpush_full (g : Nat) (A : Option Addr) (c : Nat) (l : List Int) (x : Int) (w : World) (h : DocAt w g A c l) (hx : ¬ x < 0) (hm : x ∉ l) (hf : 256 ≤ l.length) :
    Calls Try.prog 9 #[.slice A l.length c, .int .i64 x] w fun e w' => e = .returned (.tuple #[.slice A l.length c, .int .i64 161]) ∧ w = w' := by
  have k1 := rfind_is l x _ A c w h.lie (Nat.le_trans h.le h.cap)
  rw [fnd_miss (before_of hm _)] at k1
  clear h hm
  go_enter Try.func9, Try.ntmps9
  go_wp2_with (go_at_call 14; refine k1.mono ?_; clear k1; rintro e w1 ⟨rfl, rfl⟩)
  refine bodyPost_ret (v := .tuple #[.slice A l.length c, .int .i64 161]) (by simp [results, Try.results9, go_sem]) rfl ⟨rfl, rfl⟩
set_option maxRecDepth 100000 in
set_option maxHeartbeats 1000000 in
theorem rpush_ok (g : Nat) (A : Option Addr) (c : Nat) (l : List Int) (x : Int) (w : World) (h : DocAt w g A c l) (hx : ¬ x < 0) (hm : x ∉ l) (hf : ¬ 256 ≤ l.length) :
    Calls Try.prog 9 #[.slice A l.length c, .int .i64 x] w fun e w' => ∃ v, e = .returned (.tuple #[v, .int .i64 0]) ∧ w'.ownsRow w.heap.size 3 1 v (l ++ [x]).length (ivals (l ++ [x])) ∧ Below w.heap.size w w' := by
  obtain ⟨i0, hi0, hz0, hz1, hz2⟩ := info_parts int_info
  have k1 := rfind_is l x _ A c w h.lie (Nat.le_trans h.le h.cap)
  rw [fnd_miss (before_of hm _)] at k1
  have hlen : (l ++ [x]).length = l.length + 1 := by simp
  rw [hlen, ivals_snoc]
  clear hm hlen
  rcases A with _ | a
  · have h0 := h.lie.none_nil
    have : l = [] := List.eq_nil_of_length_eq_zero (by have := ivals_len l; rw [h0] at this; simpa using this.symm)
    subst this
    obtain rfl := h.bare rfl
    clear h h0
    rw [List.length_nil] at k1 ⊢
    go_enter Try.func9, Try.ntmps9
    go_wp2_with (first
      | (go_at_call 14; refine k1.mono ?_; clear k1; rintro e w1 ⟨rfl, rfl⟩)
      | (at_builtin; refine wpList_append_own_none rfl _ _ 22 rfl w.heap.size 3 i0 1 Try.underlying22 hi0 (.slice none 0 0) 0 [] rfl (World.ownsRow_nil _ _ _ _) rfl ?_)
      | (at_builtin; refine wpList_append_own _ rfl _ _ 22 rfl w.heap.size 3 i0 (.int .i64 0) 1 8 Try.underlying22 hi0 hz0 hz1 hz2 rfl (by decide) (.slice none 0 0) 0 [] rfl (World.ownsRow_nil _ _ _ _) ⟨w.heap.size, 0, none⟩ 1 1 [.int .i64 x] rfl rfl ?c1 ?c2 ?c3 ?c4 ?c5 ?_))
    case c1 => exact new_first w _ _
    case c2 => intro u hu; simp at hu; subst hu; rfl
    case c3 => simp only [maxLen]; omega
    case c4 => omega
    case c5 => simp
    intro v' w4 hown' hgrow _
    have hb' : Below w.heap.size w w4 := ((Below.refl _ w).alloc (Nat.le_refl _) _).grown hgrow (by simp) (fun k hk => by cases hk)
    clear hgrow
    go_wp2
    refine bodyPost_ret (v := .tuple #[v', .int .i64 0]) (by simp [results, Try.results9, go_sem]) rfl ⟨_, rfl, hown', hb'⟩
  · have hsrc := h.lie.src
    have HS := Lib.hid hsrc
    clear hsrc h
    go_enter Try.func9, Try.ntmps9
    go_wp2_with (first
      | (go_at_call 14; refine k1.mono ?_; clear k1; rintro e w1 ⟨rfl, rfl⟩)
      | (at_builtin; refine wpList_append_own _ rfl _ _ 22 rfl w.heap.size 3 i0 (.int .i64 0) 1 8 Try.underlying22 hi0 hz0 hz1 hz2 rfl (by decide) (.slice none 0 0) 0 [] rfl (World.ownsRow_nil _ _ _ _) a l.length c (ivals l) rfl ?a1 ?a2 ?a3 ?a4 ?a5 ?a6 ?_))
    case a1 => simp [ivals_len]
    case a2 => exact HS.out
    case a3 => exact ivals_one
    case a4 => simp only [maxLen]; omega
    case a5 => omega
    case a6 => simp
    intro v1 w1 hown1 hgrow1 _
    have hb1 : Below w.heap.size w w1 := (Below.refl _ w).grown hgrow1 (Nat.le_refl _) (fun k hk => by cases hk)
    clear hgrow1
    go_wp2_with (at_builtin; refine wpList_append_own _ rfl _ _ 22 rfl w.heap.size 3 i0 (.int .i64 0) 1 8 Try.underlying22 hi0 hz0 hz1 hz2 rfl (by decide) _ _ _ rfl (hown1.alloc _) ⟨w1.heap.size, 0, none⟩ 1 1 [.int .i64 x] rfl rfl ?c1 ?c2 ?c3 ?c4 ?c5 ?_)
    case c1 => exact new_first w1 _ _
    case c2 => intro u hu; simp at hu; subst hu; rfl
    case c3 => simp only [maxLen]; omega
    case c4 => omega
    case c5 => have := hb1.size; simp; omega
    intro v' w4 hown' hgrow _
    have hb' : Below w.heap.size w w4 := (hb1.alloc hb1.size _).grown hgrow (by have := hb1.size; simp; omega) (fun k hk => (hown1.lt k hk).1)
    clear hgrow hown1
    go_wp2
    refine bodyPost_ret (v := .tuple #[v', .int .i64 0]) (by simp [results, Try.results9, go_sem]) rfl ⟨_, rfl, hown', hb'⟩
theorem take_min_drop (l : List Int) {k m : Nat} (hk : k < l.length) (hm : ¬ k < m) : (l.take (k + 1)).drop m = (l.take k).drop m ++ [l[k]] := by
  rw [List.take_succ_eq_append_getElem hk, List.drop_append_of_le_length (by rw [List.length_take]; omega)]
theorem take_low (l : List Int) {k m : Nat} (h : ¬ k < m) : l.take (min (k + 1) m) = l.take (min k m) := by
  rw [Nat.min_eq_right (by omega), Nat.min_eq_right (by omega)]
theorem take_high (l : List Int) {k m : Nat} (hk : k < l.length) (h : k < m) : l.take (min (k + 1) m) = l.take (min k m) ++ [l[k]] := by
  rw [Nat.min_eq_left (by omega), Nat.min_eq_left (by omega), List.take_succ_eq_append_getElem hk]
theorem drop_high (l : List Int) {k m : Nat} (h : k ≤ m) : (l.take k).drop m = [] := List.drop_eq_nil_of_le (by rw [List.length_take]; omega)
theorem take_end (l : List Int) (n : Nat) : l.take (min l.length n) = l.take n := by
  rw [Nat.min_comm]
  rcases Nat.le_total n l.length with h | h
  · rw [Nat.min_eq_left h]
  · rw [Nat.min_eq_right h, List.take_length, List.take_of_length_le h]

set_option maxRecDepth 100000 in
set_option maxHeartbeats 1000000 in
/-- Who goes, who stays. -/
theorem rpop_is (g : Nat) (A : Option Addr) (c : Nat) (l : List Int) (most : Int) (w : World) (h : DocAt w g A c l) (hl : l.length ≤ 1000000) :
    Calls Try.prog 11 #[.slice A l.length c, .int .i64 most] w fun e w' => ∃ v u, e = .returned (.tuple #[v, u]) ∧ w'.ownsRow w.heap.size 3 1 v (l.take most.toNat).length (ivals (l.take most.toNat)) ∧ w'.ownsRow w.heap.size 3 1 u (l.drop most.toNat).length (ivals (l.drop most.toNat)) ∧ Below w.heap.size w w' := by
  obtain ⟨i0, hi0, hz0, hz1, hz2⟩ := info_parts int_info
  have hr := h.lie
  clear h
  go_enter Try.func11, Try.ntmps11
  go_wp2
  go_loopw [6, 7, 8] (fun ov rv iv wr => ∃ (k : Nat) (vo vr : Value) (B2 : Nat), k ≤ l.length ∧ iv = .int .i64 (k : Int) ∧ vo = ov ∧ vr = rv ∧ (∀ b, vo.ownBlock = some b → b < B2) ∧ w.heap.size ≤ B2 ∧ B2 ≤ wr.heap.size ∧
      wr.ownsRow w.heap.size 3 1 vo (l.take (min k most.toNat)).length (ivals (l.take (min k most.toNat))) ∧ wr.ownsRow B2 3 1 vr ((l.take k).drop most.toNat).length (ivals ((l.take k).drop most.toNat)) ∧ Hid (k ≤ most.toNat → vr = .slice none 0 0) ∧ Below w.heap.size w wr) (fun _ _ iv _ => l.length - (intOf iv).toNat)
  case atStart => exact ⟨0, _, _, w.heap.size, Nat.zero_le _, rfl, rfl, rfl, (fun b hb => by cases hb), Nat.le_refl _, Nat.le_refl _, by have := World.ownsRow_nil w w.heap.size 3 1; simpa [ivals] using this, by have := World.ownsRow_nil w w.heap.size 3 1; simpa [ivals] using this, Lib.hid (fun _ => rfl), Below.refl _ _⟩
  case round =>
    obtain ⟨k, vo, vr, B2, hk, rfl, rfl, rfl, hvb, hB1, hB2, hown, hrest, hnil, hB⟩ := hrel
    have HVB := Lib.hid hvb
    clear hvb
    by_cases hlt : k < l.length
    · obtain ⟨a, rfl, hb, hc⟩ := hr.int hlt
      have hcr : wr.cell? (a.add k) = some (.int .i64 l[k]) := (hB.cell (World.block_lt_of_cell? w _ hc)).trans hc
      obtain ⟨y, hy⟩ : ∃ y, l[k] = y := ⟨_, rfl⟩
      have hnp : (l.take (min k most.toNat)).length ≤ l.length := by rw [List.length_take]; omega
      have hnq : ((l.take k).drop most.toNat).length ≤ l.length := by rw [List.length_drop, List.length_take]; omega
      obtain ⟨p, hp⟩ : ∃ p, l.take (min k most.toNat) = p := ⟨_, rfl⟩
      obtain ⟨q, hq⟩ : ∃ q, (l.take k).drop most.toNat = q := ⟨_, rfl⟩
      rw [hp] at hown hnp
      rw [hq] at hrest hnq
      by_cases hm : k < most.toNat
      · have e1 := take_high l hlt hm
        have e2 := drop_high l (k := k + 1) (m := most.toNat) (by omega)
        have hv0 := hnil.out (by omega)
        rw [hp] at e1
        rw [hy] at hcr e1
        have E1 := Lib.hid e1
        have E2 := Lib.hid e2
        subst hv0
        have hlt2 : (k : Int) < most := by omega
        clear e1 e2 hy hc hnil hrest hm hp hq
        go_wp2_with (at_builtin; refine wpList_append_own _ rfl _ _ 22 rfl w.heap.size 3 i0 (.int .i64 0) 1 8 Try.underlying22 hi0 hz0 hz1 hz2 rfl (by decide) _ _ _ rfl (hown.alloc _) ⟨wr.heap.size, 0, none⟩ 1 1 [.int .i64 y] rfl rfl ?c1 ?c2 ?c3 ?c4 ?c5 ?_)
        case c1 => exact new_first wr _ _
        case c2 => intro u hu; simp at hu; subst hu; rfl
        case c3 => simp only [maxLen]; omega
        case c4 => omega
        case c5 => have := hB.size; simp; omega
        intro v' w4 hown' hgrow _
        have hb' : Below w.heap.size w w4 := (hB.alloc hB.size _).grown hgrow (by have := hB.size; simp; omega) (fun k hk => (hown.lt k hk).1)
        clear hgrow hown
        go_wp2
        go_roundw
        case rel =>
          refine ⟨k + 1, _, _, w4.heap.size, by omega, by go_num, rfl, rfl, fun b hb => (hown'.lt b hb).2, hb'.size, Nat.le_refl _, ?_, ?_, Lib.hid (fun _ => rfl), hb'⟩
          · rw [E1.out, ivals_snoc, List.length_append]
            exact hown'
          · rw [E2.out]
            exact World.ownsRow_nil _ _ _ _
        case measure => simp [intOf]; omega
      · have e1 := take_low l hm
        have e2 := take_min_drop l hlt hm
        rw [hp] at e1
        rw [hq] at e2
        rw [hy] at hcr e2
        have E1 := Lib.hid e1
        have E2 := Lib.hid e2
        have hlt2 : ¬ (k : Int) < most := by omega
        have hkm : ¬ k + 1 ≤ most.toNat := by omega
        have HKM := Lib.hid hkm
        clear e1 e2 hy hc hnil hm hkm hp hq
        go_wp2_with (at_builtin; refine wpList_append_own _ rfl _ _ 22 rfl B2 3 i0 (.int .i64 0) 1 8 Try.underlying22 hi0 hz0 hz1 hz2 rfl (by decide) _ _ _ rfl (hrest.alloc _) ⟨wr.heap.size, 0, none⟩ 1 1 [.int .i64 y] rfl rfl ?d1 ?d2 ?d3 ?d4 ?d5 ?_)
        case d2 => first | rfl | (intro u hu; simp at hu; subst hu; rfl)
        case d3 => first | omega | (simp only [maxLen]; omega)
        case d4 => omega
        case d5 => first | omega | (simp; omega)
        intro v' w4 hrest' hgrow _
        have hb' : Below w.heap.size w w4 := (hB.alloc hB.size _).grown hgrow (by have := hB.size; simp; omega) (fun k hk => Nat.le_trans hB1 (hrest.lt k hk).1)
        have hown' := own_far (hown.alloc (.cells #[.int .i64 y] 3)) hgrow (fun b hb e => by have h1 := HVB.out b hb; have h2 := (hrest.lt b e).1; omega)
        have hsz : B2 ≤ w4.heap.size := by have := hgrow.size; simp at this; omega
        clear hgrow hown hrest
        go_wp2
        go_roundw
        case rel =>
          refine ⟨k + 1, _, _, B2, by omega, by go_num, rfl, rfl, HVB.out, hB1, hsz, ?_, ?_, Lib.hid (fun h => absurd h HKM.out), hb'⟩
          · rw [E1.out]
            exact hown'
          · rw [E2.out, ivals_snoc, List.length_append]
            exact hrest'
        case measure => simp [intOf]; omega
    · obtain rfl : k = l.length := by omega
      rw [take_end] at hown
      rw [List.take_length] at hrest
      have hrest2 := own_base hrest hB1
      clear hrest hnil
      go_wp2
      refine bodyPost_ret (v := .tuple #[vo, vr]) (by simp [results, Try.results11, go_sem]) rfl ⟨_, _, rfl, hown, hrest2, hB⟩

set_option maxRecDepth 100000 in
set_option maxHeartbeats 1000000 in
/-- Who stays. -/
theorem rdrop_is (g : Nat) (A : Option Addr) (c : Nat) (l : List Int) (x : Int) (w : World) (h : DocAt w g A c l) (hl : l.length ≤ 1000000) :
    Calls Try.prog 15 #[.slice A l.length c, .int .i64 x] w fun e w' => ∃ v, e = .returned v ∧ w'.ownsRow w.heap.size 3 1 v (without l x).length (ivals (without l x)) ∧ Below w.heap.size w w' := by
  obtain ⟨i0, hi0, hz0, hz1, hz2⟩ := info_parts int_info
  have hr := h.lie
  clear h
  go_enter Try.func15, Try.ntmps15
  go_wp2
  go_loopw [5, 6] (fun ov iv wr => ∃ (k : Nat) (vo : Value), k ≤ l.length ∧ iv = .int .i64 (k : Int) ∧ vo = ov ∧
      wr.ownsRow w.heap.size 3 1 vo (without (l.take k) x).length (ivals (without (l.take k) x)) ∧ Below w.heap.size w wr) (fun _ iv _ => l.length - (intOf iv).toNat)
  case atStart => exact ⟨0, _, Nat.zero_le _, rfl, rfl, World.ownsRow_nil _ _ _ _, Below.refl _ _⟩
  case round =>
    obtain ⟨k, vo, hk, rfl, rfl, hown, hB⟩ := hrel
    by_cases hlt : k < l.length
    · obtain ⟨a, rfl, hb, hc⟩ := hr.int hlt
      have hcr : wr.cell? (a.add k) = some (.int .i64 l[k]) := (hB.cell (World.block_lt_of_cell? w _ hc)).trans hc
      obtain ⟨y, hy⟩ : ∃ y, l[k] = y := ⟨_, rfl⟩
      have hn1 : (without (l.take k) x).length ≤ l.length := by
        have := without_len (l.take k) x
        rw [List.length_take] at this
        omega
      obtain ⟨p, hp⟩ : ∃ p, without (l.take k) x = p := ⟨_, rfl⟩
      rw [hp] at hown hn1
      by_cases hyx : y = x
      · have e1 := without_snoc_eq l (x := x) hlt (by rw [hy, hyx])
        rw [hp] at e1
        have E1 := Lib.hid e1
        rw [hy] at hcr
        clear e1 hy hc hp
        subst hyx
        go_wp2
        go_roundw
        case rel =>
          refine ⟨k + 1, _, by omega, by go_num, rfl, ?_, hB⟩
          rw [E1.out]
          exact hown
        case measure => simp [intOf]; omega
      · have e1 := without_snoc_ne l (x := x) hlt (by rw [hy]; exact hyx)
        rw [hp] at e1
        rw [hy] at hcr e1
        have E1 := Lib.hid e1
        clear e1 hy hc hp
        go_wp2_with (at_builtin; refine wpList_append_own _ rfl _ _ 22 rfl w.heap.size 3 i0 (.int .i64 0) 1 8 Try.underlying22 hi0 hz0 hz1 hz2 rfl (by decide) _ _ _ rfl (hown.alloc _) ⟨wr.heap.size, 0, none⟩ 1 1 [.int .i64 y] rfl rfl ?c1 ?c2 ?c3 ?c4 ?c5 ?_)
        case c1 => exact new_first wr _ _
        case c2 => intro u hu; simp at hu; subst hu; rfl
        case c3 => simp only [maxLen]; omega
        case c4 => omega
        case c5 => have := hB.size; simp; omega
        intro v' w4 hown' hgrow _
        have hb' : Below w.heap.size w w4 := (hB.alloc hB.size _).grown hgrow (by have := hB.size; simp; omega) (fun k hk => (hown.lt k hk).1)
        clear hgrow hown
        go_wp2
        go_roundw
        case rel =>
          refine ⟨k + 1, _, by omega, by go_num, rfl, ?_, hb'⟩
          rw [E1.out, ivals_snoc, List.length_append]
          exact hown'
        case measure => simp [intOf]; omega
    · obtain rfl : k = l.length := by omega
      rw [List.take_length] at hown
      go_wp2
      refine bodyPost_ret (v := vo) (by simp [results, Try.results15, go_sem]) rfl ⟨_, rfl, hown, hB⟩
end Go.Proofs.Ytmpkhjbfanbfiaa
