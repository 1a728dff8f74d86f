/- Lists of whole numbers put together (slices.Concat), sorted (slices.Sort), with what stands twice left out (slices.Compact). By contracts. -/
import Derived.Test.YtmpkhjbfanbfiaaLisA
namespace Go.Proofs.Ytmpkhjbfanbfiaa
open Go.RowKit Go.Shelf Go.Sort
set_option linter.unusedVariables false
set_option linter.unusedSimpArgs false

/-- A list, where it lies, the room behind it: a slice. -/
structure Sl where
  l : List Int
  A : Option Addr
  c : Nat
def Sl.val (s : Sl) : Value := .slice s.A s.l.length s.c
def flat (ls : List Sl) : List Int := ls.flatMap Sl.l
theorem flat_take_succ {ls : List Sl} {k : Nat} (hk : k < ls.length) : flat (ls.take (k + 1)) = flat (ls.take k) ++ (ls[k]).l := by
  unfold flat
  rw [List.take_succ_eq_append_getElem hk, List.flatMap_append]
  simp
theorem flat_take_le (ls : List Sl) (k : Nat) : (flat (ls.take k)).length ≤ (flat ls).length := by
  have h : flat ls = flat (ls.take k) ++ flat (ls.drop k) := by
    unfold flat
    rw [← List.flatMap_append, List.take_append_drop]
  rw [h, List.length_append]
  omega
theorem slice_info : (Try.prog.info? 22).map (fun i => (i.zero, i.size, i.bytes)) = some (some (.slice none 0 0), 1, 24) := by kernel_rfl

set_option maxRecDepth 100000 in
set_option maxHeartbeats 2000000 in
/-- Lists put together, in memory of their own. -/
theorem concat_is (ls : List Sl) (S : Nat → Prop) (A : Option Addr) (c : Nat) (w : World) (hx : Lie w S A (ls.map Sl.val)) (hn : ls.length ≤ 1000)
    (hl : ∀ s ∈ ls, ∃ S', Lie w S' s.A (ivals s.l)) (hnil : ∀ s ∈ ls, s.A = none → s.c = 0) (htot : (flat ls).length ≤ 1099511627776) :
    Calls Try.prog 32 #[.slice A ls.length c] w fun e w' => ∃ v, e = .returned v ∧ w'.ownsRow w.heap.size 3 1 v (flat ls).length (ivals (flat ls)) ∧ Below w.heap.size w w' := by
  obtain ⟨i0, hi0, hz0, hz1, hz2⟩ := info_parts int_info
  have HL := Lib.hid hl
  have HNIL := Lib.hid hnil
  have HX := Lib.hid hx
  clear hl hnil hx
  have kg := fun (n : Nat) (w : World) (h : n ≤ 1099511627776) => grow_is n w h
  go_enter Try.func32, Try.ntmps32
  go_wp2
  go_loop [3, 11] (fun s i => ∃ k m : Nat, k ≤ ls.length ∧ i = .int .i64 k ∧ s = .int .i64 m ∧ Hid ((flat (ls.take k)).length = m)) (fun _ i => ls.length - (intOf i).toNat)
  case atStart => exact ⟨0, 0, Nat.zero_le _, rfl, rfl, Lib.hid rfl⟩
  case round =>
    obtain ⟨k, m, hk, rfl, rfl, HM⟩ := hrel
    by_cases hlt : k < ls.length
    · obtain ⟨a, rfl, hb, hc⟩ := HX.out k (ls[k]).val (by simp [hlt])
      have h1 := flat_take_succ hlt
      have h2 := flat_take_le ls (k + 1)
      have h3 : (flat (ls.take (k + 1))).length = m + (ls[k]).l.length := by rw [h1, List.length_append, HM.out]
      rw [h3] at h2
      obtain ⟨q, hq⟩ : ∃ q, (ls[k]).l.length = q := ⟨_, rfl⟩
      unfold Sl.val at hc
      rw [hq] at hc h2 h3
      have H3 := Lib.hid h3
      clear h1 h3 hq
      go_wp2
      go_round
      case rel => exact ⟨k + 1, m + q, by omega, by go_num, by go_num, H3⟩
      case measure => simp [intOf]; omega
    · obtain rfl : k = ls.length := by omega
      have hm := HM.out
      rw [List.take_length] at hm
      have hmle : m ≤ 1099511627776 := by omega
      clear hm
      go_wp2_with fail
      refine (kg m w hmle).mono ?_
      clear kg
      rintro e w1 ⟨v1, rfl, hown1, hb1⟩
      go_wp2
      go_loopw [6, 27] (fun nv iv wr => ∃ (k : Nat) (vo : Value), k ≤ ls.length ∧ iv = .int .i64 (k : Int) ∧ vo = nv ∧ wr.ownsRow w.heap.size 3 1 vo (flat (ls.take k)).length (ivals (flat (ls.take k))) ∧ Below w.heap.size w wr) (fun _ iv _ => ls.length - (intOf iv).toNat)
      case atStart => exact ⟨0, _, Nat.zero_le _, rfl, rfl, hown1, hb1⟩
      case round =>
        obtain ⟨k, vo, hk2, rfl, rfl, hown, hB⟩ := hrel
        clear hown1 hb1
        by_cases hlt : k < ls.length
        · obtain ⟨S', hs⟩ := HL.out _ (List.getElem_mem hlt)
          have hnl := HNIL.out _ (List.getElem_mem hlt)
          obtain ⟨a, ea, hb, hc⟩ := HX.out k (ls[k]).val (by simp [hlt])
          have hcr : wr.cell? (a.add k) = some (ls[k]).val := (hB.cell (World.block_lt_of_cell? w _ hc)).trans hc
          have hsr : Lie wr S' (ls[k]).A (ivals (ls[k]).l) := fun j v hv => by
            obtain ⟨a', h1, h2, h3⟩ := hs j v hv
            exact ⟨a', h1, h2, (hB.cell (World.block_lt_of_cell? w _ h3)).trans h3⟩
          have h1 := flat_take_succ hlt
          have h2 := flat_take_le ls (k + 1)
          rw [h1, List.length_append] at h2
          have H1 := Lib.hid h1
          subst ea
          unfold Sl.val at hcr
          clear h1 hc hs
          obtain ⟨s, es⟩ : ∃ s, ls[k] = s := ⟨_, rfl⟩
          rw [es] at hcr hsr hnl h2 H1
          clear es
          rcases s with ⟨l, A', c'⟩
          simp only at hcr hsr hnl h2 H1
          rcases A' with _ | ad
          · obtain rfl := hnl rfl
            have hl0 : l = [] := List.eq_nil_of_length_eq_zero (by have := ivals_len l; rw [hsr.none_nil] at this; simpa using this.symm)
            subst hl0
            rw [List.length_nil] at hcr
            go_wp2_with (at_builtin; refine wpList_append_own_none rfl _ _ 22 rfl w.heap.size 3 i0 1 Try.underlying22 hi0 _ _ _ rfl hown rfl ?_)
            go_roundw
            case rel =>
              refine ⟨k + 1, _, by omega, by go_num, rfl, ?_, hB⟩
              rw [H1.out, List.append_nil]
              exact hown
            case measure => simp [intOf]; omega
          · have hsrc := hsr.src
            have HS := Lib.hid hsrc
            clear hsrc hsr hnl
            go_wp2_with (at_builtin; refine wpList_append_own _ rfl _ _ 22 rfl w.heap.size 3 i0 (.int .i64 0) 1 8 Try.underlying22 hi0 hz0 hz1 hz2 rfl (by decide) _ _ _ rfl hown ad l.length c' (ivals l) rfl ?c1 ?c2 ?c3 ?c4 ?c5 ?c6 ?_)
            case c1 => simp [ivals_len]
            case c2 => exact HS.out
            case c3 => exact ivals_one
            case c4 => simp only [maxLen]; omega
            case c5 => omega
            case c6 => exact hB.size
            intro v' w4 hown' hgrow _
            have hb' : Below w.heap.size w w4 := hB.grown hgrow hB.size (fun k hk => (hown.lt k hk).1)
            clear hgrow hown
            go_wp2
            go_roundw
            case rel =>
              refine ⟨k + 1, _, by omega, by go_num, rfl, ?_, hb'⟩
              rw [H1.out, List.length_append, ivals_append]
              exact hown'
            case measure => simp [intOf]; omega
        · obtain rfl : k = ls.length := by omega
          rw [List.take_length] at hown
          go_wp2
          refine bodyPost_ret (v := vo) (by simp [results, Try.results32, go_sem]) rfl ⟨_, rfl, hown, hB⟩

/-- Sorted where it lies, a slice of the call's own. -/
theorem isort_is (l : List Int) (base : Nat) (v : Value) (w : World) (hown : w.ownsRow base 3 1 v l.length (ivals l)) (hl : l.length ≤ 1099511627776) :
    Calls Try.prog 30 #[v] w fun e w' => e = .returned (.tuple #[]) ∧ w'.ownsRow base 3 1 v l.length (ivals (l.mergeSort fun x y => decide (x ≤ y))) ∧ (∀ B, B ≤ base → B ≤ w.heap.size → Below B w w') := by
  have hp := sorted_perm l
  have hlen := hp.length_eq
  rcases hown.2 with ⟨rfl, h0⟩ | ⟨g, cap, cur, rfl, hbg, hg, hnc, hcm, hcs, htake⟩
  · have : l = [] := List.eq_nil_of_length_eq_zero h0
    subst this
    refine (Any.slices_Sort_int_none sort_lays none 0 w).mono ?_
    rintro e w' ⟨rfl, rfl⟩
    exact ⟨rfl, by simpa using hown, fun B _ _ => Below.refl _ _⟩
  · have hH := holds_of_blockI hg (ss := l) (by have := htake; rw [Nat.mul_one] at this; exact this)
    have hlt : g < w.heap.size := (Array.getElem?_eq_some_iff.1 hg).1
    refine (Any.slices_Sort_int sort_lays g 0 cap l w hH hlt (by omega)).mono ?_
    rintro e w' ⟨rfl, n, os, rfl⟩
    have ho := ownsRow_sortedI (n := n) (os := os) (ss := l) (ts := l.mergeSort fun x y => decide (x ≤ y)) hlen hbg hg hnc hcm hcs
    refine ⟨rfl, ho, fun B hB hBw => ?_⟩
    have hgr := grownBy_sortedI (n := n) (os := os) (l.mergeSort fun x y => decide (x ≤ y)).toArray (w := w) (g := g)
    exact below_of_grown hgr (Nat.le_trans hB hbg) hBw

/-- How many are left where what stands twice is left out. -/
theorem icompact_is (l : List Int) (base : Nat) (v : Value) (w : World) (hown : w.ownsRow base 3 1 v l.length (ivals l)) (hl : l.length ≤ 1099511627776) :
    Calls Try.prog 31 #[v] w fun e w' => (∃ A c, e = .returned (.slice A (Lib.compact l).length c)) ∧ (∀ B, B ≤ base → B ≤ w.heap.size → Below B w w') := by
  rcases hown.2 with ⟨rfl, h0⟩ | ⟨g, cap, cur, rfl, hbg, hg, hnc, hcm, hcs, htake⟩
  · have : l = [] := List.eq_nil_of_length_eq_zero h0
    subst this
    refine (Any.slices_Compact_int_empty compact_lays none 0 w).mono ?_
    rintro e w' ⟨rfl, rfl⟩
    exact ⟨⟨none, 0, rfl⟩, fun B _ _ => Below.refl _ _⟩
  · have hH := holds_of_blockI hg (ss := l) (by have := htake; rw [Nat.mul_one] at this; exact this)
    refine (Any.slices_Compact_int compact_lays g 0 cap l w hH (by omega) hnc).mono ?_
    rintro e w' ⟨rfl, q, rfl⟩
    refine ⟨⟨_, _, rfl⟩, fun B hB hBw => ?_⟩
    have hgr := grownBy_sortedI (n := q) (os := #[]) (Lib.compact l ++ List.replicate (l.length - (Lib.compact l).length) 0).toArray (w := w) (g := g)
    rw [grow_empty] at hgr
    exact below_of_grown hgr (Nat.le_trans hB hbg) hBw
end Go.Proofs.Ytmpkhjbfanbfiaa
