/- The reference of layer 4 (share): a sum shared out without a rest. By contracts. -/
import Derived.Test.YtcmfoioljnkcbaaShareD
import Derived.Test.YtcmfoioljnkcbaaRef4
namespace Go.Proofs.Ytcmfoioljnkcbaa
open Go.RowKit Go.Shelf
set_option linter.unusedVariables false

theorem spr_app (T W : Nat) (a b : List Nat) : ∀ r, spr T W r (a ++ b) = spr T W r a ++ spr T W (lft r a) b := by
  induction a with
  | nil => intro r; rfl
  | cons x a ih =>
    intro r
    show (if 0 < x ∧ 0 < r then (prt T W x + 1) :: spr T W (r - 1) (a ++ b) else prt T W x :: spr T W r (a ++ b)) = _
    by_cases h : 0 < x ∧ 0 < r
    · simp only [spr, lft, if_pos h]; rw [ih (r - 1)]; rfl
    · simp only [spr, lft, if_neg h]; rw [ih r]; rfl
theorem spr_zero (T W : Nat) (a : List Nat) : spr T W 0 a = a.map (prt T W) := by
  induction a with
  | nil => rfl
  | cons x a ih =>
    show (if 0 < x ∧ 0 < 0 then _ else prt T W x :: spr T W 0 a) = _
    rw [if_neg (by omega), ih]; rfl

/-- The first i parts as they are given, the others as they were. -/
def mid (T W r i : Nat) (ws : List Nat) : List Nat := spr T W r (ws.take i) ++ (ws.drop i).map (prt T W)
theorem mid_len (T W r i : Nat) (ws : List Nat) (h : i ≤ ws.length) : (mid T W r i ws).length = ws.length := by
  unfold mid
  rw [List.length_append, spr_len, List.length_map, List.length_take, List.length_drop]
  omega
theorem mid_zero (T W r : Nat) (ws : List Nat) : mid T W r 0 ws = ws.map (prt T W) := by simp [mid, spr]
theorem mid_get (T W r i : Nat) (ws : List Nat) (h : i < ws.length) : (mid T W r i ws)[i]? = some (prt T W ws[i]) := by
  unfold mid
  rw [List.getElem?_append_right (by rw [spr_len, List.length_take]; omega), spr_len, List.length_take, Nat.min_eq_left (by omega), Nat.sub_self]
  simp [List.getElem?_drop, h]
theorem mid_split (T W r i : Nat) (ws : List Nat) (h : i < ws.length) : mid T W r i ws = spr T W r (ws.take i) ++ prt T W ws[i] :: (ws.drop (i + 1)).map (prt T W) := by
  unfold mid
  rw [List.drop_eq_getElem_cons h]
  rfl
theorem mid_step (T W r i : Nat) (ws : List Nat) (h : i < ws.length) (hc : 0 < ws[i] ∧ 0 < lft r (ws.take i)) : (mid T W r i ws).set i (prt T W ws[i] + 1) = mid T W r (i + 1) ws := by
  have hl : (spr T W r (ws.take i)).length = i := by rw [spr_len, List.length_take]; omega
  rw [mid_split T W r i ws h, List.set_append_right _ _ (by omega), hl, Nat.sub_self]
  unfold mid
  rw [List.take_succ_eq_append_getElem h, spr_snoc, if_pos hc]
  simp
theorem mid_skip (T W r i : Nat) (ws : List Nat) (h : i < ws.length) (hc : ¬ (0 < ws[i] ∧ 0 < lft r (ws.take i))) : mid T W r i ws = mid T W r (i + 1) ws := by
  rw [mid_split T W r i ws h]
  unfold mid
  rw [List.take_succ_eq_append_getElem h, spr_snoc, if_neg hc]
  simp
theorem mid_end (T W r i : Nat) (ws : List Nat) (h : i ≤ ws.length) (hc : i = ws.length ∨ lft r (ws.take i) = 0) : mid T W r i ws = spr T W r ws := by
  rcases hc with rfl | hc
  · simp [mid]
  · have e := spr_app T W (ws.take i) (ws.drop i) r
    rw [List.take_append_drop, hc, spr_zero] at e
    exact e.symm

theorem ref_spread_not (T : Nat) (ws : List Nat) (A : Option Addr) (c : Nat) (w : World) (hr : Row w w.heap.size A (u64s ws)) (hlen : ws.length ≤ maxLen) (hws : ∀ x ∈ ws, x ≤ 18446744073709551615) (h : ¬ Fits ws) :
    Calls Try.prog 15 #[.int .u64 T, .slice A ws.length c] w fun e w' => e = .returned (.tuple #[.slice none 0 0, .int .i64 40]) ∧ Below w.heap.size w w' := by
  have k := ref_split_not T ws A c w hr hlen hws h
  clear hws h
  go_enter Try.func15, Try.ntmps15
  go_wp2_with (go_at_call 12; refine k.mono ?_; rintro e w1 ⟨rfl, hb1⟩)
  go_ret2
  exact ⟨rfl, hb1⟩

theorem ref_spread_zero (T : Nat) (ws : List Nat) (A : Option Addr) (c : Nat) (w : World) (hT : T < 18446744073709551616) (hr : Row w w.heap.size A (u64s ws)) (h : Fits ws) (h0 : tot ws = 0) :
    Calls Try.prog 15 #[.int .u64 T, .slice A ws.length c] w fun e w' => e = .returned (.tuple #[.slice none 0 0, .int .i64 20]) ∧ Below w.heap.size w w' := by
  have k := ref_split_ok T ws A c w hT hr h
  have k2 : ∀ v, Below w.heap.size w v → Calls Try.prog 10 #[.slice A ws.length c] v fun e w' => e = .returned (.tuple #[.int .u64 ((0 : Nat) : Int), .int .i64 0]) ∧ Below v.heap.size v w' :=
    fun v hv => by rw [← h0]; exact ref_whole_ok ws A c w.heap.size v (hr.below hv) hv.size h
  have e0 : ((0 : Nat) : Int) = 0 := rfl
  rw [e0] at k2
  clear h h0 e0
  go_enter Try.func15, Try.ntmps15
  go_wp2_with (first
    | (go_at_call 12; refine k.mono ?_; rintro e w1 ⟨v, rfl, hown, hb1⟩)
    | (go_at_call 10; refine (k2 _ hb1).mono ?_; rintro e w2 ⟨rfl, hb2⟩))
  go_ret2
  exact ⟨rfl, hb1.trans (hb2.mono hb1.size)⟩

set_option maxRecDepth 100000 in
set_option maxHeartbeats 2000000 in
theorem ref_spread_ok (T : Nat) (ws : List Nat) (A : Option Addr) (c : Nat) (w : World) (hT : T < 18446744073709551616) (hr : Row w w.heap.size A (u64s ws)) (h : Fits ws) (h0 : 0 < tot ws) :
    Calls Try.prog 15 #[.int .u64 T, .slice A ws.length c] w fun e w' => ∃ v, e = .returned (.tuple #[v, .int .i64 0]) ∧
      w'.ownsRow w.heap.size 22 1 v ws.length (u64s (spr T (tot ws) (T - tot (ws.map (prt T (tot ws)))) ws)) ∧ Below w.heap.size w w' := by
  have h1 := h.1
  have hW := h.2
  have k := ref_split_ok T ws A c w hT hr h
  have k2 : ∀ v, Below w.heap.size w v → Calls Try.prog 10 #[.slice A ws.length c] v fun e w' => e = .returned (.tuple #[.int .u64 (tot ws : Nat), .int .i64 0]) ∧ Below v.heap.size v w' :=
    fun v hv => ref_whole_ok ws A c w.heap.size v (hr.below hv) hv.size h
  have hle : ∀ i (hi : i < ws.length), 0 < T - tot (ws.map (prt T (tot ws))) → prt T (tot ws) ws[i] + 1 ≤ T := fun i hi h => prt_lt_of_rest (List.getElem_mem hi) h
  have hrT : T - tot (ws.map (prt T (tot ws))) ≤ T := Nat.sub_le _ _
  have hws0 : 0 < ws.length := by
    rcases Nat.eq_zero_or_pos ws.length with h | h
    · have : ws = [] := List.eq_nil_of_length_eq_zero h
      subst this
      simp [tot] at h0
    · exact h
  obtain ⟨r, hrn⟩ : ∃ r, Hid (T - tot (ws.map (prt T (tot ws))) = r) := ⟨_, rfl⟩
  rw [hrn.out] at k hle hrT ⊢
  obtain ⟨W, hWn⟩ : ∃ W, Hid (tot ws = W) := ⟨_, rfl⟩
  rw [hWn.out] at hW h0 k k2 hle ⊢
  have HLE := Lib.hid hle
  clear hle h
  have hW0 : ((W : Int) == 0) = false := by simp; omega
  go_enter Try.func15, Try.ntmps15
  go_wp2_with (first
    | (go_at_call 12; refine k.mono ?_; rintro e w1 ⟨v, rfl, hown, hb1⟩)
    | (go_at_call 10; refine (k2 _ hb1).mono ?_; rintro e w2 ⟨rfl, hb2⟩))
  obtain ⟨g, cap, rfl⟩ : ∃ g cap, v = .slice (some ⟨g, 0, none⟩) ws.length cap := by
    rcases hown.2 with ⟨_, h⟩ | ⟨g, cap, _, rfl, _⟩
    · omega
    · exact ⟨g, cap, rfl⟩
  have hown2 := own_below hown hb2
  have hB2 := hb1.trans (hb2.mono hb1.size)
  have hg : w.heap.size ≤ g := (hown2.lt g rfl).1
  go_loopw [7, 11] (fun lv iv wr => ∃ (i lf : Nat), i ≤ ws.length ∧ iv = .int .i64 (i : Int) ∧ lv = .int .u64 (lf : Int) ∧ Hid (lft r (ws.take i) = lf) ∧ wr.ownsRow w.heap.size 22 1 (.slice (some ⟨g, 0, none⟩) ws.length cap) ws.length (u64s (mid T W r i ws)) ∧ Below w.heap.size w wr)
    (fun _ iv _ => ws.length - (intOf iv).toNat)
  case atStart => exact ⟨0, r, Nat.zero_le _, rfl, rfl, by show _ = _; simp [lft], by rw [mid_zero]; exact hown2, hB2⟩
  case round =>
    obtain ⟨i, lf, hi, rfl, rfl, HL, ho, hB⟩ := hrel
    clear hown hown2 hb1 hb2 hB2 k k2
    have hlr : lf ≤ r := by rw [← HL.out]; exact lft_le _ _
    by_cases hgo : i < ws.length ∧ 0 < lf
    · obtain ⟨hlt, hl0⟩ := hgo
      obtain ⟨a, rfl, hab, hca⟩ := (hr.below hB).get (k := i) (by rw [u64s_len]; exact hlt)
      simp only [u64s, List.getElem_map] at hca
      have hpT := HLE.out i hlt (by omega)
      have hgt := mid_get T W r i ws hlt
      have hskip := mid_skip T W r i ws hlt
      have hstep := mid_step T W r i ws hlt
      have hlsn := lft_snoc (ws.take i) ws[i] r
      rw [← List.take_succ_eq_append_getElem hlt, HL.out] at hlsn
      rw [HL.out] at hskip hstep
      obtain ⟨p, hp⟩ : ∃ p, Hid (prt T W ws[i] = p) := ⟨prt T W ws[i], Lib.hid rfl⟩
      rw [hp.out] at hpT hgt hstep
      have hco : wr.cell? ⟨g, i, none⟩ = some (.int .u64 (p : Int)) := by
        rw [ho.cellAt i (by omega)]
        unfold u64s
        rw [List.getElem?_map, hgt]
        rfl
      have hfo : wr.frozen? ⟨g, i, none⟩ = false := ho.frozenAt i
      have hiI : (i : Int) < (ws.length : Int) := by omega
      have hlI : (0 : Int) < (lf : Int) := by omega
      have hlM : (lf : Int) ≤ 18446744073709551615 := by omega
      have hw1 : IntKind.u64.wrap ((p : Int) + 1) = (p : Int) + 1 := IntWalk.u64_in _ (by omega)
      clear hpT
      have HSK := Lib.hid hskip
      have HST := Lib.hid hstep
      have HLS := Lib.hid hlsn
      clear hgt hskip hstep hlsn
      rcases Nat.eq_zero_or_pos ws[i] with hq | hq
      · have hq1 : ((ws[i] : Nat) : Int) ≤ 0 := by omega
        have hn : ¬ (0 < ws[i] ∧ 0 < lf) := by omega
        have HN := Lib.hid hn
        clear hq hn
        go_wp2
        go_roundw
        case rel => exact ⟨i + 1, lf, by omega, by go_num, rfl, by show _ = _; rw [HLS.out, if_neg HN.out], by rw [← HSK.out HN.out]; exact ho, hB⟩
        case measure => simp [intOf]; omega
      · have hq1 : (0 : Int) < ((ws[i] : Nat) : Int) := by omega
        have HN := Lib.hid (And.intro hq hl0)
        clear hq
        go_wp2
        go_roundw
        case rel =>
          refine ⟨i + 1, lf - 1, by omega, by go_num, by go_num, by show _ = _; rw [HLS.out, if_pos HN.out], ?_, hB.setCell (p := ⟨g, i, none⟩) hg _⟩
          rw [← HST.out HN.out]
          have h := (World.ownsRow.stored ho i (.int .u64 ((p : Int) + 1))).1
          unfold u64s at h ⊢
          rw [List.map_set]
          exact h
        case measure => simp [intOf]; omega
    · have hend := mid_end T W r i ws hi (by rw [HL.out]; omega)
      rw [hend] at ho
      clear hend
      by_cases hlt : i < ws.length
      · have hl1 : (lf : Int) ≤ 0 := by omega
        have hiI : (i : Int) < (ws.length : Int) := by omega
        go_wp2
        go_ret2
        exact ⟨_, rfl, ho, hB⟩
      · obtain rfl : i = ws.length := by omega
        clear hgo hlt
        go_wp2
        go_ret2
        exact ⟨_, rfl, ho, hB⟩
end Go.Proofs.Ytcmfoioljnkcbaa
