/- Layer 23 (moot): the document's: a field with one bit more, a list of its own. By contracts. -/
import Derived.Test.YtcaejanfhchacaaMooM
import Derived.Test.YtcaejanfhchacaaMotW
import Derived.Test.YtcaejanfhchacaaBitD
import Derived.Laws.AppendOwnNone
import Derived.Laws.OwnMore
namespace Go.Proofs.Ytcaejanfhchacaa
open Go.RowKit
set_option linter.unusedVariables false
set_option linter.unusedSimpArgs false

/-- The bits of bytes, and one more, of the first k. -/
def withBits (xs : List Nat) (i : Nat) : Nat → List Bool
  | 0 => []
  | k + 1 => withBits xs i k ++ [decide (k = i) || bitAt xs k]
theorem withBits_len (xs : List Nat) (i : Nat) : ∀ k, (withBits xs i k).length = k
  | 0 => rfl
  | k + 1 => by rw [withBits, List.length_append, withBits_len xs i k]; rfl
theorem withBits_at (xs : List Nat) (i : Nat) : ∀ (k j : Nat), (withBits xs i k).getD j false = (decide (j < k) && (decide (j = i) || bitAt xs j))
  | 0, j => by simp [withBits]
  | k + 1, j => by
    have ih := withBits_at xs i k j
    rw [List.getD_eq_getElem?_getD] at ih ⊢
    rw [withBits]
    by_cases h : j < k
    · rw [List.getElem?_append_left (by rw [withBits_len]; exact h), ih]
      simp [h, Nat.lt_succ_of_lt h]
    · rw [List.getElem?_append_right (by rw [withBits_len]; omega), withBits_len]
      by_cases h2 : j = k
      · subst h2
        simp
      · have h3 : ¬ j < k + 1 := by omega
        have h4 : (decide (j < k + 1)) = false := by simp [h3]
        rw [h4, Bool.false_and, List.getElem?_eq_none (by simp; omega)]
        rfl
theorem withBits_packed {xs : List Nat} {i : Nat} (hb : ∀ x ∈ xs, x < 256) (h : i / 8 < xs.length) : packed (withBits xs i (8 * xs.length)) = setBit xs i := by
  refine (packed_is (by rw [setBit_len, withBits_len]; omega) (setBit_all hb) fun k => ?_).symm
  rw [setBit_at h, withBits_at]
  by_cases hk : k < 8 * xs.length
  · have : (decide (k < 8 * xs.length)) = true := by simp [hk]
    rw [this, Bool.true_and, Bool.or_comm]
  · have h1 : (decide (k < 8 * xs.length)) = false := by simp [hk]
    have h2 : bitAt xs k = false := bit_out (by omega)
    have h3 : decide (k = i) = false := by simp; omega
    rw [h1, h2, h3]
    rfl

set_option maxRecDepth 100000 in
set_option maxHeartbeats 1000000 in
theorem rpack_any (l : List Bool) (A : Option Addr) (c : Nat) (w : World) (hr : Row w w.heap.size A (bools l)) (hl : l.length ≤ 1000) :
    Calls Try.prog 70 #[.slice A l.length c] w fun e w' => ∃ v, e = .returned v ∧ w'.ownsRow w.heap.size 5 1 v (packed l).length (u8s (packed l)) ∧ Below w.heap.size w w' := by
  obtain ⟨i0, hi0, hz0, hz1, hz2⟩ := info_parts u8_info
  have hpk : (packed l).length = (l.length + 7) / 8 := packed_len l
  obtain ⟨n, hN⟩ : ∃ n, (l.length + 7) / 8 = n := ⟨_, rfl⟩
  rw [hN] at hpk
  have HN := Lib.hid hN
  have hn64 : n ≤ 126 := by omega
  rw [hpk]
  have hnI : ((l.length : Int) + 7) / 8 = (n : Int) := by omega
  have hmk : ∀ W : World, (Instr.makeSlice 38 (.int .i64 (((l.length : Int) + 7) / 8)) (.int .i64 (((l.length : Int) + 7) / 8))).run Try.prog W =
      .ok (.slice (some ⟨W.heap.size, 0, none⟩) n n) (W.alloc (.cells (madeCells #[.int .u8 0] n) 5)) := by
    intro W
    rw [hnI]
    have h := run_make (P := Try.prog) W 38 5 i0 (.int .u8 0) Try.underlying38 hi0 hz0 .i64 .i64 (n : Int) (n : Int) (by omega) (by omega) (by rw [hz2]; omega) (by omega)
    rw [hz1, Int.toNat_natCast, Nat.mul_one] at h
    exact h
  have hlI : (l.length : Int) ≤ 1000 := by omega
  clear hi0 hz0 hz1 hz2 hN hpk hnI
  go_enter Try.func70, Try.ntmps70
  go_wp2
  clear hmk
  have hst := own_zeros w (Nat.le_refl _) n (by unfold maxLen; omega)
  have hb2 := (Below.refl _ w).alloc (Nat.le_refl _) (.cells (madeCells #[.int .u8 0] n) 5)
  go_loopw [4] (fun iv wr => ∃ (k : Nat) (ys : List Nat), k ≤ l.length ∧ iv = .int .i64 ((k : Int) - 1) ∧ Hid (Tail l k ys) ∧ Hid (∀ x ∈ ys, x < 256) ∧ Hid (ys.length = n) ∧ wr.ownsRow w.heap.size 5 1 (.slice (some ⟨w.heap.size, 0, none⟩) n n) n (u8s ys) ∧ Below w.heap.size w wr) (fun iv _ => (intOf iv + 1).toNat)
  case atStart =>
    exact ⟨l.length, List.replicate n 0, Nat.le_refl _, rfl, Tail.start l n, fun x hx => by rw [List.eq_of_mem_replicate hx]; omega, by show _ = _; simp, hst, hb2⟩
  case round =>
    clear hst hb2
    obtain ⟨k, ys, hk, rfl, HT, HA, HL, hown, hBr⟩ := hrel
    cases k with
    | succ j =>
      have hj : ((j + 1 : Nat) : Int) - 1 = (j : Int) := by omega
      rw [hj]
      have hjl : j < l.length := by omega
      obtain ⟨a, rfl, hS, hc⟩ := (hr.below hBr).get (k := j) (by rw [bools_len]; exact hjl)
      have hcb : (bools l)[j]'(by rw [bools_len]; exact hjl) = .bool (l.getD j false) := by simp [bools, hjl]
      rw [hcb] at hc
      have hjn : j / 8 < n := by have := HN.out; omega
      have hjy : j / 8 < ys.length := by rw [HL.out]; exact hjn
      have hstep := HT.out.step hjy
      have hsm := HT.out.small
      have hu := u8s_get hjy
      have eg : ys.getD (j / 8) 0 = ys[j / 8] := by simp [hjy]
      rw [eg] at hstep hsm
      obtain ⟨b, hb⟩ : ∃ b, l.getD j false = b := ⟨_, rfl⟩
      obtain ⟨x, hx⟩ : ∃ x, ys[j / 8] = x := ⟨_, rfl⟩
      rw [hb] at hc hstep
      rw [hx] at hu hstep hsm
      have hcD := own_cell hown hu
      have hfD : wr.frozen? ⟨w.heap.size, j / 8, none⟩ = false := hown.frozenAt (j / 8)
      have hjI : (j : Int) < (l.length : Int) := by omega
      have hjnI : (j : Int) / 8 < (n : Int) := by omega
      have h0 : (0 : Int) ≤ (j : Int) := by omega
      have hq0 : (0 : Int) ≤ (j : Int) / 8 := by omega
      have hqn : ((j : Int) / 8).toNat = j / 8 := by omega
      have hwq : IntKind.i64.wrap ((j : Int) / 8) = (j : Int) / 8 := IntWalk.i64_in _ (by omega)
      have HST := Lib.hid hstep
      have HOWN := Lib.hid hown
      clear hstep hu eg hb hx hcb hown
      cases b
      · have hwx : IntKind.u8.wrap (2 * (x : Int)) = ((2 * x : Nat) : Int) := by rw [IntKind.wrap_u8]; omega
        have hw2 : (2 * (x : Int)) % 256 = ((2 * x : Nat) : Int) := by omega
        have hw3 : ((2 * x : Nat) : Int) = 2 * (x : Int) := by omega
        have HST2 : Hid (Tail l j (ys.set (j / 8) (2 * x))) := Lib.hid (by simpa using HST.out)
        have HW := Lib.hid hw3
        clear HST hw3
        go_wp2
        go_roundw
        case rel =>
          refine ⟨j, ys.set (j / 8) (2 * x), by omega, by go_num, HST2.out, set_all HA.out (by omega), by show _ = _; rw [List.length_set]; exact HL.out, ?_, hBr.setCell (Nat.le_refl _) _⟩
          rw [← u8s_set]
          exact (World.ownsRow.stored HOWN.out (j / 8) _).1
        case measure => simp [intOf]
      · have hwx : IntKind.u8.wrap (2 * (x : Int) + 1) = ((2 * x + 1 : Nat) : Int) := by rw [IntKind.wrap_u8]; omega
        have hw2 : (2 * (x : Int) + 1) % 256 = ((2 * x + 1 : Nat) : Int) := by omega
        have HST2 : Hid (Tail l j (ys.set (j / 8) (2 * x + 1))) := Lib.hid (by simpa using HST.out)
        clear HST
        go_wp2
        go_roundw
        case rel =>
          refine ⟨j, ys.set (j / 8) (2 * x + 1), by omega, by go_num, HST2.out, set_all HA.out (by omega), by show _ = _; rw [List.length_set]; exact HL.out, ?_, hBr.setCell (Nat.le_refl _) _⟩
          rw [← u8s_set]
          exact (World.ownsRow.stored HOWN.out (j / 8) _).1
        case measure => simp [intOf]
    | zero =>
      have hz : ((0 : Nat) : Int) - 1 = -1 := rfl
      rw [hz]
      have hys : ys = packed l := packed_is (by rw [HL.out, HN.out]) HA.out HT.out.done
      rw [hys] at hown
      clear hys
      go_wp2
      refine bodyPost_ret (v := .slice (some ⟨w.heap.size, 0, none⟩) n n) (by simp [results, Try.results70, go_sem]) rfl ⟨_, rfl, hown, hBr⟩

set_option maxRecDepth 100000 in
set_option maxHeartbeats 1000000 in
theorem rwith_is (xs : List Nat) (A : Option Addr) (c : Nat) (i : Nat) (w : World) (hx : Row w w.heap.size A (u8s xs)) (hb : ∀ x ∈ xs, x < 256) (hl : xs.length ≤ 100) (hi : i / 8 < xs.length) :
    Calls Try.prog 38 #[.slice A xs.length c, .int .i64 (i : Int)] w fun e w' => ∃ v, e = .returned v ∧ w'.ownsRow w.heap.size 5 1 v xs.length (u8s (setBit xs i)) ∧ Below w.heap.size w w' := by
  obtain ⟨i0, hi0, hz0, hz1, hz2⟩ := info_parts bool_info
  have kg : ∀ (k : Nat), k ≤ 1000000 → ∀ W, Below w.heap.size w W → Calls Try.prog 37 #[.slice A xs.length c, .int .i64 (k : Int)] W fun e w' => e = .returned (.bool (bitAt xs k)) ∧ W = w' := by
    intro k hk W hB
    have := rget_ok xs _ A c (k : Int) W (Lies.ofRow (hx.below hB)) hb (by omega)
    rwa [bitI_nat] at this
  have hp := withBits_packed hb hi
  obtain ⟨n, hn⟩ : ∃ n, xs.length = n := ⟨_, rfl⟩
  obtain ⟨n8, hn8⟩ : ∃ n8, 8 * n = n8 := ⟨_, rfl⟩
  have hsl : (setBit xs i).length = n := by rw [setBit_len, hn]
  rw [hn] at kg hl hi hp
  rw [hn8] at hp
  rw [hn]
  have w8 : IntKind.i64.wrap (8 * (n : Int)) = (n8 : Int) := by rw [IntWalk.i64_in _ (by omega)]; omega
  have w9 : (8 * (n : Int)) = (n8 : Int) := by omega
  have h800 : n8 ≤ 800 := by omega
  have h800I : (n8 : Int) ≤ 800 := by omega
  have HP := Lib.hid hp
  have KG := Lib.hid kg
  have HSL := Lib.hid hsl
  clear hx hb kg hp hsl hn hn8 hi
  go_enter Try.func38, Try.ntmps38
  go_wp2
  go_loopw [5, 6] (fun ov iv wr => ∃ (k : Nat) (vo : Value), k ≤ n8 ∧ iv = .int .i64 (k : Int) ∧ vo = ov ∧ wr.ownsRow w.heap.size 4 1 vo k (bools (withBits xs i k)) ∧ Below w.heap.size w wr) (fun _ iv _ => n8 - (intOf iv).toNat)
  case atStart => exact ⟨0, _, Nat.zero_le _, rfl, rfl, World.ownsRow_nil _ _ _ _, Below.refl _ _⟩
  case round =>
    obtain ⟨k, vo, hk, rfl, rfl, hown, hBr⟩ := hrel
    by_cases hlt : k < n8
    · have kk := KG.out k (by omega) wr hBr
      have hkI : (k : Int) < (n8 : Int) := by omega
      have hsz := hBr.size
      have HSU : Hid (withBits xs i (k + 1) = withBits xs i k ++ [decide (k = i) || bitAt xs k]) := Lib.hid rfl
      by_cases hki : k = i
      · subst hki
        rw [decide_eq_true rfl, Bool.true_or] at HSU
        clear kk
        go_wp2_with (first
          | (at_builtin; refine wpList_append_own _ rfl _ _ 76 rfl w.heap.size 4 i0 (.bool false) 1 1 Try.underlying76 hi0 hz0 hz1 hz2 rfl (by decide) _ _ _ rfl (hown.alloc _) ⟨wr.heap.size, 0, none⟩ 1 1 [.bool true] rfl rfl ?c1 ?c2 ?c3 ?c4 ?c5 ?_))
        case c1 => exact new_first _ _ _
        case c2 => intro u hu; simp at hu; subst hu; rfl
        case c3 => simp only [maxLen]; omega
        case c4 => omega
        case c5 => simp; omega
        intro v' w3 hown' hgrow _
        have hb' := app_below hBr hsz hown hgrow
        clear hgrow hown
        go_wp2
        go_roundw
        case rel =>
          refine ⟨k + 1, _, by omega, by go_num, rfl, ?_, hb'⟩
          rw [HSU.out, bools_snoc]
          exact hown'
        case measure => simp [intOf]; omega
      · have hkb : ((k : Int) == (i : Int)) = false := by simp; omega
        rw [decide_eq_false hki, Bool.false_or] at HSU
        obtain ⟨b, hb⟩ : ∃ b, bitAt xs k = b := ⟨_, rfl⟩
        rw [hb] at kk HSU
        clear hb hki
        go_wp2_with (first
          | (go_at_call 37; refine kk.mono ?_; clear kk; rintro e w' ⟨rfl, rfl⟩)
          | (at_builtin; refine wpList_append_own _ rfl _ _ 76 rfl w.heap.size 4 i0 (.bool false) 1 1 Try.underlying76 hi0 hz0 hz1 hz2 rfl (by decide) _ _ _ rfl (hown.alloc _) ⟨wr.heap.size, 0, none⟩ 1 1 [.bool b] rfl rfl ?c1 ?c2 ?c3 ?c4 ?c5 ?_))
        case c1 => exact new_first _ _ _
        case c2 => intro u hu; simp at hu; subst hu; rfl
        case c3 => simp only [maxLen]; omega
        case c4 => omega
        case c5 => simp; omega
        intro v' w3 hown' hgrow _
        have hb' := app_below hBr hsz hown hgrow
        clear hgrow hown
        go_wp2
        go_roundw
        case rel =>
          refine ⟨k + 1, _, by omega, by go_num, rfl, ?_, hb'⟩
          rw [HSU.out, bools_snoc]
          exact hown'
        case measure => simp [intOf]; omega
    · obtain rfl : k = n8 := by omega
      obtain ⟨A5, c5, rfl, -, -, hr5⟩ := Row.of_own hown
      have kp := rpack_any (withBits xs i k) A5 c5 wr hr5 (by rw [withBits_len]; omega)
      rw [HP.out, HSL.out, withBits_len] at kp
      have KP := Lib.hid kp
      clear kp KG HP hown hr5
      go_wp2_with (go_at_call 70; refine KP.out.mono ?_; clear KP; rintro e w4 ⟨v, rfl, ho, hb⟩)
      refine bodyPost_ret (v := v) (by simp [results, Try.results38, go_sem]) rfl ⟨_, rfl, own_base ho hBr.size, Below.then hBr hb⟩

theorem info_rmot : (Try.prog.info? 45).map (fun i => (i.zero, i.size, i.bytes)) = some (some (.agg (Rec.vals (Mot.zero : Mot))), Rec.z Mot, 296) := by kernel_rfl
theorem size_rmot : (Try.prog.info? 45).map (·.size) = some (Rec.z Mot) := by kernel_rfl
set_option maxRecDepth 100000 in
set_option maxHeartbeats 1000000 in
/-- A list of its own (the document's). -/
theorem rown_is (l : List Mot) (A : Option Addr) (c : Nat) (w : World) (hm : Mots w A c l) (hl : l.length ≤ 100000) :
    Calls Try.prog 39 #[.slice A l.length c] w fun e w' => ∃ v, e = .returned v ∧ w'.ownsRow w.heap.size 45 33 v l.length (rows l) ∧ Below w.heap.size w w' := by
  obtain ⟨i0, hi0, hz0, hz1, hz2⟩ := info_parts info_rmot
  have hst : w.ownsRow w.heap.size 45 33 (.slice none 0 0) 0 [] := World.ownsRow_nil _ _ _ _
  rcases A with _ | a
  · obtain rfl := rows_none hm.row
    obtain rfl := hm.void rfl
    go_enter Try.func39, Try.ntmps39
    go_wp2_with (at_builtin; refine wpList_append_own_none rfl _ _ 30 rfl w.heap.size 45 i0 33 Try.underlying30 hi0 hz1 (.slice none 0 0) 0 [] rfl hst rfl ?_)
    go_wp2
    refine bodyPost_ret (v := .slice none 0 0) (by simp [results, Try.results39, go_sem]) rfl ⟨_, rfl, hst, Below.refl _ _⟩
  · have hsrc : ∀ j v, (rows l)[j]? = some v → w.cell? (a.add j) = some v := fun j v hj => by
      obtain ⟨a', ha', _, this⟩ := hm.row j v hj
      cases ha'
      exact this
    have HS := Lib.hid hsrc
    clear hsrc hm
    go_enter Try.func39, Try.ntmps39
    go_wp2_with (at_builtin; refine wpList_append_own _ rfl _ _ 30 rfl w.heap.size 45 i0 _ 33 296 Try.underlying30 hi0 hz0 hz1 hz2 rfl (by decide) _ _ _ rfl hst a l.length c (rows l) rfl ?c1 ?c2 ?c3 ?c4 ?c5 ?c6 ?_)
    case c1 => exact rows_len _
    case c2 => exact HS.out
    case c3 => exact rows_onecell _
    case c4 => simp only [maxLen]; omega
    try (case c5 => omega)
    try (case c6 => simp)
    intro v' w3 hown hgrow _
    have hb' : Below w.heap.size w w3 := (Below.refl _ w).grown hgrow (Nat.le_refl _) (by intro k hk; simp [Value.ownBlock] at hk)
    clear hgrow
    go_wp2
    refine bodyPost_ret (v := v') (by simp [results, Try.results39, go_sem]) rfl ⟨_, rfl, by simpa using hown, hb'⟩
end Go.Proofs.Ytcaejanfhchacaa
