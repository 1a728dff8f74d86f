/- Law BitsSets (P6.2): a bit that is set is set, and no other one is touched; what was handed in stays. -/
import Derived.Test.YtpeafahajpfcbaaAwake6
import Derived.Test.YtpeafahajpfcbaaLawC
import Derived.Test.YtpeafahajpfcbaaRows
namespace Go.Proofs.Ytpeafahajpfcbaa.BitsSets
open Go.RowKit Go.ChangeShapes Go.WideShapes Go.ChangeAt
set_option linter.unusedVariables false
set_option linter.unusedSimpArgs false

set_option maxRecDepth 100000 in
set_option maxHeartbeats 6000000 in
theorem walk_there_some (xs : List Nat) (a : Addr) (c : Nat) (n : Nat) (hn : n / 8 < xs.length) (hn2 : n ≤ 9223372036854775807) (w : World) (hx : Lies w (· < w.heap.size) (some a) xs) (hxb : ∀ x ∈ xs, x < 256) (hxl : xs.length ≤ 100) :
    Calls Try.prog 5 #[.slice (some a) xs.length c, .int .i64 (n : Int)] w fun e w' => e = .returned (.bool true) ∧ Below w.heap.size w w' := by
  obtain ⟨i0, hi0, hz0, hz1, hz2⟩ := info_parts u8_info
  have hxI : (xs.length : Int) ≤ 100 := by omega
  have hnI : (n : Int) / 8 < (xs.length : Int) := by omega
  have h0 : (0 : Int) ≤ (n : Int) := by omega
  have hwq : IntKind.i64.wrap ((n : Int) / 8) = (n : Int) / 8 := IntWalk.i64_in _ (by omega)
  have hD : decide ((n : Int) / 8 < (xs.length : Int)) = true := decide_eq_true hnI
  have hbit : ∀ k, bitAt (setBit xs n) k = (bitAt xs k || decide (k = n)) := setBit_at hn
  have hall : ∀ x ∈ setBit xs n, x < 256 := setBit_all hxb
  have kset := fun S A c W (h : Lies W S A xs) => set_ok xs S A c n W h hxb (by omega) hn2 hn
  obtain ⟨ys, hys⟩ : ∃ ys, setBit xs n = ys := ⟨_, rfl⟩
  have hyl := setBit_len xs n
  rw [hys] at hbit hall kset hyl
  clear hys hn
  have HXB := Lib.hid hxb
  have HALL := Lib.hid hall
  have HBIT := Lib.hid hbit
  have HYL := Lib.hid hyl
  clear hbit hall hxb hyl
  have hsrc := hx.src xs.length
  rw [List.take_length] at hsrc
  have hsrcl : ∀ j u, (u8s xs)[j]? = some u → (a.add j).block < w.heap.size := fun j u hj => World.block_lt_of_cell? w _ (hsrc j u hj)
  have HS := Lib.hid hsrc
  have HSL := Lib.hid hsrcl
  clear hsrc hsrcl
  go_enter Try.func5, Try.ntmps5
  go_wp2_with (first
    | (go_at_call 8; refine (bits_awake _).mono ?_; rintro e w1 ⟨rfl, hb1⟩)
    | (at_builtin; refine wpList_append_own _ rfl _ _ 24 rfl w.heap.size 5 i0 (.int .u8 0) 1 1 Try.underlying24 hi0 hz0 hz1 hz2 rfl (by decide) _ _ _ rfl (World.ownsRow_made w1 #[] 0 hb1.size (Nat.zero_le _) rfl) a xs.length c (u8s xs) rfl ?c1 ?c2 ?c3 ?c4 ?c5 ?c6 ?_))
  case c1 => simp [u8s_len]
  case c2 =>
    intro j u hj
    have h1 := HSL.out j u hj
    rw [World.cell?_alloc_lt _ _ _ (Nat.lt_of_lt_of_le h1 hb1.size)]
    exact (hb1.cell h1).trans (HS.out j u hj)
  case c3 => exact u8s_one
  case c4 => simp only [maxLen]; omega
  case c5 => omega
  case c6 => exact Nat.le_trans hb1.size (by simp)
  intro v2 w2 hown2' hgrow _
  have hb2 : Below w.heap.size w w2 := (hb1.alloc hb1.size _).grown hgrow (Nat.le_trans hb1.size (by simp)) (by intro k hk; simp [Value.ownBlock] at hk; have := hb1.size; omega)
  have hown2 : w2.ownsRow w.heap.size 5 1 v2 xs.length (u8s xs) := by simpa using hown2'
  clear hgrow hown2'
  obtain ⟨Ag, cg, hv2, hlg, hcg, hng, hLg⟩ := Lies.own hown2
  subst hv2
  clear hng hlg hown2
  have kk := kset _ Ag cg w2 hLg
  clear kset
  have hxl2 : Lies w2 (· < w.heap.size) (some a) xs := hx.hold (fun p hp => hb2.cell hp)
  go_wp2_with (first
    | (go_at_call 21; refine kk.mono ?_; clear kk; rintro e w3 ⟨v3, rfl, hown3, hb3⟩; obtain ⟨A3, c3, rfl, hl3, hc3, hn3, hL3⟩ := Lies.own hown3; clear hl3 hn3 hown3; have hB3 : Below w.heap.size w w3 := hb2.trans (hb3.mono hb2.size); have kS := same_true xs _ _ Ag (some a) cg c w3 (hLg.hold (w' := w3) (fun p hp => hb3.cell hp.2.1)) (hxl2.hold (w' := w3) (fun p hp => hb3.cell (Nat.lt_of_lt_of_le hp hb2.size))) (by unfold maxLen; omega))
    | (go_at_call 10; refine kS.mono ?_; clear kS; rintro e w4 ⟨rfl, hb4⟩; have hB4 : Below w.heap.size w w4 := hB3.trans (hb4.mono hB3.size); have hL4 := hL3.hold (w' := w4) (fun p hp => hb4.cell hp.2.1); have hx4 : Lies w4 (· < w.heap.size) (some a) xs := hx.hold (fun p hp => hB4.cell hp)))
  clear hb4 hb3 hb2 hB3 hL3 hLg hxl2
  go_loopw [52] (fun iv wr => ∃ k : Nat, k ≤ 8 * xs.length ∧ iv = .int .i64 (k : Int) ∧ w4 = wr) (fun iv _ => 8 * xs.length - (intOf iv).toNat)
  case atStart => exact ⟨0, Nat.zero_le _, rfl, rfl⟩
  case round =>
    obtain ⟨k, hk, rfl, rfl⟩ := hrel
    by_cases hlt : k < 8 * xs.length
    · have k1 := rget_ok ys _ A3 c3 (k : Int) w4 hL4 HALL.out (by omega)
      have k2 := rget_ok xs _ (some a) c (k : Int) w4 hx4 HXB.out (by omega)
      rw [bitI_nat] at k1 k2
      have hkI : (k : Int) < 8 * (xs.length : Int) := by omega
      rw [HYL.out] at k1
      have hb := HBIT.out k
      obtain ⟨b1, h1⟩ : ∃ b, bitAt ys k = b := ⟨_, rfl⟩
      obtain ⟨b2, h2⟩ : ∃ b, bitAt xs k = b := ⟨_, rfl⟩
      rw [h1, h2] at hb
      rw [h1] at k1
      rw [h2] at k2
      clear h1 h2
      by_cases e : k = n
      · have e1 : b1 = true := by rw [hb]; simp [e]
        clear hb
        subst e1
        subst e
        cases b2
        all_goals
          go_wp2_with (first
            | (go_at_call 16; refine k1.mono ?_; clear k1; rintro e w' ⟨rfl, rfl⟩)
            | (go_at_call 16; refine k2.mono ?_; clear k2; rintro e w' ⟨rfl, rfl⟩))
          go_roundw
          case rel => exact ⟨k + 1, by omega, by go_num, trivial⟩
          case measure => simp [intOf]; omega
      · have e1 : b1 = b2 := by rw [hb]; simp [e]
        have e2 : ((k : Int) == (n : Int)) = false := by simp; omega
        clear hb e
        subst e1
        cases b1
        all_goals
          go_wp2_with (first
            | (go_at_call 16; refine k1.mono ?_; clear k1; rintro e w' ⟨rfl, rfl⟩)
            | (go_at_call 16; refine k2.mono ?_; clear k2; rintro e w' ⟨rfl, rfl⟩))
          go_roundw
          case rel => exact ⟨k + 1, by omega, by go_num, trivial⟩
          case measure => simp [intOf]; omega
    · obtain rfl : k = 8 * xs.length := by omega
      have hkI : ¬ (((8 * xs.length : Nat) : Int) < 8 * (xs.length : Int)) := by omega
      go_wp2
      go_ret
      exact ⟨rfl, hB4⟩

set_option maxRecDepth 100000 in
set_option maxHeartbeats 6000000 in
theorem walk_neg_some (xs : List Nat) (a : Addr) (c : Nat) (i : Int) (hi : i < 0) (w : World) (hx : Lies w (· < w.heap.size) (some a) xs) (hxb : ∀ x ∈ xs, x < 256) (hxl : xs.length ≤ 100) :
    Calls Try.prog 5 #[.slice (some a) xs.length c, .int .i64 i] w fun e w' => e = .returned (.bool true) ∧ Below w.heap.size w w' := by
  obtain ⟨i0, hi0, hz0, hz1, hz2⟩ := info_parts u8_info
  have hxI : (xs.length : Int) ≤ 100 := by omega
  have hbit : ∀ k, bitAt xs k = (bitAt xs k || decide ((k : Int) = i)) := fun k => by
    have : ¬ ((k : Int) = i) := by omega
    simp [this]
  have hall := hxb
  have kset := fun S A c W (h : Lies W S A xs) => set_not xs S A c i W h (by omega) (by omega) (fun hh => by omega)
  have HXB := Lib.hid hxb
  have HALL := Lib.hid hall
  clear hbit hall hxb
  have hsrc := hx.src xs.length
  rw [List.take_length] at hsrc
  have hsrcl : ∀ j u, (u8s xs)[j]? = some u → (a.add j).block < w.heap.size := fun j u hj => World.block_lt_of_cell? w _ (hsrc j u hj)
  have HS := Lib.hid hsrc
  have HSL := Lib.hid hsrcl
  clear hsrc hsrcl
  go_enter Try.func5, Try.ntmps5
  go_wp2_with (first
    | (go_at_call 8; refine (bits_awake _).mono ?_; rintro e w1 ⟨rfl, hb1⟩)
    | (at_builtin; refine wpList_append_own _ rfl _ _ 24 rfl w.heap.size 5 i0 (.int .u8 0) 1 1 Try.underlying24 hi0 hz0 hz1 hz2 rfl (by decide) _ _ _ rfl (World.ownsRow_made w1 #[] 0 hb1.size (Nat.zero_le _) rfl) a xs.length c (u8s xs) rfl ?c1 ?c2 ?c3 ?c4 ?c5 ?c6 ?_))
  case c1 => simp [u8s_len]
  case c2 =>
    intro j u hj
    have h1 := HSL.out j u hj
    rw [World.cell?_alloc_lt _ _ _ (Nat.lt_of_lt_of_le h1 hb1.size)]
    exact (hb1.cell h1).trans (HS.out j u hj)
  case c3 => exact u8s_one
  case c4 => simp only [maxLen]; omega
  case c5 => omega
  case c6 => exact Nat.le_trans hb1.size (by simp)
  intro v2 w2 hown2' hgrow _
  have hb2 : Below w.heap.size w w2 := (hb1.alloc hb1.size _).grown hgrow (Nat.le_trans hb1.size (by simp)) (by intro k hk; simp [Value.ownBlock] at hk; have := hb1.size; omega)
  have hown2 : w2.ownsRow w.heap.size 5 1 v2 xs.length (u8s xs) := by simpa using hown2'
  clear hgrow hown2'
  obtain ⟨Ag, cg, hv2, hlg, hcg, hng, hLg⟩ := Lies.own hown2
  subst hv2
  clear hng hlg hown2
  have kk := kset _ Ag cg w2 hLg
  clear kset
  have hxl2 : Lies w2 (· < w.heap.size) (some a) xs := hx.hold (fun p hp => hb2.cell hp)
  go_wp2_with (first
    | (go_at_call 21; refine kk.mono ?_; clear kk; rintro e w3 ⟨v3, rfl, hown3, hb3⟩; obtain ⟨A3, c3, rfl, hl3, hc3, hn3, hL3⟩ := Lies.own hown3; clear hl3 hn3 hown3; have hB3 : Below w.heap.size w w3 := hb2.trans (hb3.mono hb2.size); have kS := same_true xs _ _ Ag (some a) cg c w3 (hLg.hold (w' := w3) (fun p hp => hb3.cell hp.2.1)) (hxl2.hold (w' := w3) (fun p hp => hb3.cell (Nat.lt_of_lt_of_le hp hb2.size))) (by unfold maxLen; omega))
    | (go_at_call 10; refine kS.mono ?_; clear kS; rintro e w4 ⟨rfl, hb4⟩; have hB4 : Below w.heap.size w w4 := hB3.trans (hb4.mono hB3.size); have hL4 := hL3.hold (w' := w4) (fun p hp => hb4.cell hp.2.1); have hx4 : Lies w4 (· < w.heap.size) (some a) xs := hx.hold (fun p hp => hB4.cell hp)))
  clear hb4 hb3 hb2 hB3 hL3 hLg hxl2
  go_loopw [52] (fun iv wr => ∃ k : Nat, k ≤ 8 * xs.length ∧ iv = .int .i64 (k : Int) ∧ w4 = wr) (fun iv _ => 8 * xs.length - (intOf iv).toNat)
  case atStart => exact ⟨0, Nat.zero_le _, rfl, rfl⟩
  case round =>
    obtain ⟨k, hk, rfl, rfl⟩ := hrel
    by_cases hlt : k < 8 * xs.length
    · have k1 := rget_ok xs _ A3 c3 (k : Int) w4 hL4 HALL.out (by omega)
      have k2 := rget_ok xs _ (some a) c (k : Int) w4 hx4 HXB.out (by omega)
      rw [bitI_nat] at k1 k2
      have hkI : (k : Int) < 8 * (xs.length : Int) := by omega
      obtain ⟨b2, h2⟩ : ∃ b, bitAt xs k = b := ⟨_, rfl⟩
      rw [h2] at k1 k2
      clear h2
      have e2 : ((k : Int) == i) = false := by simp; omega
      cases b2
      all_goals
        go_wp2_with (first
          | (go_at_call 16; refine k1.mono ?_; clear k1; rintro e w' ⟨rfl, rfl⟩)
          | (go_at_call 16; refine k2.mono ?_; clear k2; rintro e w' ⟨rfl, rfl⟩))
        go_roundw
        case rel => exact ⟨k + 1, by omega, by go_num, trivial⟩
        case measure => simp [intOf]; omega
    · obtain rfl : k = 8 * xs.length := by omega
      have hkI : ¬ (((8 * xs.length : Nat) : Int) < 8 * (xs.length : Int)) := by omega
      go_wp2
      go_ret
      exact ⟨rfl, hB4⟩

set_option maxRecDepth 100000 in
set_option maxHeartbeats 6000000 in
theorem walk_out_some (xs : List Nat) (a : Addr) (c : Nat) (j : Nat) (hj : xs.length ≤ j / 8) (hj2 : j ≤ 9223372036854775807) (w : World) (hx : Lies w (· < w.heap.size) (some a) xs) (hxb : ∀ x ∈ xs, x < 256) (hxl : xs.length ≤ 100) :
    Calls Try.prog 5 #[.slice (some a) xs.length c, .int .i64 (j : Int)] w fun e w' => e = .returned (.bool true) ∧ Below w.heap.size w w' := by
  obtain ⟨i0, hi0, hz0, hz1, hz2⟩ := info_parts u8_info
  have hxI : (xs.length : Int) ≤ 100 := by omega
  have hjI : (xs.length : Int) ≤ (j : Int) / 8 := by omega
  have h0 : (0 : Int) ≤ (j : Int) := by omega
  have hwq : IntKind.i64.wrap ((j : Int) / 8) = (j : Int) / 8 := IntWalk.i64_in _ (by omega)
  have hD : decide ((j : Int) / 8 < (xs.length : Int)) = false := decide_eq_false (by omega)
  have hall := hxb
  have kset := fun S A c W (h : Lies W S A xs) => set_not xs S A c (j : Int) W h (by omega) (by omega) (fun hh => by have := hh.2; simp at this; omega)
  have HXB := Lib.hid hxb
  have HALL := Lib.hid hall
  clear hall hxb hj
  have hsrc := hx.src xs.length
  rw [List.take_length] at hsrc
  have hsrcl : ∀ j u, (u8s xs)[j]? = some u → (a.add j).block < w.heap.size := fun j u hj => World.block_lt_of_cell? w _ (hsrc j u hj)
  have HS := Lib.hid hsrc
  have HSL := Lib.hid hsrcl
  clear hsrc hsrcl
  go_enter Try.func5, Try.ntmps5
  go_wp2_with (first
    | (go_at_call 8; refine (bits_awake _).mono ?_; rintro e w1 ⟨rfl, hb1⟩)
    | (at_builtin; refine wpList_append_own _ rfl _ _ 24 rfl w.heap.size 5 i0 (.int .u8 0) 1 1 Try.underlying24 hi0 hz0 hz1 hz2 rfl (by decide) _ _ _ rfl (World.ownsRow_made w1 #[] 0 hb1.size (Nat.zero_le _) rfl) a xs.length c (u8s xs) rfl ?c1 ?c2 ?c3 ?c4 ?c5 ?c6 ?_))
  case c1 => simp [u8s_len]
  case c2 =>
    intro j u hj
    have h1 := HSL.out j u hj
    rw [World.cell?_alloc_lt _ _ _ (Nat.lt_of_lt_of_le h1 hb1.size)]
    exact (hb1.cell h1).trans (HS.out j u hj)
  case c3 => exact u8s_one
  case c4 => simp only [maxLen]; omega
  case c5 => omega
  case c6 => exact Nat.le_trans hb1.size (by simp)
  intro v2 w2 hown2' hgrow _
  have hb2 : Below w.heap.size w w2 := (hb1.alloc hb1.size _).grown hgrow (Nat.le_trans hb1.size (by simp)) (by intro k hk; simp [Value.ownBlock] at hk; have := hb1.size; omega)
  have hown2 : w2.ownsRow w.heap.size 5 1 v2 xs.length (u8s xs) := by simpa using hown2'
  clear hgrow hown2'
  obtain ⟨Ag, cg, hv2, hlg, hcg, hng, hLg⟩ := Lies.own hown2
  subst hv2
  clear hng hlg hown2
  have kk := kset _ Ag cg w2 hLg
  clear kset
  have hxl2 : Lies w2 (· < w.heap.size) (some a) xs := hx.hold (fun p hp => hb2.cell hp)
  go_wp2_with (first
    | (go_at_call 21; refine kk.mono ?_; clear kk; rintro e w3 ⟨v3, rfl, hown3, hb3⟩; obtain ⟨A3, c3, rfl, hl3, hc3, hn3, hL3⟩ := Lies.own hown3; clear hl3 hn3 hown3; have hB3 : Below w.heap.size w w3 := hb2.trans (hb3.mono hb2.size); have kS := same_true xs _ _ Ag (some a) cg c w3 (hLg.hold (w' := w3) (fun p hp => hb3.cell hp.2.1)) (hxl2.hold (w' := w3) (fun p hp => hb3.cell (Nat.lt_of_lt_of_le hp hb2.size))) (by unfold maxLen; omega))
    | (go_at_call 10; refine kS.mono ?_; clear kS; rintro e w4 ⟨rfl, hb4⟩; have hB4 : Below w.heap.size w w4 := hB3.trans (hb4.mono hB3.size); have hL4 := hL3.hold (w' := w4) (fun p hp => hb4.cell hp.2.1); have hx4 : Lies w4 (· < w.heap.size) (some a) xs := hx.hold (fun p hp => hB4.cell hp)))
  clear hb4 hb3 hb2 hB3 hL3 hLg hxl2
  go_loopw [52] (fun iv wr => ∃ k : Nat, k ≤ 8 * xs.length ∧ iv = .int .i64 (k : Int) ∧ w4 = wr) (fun iv _ => 8 * xs.length - (intOf iv).toNat)
  case atStart => exact ⟨0, Nat.zero_le _, rfl, rfl⟩
  case round =>
    obtain ⟨k, hk, rfl, rfl⟩ := hrel
    by_cases hlt : k < 8 * xs.length
    · have k1 := rget_ok xs _ A3 c3 (k : Int) w4 hL4 HALL.out (by omega)
      have k2 := rget_ok xs _ (some a) c (k : Int) w4 hx4 HXB.out (by omega)
      rw [bitI_nat] at k1 k2
      have hkI : (k : Int) < 8 * (xs.length : Int) := by omega
      obtain ⟨b2, h2⟩ : ∃ b, bitAt xs k = b := ⟨_, rfl⟩
      rw [h2] at k1 k2
      clear h2
      have e2 : ((k : Int) == (j : Int)) = false := by simp; omega
      cases b2
      all_goals
        go_wp2_with (first
          | (go_at_call 16; refine k1.mono ?_; clear k1; rintro e w' ⟨rfl, rfl⟩)
          | (go_at_call 16; refine k2.mono ?_; clear k2; rintro e w' ⟨rfl, rfl⟩))
        go_roundw
        case rel => exact ⟨k + 1, by omega, by go_num, trivial⟩
        case measure => simp [intOf]; omega
    · obtain rfl : k = 8 * xs.length := by omega
      have hkI : ¬ (((8 * xs.length : Nat) : Int) < 8 * (xs.length : Int)) := by omega
      go_wp2
      go_ret
      exact ⟨rfl, hB4⟩

set_option maxRecDepth 100000 in
set_option maxHeartbeats 6000000 in
theorem walk_neg_none (xs : List Nat) (c : Nat) (i : Int) (hi : i < 0) (w : World) (hx : Lies w (· < w.heap.size) none xs) (hxb : ∀ x ∈ xs, x < 256) (hxl : xs.length ≤ 100) :
    Calls Try.prog 5 #[.slice none xs.length 0, .int .i64 i] w fun e w' => e = .returned (.bool true) ∧ Below w.heap.size w w' := by
  obtain ⟨i0, hi0, hz0, hz1, hz2⟩ := info_parts u8_info
  have hxI : (xs.length : Int) ≤ 100 := by omega
  have hbit : ∀ k, bitAt xs k = (bitAt xs k || decide ((k : Int) = i)) := fun k => by
    have : ¬ ((k : Int) = i) := by omega
    simp [this]
  have hall := hxb
  have kset := fun S A c W (h : Lies W S A xs) => set_not xs S A c i W h (by omega) (by omega) (fun hh => by omega)
  have HXB := Lib.hid hxb
  have HALL := Lib.hid hall
  clear hbit hall hxb
  have hnil : xs = [] := by
    cases xs with
    | nil => rfl
    | cons x r => obtain ⟨a, ha, _⟩ := hx 0 x rfl; cases ha
  subst hnil
  go_enter Try.func5, Try.ntmps5
  go_wp2_with (first
    | (go_at_call 8; refine (bits_awake _).mono ?_; rintro e w1 ⟨rfl, hb1⟩)
    | (at_builtin; refine wpList_append_own_none rfl _ _ 24 rfl w.heap.size 5 i0 1 Try.underlying24 hi0 _ _ _ rfl (World.ownsRow_made w1 #[] 0 hb1.size (Nat.zero_le _) rfl) rfl ?_))
  have hb2 : Below w.heap.size w (w1.alloc (.cells #[] 5)) := hb1.alloc hb1.size _
  have hown2 : (w1.alloc (.cells #[] 5)).ownsRow w.heap.size 5 1 (.slice (some ⟨w1.heap.size, 0, none⟩) 0 0) ([] : List Nat).length (u8s []) := (World.ownsRow_made w1 #[] 0 hb1.size (Nat.zero_le _) rfl)
  generalize (w1.alloc (.cells #[] 5)) = w2 at hb2 hown2 ⊢
  obtain ⟨Ag, cg, hv2, hlg, hcg, hng, hLg⟩ := Lies.own hown2
  obtain ⟨rfl, rfl⟩ : some ⟨w1.heap.size, 0, none⟩ = Ag ∧ 0 = cg := by injection hv2 with e1 e2 e3; exact ⟨e1, e3⟩
  clear hng hlg hown2
  have kk := kset _ (some ⟨w1.heap.size, 0, none⟩) 0 w2 hLg
  clear kset
  have hxl2 : Lies w2 (· < w.heap.size) none ([] : List Nat) := hx.hold (fun p hp => hb2.cell hp)
  go_wp2_with (first
    | (go_at_call 21; refine kk.mono ?_; clear kk; rintro e w3 ⟨v3, rfl, hown3, hb3⟩; obtain ⟨A3, c3, rfl, hl3, hc3, hn3, hL3⟩ := Lies.own hown3; clear hl3 hn3 hown3; have hB3 : Below w.heap.size w w3 := hb2.trans (hb3.mono hb2.size); have kS := same_true ([] : List Nat) _ _ (some ⟨w1.heap.size, 0, none⟩) none 0 0 w3 (hLg.hold (w' := w3) (fun p hp => hb3.cell hp.2.1)) (hxl2.hold (w' := w3) (fun p hp => hb3.cell (Nat.lt_of_lt_of_le hp hb2.size))) (by unfold maxLen; simp))
    | (go_at_call 10; refine kS.mono ?_; clear kS; rintro e w4 ⟨rfl, hb4⟩; have hB4 : Below w.heap.size w w4 := hB3.trans (hb4.mono hB3.size); have hL4 := hL3.hold (w' := w4) (fun p hp => hb4.cell hp.2.1); have hx4 : Lies w4 (· < w.heap.size) none ([] : List Nat) := hx.hold (fun p hp => hB4.cell hp)))
  go_loopw [52] (fun iv wr => ∃ k : Nat, iv = .int .i64 (k : Int) ∧ w4 = wr) (fun iv _ => 0)
  case atStart => exact ⟨0, rfl, rfl⟩
  case round =>
    obtain ⟨k, rfl, rfl⟩ := hrel
    have hk0 : ¬ ((k : Int) < 0) := by omega
    go_wp2
    go_ret
    exact ⟨rfl, hB4⟩

set_option maxRecDepth 100000 in
set_option maxHeartbeats 6000000 in
theorem walk_out_none (xs : List Nat) (c : Nat) (j : Nat) (hj : xs.length ≤ j / 8) (hj2 : j ≤ 9223372036854775807) (w : World) (hx : Lies w (· < w.heap.size) none xs) (hxb : ∀ x ∈ xs, x < 256) (hxl : xs.length ≤ 100) :
    Calls Try.prog 5 #[.slice none xs.length 0, .int .i64 (j : Int)] w fun e w' => e = .returned (.bool true) ∧ Below w.heap.size w w' := by
  obtain ⟨i0, hi0, hz0, hz1, hz2⟩ := info_parts u8_info
  have hxI : (xs.length : Int) ≤ 100 := by omega
  have hjI : (xs.length : Int) ≤ (j : Int) / 8 := by omega
  have h0 : (0 : Int) ≤ (j : Int) := by omega
  have hwq : IntKind.i64.wrap ((j : Int) / 8) = (j : Int) / 8 := IntWalk.i64_in _ (by omega)
  have hD : decide ((j : Int) / 8 < (xs.length : Int)) = false := decide_eq_false (by omega)
  have hall := hxb
  have kset := fun S A c W (h : Lies W S A xs) => set_not xs S A c (j : Int) W h (by omega) (by omega) (fun hh => by have := hh.2; simp at this; omega)
  have HXB := Lib.hid hxb
  have HALL := Lib.hid hall
  clear hall hxb hj
  have hnil : xs = [] := by
    cases xs with
    | nil => rfl
    | cons x r => obtain ⟨a, ha, _⟩ := hx 0 x rfl; cases ha
  subst hnil
  go_enter Try.func5, Try.ntmps5
  go_wp2_with (first
    | (go_at_call 8; refine (bits_awake _).mono ?_; rintro e w1 ⟨rfl, hb1⟩)
    | (at_builtin; refine wpList_append_own_none rfl _ _ 24 rfl w.heap.size 5 i0 1 Try.underlying24 hi0 _ _ _ rfl (World.ownsRow_made w1 #[] 0 hb1.size (Nat.zero_le _) rfl) rfl ?_))
  have hb2 : Below w.heap.size w (w1.alloc (.cells #[] 5)) := hb1.alloc hb1.size _
  have hown2 : (w1.alloc (.cells #[] 5)).ownsRow w.heap.size 5 1 (.slice (some ⟨w1.heap.size, 0, none⟩) 0 0) ([] : List Nat).length (u8s []) := (World.ownsRow_made w1 #[] 0 hb1.size (Nat.zero_le _) rfl)
  generalize (w1.alloc (.cells #[] 5)) = w2 at hb2 hown2 ⊢
  obtain ⟨Ag, cg, hv2, hlg, hcg, hng, hLg⟩ := Lies.own hown2
  obtain ⟨rfl, rfl⟩ : some ⟨w1.heap.size, 0, none⟩ = Ag ∧ 0 = cg := by injection hv2 with e1 e2 e3; exact ⟨e1, e3⟩
  clear hng hlg hown2
  have kk := kset _ (some ⟨w1.heap.size, 0, none⟩) 0 w2 hLg
  clear kset
  have hxl2 : Lies w2 (· < w.heap.size) none ([] : List Nat) := hx.hold (fun p hp => hb2.cell hp)
  go_wp2_with (first
    | (go_at_call 21; refine kk.mono ?_; clear kk; rintro e w3 ⟨v3, rfl, hown3, hb3⟩; obtain ⟨A3, c3, rfl, hl3, hc3, hn3, hL3⟩ := Lies.own hown3; clear hl3 hn3 hown3; have hB3 : Below w.heap.size w w3 := hb2.trans (hb3.mono hb2.size); have kS := same_true ([] : List Nat) _ _ (some ⟨w1.heap.size, 0, none⟩) none 0 0 w3 (hLg.hold (w' := w3) (fun p hp => hb3.cell hp.2.1)) (hxl2.hold (w' := w3) (fun p hp => hb3.cell (Nat.lt_of_lt_of_le hp hb2.size))) (by unfold maxLen; simp))
    | (go_at_call 10; refine kS.mono ?_; clear kS; rintro e w4 ⟨rfl, hb4⟩; have hB4 : Below w.heap.size w w4 := hB3.trans (hb4.mono hB3.size); have hL4 := hL3.hold (w' := w4) (fun p hp => hb4.cell hp.2.1); have hx4 : Lies w4 (· < w.heap.size) none ([] : List Nat) := hx.hold (fun p hp => hB4.cell hp)))
  go_loopw [52] (fun iv wr => ∃ k : Nat, iv = .int .i64 (k : Int) ∧ w4 = wr) (fun iv _ => 0)
  case atStart => exact ⟨0, rfl, rfl⟩
  case round =>
    obtain ⟨k, rfl, rfl⟩ := hrel
    have hk0 : ¬ ((k : Int) < 0) := by omega
    go_wp2
    go_ret
    exact ⟨rfl, hB4⟩

set_option maxRecDepth 100000 in
set_option maxHeartbeats 6000000 in
theorem walk (xs : List Nat) (A : Option Addr) (c : Nat) (i : Int) (w : World) (hx : Lies w (· < w.heap.size) A xs) (hxb : ∀ x ∈ xs, x < 256) (hxc : xs.length ≤ c) (hcm : c ≤ maxLen) (hA : A = none → c = 0) (hi0 : -9223372036854775808 ≤ i) (hi1 : i ≤ 9223372036854775807) :
    Calls Try.prog 5 #[.slice A xs.length c, .int .i64 i] w fun e w' => e = .returned (.bool true) ∧ Below w.heap.size w w' := by
  by_cases hxl : xs.length ≤ 100
  · by_cases hneg : i < 0
    · cases A with
      | none =>
        obtain rfl := hA rfl
        exact walk_neg_none xs 0 i hneg w hx hxb hxl
      | some a => exact walk_neg_some xs a c i hneg w hx hxb hxl
    · obtain ⟨n, rfl⟩ := Int.eq_ofNat_of_zero_le (show 0 ≤ i by omega)
      cases A with
      | none =>
        obtain rfl := hA rfl
        have h0 : xs.length = 0 := by
          cases xs with
          | nil => rfl
          | cons x r => obtain ⟨a, ha, _⟩ := hx 0 x rfl; cases ha
        exact walk_out_none xs 0 n (by omega) (by omega) w hx hxb hxl
      | some a =>
        by_cases h : n / 8 < xs.length
        · exact walk_there_some xs a c n h (by omega) w hx hxb hxl
        · exact walk_out_some xs a c n (by omega) (by omega) w hx hxb hxl
  · have hxI : (100 : Int) < (xs.length : Int) := by omega
    clear hxl hxb hA hi0 hi1
    go_enter Try.func5, Try.ntmps5
    go_wp2_with (go_at_call 8; refine (bits_awake _).mono ?_; rintro e w1 ⟨rfl, hb1⟩)
    go_ret
    exact ⟨rfl, hb1⟩


theorem own : ownKnob Try.prog.godebug = none := by kernel_rfl
theorem laidOut : laidOutB Try.prog = true := by kernel_rfl

set_option maxRecDepth 100000 in
theorem lifted (os : Os) (started : os.Started) (H : Type) (enc : TypeId × Value → H) :
    ReturnsInHanded {} Try.checked os 5 .any (Rows.bitsSetsSpec.pre6 enc Try.prog Try.f5 Rows.bitsSetsRow.domain false) (Rows.bitsSetsSpec.post enc Try.prog Try.f5 false true false false) := by
  refine returnsInHanded_of_change (C := Try.checked) own started (by kernel_rfl) Try.func5
    (ChangeSpec.witness6 (enc := enc) (C := Try.checked) false ⟨#[], #[.slice none 0 0, .int .i64 0], []⟩ 8 (by kernel_rfl) (by kernel_rfl) (by kernel_rfl) (by kernel_rfl)) ?_
  intro W base args ds gs before hval0 hW hcnd _
  have hval : ∀ (j : Nat) t v, Try.f5.params[j]? = some t → args[j]? = some v → Value.okWide Try.prog W .any base t v := hval0
  have hW' := hW
  obtain ⟨p, q, hA0, hV, rfl, hfz, hnd⟩ := hW
  have hlt : ∀ x ∈ p ++ q, x.block < W.heap.size := fun x hx => hW'.lt x hx
  have hA : DataW.TrodAll enc Try.prog W 0 (fun _ => true) true Try.f5.params.toList args.toList ds p := hA0
  rw [Try.params5] at hA hval
  obtain ⟨v0, vs0, d0, ds0, p0, q0, hargs, rfl, rfl, h0, r0⟩ := trodAll_cons hA
  obtain ⟨v1, vs1, d1, ds1, p1, q1, rfl, rfl, rfl, h1, r1⟩ := trodAll_cons r0
  obtain ⟨rfl, rfl, rfl⟩ := trodAll_nil r1
  obtain rfl : args = #[v0, v1] := by cases args; simp_all
  obtain ⟨rfl, rfl⟩ := trodVars_none hV
  obtain ⟨A0, n0, c0, rfl⟩ := okWide_slice Try.underlying24 (hval 0 24 v0 rfl rfl)
  obtain ⟨ns0, hl0, hn0, hc0, hm0, hr0, hA0⟩ := open_u8s Try.underlying24 Try.underlying5 (by kernel_rfl) h0
  subst hl0
  obtain ⟨a1, rfl, rfl, rfl, w1⟩ := open_int Try.underlying3 (hval 1 3 v1 rfl rfl) h1
  have b1 := i64_fits w1
  clear hA0 hval0
  refine (walk ns0 A0 c0 a1 W (Lies.ofRow hr0) hn0 hc0 hm0 hA0 b1.1 b1.2).mono fun e W' ⟨he, hg⟩ => ?_
  subst he
  exact ⟨_, rfl, law_post laidOut (by kernel_rfl) rfl rfl Try.underlying4 rfl hW' hg⟩

theorem over : Rows.bitsSetsRow.holds Try.pinned (OpenSpec.ofChange Rows.bitsSetsSpec) :=
  OpenClaim.holds_of_wide 5 Try.f5 rfl rfl rfl rfl rfl rfl rfl ⟨rfl, rfl, rfl, rfl, rfl⟩ rfl rfl rfl rfl rfl (by kernel_rfl) Try.func5 (by kernel_rfl)
    (of_decide_eq_true (by kernel_rfl)) (by unfold Func.isWrapper; first | (rw [if_pos (by decide +kernel)]; kernel_rfl) | (rw [if_neg (by decide +kernel)]; exact ⟨rfl, rfl⟩))
    (fun os started H enc _ => lifted os started H enc)

/-- The statement. -/
theorem proved : Rows.BitsSetsSaid := over
#print axioms proved

end Go.Proofs.Ytpeafahajpfcbaa.BitsSets
