/- Law ModeLeaks (P12.4): without a quorum, from any calm on, the first Delay ticks at most don't leak, and all behind them do. No condition. -/
import Derived.Test.YtioghkkpdkkedaaStake
import Derived.Test.YtioghkkpdkkedaaRows
namespace Go.Proofs.Ytioghkkpdkkedaa.ModeLeaks
open Go.RowKit Go.ChangeShapes Go.WideShapes Go.ChangeAt
set_option linter.unusedVariables false
set_option linter.unusedSimpArgs false

set_option maxRecDepth 100000 in
set_option maxHeartbeats 2000000 in
theorem end0 (p : Par) (c : Int) (pr ac : Nat) (em : Bool) (w : World) (ha : ac < 18446744073709551616)  (y : p.delay < 0) :
    Calls Try.prog 3 #[.agg p.vals, .int .i64 c, .agg #[.int .u64 (pr : Int), .int .u64 (ac : Int), .bool em]] w fun ev w' => ev = .returned (.bool true) ∧ Below w.heap.size w w' := by
  have hP0 := ParAt.new w p 24
  have hP := hP0.up ((Below.refl _ _).alloc (Nat.le_refl _) (.cells #[.int .u64 (pr : Int), .int .u64 (ac : Int), .bool em] 26))
  have hX : StakeAt ((w.alloc (.cells p.vals 24)).alloc (.cells #[.int .u64 (pr : Int), .int .u64 (ac : Int), .bool em] 26)) (w.heap.size + 1) pr ac em 26 := StakeAt.new _ _ _ _ _ (by simp)
  have hB : Below w.heap.size w ((w.alloc (.cells p.vals 24)).alloc (.cells #[.int .u64 (pr : Int), .int .u64 (ac : Int), .bool em] 26)) := ((Below.refl _ _).alloc (Nat.le_refl _) _).alloc (by simp) _
  clear hP0
  have v14 : p.vals[14]? = some (.int .i64 p.delay) := rfl
  have d0 : decide (p.delay < 0) = true := by simp; omega
  clear y ha
  go_enter Try.func3, Try.ntmps3
  go_wp2_with (go_at_call 4; refine (mode_awake _).mono ?_; rintro e w1 ⟨rfl, hb1⟩; have hP := hP.up hb1; have hX := hX.up hb1; have hB := Below.then hB hb1; have p14 := (hP.cell 14).trans v14; have x0 := hX.c0; have x1 := hX.c1; clear hb1)
  go_ret
  exact ⟨by first | rfl | simp, hB⟩

set_option maxRecDepth 100000 in
set_option maxHeartbeats 2000000 in
theorem end1 (p : Par) (c : Int) (pr ac : Nat) (em : Bool) (w : World) (ha : ac < 18446744073709551616) (n0 : ¬ p.delay < 0) (y : 200 < p.delay) :
    Calls Try.prog 3 #[.agg p.vals, .int .i64 c, .agg #[.int .u64 (pr : Int), .int .u64 (ac : Int), .bool em]] w fun ev w' => ev = .returned (.bool true) ∧ Below w.heap.size w w' := by
  have hP0 := ParAt.new w p 24
  have hP := hP0.up ((Below.refl _ _).alloc (Nat.le_refl _) (.cells #[.int .u64 (pr : Int), .int .u64 (ac : Int), .bool em] 26))
  have hX : StakeAt ((w.alloc (.cells p.vals 24)).alloc (.cells #[.int .u64 (pr : Int), .int .u64 (ac : Int), .bool em] 26)) (w.heap.size + 1) pr ac em 26 := StakeAt.new _ _ _ _ _ (by simp)
  have hB : Below w.heap.size w ((w.alloc (.cells p.vals 24)).alloc (.cells #[.int .u64 (pr : Int), .int .u64 (ac : Int), .bool em] 26)) := ((Below.refl _ _).alloc (Nat.le_refl _) _).alloc (by simp) _
  clear hP0
  have v14 : p.vals[14]? = some (.int .i64 p.delay) := rfl
  have d0 : decide (p.delay < 0) = false := by simp; omega
  have d1 : decide ((200 : Int) < p.delay) = true := by simp; omega
  clear n0 y ha
  go_enter Try.func3, Try.ntmps3
  go_wp2_with (go_at_call 4; refine (mode_awake _).mono ?_; rintro e w1 ⟨rfl, hb1⟩; have hP := hP.up hb1; have hX := hX.up hb1; have hB := Below.then hB hb1; have p14 := (hP.cell 14).trans v14; have x0 := hX.c0; have x1 := hX.c1; clear hb1)
  go_ret
  exact ⟨by first | rfl | simp, hB⟩

set_option maxRecDepth 100000 in
set_option maxHeartbeats 2000000 in
theorem end2 (p : Par) (c : Int) (pr ac : Nat) (em : Bool) (w : World) (ha : ac < 18446744073709551616) (n0 : ¬ p.delay < 0) (n1 : ¬ 200 < p.delay) (y : c < 0) :
    Calls Try.prog 3 #[.agg p.vals, .int .i64 c, .agg #[.int .u64 (pr : Int), .int .u64 (ac : Int), .bool em]] w fun ev w' => ev = .returned (.bool true) ∧ Below w.heap.size w w' := by
  have hP0 := ParAt.new w p 24
  have hP := hP0.up ((Below.refl _ _).alloc (Nat.le_refl _) (.cells #[.int .u64 (pr : Int), .int .u64 (ac : Int), .bool em] 26))
  have hX : StakeAt ((w.alloc (.cells p.vals 24)).alloc (.cells #[.int .u64 (pr : Int), .int .u64 (ac : Int), .bool em] 26)) (w.heap.size + 1) pr ac em 26 := StakeAt.new _ _ _ _ _ (by simp)
  have hB : Below w.heap.size w ((w.alloc (.cells p.vals 24)).alloc (.cells #[.int .u64 (pr : Int), .int .u64 (ac : Int), .bool em] 26)) := ((Below.refl _ _).alloc (Nat.le_refl _) _).alloc (by simp) _
  clear hP0
  have v14 : p.vals[14]? = some (.int .i64 p.delay) := rfl
  have d0 : decide (p.delay < 0) = false := by simp; omega
  have d1 : decide ((200 : Int) < p.delay) = false := by simp; omega
  have d2 : decide (c < 0) = true := by simp; omega
  clear n0 n1 y ha
  go_enter Try.func3, Try.ntmps3
  go_wp2_with (go_at_call 4; refine (mode_awake _).mono ?_; rintro e w1 ⟨rfl, hb1⟩; have hP := hP.up hb1; have hX := hX.up hb1; have hB := Below.then hB hb1; have p14 := (hP.cell 14).trans v14; have x0 := hX.c0; have x1 := hX.c1; clear hb1)
  go_ret
  exact ⟨by first | rfl | simp, hB⟩

set_option maxRecDepth 100000 in
set_option maxHeartbeats 2000000 in
theorem end3 (p : Par) (c : Int) (pr ac : Nat) (em : Bool) (w : World) (ha : ac < 18446744073709551616) (n0 : ¬ p.delay < 0) (n1 : ¬ 200 < p.delay) (n2 : ¬ c < 0) (y : 1048576 < c) :
    Calls Try.prog 3 #[.agg p.vals, .int .i64 c, .agg #[.int .u64 (pr : Int), .int .u64 (ac : Int), .bool em]] w fun ev w' => ev = .returned (.bool true) ∧ Below w.heap.size w w' := by
  have hP0 := ParAt.new w p 24
  have hP := hP0.up ((Below.refl _ _).alloc (Nat.le_refl _) (.cells #[.int .u64 (pr : Int), .int .u64 (ac : Int), .bool em] 26))
  have hX : StakeAt ((w.alloc (.cells p.vals 24)).alloc (.cells #[.int .u64 (pr : Int), .int .u64 (ac : Int), .bool em] 26)) (w.heap.size + 1) pr ac em 26 := StakeAt.new _ _ _ _ _ (by simp)
  have hB : Below w.heap.size w ((w.alloc (.cells p.vals 24)).alloc (.cells #[.int .u64 (pr : Int), .int .u64 (ac : Int), .bool em] 26)) := ((Below.refl _ _).alloc (Nat.le_refl _) _).alloc (by simp) _
  clear hP0
  have v14 : p.vals[14]? = some (.int .i64 p.delay) := rfl
  have d0 : decide (p.delay < 0) = false := by simp; omega
  have d1 : decide ((200 : Int) < p.delay) = false := by simp; omega
  have d2 : decide (c < 0) = false := by simp; omega
  have d3 : decide ((1048576 : Int) < c) = true := by simp; omega
  clear n0 n1 n2 y ha
  go_enter Try.func3, Try.ntmps3
  go_wp2_with (go_at_call 4; refine (mode_awake _).mono ?_; rintro e w1 ⟨rfl, hb1⟩; have hP := hP.up hb1; have hX := hX.up hb1; have hB := Below.then hB hb1; have p14 := (hP.cell 14).trans v14; have x0 := hX.c0; have x1 := hX.c1; clear hb1)
  go_ret
  exact ⟨by first | rfl | simp, hB⟩

set_option maxRecDepth 100000 in
set_option maxHeartbeats 2000000 in
theorem end4 (p : Par) (c : Int) (pr ac : Nat) (em : Bool) (w : World) (ha : ac < 18446744073709551616) (n0 : ¬ p.delay < 0) (n1 : ¬ 200 < p.delay) (n2 : ¬ c < 0) (n3 : ¬ 1048576 < c) (y : 1152921504606846976 < ac) :
    Calls Try.prog 3 #[.agg p.vals, .int .i64 c, .agg #[.int .u64 (pr : Int), .int .u64 (ac : Int), .bool em]] w fun ev w' => ev = .returned (.bool true) ∧ Below w.heap.size w w' := by
  have hP0 := ParAt.new w p 24
  have hP := hP0.up ((Below.refl _ _).alloc (Nat.le_refl _) (.cells #[.int .u64 (pr : Int), .int .u64 (ac : Int), .bool em] 26))
  have hX : StakeAt ((w.alloc (.cells p.vals 24)).alloc (.cells #[.int .u64 (pr : Int), .int .u64 (ac : Int), .bool em] 26)) (w.heap.size + 1) pr ac em 26 := StakeAt.new _ _ _ _ _ (by simp)
  have hB : Below w.heap.size w ((w.alloc (.cells p.vals 24)).alloc (.cells #[.int .u64 (pr : Int), .int .u64 (ac : Int), .bool em] 26)) := ((Below.refl _ _).alloc (Nat.le_refl _) _).alloc (by simp) _
  clear hP0
  have v14 : p.vals[14]? = some (.int .i64 p.delay) := rfl
  have d0 : decide (p.delay < 0) = false := by simp; omega
  have d1 : decide ((200 : Int) < p.delay) = false := by simp; omega
  have d2 : decide (c < 0) = false := by simp; omega
  have d3 : decide ((1048576 : Int) < c) = false := by simp; omega
  have d4 : decide ((1152921504606846976 : Int) < (ac : Int)) = true := by simp; omega
  clear n0 n1 n2 n3 y ha
  go_enter Try.func3, Try.ntmps3
  go_wp2_with (go_at_call 4; refine (mode_awake _).mono ?_; rintro e w1 ⟨rfl, hb1⟩; have hP := hP.up hb1; have hX := hX.up hb1; have hB := Below.then hB hb1; have p14 := (hP.cell 14).trans v14; have x0 := hX.c0; have x1 := hX.c1; clear hb1)
  go_ret
  exact ⟨by first | rfl | simp, hB⟩

set_option maxRecDepth 100000 in
set_option maxHeartbeats 2000000 in
theorem end5 (p : Par) (c : Int) (pr ac : Nat) (em : Bool) (w : World) (ha : ac < 18446744073709551616) (n0 : ¬ p.delay < 0) (n1 : ¬ 200 < p.delay) (n2 : ¬ c < 0) (n3 : ¬ 1048576 < c) (n4 : ¬ 1152921504606846976 < ac) (y : ac / 2 < pr) :
    Calls Try.prog 3 #[.agg p.vals, .int .i64 c, .agg #[.int .u64 (pr : Int), .int .u64 (ac : Int), .bool em]] w fun ev w' => ev = .returned (.bool true) ∧ Below w.heap.size w w' := by
  have hP0 := ParAt.new w p 24
  have hP := hP0.up ((Below.refl _ _).alloc (Nat.le_refl _) (.cells #[.int .u64 (pr : Int), .int .u64 (ac : Int), .bool em] 26))
  have hX : StakeAt ((w.alloc (.cells p.vals 24)).alloc (.cells #[.int .u64 (pr : Int), .int .u64 (ac : Int), .bool em] 26)) (w.heap.size + 1) pr ac em 26 := StakeAt.new _ _ _ _ _ (by simp)
  have hB : Below w.heap.size w ((w.alloc (.cells p.vals 24)).alloc (.cells #[.int .u64 (pr : Int), .int .u64 (ac : Int), .bool em] 26)) := ((Below.refl _ _).alloc (Nat.le_refl _) _).alloc (by simp) _
  clear hP0
  have v14 : p.vals[14]? = some (.int .i64 p.delay) := rfl
  have d0 : decide (p.delay < 0) = false := by simp; omega
  have d1 : decide ((200 : Int) < p.delay) = false := by simp; omega
  have d2 : decide (c < 0) = false := by simp; omega
  have d3 : decide ((1048576 : Int) < c) = false := by simp; omega
  have d4 : decide ((1152921504606846976 : Int) < (ac : Int)) = false := by simp; omega
  have d5 : decide (((ac / 2 : Nat) : Int) < (pr : Int)) = true := by simp; omega
  have e5 : (ac : Int).tdiv 2 = ((ac / 2 : Nat) : Int) := (Int.ofNat_tdiv ac 2).symm
  have e6 : IntKind.u64.wrap ((ac / 2 : Nat) : Int) = ((ac / 2 : Nat) : Int) := IntWalk.u64_in _ (by omega)
  have d6 : decide (ac / 2 < pr) = true := by simp; omega
  generalize hq : ac / 2 = q at *
  clear n0 n1 n2 n3 n4 y ha
  go_enter Try.func3, Try.ntmps3
  go_wp2_with (go_at_call 4; refine (mode_awake _).mono ?_; rintro e w1 ⟨rfl, hb1⟩; have hP := hP.up hb1; have hX := hX.up hb1; have hB := Below.then hB hb1; have p14 := (hP.cell 14).trans v14; have x0 := hX.c0; have x1 := hX.c1; clear hb1)
  go_ret
  exact ⟨by first | rfl | simp, hB⟩

set_option maxRecDepth 100000 in
set_option maxHeartbeats 2000000 in
theorem walk_on (p : Par) (d n : Nat) (pr ac : Nat) (em : Bool) (w : World) (hd : p.delay = (d : Int)) (hd2 : d ≤ 200) (hn : n ≤ 1048576) (ha : ac ≤ 1152921504606846976) (hp : pr ≤ ac / 2) :
    Calls Try.prog 3 #[.agg p.vals, .int .i64 (n : Int), .agg #[.int .u64 (pr : Int), .int .u64 (ac : Int), .bool em]] w fun ev w' => ev = .returned (.bool true) ∧ Below w.heap.size w w' := by
  have hP0 := ParAt.new w p 24
  have hP := hP0.up ((Below.refl _ _).alloc (Nat.le_refl _) (.cells #[.int .u64 (pr : Int), .int .u64 (ac : Int), .bool em] 26))
  have hX : StakeAt ((w.alloc (.cells p.vals 24)).alloc (.cells #[.int .u64 (pr : Int), .int .u64 (ac : Int), .bool em] 26)) (w.heap.size + 1) pr ac em 26 := StakeAt.new _ _ _ _ _ (by simp)
  have hB : Below w.heap.size w ((w.alloc (.cells p.vals 24)).alloc (.cells #[.int .u64 (pr : Int), .int .u64 (ac : Int), .bool em] 26)) := ((Below.refl _ _).alloc (Nat.le_refl _) _).alloc (by simp) _
  clear hP0
  have v14 : p.vals[14]? = some (.int .i64 p.delay) := rfl
  rw [hd] at v14
  have d0 : decide ((d : Int) < 0) = false := by simp
  have d1 : decide ((200 : Int) < (d : Int)) = false := by simp; omega
  have d2 : decide ((n : Int) < 0) = false := by simp
  have d3 : decide ((1048576 : Int) < (n : Int)) = false := by simp; omega
  have d4 : decide ((1152921504606846976 : Int) < (ac : Int)) = false := by simp; omega
  have d5 : decide (((ac / 2 : Nat) : Int) < (pr : Int)) = false := by simp; omega
  have d6 : decide (ac / 2 < pr) = false := by simp; omega
  have d7 : decide (200 < d) = false := by simp; omega
  have d8 : decide (1048576 < n) = false := by simp; omega
  have d9 : decide (1152921504606846976 < ac) = false := by simp; omega
  have e5 : (ac : Int).tdiv 2 = ((ac / 2 : Nat) : Int) := (Int.ofNat_tdiv ac 2).symm
  have e6 : IntKind.u64.wrap ((ac / 2 : Nat) : Int) = ((ac / 2 : Nat) : Int) := IntWalk.u64_in _ (by omega)
  obtain ⟨N, hN5⟩ : ∃ N, N = d + 5 := ⟨_, rfl⟩
  have e7 : IntKind.i64.wrap ((d : Int) + 5) = (N : Int) := by rw [hN5]; exact IntWalk.i64_in _ (by omega)
  have HN5 := Lib.hid hN5
  have hT : Hid (decide (0 < ac ∧ 2 * ac < 3 * pr) = false) := Lib.hid (by simp; omega)
  have hpb : pr < 18446744073709551616 := by omega
  have hab : ac < 18446744073709551616 := by omega
  have HP := Lib.hid hpb
  have HA := Lib.hid hab
  have HD := Lib.hid hd
  have HD2 := Lib.hid hd2
  have HN := Lib.hid hn
  generalize hq : ac / 2 = q at *
  clear hd hd2 hn ha hp hpb hab hq hN5
  go_enter Try.func3, Try.ntmps3
  go_wp2_with (go_at_call 4; refine (mode_awake _).mono ?_; rintro e w1 ⟨rfl, hb1⟩; have hP := hP.up hb1; have hX := hX.up hb1; have hB := Below.then hB hb1; have p14 := (hP.cell 14).trans v14; have x0 := hX.c0; have x1 := hX.c1; clear hb1)
  have hB1 : w.heap.size + 2 ≤ w1.heap.size := hX.lt
  clear x0 x1 p14 d0 d1 d2 d3 d4 d5 d6 d7 d8 d9 e5 e6
  go_loopw [1, 7, 47] (fun cv qv jv wr => ∃ k j t : Nat, k ≤ N ∧ jv = .int .i64 (k : Int) ∧ cv = .int .i64 (j : Int) ∧ qv = .int .i64 (t : Int) ∧ Hid (j = n + k) ∧ Hid (t = min k (d - n)) ∧ Below w1.heap.size w1 wr) (fun _ _ jv _ => N - (intOf jv).toNat)
  case atStart => exact ⟨0, n, 0, Nat.zero_le _, rfl, rfl, rfl, Lib.hid rfl, Lib.hid (by simp), Below.refl _ _⟩
  case round =>
    obtain ⟨k, j, t, hk, rfl, rfl, rfl, HJ, HT, hBr⟩ := hrel
    have hP := hP.below hBr (by omega)
    have hX := hX.below hBr (by omega)
    have p14 := (hP.cell 14).trans v14
    have x0 := hX.c0
    have x1 := hX.c1
    have hd2 := HD2.out
    have hn := HN.out
    have ed := HD.out
    have hj := HJ.out
    have ht := HT.out
    have h5 := HN5.out
    by_cases hlt : k < N
    · obtain ⟨i, hi⟩ : ∃ i, i = j + 1 := ⟨_, rfl⟩
      have ks := fun w => mode_step_no p (j : Int) (i : Int) pr ac w HP.out HA.out hT (Lib.hid (by rw [hi]; exact calmer_nat (by omega)))
      have d1 : decide ((k : Int) < (N : Int)) = true := by simp; omega
      have d2 : decide (k < N) = true := by simp; omega
      have e1 : IntKind.i64.wrap ((j : Int) + 1) = (i : Int) := by rw [hi]; exact IntWalk.i64_in _ (by omega)
      have e2 : IntKind.i64.wrap ((k : Int) + 1) = (k : Int) + 1 := IntWalk.i64_in _ (by omega)
      have HJ1 : Hid (i = n + (k + 1)) := Lib.hid (by omega)
      have HL := Lib.hid hlt
      rcases Nat.lt_or_ge d i with hm | hm
      · have kf := fun w => mode_of p (i : Int) 3 false w (Lib.hid (by unfold modeOf; rw [ed, if_neg (by decide), if_pos (by omega)]))
        have HT1 : Hid (t = min (k + 1) (d - n)) := Lib.hid (by omega)
        clear hm hd2 hn ed hk hlt hj ht h5 hi
        go_upto_region 9 with (first
          | (refine load_par _ rfl rfl _ p _ rfl (by assumption) ?_)
          | (go_at_call 5; refine (ks _).mono ?_; clear ks; rintro e w3 ⟨rfl, hb3⟩; have hBr := Below.then hBr hb3; have hP := hP.up hb3; have hX := hX.up hb3; have p14 := (hP.cell 14).trans v14; have x0 := hX.c0; have x1 := hX.c1; clear hb3))
        go_upto_region 12 with fail
        go_upto_region 13 with (first
          | (refine load_par _ rfl rfl _ p _ rfl (by assumption) ?_)
          | (go_at_call 6; refine (kf _).mono ?_; clear kf; rintro e w3 ⟨rfl, hb3⟩; have hBr := Below.then hBr hb3; have hP := hP.up hb3; have hX := hX.up hb3; have p14 := (hP.cell 14).trans v14; have x0 := hX.c0; have x1 := hX.c1; clear hb3))
        go_wp2
        go_roundw
        case rel => exact ⟨k + 1, i, t, HL.out, by go_num, by go_num, by go_num, HJ1, HT1, hBr⟩
        case measure => have hl := HL.out; simp [intOf]; omega
      · have kf := fun w => mode_of p (i : Int) 2 false w (Lib.hid (by unfold modeOf; rw [ed, if_neg (by decide), if_neg (by omega), if_pos (by omega)]))
        obtain ⟨u, hu⟩ : ∃ u, u = t + 1 := ⟨_, rfl⟩
        have HT1 : Hid (u = min (k + 1) (d - n)) := Lib.hid (by omega)
        have e3 : IntKind.i64.wrap ((t : Int) + 1) = (u : Int) := by rw [hu]; exact IntWalk.i64_in _ (by omega)
        have d3 : decide ((d : Int) < (i : Int)) = false := by simp; omega
        have d4 : decide (d < i) = false := by simp; omega
        clear hm hd2 hn ed hk hlt hj ht h5 hi hu
        go_upto_region 9 with (first
          | (refine load_par _ rfl rfl _ p _ rfl (by assumption) ?_)
          | (go_at_call 5; refine (ks _).mono ?_; clear ks; rintro e w3 ⟨rfl, hb3⟩; have hBr := Below.then hBr hb3; have hP := hP.up hb3; have hX := hX.up hb3; have p14 := (hP.cell 14).trans v14; have x0 := hX.c0; have x1 := hX.c1; clear hb3))
        go_upto_region 12 with fail
        go_upto_region 13 with (first
          | (refine load_par _ rfl rfl _ p _ rfl (by assumption) ?_)
          | (go_at_call 6; refine (kf _).mono ?_; clear kf; rintro e w3 ⟨rfl, hb3⟩; have hBr := Below.then hBr hb3; have hP := hP.up hb3; have hX := hX.up hb3; have p14 := (hP.cell 14).trans v14; have x0 := hX.c0; have x1 := hX.c1; clear hb3))
        go_wp2
        go_roundw
        case rel => exact ⟨k + 1, i, u, HL.out, by go_num, by go_num, by go_num, HJ1, HT1, hBr⟩
        case measure => have hl := HL.out; simp [intOf]; omega
    · obtain rfl : k = N := by omega
      have d1 : decide ((k : Int) < (k : Int)) = false := by simp
      have ks := fun w => mode_step_yes p (j : Int) 1 1 w (by decide) (by decide) (Lib.hid (by decide))
      rw [show ((1 : Nat) : Int) = 1 from rfl] at ks
      have k3 := fun w => mode_of p (j : Int) 3 false w (Lib.hid (by unfold modeOf; rw [ed, if_neg (by decide), if_pos (by omega)]))
      have k1 := fun w => mode_of p 0 1 false w (Lib.hid (by unfold modeOf; rw [ed, if_neg (by decide), if_neg (by omega), if_neg (by omega)]))
      have k4 := fun w => mode_of p 0 4 true w (Lib.hid rfl)
      have d3 : decide ((t : Int) ≤ (d : Int)) = true := by simp; omega
      have d4 : decide (t ≤ d) = true := by simp; omega
      clear hd2 hn ed hk hlt hj ht h5
      go_wp2_with (first
        | (refine load_par _ rfl rfl _ p _ rfl (by assumption) ?_)
        | (go_at_call 5; refine (ks _).mono ?_; clear ks; rintro e w3 ⟨rfl, hb3⟩; have hBr := Below.then hBr hb3; have hP := hP.up hb3; have hX := hX.up hb3; have p14 := (hP.cell 14).trans v14; have x0 := hX.c0; have x1 := hX.c1; clear hb3)
        | (go_at_call 6; refine (k3 _).mono ?_; clear k3; rintro e w3 ⟨rfl, hb3⟩; have hBr := Below.then hBr hb3; have hP := hP.up hb3; have hX := hX.up hb3; have p14 := (hP.cell 14).trans v14; have x0 := hX.c0; have x1 := hX.c1; clear hb3)
        | (go_at_call 6; refine (k1 _).mono ?_; clear k1; rintro e w3 ⟨rfl, hb3⟩; have hBr := Below.then hBr hb3; have hP := hP.up hb3; have hX := hX.up hb3; have p14 := (hP.cell 14).trans v14; have x0 := hX.c0; have x1 := hX.c1; clear hb3)
        | (go_at_call 6; refine (k4 _).mono ?_; clear k4; rintro e w3 ⟨rfl, hb3⟩; have hBr := Below.then hBr hb3; have hP := hP.up hb3; have hX := hX.up hb3; have p14 := (hP.cell 14).trans v14; have x0 := hX.c0; have x1 := hX.c1; clear hb3))
      go_ret
      exact ⟨by first | rfl | simp, Below.then hB hBr⟩

theorem walk (p : Par) (c : Int) (pr ac : Nat) (em : Bool) (w : World) (hf : p.Fits) (hpb : pr < 18446744073709551616) (ha : ac < 18446744073709551616) :
    Calls Try.prog 3 #[.agg p.vals, .int .i64 c, .agg #[.int .u64 (pr : Int), .int .u64 (ac : Int), .bool em]] w fun ev w' => ev = .returned (.bool true) ∧ Below w.heap.size w w' := by
  by_cases h0 : p.delay < 0
  · exact end0 p c pr ac em w ha h0
  by_cases h1 : 200 < p.delay
  · exact end1 p c pr ac em w ha h0 h1
  by_cases h2 : c < 0
  · exact end2 p c pr ac em w ha h0 h1 h2
  by_cases h3 : 1048576 < c
  · exact end3 p c pr ac em w ha h0 h1 h2 h3
  by_cases h4 : 1152921504606846976 < ac
  · exact end4 p c pr ac em w ha h0 h1 h2 h3 h4
  by_cases h5 : ac / 2 < pr
  · exact end5 p c pr ac em w ha h0 h1 h2 h3 h4 h5
  obtain ⟨d, hd⟩ := Int.eq_ofNat_of_zero_le (Int.not_lt.1 h0)
  obtain ⟨n, rfl⟩ := Int.eq_ofNat_of_zero_le (Int.not_lt.1 h2)
  exact walk_on p d n pr ac em w hd (by omega) (by omega) (by omega) (by omega)


theorem own : ownKnob Try.prog.godebug = none := by kernel_rfl
theorem laidOut : laidOutB Try.prog = true := by kernel_rfl

set_option maxRecDepth 100000 in
theorem lifted (os : Os) (started : os.Started) (H : Type) (enc : TypeId × Value → H) :
    ReturnsInHanded {} Try.checked os 3 .any (Rows.modeLeaksSpec.pre6 enc Try.prog Try.f3 Rows.modeLeaksRow.domain false) (Rows.modeLeaksSpec.post enc Try.prog Try.f3 false true false false) := by
  refine returnsInHanded_of_change (C := Try.checked) own started (by kernel_rfl) Try.func3
    (ChangeSpec.witness6 (enc := enc) (C := Try.checked) false ⟨#[], #[.agg #[.int .u64 0, .int .u64 0, .int .u64 0, .int .u64 0, .int .u64 0, .int .u64 0, .int .u64 0, .int .u64 0, .int .u64 0, .int .u64 0, .int .u64 0, .int .u64 0, .int .u64 0, .int .u64 0, .int .i64 0, .int .i64 0, .int .i64 0, .int .i64 0, .int .i64 0, .int .i64 0, .int .i64 0, .int .i64 0, .int .i64 0, .int .i64 0], .int .i64 0, .agg #[.int .u64 0, .int .u64 0, .bool false]], []⟩ 8 (by kernel_rfl) (by kernel_rfl) (by kernel_rfl) (by kernel_rfl)) ?_
  intro W base args ds gs before hval0 hW hcnd _
  have hval : ∀ (j : Nat) t v, Try.f3.params[j]? = some t → args[j]? = some v → Value.okWide Try.prog W .any base t v := hval0
  have hW' := hW
  obtain ⟨p, q, hA0, hV, rfl, hfz, hnd⟩ := hW
  have hlt : ∀ x ∈ p ++ q, x.block < W.heap.size := fun x hx => hW'.lt x hx
  have hA : DataW.TrodAll enc Try.prog W 0 (fun _ => true) true Try.f3.params.toList args.toList ds p := hA0
  rw [Try.params3] at hA hval
  obtain ⟨v0, vs0, d0, ds0, p0, q0, hargs, rfl, rfl, h0, r0⟩ := trodAll_cons hA
  obtain ⟨v1, vs1, d1, ds1, p1, q1, rfl, rfl, rfl, h1, r1⟩ := trodAll_cons r0
  obtain ⟨v2, vs2, d2, ds2, p2, q2, rfl, rfl, rfl, h2, r2⟩ := trodAll_cons r1
  obtain ⟨rfl, rfl, rfl⟩ := trodAll_nil r2
  obtain rfl : args = #[v0, v1, v2] := by cases args; simp_all
  obtain ⟨rfl, rfl⟩ := trodVars_none hV
  obtain ⟨a0, rfl, f0⟩ := open_par (hval 0 24 v0 rfl rfl) h0
  obtain ⟨a1, rfl, rfl, rfl, w1⟩ := open_int Try.underlying3 (hval 1 3 v1 rfl rfl) h1
  obtain ⟨x2, y2, b2, rfl, f2, g2⟩ := open_stakes (hval 2 26 v2 rfl rfl) h2
  clear hA0 hval0
  refine (walk a0 a1 x2 y2 b2 W f0 f2 g2).mono fun e W' ⟨he, hg⟩ => ?_
  subst he
  exact ⟨_, rfl, law_post laidOut (by kernel_rfl) rfl rfl Try.underlying4 rfl hW' hg⟩

theorem over : Rows.modeLeaksRow.holds Try.pinned (OpenSpec.ofChange Rows.modeLeaksSpec) :=
  OpenClaim.holds_of_wide 3 Try.f3 rfl rfl rfl rfl rfl rfl rfl ⟨rfl, rfl, rfl, rfl, rfl⟩ rfl rfl rfl rfl rfl (by kernel_rfl) Try.func3 (by kernel_rfl)
    (of_decide_eq_true (by kernel_rfl)) (by unfold Func.isWrapper; first | (rw [if_pos (by decide +kernel)]; kernel_rfl) | (rw [if_neg (by decide +kernel)]; exact ⟨rfl, rfl⟩))
    (fun os started H enc _ => lifted os started H enc)

/-- The statement. -/
theorem proved : Rows.ModeLeaksSaid := over
#print axioms proved

end Go.Proofs.Ytioghkkpdkkedaa.ModeLeaks
