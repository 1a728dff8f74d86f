/- Law PrizeWhole (P14.3): what is paid and what is above it is the prize; nobody has more than the most by it, and nothing else changes. No condition. -/
import Derived.Test.YtijenmkhbkbnfaaAwake14
import Derived.Test.YtijenmkhbkbnfaaParP
import Derived.Test.YtijenmkhbkbnfaaParSb
import Derived.Test.YtijenmkhbkbnfaaLawP
import Derived.Test.YtijenmkhbkbnfaaStdL
import Derived.Test.YtijenmkhbkbnfaaRows
namespace Go.Proofs.Ytijenmkhbkbnfaa.PrizeWhole
open Go.RowKit Go.ChangeShapes Go.WideShapes Go.ChangeAt
set_option linter.unusedVariables false
set_option linter.unusedSimpArgs false


set_option maxRecDepth 100000 in
set_option maxHeartbeats 2000000 in
theorem walk_no (p : Par) (s : Std) (n v k t : Nat) (w : World) (kp : PayIs p s n ⟨v, s.eff, s.score, s.streak⟩ k) (kr : ∀ w, Calls Try.prog 10 #[.agg p.vals] w fun e w' => e = .returned (.bool false) ∧ Below w.heap.size w w') (hv : s.bal + t = v) (hn : k + t = n) (hv64 : v < 18446744073709551616) (hn64 : n < 18446744073709551616) :
    Calls Try.prog 6 #[.agg p.vals, .agg s.vals, .int .u64 (n : Int)] w fun ev w' => ev = .returned (.bool true) ∧ Below w.heap.size w w' := by
  have hP := (ParAt.new w p 24).up ((Below.refl _ _).alloc (Nat.le_refl _) (.cells s.vals 36))
  have hS : StdAt ((w.alloc (.cells p.vals 24)).alloc (.cells s.vals 36)) (w.heap.size + 1) s 36 := StdAt.new _ s _ (by simp)
  have hB : Below w.heap.size w ((w.alloc (.cells p.vals 24)).alloc (.cells s.vals 36)) := ((Below.refl _ _).alloc (Nat.le_refl _) _).alloc (by simp) _
  have pv3 := p.v3
  have d1 : decide ((n : Int) < (k : Int)) = false := decide_eq_false (by omega)
  have d2 : decide (n < k) = false := decide_eq_false (by omega)
  have d3 : decide ((v : Int) < (s.bal : Int)) = false := decide_eq_false (by omega)
  have d4 : decide (v < s.bal) = false := decide_eq_false (by omega)
  have e1 : IntKind.u64.wrap ((v : Int) - (s.bal : Int)) = (t : Int) := by rw [show (v : Int) - (s.bal : Int) = (t : Int) by omega]; exact IntWalk.u64_in _ (by omega)
  have e2 : IntKind.u64.wrap ((n : Int) - (k : Int)) = (t : Int) := by rw [show (n : Int) - (k : Int) = (t : Int) by omega]; exact IntWalk.u64_in _ (by omega)
  clear hv hn hv64 hn64
  unfold PayIs at kp
  skip
  have HL := Lib.hid True.intro
  go_enter Try.func6, Try.ntmps6
  go_upto_region 4 with (first
    | (refine load_par _ rfl rfl _ p _ rfl (by assumption) ?_)
    | (refine load_std _ rfl rfl _ s _ rfl (by assumption) ?_)
    | (go_at_call 7; refine (prize_awake _).mono ?_; rintro e w1 ⟨rfl, hb1⟩; have hP := hP.up hb1; have hS := hS.up hb1; have hB := Below.then hB hb1; clear hb1)
    | (go_at_call 15; refine (kp _).mono ?_; clear kp; rintro e w1 ⟨rfl, hb1⟩; have hP := hP.up hb1; have hS := hS.up hb1; have hB := Below.then hB hb1; clear hb1)
    | (refine store_std _ _ rfl rfl _ ⟨v, s.eff, s.score, s.streak⟩ Std.none 36 rfl rfl (std_zero_new _ _) ?_; intro w2 hR hb2; have hb2 := below_made (Below.refl _ _) hb2; have hP := hP.up hb2; have hS := hS.up hb2; have hB := Below.then hB hb2; clear hb2; have s0 := hS.c0; have s1 := hS.c1; have s2 := hS.c2; have s3 := hS.c3; have p3 := (hP.cell 3).trans pv3; have r0 := hR.c0; have r1 := hR.c1; have r2 := hR.c2; have r3 := hR.c3))
  go_upto_region 6 with fail
  go_wp2_with (first
    | (clear HL; refine load_par _ rfl rfl _ p _ rfl (by assumption) ?_)
    | (go_at_call 9; refine (plain_is p _).mono ?_; rintro e w1 ⟨rfl, hb1⟩; have hP := hP.up hb1; have hS := hS.up hb1; have hR := hR.up hb1; have hB := Below.then hB hb1; clear hb1; have s0 := hS.c0; have s1 := hS.c1; have s2 := hS.c2; have s3 := hS.c3; have p3 := (hP.cell 3).trans pv3; have r0 := hR.c0; have r1 := hR.c1; have r2 := hR.c2; have r3 := hR.c3)
    | (go_at_call 10; refine (kr _).mono ?_; clear kr; rintro e w1 ⟨rfl, hb1⟩; have hP := hP.up hb1; have hS := hS.up hb1; have hR := hR.up hb1; have hB := Below.then hB hb1; clear hb1; have s0 := hS.c0; have s1 := hS.c1; have s2 := hS.c2; have s3 := hS.c3; have p3 := (hP.cell 3).trans pv3; have r0 := hR.c0; have r1 := hR.c1; have r2 := hR.c2; have r3 := hR.c3)
    )
  go_ret
  exact ⟨by first | rfl | simp, hB⟩


set_option maxRecDepth 100000 in
set_option maxHeartbeats 2000000 in
theorem walk_same (p : Par) (s : Std) (n : Nat) (w : World) (kp : PayIs p s n ⟨s.bal, s.eff, s.score, s.streak⟩ n) (kr : ∀ w, Calls Try.prog 10 #[.agg p.vals] w fun e w' => e = .returned (.bool true) ∧ Below w.heap.size w w') (hn64 : n < 18446744073709551616) :
    Calls Try.prog 6 #[.agg p.vals, .agg s.vals, .int .u64 (n : Int)] w fun ev w' => ev = .returned (.bool true) ∧ Below w.heap.size w w' := by
  have hP := (ParAt.new w p 24).up ((Below.refl _ _).alloc (Nat.le_refl _) (.cells s.vals 36))
  have hS : StdAt ((w.alloc (.cells p.vals 24)).alloc (.cells s.vals 36)) (w.heap.size + 1) s 36 := StdAt.new _ s _ (by simp)
  have hB : Below w.heap.size w ((w.alloc (.cells p.vals 24)).alloc (.cells s.vals 36)) := ((Below.refl _ _).alloc (Nat.le_refl _) _).alloc (by simp) _
  have pv3 := p.v3
  clear hn64
  unfold PayIs at kp
  skip
  have HL := Lib.hid True.intro
  go_enter Try.func6, Try.ntmps6
  go_upto_region 4 with (first
    | (refine load_par _ rfl rfl _ p _ rfl (by assumption) ?_)
    | (refine load_std _ rfl rfl _ s _ rfl (by assumption) ?_)
    | (go_at_call 7; refine (prize_awake _).mono ?_; rintro e w1 ⟨rfl, hb1⟩; have hP := hP.up hb1; have hS := hS.up hb1; have hB := Below.then hB hb1; clear hb1)
    | (go_at_call 15; refine (kp _).mono ?_; clear kp; rintro e w1 ⟨rfl, hb1⟩; have hP := hP.up hb1; have hS := hS.up hb1; have hB := Below.then hB hb1; clear hb1)
    | (refine store_std _ _ rfl rfl _ ⟨s.bal, s.eff, s.score, s.streak⟩ Std.none 36 rfl rfl (std_zero_new _ _) ?_; intro w2 hR hb2; have hb2 := below_made (Below.refl _ _) hb2; have hP := hP.up hb2; have hS := hS.up hb2; have hB := Below.then hB hb2; clear hb2; have s0 := hS.c0; have s1 := hS.c1; have s2 := hS.c2; have s3 := hS.c3; have p3 := (hP.cell 3).trans pv3; have r0 := hR.c0; have r1 := hR.c1; have r2 := hR.c2; have r3 := hR.c3))
  go_upto_region 6 with fail
  go_wp2_with (first
    | (clear HL; refine load_par _ rfl rfl _ p _ rfl (by assumption) ?_)
    | (go_at_call 9; refine (plain_is p _).mono ?_; rintro e w1 ⟨rfl, hb1⟩; have hP := hP.up hb1; have hS := hS.up hb1; have hR := hR.up hb1; have hB := Below.then hB hb1; clear hb1; have s0 := hS.c0; have s1 := hS.c1; have s2 := hS.c2; have s3 := hS.c3; have p3 := (hP.cell 3).trans pv3; have r0 := hR.c0; have r1 := hR.c1; have r2 := hR.c2; have r3 := hR.c3)
    | (go_at_call 10; refine (kr _).mono ?_; clear kr; rintro e w1 ⟨rfl, hb1⟩; have hP := hP.up hb1; have hS := hS.up hb1; have hR := hR.up hb1; have hB := Below.then hB hb1; clear hb1; have s0 := hS.c0; have s1 := hS.c1; have s2 := hS.c2; have s3 := hS.c3; have p3 := (hP.cell 3).trans pv3; have r0 := hR.c0; have r1 := hR.c1; have r2 := hR.c2; have r3 := hR.c3)
    )
  go_ret
  exact ⟨by first | rfl | simp, hB⟩


set_option maxRecDepth 100000 in
set_option maxHeartbeats 2000000 in
theorem walk_all (p : Par) (s : Std) (n v : Nat) (w : World) (kp : PayIs p s n ⟨v, s.eff, s.score, s.streak⟩ 0) (kr : ∀ w, Calls Try.prog 10 #[.agg p.vals] w fun e w' => e = .returned (.bool true) ∧ Below w.heap.size w w') (hv : s.bal + n = v) (hv64 : v < 18446744073709551616) (hn64 : n < 18446744073709551616) (h0 : ¬ n = 0) (hc : v ≤ p.cap) :
    Calls Try.prog 6 #[.agg p.vals, .agg s.vals, .int .u64 (n : Int)] w fun ev w' => ev = .returned (.bool true) ∧ Below w.heap.size w w' := by
  have hP := (ParAt.new w p 24).up ((Below.refl _ _).alloc (Nat.le_refl _) (.cells s.vals 36))
  have hS : StdAt ((w.alloc (.cells p.vals 24)).alloc (.cells s.vals 36)) (w.heap.size + 1) s 36 := StdAt.new _ s _ (by simp)
  have hB : Below w.heap.size w ((w.alloc (.cells p.vals 24)).alloc (.cells s.vals 36)) := ((Below.refl _ _).alloc (Nat.le_refl _) _).alloc (by simp) _
  have pv3 := p.v3
  have d3 : decide ((v : Int) < (s.bal : Int)) = false := decide_eq_false (by omega)
  have d4 : decide (v < s.bal) = false := decide_eq_false (by omega)
  have z1 : (((v : Nat) : Int) == ((s.bal : Nat) : Int)) = false := by simp; omega
  have z2 : (v == s.bal) = false := by simp; omega
  have z3 : ¬ v = s.bal := by omega
  have c1 : decide ((v : Int) ≤ (p.cap : Int)) = true := decide_eq_true (by omega)
  have c2 : decide (v ≤ p.cap) = true := decide_eq_true (by omega)
  have e1 : IntKind.u64.wrap ((v : Int) - (s.bal : Int)) = (n : Int) := by rw [show (v : Int) - (s.bal : Int) = (n : Int) by omega]; exact IntWalk.u64_in _ (by omega)
  have e2 : IntKind.u64.wrap (n : Int) = (n : Int) := IntWalk.u64_in _ (by omega)
  have d1 : decide ((n : Int) < 0) = false := decide_eq_false (by omega)
  clear hv hv64 hn64 h0 hc
  unfold PayIs at kp
  rw [show ((0 : Nat) : Int) = 0 from rfl] at kp
  have HL := Lib.hid True.intro
  go_enter Try.func6, Try.ntmps6
  go_upto_region 4 with (first
    | (refine load_par _ rfl rfl _ p _ rfl (by assumption) ?_)
    | (refine load_std _ rfl rfl _ s _ rfl (by assumption) ?_)
    | (go_at_call 7; refine (prize_awake _).mono ?_; rintro e w1 ⟨rfl, hb1⟩; have hP := hP.up hb1; have hS := hS.up hb1; have hB := Below.then hB hb1; clear hb1)
    | (go_at_call 15; refine (kp _).mono ?_; clear kp; rintro e w1 ⟨rfl, hb1⟩; have hP := hP.up hb1; have hS := hS.up hb1; have hB := Below.then hB hb1; clear hb1)
    | (refine store_std _ _ rfl rfl _ ⟨v, s.eff, s.score, s.streak⟩ Std.none 36 rfl rfl (std_zero_new _ _) ?_; intro w2 hR hb2; have hb2 := below_made (Below.refl _ _) hb2; have hP := hP.up hb2; have hS := hS.up hb2; have hB := Below.then hB hb2; clear hb2; have s0 := hS.c0; have s1 := hS.c1; have s2 := hS.c2; have s3 := hS.c3; have p3 := (hP.cell 3).trans pv3; have r0 := hR.c0; have r1 := hR.c1; have r2 := hR.c2; have r3 := hR.c3))
  go_upto_region 6 with fail
  go_wp2_with (first
    | (clear HL; refine load_par _ rfl rfl _ p _ rfl (by assumption) ?_)
    | (go_at_call 9; refine (plain_is p _).mono ?_; rintro e w1 ⟨rfl, hb1⟩; have hP := hP.up hb1; have hS := hS.up hb1; have hR := hR.up hb1; have hB := Below.then hB hb1; clear hb1; have s0 := hS.c0; have s1 := hS.c1; have s2 := hS.c2; have s3 := hS.c3; have p3 := (hP.cell 3).trans pv3; have r0 := hR.c0; have r1 := hR.c1; have r2 := hR.c2; have r3 := hR.c3)
    | (go_at_call 10; refine (kr _).mono ?_; clear kr; rintro e w1 ⟨rfl, hb1⟩; have hP := hP.up hb1; have hS := hS.up hb1; have hR := hR.up hb1; have hB := Below.then hB hb1; clear hb1; have s0 := hS.c0; have s1 := hS.c1; have s2 := hS.c2; have s3 := hS.c3; have p3 := (hP.cell 3).trans pv3; have r0 := hR.c0; have r1 := hR.c1; have r2 := hR.c2; have r3 := hR.c3)
    )
  go_ret
  exact ⟨by first | rfl | simp, hB⟩


set_option maxRecDepth 100000 in
set_option maxHeartbeats 2000000 in
theorem walk_part (p : Par) (s : Std) (n k t : Nat) (w : World) (kp : PayIs p s n ⟨p.cap, s.eff, s.score, s.streak⟩ k) (kr : ∀ w, Calls Try.prog 10 #[.agg p.vals] w fun e w' => e = .returned (.bool true) ∧ Below w.heap.size w w') (hv : s.bal + t = p.cap) (hn : k + t = n) (hv64 : p.cap < 18446744073709551616) (hn64 : n < 18446744073709551616) (h0 : ¬ t = 0) (hk : ¬ k = 0) :
    Calls Try.prog 6 #[.agg p.vals, .agg s.vals, .int .u64 (n : Int)] w fun ev w' => ev = .returned (.bool true) ∧ Below w.heap.size w w' := by
  have hP := (ParAt.new w p 24).up ((Below.refl _ _).alloc (Nat.le_refl _) (.cells s.vals 36))
  have hS : StdAt ((w.alloc (.cells p.vals 24)).alloc (.cells s.vals 36)) (w.heap.size + 1) s 36 := StdAt.new _ s _ (by simp)
  have hB : Below w.heap.size w ((w.alloc (.cells p.vals 24)).alloc (.cells s.vals 36)) := ((Below.refl _ _).alloc (Nat.le_refl _) _).alloc (by simp) _
  have pv3 := p.v3
  have d1 : decide ((n : Int) < (k : Int)) = false := decide_eq_false (by omega)
  have d2 : decide (n < k) = false := decide_eq_false (by omega)
  have d3 : decide ((p.cap : Int) < (s.bal : Int)) = false := decide_eq_false (by omega)
  have d4 : decide (p.cap < s.bal) = false := decide_eq_false (by omega)
  have e1 : IntKind.u64.wrap ((p.cap : Int) - (s.bal : Int)) = (t : Int) := by rw [show (p.cap : Int) - (s.bal : Int) = (t : Int) by omega]; exact IntWalk.u64_in _ (by omega)
  have e2 : IntKind.u64.wrap ((n : Int) - (k : Int)) = (t : Int) := by rw [show (n : Int) - (k : Int) = (t : Int) by omega]; exact IntWalk.u64_in _ (by omega)
  have z1 : (((p.cap : Nat) : Int) == ((s.bal : Nat) : Int)) = false := by simp; omega
  have z2 : (p.cap == s.bal) = false := by simp; omega
  have z3 : ¬ p.cap = s.bal := by omega
  have y1 : ((k : Int) == 0) = false := by simp; omega
  have y2 : (k == 0) = false := by simp; omega
  clear hv hn hv64 hn64 h0
  unfold PayIs at kp
  skip
  have HL := Lib.hid True.intro
  go_enter Try.func6, Try.ntmps6
  go_upto_region 4 with (first
    | (refine load_par _ rfl rfl _ p _ rfl (by assumption) ?_)
    | (refine load_std _ rfl rfl _ s _ rfl (by assumption) ?_)
    | (go_at_call 7; refine (prize_awake _).mono ?_; rintro e w1 ⟨rfl, hb1⟩; have hP := hP.up hb1; have hS := hS.up hb1; have hB := Below.then hB hb1; clear hb1)
    | (go_at_call 15; refine (kp _).mono ?_; clear kp; rintro e w1 ⟨rfl, hb1⟩; have hP := hP.up hb1; have hS := hS.up hb1; have hB := Below.then hB hb1; clear hb1)
    | (refine store_std _ _ rfl rfl _ ⟨p.cap, s.eff, s.score, s.streak⟩ Std.none 36 rfl rfl (std_zero_new _ _) ?_; intro w2 hR hb2; have hb2 := below_made (Below.refl _ _) hb2; have hP := hP.up hb2; have hS := hS.up hb2; have hB := Below.then hB hb2; clear hb2; have s0 := hS.c0; have s1 := hS.c1; have s2 := hS.c2; have s3 := hS.c3; have p3 := (hP.cell 3).trans pv3; have r0 := hR.c0; have r1 := hR.c1; have r2 := hR.c2; have r3 := hR.c3))
  go_upto_region 6 with fail
  go_wp2_with (first
    | (clear HL; refine load_par _ rfl rfl _ p _ rfl (by assumption) ?_)
    | (go_at_call 9; refine (plain_is p _).mono ?_; rintro e w1 ⟨rfl, hb1⟩; have hP := hP.up hb1; have hS := hS.up hb1; have hR := hR.up hb1; have hB := Below.then hB hb1; clear hb1; have s0 := hS.c0; have s1 := hS.c1; have s2 := hS.c2; have s3 := hS.c3; have p3 := (hP.cell 3).trans pv3; have r0 := hR.c0; have r1 := hR.c1; have r2 := hR.c2; have r3 := hR.c3)
    | (go_at_call 10; refine (kr _).mono ?_; clear kr; rintro e w1 ⟨rfl, hb1⟩; have hP := hP.up hb1; have hS := hS.up hb1; have hR := hR.up hb1; have hB := Below.then hB hb1; clear hb1; have s0 := hS.c0; have s1 := hS.c1; have s2 := hS.c2; have s3 := hS.c3; have p3 := (hP.cell 3).trans pv3; have r0 := hR.c0; have r1 := hR.c1; have r2 := hR.c2; have r3 := hR.c3)
    )
  go_ret
  exact ⟨by first | rfl | simp, hB⟩

theorem walk (p : Par) (s : Std) (n : Nat) (w : World) (hf : p.Fits) (hs : s.Fits) (hn : n < 18446744073709551616) : Calls Try.prog 6 #[.agg p.vals, .agg s.vals, .int .u64 (n : Int)] w fun ev w' => ev = .returned (.bool true) ∧ Below w.heap.size w w' := by
  have hb := hs.bal
  by_cases hR : ∃ N, Par.Right p N
  · obtain ⟨N, hN⟩ := hR
    have kr := fun w => refright_ok p N w hN
    have hc := hN.spans.cap1
    have kp := pay_ok p s n (fun w => check_ok p N w hN) (by omega) hs hn
    unfold Std.paid at kp
    by_cases h0 : min n (p.cap - s.bal) = 0
    · rw [h0, Nat.add_zero, show n - (p.cap - s.bal) = n by omega] at kp
      exact walk_same p s n w kp kr hn
    · by_cases hk : n - (p.cap - s.bal) = 0
      · rw [hk, show min n (p.cap - s.bal) = n by omega] at kp
        exact walk_all p s n _ w kp kr rfl (by omega) hn (by omega) (by omega)
      · rw [show s.bal + min n (p.cap - s.bal) = p.cap by omega] at kp
        exact walk_part p s n _ (p.cap - s.bal) w kp kr (by omega) (by omega) (by omega) hn (by omega) hk
  · have kp := pay_no p s n (fun w => check_no p w hf hR)
    exact walk_no p s n s.bal n 0 w kp (fun w => refright_no p w hR) rfl rfl hb hn


theorem own : ownKnob Try.prog.godebug = none := by kernel_rfl
theorem laidOut : laidOutB Try.prog = true := by kernel_rfl

set_option maxRecDepth 100000 in
theorem lifted (os : Os) (started : os.Started) (H : Type) (enc : TypeId × Value → H) :
    ReturnsInHanded {} Try.checked os 6 .any (Rows.prizeWholeSpec.pre6 enc Try.prog Try.f6 Rows.prizeWholeRow.domain false) (Rows.prizeWholeSpec.post enc Try.prog Try.f6 false true false false) := by
  refine returnsInHanded_of_change (C := Try.checked) own started (by kernel_rfl) Try.func6
    (ChangeSpec.witness6 (enc := enc) (C := Try.checked) false ⟨#[], #[.agg #[.int .u64 0, .int .u64 0, .int .u64 0, .int .u64 0, .int .u64 0, .int .u64 0, .int .u64 0, .int .u64 0, .int .u64 0, .int .u64 0, .int .u64 0, .int .u64 0, .int .u64 0, .int .u64 0, .int .i64 0, .int .i64 0, .int .i64 0, .int .i64 0, .int .i64 0, .int .i64 0, .int .i64 0, .int .i64 0, .int .i64 0, .int .i64 0], .agg #[.int .u64 0, .int .u64 0, .int .u64 0, .int .i64 0], .int .u64 0], []⟩ 8 (by kernel_rfl) (by kernel_rfl) (by kernel_rfl) (by kernel_rfl)) ?_
  intro W base args ds gs before hval0 hW hcnd _
  have hval : ∀ (j : Nat) t v, Try.f6.params[j]? = some t → args[j]? = some v → Value.okWide Try.prog W .any base t v := hval0
  have hW' := hW
  obtain ⟨p, q, hA0, hV, rfl, hfz, hnd⟩ := hW
  have hlt : ∀ x ∈ p ++ q, x.block < W.heap.size := fun x hx => hW'.lt x hx
  have hA : DataW.TrodAll enc Try.prog W 0 (fun _ => true) true Try.f6.params.toList args.toList ds p := hA0
  rw [Try.params6] at hA hval
  obtain ⟨v0, vs0, d0, ds0, p0, q0, hargs, rfl, rfl, h0, r0⟩ := trodAll_cons hA
  obtain ⟨v1, vs1, d1, ds1, p1, q1, rfl, rfl, rfl, h1, r1⟩ := trodAll_cons r0
  obtain ⟨v2, vs2, d2, ds2, p2, q2, rfl, rfl, rfl, h2, r2⟩ := trodAll_cons r1
  obtain ⟨rfl, rfl, rfl⟩ := trodAll_nil r2
  obtain rfl : args = #[v0, v1, v2] := by cases args; simp_all
  obtain ⟨rfl, rfl⟩ := trodVars_none hV
  obtain ⟨a0, rfl, f0⟩ := open_par (hval 0 24 v0 rfl rfl) h0
  obtain ⟨a1, rfl, f1⟩ := open_std (hval 1 36 v1 rfl rfl) h1
  obtain ⟨a2, rfl, rfl, rfl, w2⟩ := open_int Try.underlying22 (hval 2 22 v2 rfl rfl) h2
  have b2 := u64_fits w2
  obtain ⟨n2, rfl⟩ := Int.eq_ofNat_of_zero_le b2.1
  clear hA0 hval0
  refine (walk a0 a1 n2 W f0 f1 (by have := b2.2; omega)).mono fun e W' ⟨he, hg⟩ => ?_
  subst he
  exact ⟨_, rfl, law_post laidOut (by kernel_rfl) rfl rfl Try.underlying4 rfl hW' hg⟩

theorem over : Rows.prizeWholeRow.holds Try.pinned (OpenSpec.ofChange Rows.prizeWholeSpec) :=
  OpenClaim.holds_of_wide 6 Try.f6 rfl rfl rfl rfl rfl rfl rfl ⟨rfl, rfl, rfl, rfl, rfl⟩ rfl rfl rfl rfl rfl (by kernel_rfl) Try.func6 (by kernel_rfl)
    (of_decide_eq_true (by kernel_rfl)) (by unfold Func.isWrapper; first | (rw [if_pos (by decide +kernel)]; kernel_rfl) | (rw [if_neg (by decide +kernel)]; exact ⟨rfl, rfl⟩))
    (fun os started H enc _ => lifted os started H enc)

/-- The statement. -/
theorem proved : Rows.PrizeWholeSaid := over
#print axioms proved

end Go.Proofs.Ytijenmkhbkbnfaa.PrizeWhole
