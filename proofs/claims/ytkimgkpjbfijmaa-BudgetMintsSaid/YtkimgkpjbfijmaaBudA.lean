/- Layer 13 (budget): what a tick issues, by contracts. -/
import Derived.Test.YtkimgkpjbfijmaaBudM
import Derived.Test.YtkimgkpjbfijmaaLeaky
import Derived.Test.YtkimgkpjbfijmaaCheck
import Derived.Test.YtkimgkpjbfijmaaRoot
import Derived.Test.YtkimgkpjbfijmaaRatioB
import Derived.Test.YtkimgkpjbfijmaaMoneySum
import Derived.Test.YtkimgkpjbfijmaaSeq
namespace Go.Proofs.Ytkimgkpjbfijmaa
open Go.RowKit
set_option linter.unusedVariables false
set_option linter.unusedSimpArgs false


/-- What it answers, in any world. -/
def OfIs (p : Par) (a n : Nat) : Prop := ∀ w, Calls Try.prog 7 #[.agg p.vals, .int .u64 (a : Int)] w fun e w' => e = .returned (.int .u64 (n : Int)) ∧ Below w.heap.size w w'


set_option maxRecDepth 100000 in
set_option maxHeartbeats 1000000 in
theorem of_none (p : Par) (a : Nat) (h : a = 0 ∨ 4611686018427387904 < a) : OfIs p a 0 := by
  intro w
  have hP := ParAt.new w p 24
  have hB : Below w.heap.size w (w.alloc (.cells p.vals 24)) := (Below.refl _ _).alloc (Nat.le_refl _) _
  rcases h with rfl | h
  · go_enter Try.func7, Try.ntmps7
    go_wp2_with (first
      | (refine load_par _ rfl rfl _ p _ rfl (by assumption) ?_)
      )
    go_ret
    exact ⟨by first | rfl | simp, hB⟩
  · have z0 : ((a : Int) == 0) = false := by simp; omega
    have z1 : (a == 0) = false := by simp; omega
    have d1 : decide ((4611686018427387904 : Int) < (a : Int)) = true := by simp; omega
    have d2 : decide (4611686018427387904 < a) = true := by simp; omega
    clear h
    go_enter Try.func7, Try.ntmps7
    go_wp2_with (first
      | (refine load_par _ rfl rfl _ p _ rfl (by assumption) ?_)
      )
    go_ret
    exact ⟨by first | rfl | simp, hB⟩

set_option maxRecDepth 100000 in
set_option maxHeartbeats 1000000 in
theorem of_ok (p : Par) (a n r k : Nat) (w : World) (kc : CheckIs p 0) (h0 : 0 < a) (h1 : a ≤ 4611686018427387904) (hr : p.rate ≤ 4294967296) (hb : Bud p.rate a n r k) :
    Calls Try.prog 7 #[.agg p.vals, .int .u64 (a : Int)] w fun e w' => e = .returned (.int .u64 (n : Int)) ∧ Below w.heap.size w w' := by
  have hP := ParAt.new w p 24
  have hB : Below w.heap.size w (w.alloc (.cells p.vals 24)) := (Below.refl _ _).alloc (Nat.le_refl _) _
  have v12 := p.v12
  have z0 : ((a : Int) == 0) = false := by simp; omega
  have z1 : (a == 0) = false := by simp; omega
  have d1 : decide ((4611686018427387904 : Int) < (a : Int)) = false := by simp; omega
  have d2 : decide (4611686018427387904 < a) = false := by simp; omega
  have kr := fun w => root_is a r w (by omega) (Lib.hid hb.root)
  have kd := fun w => ratio_down_ok a p.rate (1048576 * r) n k w (by omega) (by omega) (hb.by_lt h1) (Lib.hid hb.part) hb.left (by have := hb.most h0 h1 hr; omega)
  have e1 : (1048576 : Int) * (r : Int) = ((1048576 * r : Nat) : Int) := by omega
  have e2 : IntKind.u64.wrap ((1048576 * r : Nat) : Int) = ((1048576 * r : Nat) : Int) := IntWalk.u64_in _ (by have := hb.by_lt h1; omega)
  have e3 : IntKind.u64.wrap ((1048576 : Int) * (r : Int)) = ((1048576 * r : Nat) : Int) := by rw [e1, e2]
  generalize 1048576 * r = c at *
  clear hb hr h0 h1
  go_enter Try.func7, Try.ntmps7
  go_wp2_with (first
    | (refine load_par _ rfl rfl _ p _ rfl (by assumption) ?_)
    | (go_at_call 17; refine (kc _).mono ?_; clear kc; rintro e w1 ⟨rfl, hb1⟩; have hP := hP.up hb1; have hB := Below.then hB hb1; clear hb1)
    )
  have cells : ∀ w', Below w1.heap.size w1 w' → ParAt w' w.heap.size p 24 := fun w' h => hP.up h
  clear hP
  refine region_list [] (fun _ w' => Below w1.heap.size w1 w') (by kernel_rfl) (by kernel_rfl) (Below.refl _ _).drew ?_
  iterate 2 ((refine' SeqS.calm _ (by rfl) (by rfl) (fun w => ?_) ?_; rotate_left; · (go_simp <;> with_reducible rfl)); simp only [Act.put, List.setIfInBounds_toArray, List.set_cons_zero, List.set_cons_succ])
  refine' SeqS.take _ (by rfl) (by rfl) (fun ph w' hS => ?_) ?_; rotate_left; · (have c12 := ((cells w' hS).cell 12).trans v12; go_simp <;> with_reducible rfl)
  simp only [Act.put, List.setIfInBounds_toArray, List.set_cons_zero, List.set_cons_succ]
  refine' SeqS.calm _ (by rfl) (by rfl) (fun w => ?_) ?_; rotate_left; · (go_simp <;> with_reducible rfl)
  simp only [Act.put, List.setIfInBounds_toArray, List.set_cons_zero, List.set_cons_succ]
  refine SeqS.call (quiet_call (fun w => kr w)) (by rfl) (by rfl) (fun w => ?_) ?_; · go_simp
  simp only [Act.put, List.setIfInBounds_toArray, List.set_cons_zero, List.set_cons_succ]
  refine' SeqS.calm _ (by rfl) (by rfl) (fun w => ?_) ?_; rotate_left; · (go_simp <;> with_reducible rfl)
  simp only [Act.put, List.setIfInBounds_toArray, List.set_cons_zero, List.set_cons_succ]
  refine SeqS.call (below_call (Nat.le_refl _) (fun w _ => kd w)) (by rfl) (by rfl) (fun w => ?_) ?_; · go_simp
  simp only [Act.put, List.setIfInBounds_toArray, List.set_cons_zero, List.set_cons_succ]
  iterate 5 ((refine' SeqS.calm _ (by rfl) (by rfl) (fun w => ?_) ?_; rotate_left; · (go_simp <;> with_reducible rfl)); simp only [Act.put, List.setIfInBounds_toArray, List.set_cons_zero, List.set_cons_succ])
  intro w3 hw3
  have hB := Below.then hB hw3
  go_wp2
  go_ret
  exact ⟨by first | rfl | simp, hB⟩
theorem of_is (p : Par) (a n r k : Nat) (hc : CheckIs p 0) (h0 : 0 < a) (h1 : a ≤ 4611686018427387904) (hr : p.rate ≤ 4294967296) (hb : Bud p.rate a n r k) : OfIs p a n :=
  fun w => of_ok p a n r k w hc h0 h1 hr hb


set_option maxRecDepth 100000 in
set_option maxHeartbeats 1000000 in
theorem of_no (p : Par) (a : Nat) (kc : CheckIs p 70) : OfIs p a 0 := by
  by_cases h : a = 0 ∨ 4611686018427387904 < a
  · exact of_none p a h
  intro w
  have hP := ParAt.new w p 24
  have hB : Below w.heap.size w (w.alloc (.cells p.vals 24)) := (Below.refl _ _).alloc (Nat.le_refl _) _
  have h0 : 0 < a := by omega
  have h1 : a ≤ 4611686018427387904 := by omega
  have z0 : ((a : Int) == 0) = false := by simp; omega
  have z1 : (a == 0) = false := by simp; omega
  have d1 : decide ((4611686018427387904 : Int) < (a : Int)) = false := by simp; omega
  have d2 : decide (4611686018427387904 < a) = false := by simp; omega
  clear h h0 h1
  go_enter Try.func7, Try.ntmps7
  go_wp2_with (first
    | (refine load_par _ rfl rfl _ p _ rfl (by assumption) ?_)
    | (go_at_call 17; refine (kc _).mono ?_; clear kc; rintro e w1 ⟨rfl, hb1⟩; have hP := hP.up hb1; have hB := Below.then hB hb1; clear hb1)
    )
  go_ret
  exact ⟨by first | rfl | simp, hB⟩


set_option maxRecDepth 100000 in
set_option maxHeartbeats 1000000 in
theorem within_in (i n M : Nat) (w : World) (hM : M < 18446744073709551616) (h : i + n ≤ M) :
    Calls Try.prog 21 #[.int .u64 (M : Int), .slice (some ⟨w.heap.size, 0, none⟩) 2 2] (w.alloc (.cells #[.int .u64 (i : Int), .int .u64 (n : Int)] 22)) fun e w' => e = .returned (.bool true) ∧ (w.alloc (.cells #[.int .u64 (i : Int), .int .u64 (n : Int)] 22)) = w' := by
  have ks := sum_ok [i, n] (some ⟨w.heap.size, 0, none⟩) 2 (w.heap.size + 1) (w.alloc (.cells (u64s [i, n]).toArray 22)) (row_new w _ _) (by simp [maxLen]) (by simp [tot]; omega)
  rw [show tot [i, n] = i + n by simp [tot]] at ks
  obtain ⟨s, hs⟩ : ∃ s, i + n = s := ⟨_, rfl⟩
  rw [hs] at ks
  have d1 : decide ((s : Int) ≤ (M : Int)) = true := by simp; omega
  have d2 : decide (s ≤ M) = true := by simp; omega
  clear h hs hM
  go_enter Try.func21, Try.ntmps21
  go_wp2_with (go_at_call 39; refine ks.mono ?_; clear ks; rintro e w1 ⟨rfl, rfl⟩)
  go_ret
  exact ⟨by first | rfl | simp, rfl⟩

set_option maxRecDepth 100000 in
set_option maxHeartbeats 1000000 in
theorem within_no (i n M : Nat) (w : World) (hM : M < 18446744073709551616) (h : M < i + n) (h2 : i + n < 18446744073709551616) :
    Calls Try.prog 21 #[.int .u64 (M : Int), .slice (some ⟨w.heap.size, 0, none⟩) 2 2] (w.alloc (.cells #[.int .u64 (i : Int), .int .u64 (n : Int)] 22)) fun e w' => e = .returned (.bool false) ∧ (w.alloc (.cells #[.int .u64 (i : Int), .int .u64 (n : Int)] 22)) = w' := by
  have ks := sum_ok [i, n] (some ⟨w.heap.size, 0, none⟩) 2 (w.heap.size + 1) (w.alloc (.cells (u64s [i, n]).toArray 22)) (row_new w _ _) (by simp [maxLen]) (by simp [tot]; omega)
  rw [show tot [i, n] = i + n by simp [tot]] at ks
  obtain ⟨s, hs⟩ : ∃ s, i + n = s := ⟨_, rfl⟩
  rw [hs] at ks
  have d1 : decide ((s : Int) ≤ (M : Int)) = false := by simp; omega
  have d2 : decide (s ≤ M) = false := by simp; omega
  clear h hs hM h2
  go_enter Try.func21, Try.ntmps21
  go_wp2_with (go_at_call 39; refine ks.mono ?_; clear ks; rintro e w1 ⟨rfl, rfl⟩)
  go_ret
  exact ⟨by first | rfl | simp, rfl⟩

set_option maxRecDepth 100000 in
set_option maxHeartbeats 1000000 in
theorem within_over (i n M : Nat) (w : World) (hi : i < 18446744073709551616) (hn : n < 18446744073709551616) (h : 18446744073709551616 ≤ i + n) :
    Calls Try.prog 21 #[.int .u64 (M : Int), .slice (some ⟨w.heap.size, 0, none⟩) 2 2] (w.alloc (.cells #[.int .u64 (i : Int), .int .u64 (n : Int)] 22)) fun e w' => e = .returned (.bool false) ∧ (w.alloc (.cells #[.int .u64 (i : Int), .int .u64 (n : Int)] 22)) = w' := by
  have ks := sum_over [i, n] (some ⟨w.heap.size, 0, none⟩) 2 (w.heap.size + 1) (w.alloc (.cells (u64s [i, n]).toArray 22)) (row_new w _ _) (by simp [maxLen]) (by simp; omega) (by simp [tot]; omega)
  clear h hi hn
  go_enter Try.func21, Try.ntmps21
  go_wp2_with (go_at_call 39; refine ks.mono ?_; clear ks; rintro e w1 ⟨rfl, rfl⟩)
  go_ret
  exact ⟨by first | rfl | simp, rfl⟩
theorem within_is (i n M : Nat) (w : World) (hi : i < 18446744073709551616) (hn : n < 18446744073709551616) (hM : M < 18446744073709551616) (r : Bool) (hr : decide (i + n ≤ M) = r) :
    Calls Try.prog 21 #[.int .u64 (M : Int), .slice (some ⟨w.heap.size, 0, none⟩) 2 2] (w.alloc (.cells #[.int .u64 (i : Int), .int .u64 (n : Int)] 22)) fun e w' => e = .returned (.bool r) ∧ (w.alloc (.cells #[.int .u64 (i : Int), .int .u64 (n : Int)] 22)) = w' := by
  subst hr
  by_cases h : i + n ≤ M
  · rw [decide_eq_true h]; exact within_in i n M w hM h
  · rw [decide_eq_false h]
    rcases Nat.lt_or_ge (i + n) 18446744073709551616 with h2 | h2
    · exact within_no i n M w hM (by omega) h2
    · exact within_over i n M w hi hn h2


/-- What it answers, in any world. -/
def MintIs (p : Par) (a i M : Nat) (m : Int) (k : Nat) : Prop := ∀ w, Calls Try.prog 8 #[.agg p.vals, .int .u64 (a : Int), .int .u64 (i : Int), .int .u64 (M : Int), .int .i64 m] w fun e w' => e = .returned (.int .u64 (k : Int)) ∧ Below w.heap.size w w'


set_option maxRecDepth 100000 in
set_option maxHeartbeats 1000000 in
theorem mint_leaks {p : Par} {a n : Nat} (i M : Nat) (m : Int) (ko : OfIs p a n) (hl : Std.leaky m = true) : MintIs p a i M m 0 := by
  intro w
  have hP := ParAt.new w p 24
  have hB : Below w.heap.size w (w.alloc (.cells p.vals 24)) := (Below.refl _ _).alloc (Nat.le_refl _) _
  have kl := fun w => leaks11_is m w
  rw [hl] at kl
  clear hl
  go_enter Try.func8, Try.ntmps8
  go_wp2_with (first
    | (refine load_par _ rfl rfl _ p _ rfl (by assumption) ?_)
    | (go_at_call 7; refine (ko _).mono ?_; clear ko; rintro e w1 ⟨rfl, hb1⟩; have hP := hP.up hb1; have hB := Below.then hB hb1; clear hb1)
    | (go_at_call 20; refine (kl _).mono ?_; clear kl; rintro e w1 ⟨rfl, rfl⟩)
    )
  go_ret
  exact ⟨by first | rfl | simp, hB⟩


set_option maxRecDepth 100000 in
set_option maxHeartbeats 1000000 in
theorem mint_in {p : Par} {a n : Nat} (i M : Nat) (m : Int) (ko : OfIs p a n) (hl : Std.leaky m = false) (hi : i < 18446744073709551616) (hn : n < 18446744073709551616) (hM : M < 18446744073709551616) (h : i + n ≤ M) : MintIs p a i M m n := by
  intro w
  have hP := ParAt.new w p 24
  have hB : Below w.heap.size w (w.alloc (.cells p.vals 24)) := (Below.refl _ _).alloc (Nat.le_refl _) _
  have kw := fun w => within_is i n M w hi hn hM true (decide_eq_true h)
  clear hi hn hM h
  have kl := fun w => leaks11_is m w
  rw [hl] at kl
  clear hl
  go_enter Try.func8, Try.ntmps8
  go_wp2_with (first
    | (refine load_par _ rfl rfl _ p _ rfl (by assumption) ?_)
    | (go_at_call 7; refine (ko _).mono ?_; clear ko; rintro e w1 ⟨rfl, hb1⟩; have hP := hP.up hb1; have hB := Below.then hB hb1; clear hb1)
    | (go_at_call 20; refine (kl _).mono ?_; clear kl; rintro e w1 ⟨rfl, rfl⟩)
    | (go_at_call 21; refine (kw _).mono ?_; clear kw; rintro e w2 ⟨rfl, rfl⟩)
    )
  go_ret
  exact ⟨by first | rfl | simp, hB.alloc hB.size _⟩


set_option maxRecDepth 100000 in
set_option maxHeartbeats 1000000 in
theorem mint_over {p : Par} {a n : Nat} (i M : Nat) (m : Int) (ko : OfIs p a n) (hl : Std.leaky m = false) (hi : i < 18446744073709551616) (hn : n < 18446744073709551616) (hM : M < 18446744073709551616) (h : ¬ i + n ≤ M) : MintIs p a i M m 0 := by
  intro w
  have hP := ParAt.new w p 24
  have hB : Below w.heap.size w (w.alloc (.cells p.vals 24)) := (Below.refl _ _).alloc (Nat.le_refl _) _
  have kw := fun w => within_is i n M w hi hn hM false (decide_eq_false h)
  clear hi hn hM h
  have kl := fun w => leaks11_is m w
  rw [hl] at kl
  clear hl
  go_enter Try.func8, Try.ntmps8
  go_wp2_with (first
    | (refine load_par _ rfl rfl _ p _ rfl (by assumption) ?_)
    | (go_at_call 7; refine (ko _).mono ?_; clear ko; rintro e w1 ⟨rfl, hb1⟩; have hP := hP.up hb1; have hB := Below.then hB hb1; clear hb1)
    | (go_at_call 20; refine (kl _).mono ?_; clear kl; rintro e w1 ⟨rfl, rfl⟩)
    | (go_at_call 21; refine (kw _).mono ?_; clear kw; rintro e w2 ⟨rfl, rfl⟩)
    )
  go_ret
  exact ⟨by first | rfl | simp, hB.alloc hB.size _⟩

/-- What is minted of a budget. -/
def mintOf (l : Bool) (i n M : Nat) : Nat := bif l then 0 else if i + n ≤ M then n else 0
theorem mint_is {p : Par} {a n : Nat} (i M : Nat) (m : Int) (ko : OfIs p a n) (hi : i < 18446744073709551616) (hn : n < 18446744073709551616) (hM : M < 18446744073709551616) : MintIs p a i M m (mintOf (Std.leaky m) i n M) := by
  unfold mintOf
  cases hl : Std.leaky m with
  | true => exact mint_leaks i M m ko hl
  | false =>
    simp only [cond_false]
    by_cases h : i + n ≤ M
    · rw [if_pos h]; exact mint_in i M m ko hl hi hn hM h
    · rw [if_neg h]; exact mint_over i M m ko hl hi hn hM h

end Go.Proofs.Ytkimgkpjbfijmaa
