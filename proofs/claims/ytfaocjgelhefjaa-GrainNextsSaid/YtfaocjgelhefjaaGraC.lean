/- Layer 10 (grain), the document's. By contracts. -/
import Derived.Test.YtfaocjgelhefjaaGraA
import Derived.Test.YtfaocjgelhefjaaParR
namespace Go.Proofs.Ytfaocjgelhefjaa
open Go.RowKit
set_option linter.unusedVariables false
set_option linter.unusedSimpArgs false


set_option maxRecDepth 100000 in
set_option maxHeartbeats 1000000 in
theorem refwhole_is (p : Par) (b n : Nat) (w : World) (h0 : 1 ≤ p.inc) (hb : b < 18446744073709551616) (hn : Hid (p.whole b = n)) :
    Calls Try.prog 13 #[.agg p.vals, .int .u64 (b : Int)] w fun e w' => e = .returned (.int .u64 (n : Int)) ∧ Below w.heap.size w w' := by
  have hP := ParAt.new w p 28
  have hB : Below w.heap.size w (w.alloc (.cells p.vals 28)) := (Below.refl _ _).alloc (Nat.le_refl _) _
  obtain ⟨q, hq⟩ : ∃ q, b / p.inc = q := ⟨_, rfl⟩
  obtain ⟨m, hm⟩ : ∃ m, q * p.inc = m := ⟨_, rfl⟩
  have hmb : m ≤ b := by rw [← hm, ← hq]; exact Nat.div_mul_le_self _ _
  have hn' := hn.out
  rw [Par.ref_whole, hq, hm] at hn'
  have e1 : (b : Int) / (p.inc : Int) = (q : Int) := by rw [← hq]; simp
  have e2 : Int.tdiv (b : Int) (p.inc : Int) = (q : Int) := by rw [Int.tdiv_eq_ediv_of_nonneg (by omega)]; exact e1
  have e3 : IntKind.u64.wrap ((q : Int) * (p.inc : Int)) = (m : Int) := by rw [← Int.natCast_mul, hm]; exact IntWalk.u64_in _ (by omega)
  have e4 : IntKind.u64.wrap (q : Int) = (q : Int) := IntWalk.u64_in _ (by have := Nat.div_le_self b p.inc; omega)
  have hz : ¬ p.inc = 0 := by omega
  have v1 := p.v1
  clear hn hq hm hmb h0 hb
  by_cases hc : p.maxEff < m
  · obtain rfl : p.maxEff = n := by rw [← hn', if_pos hc]
    have d1 : decide ((p.maxEff : Int) < (m : Int)) = true := by simp; omega
    have d2 : decide (p.maxEff < m) = true := by simp; omega
    clear hn' hc
    go_enter Try.func13, Try.ntmps13
    go_upto_region 1 with fail
    generalize hw0 : World.alloc _ _ = w0
    rw [hw0] at hP hB
    clear hw0
    have cells : ∀ w', Below w0.heap.size w0 w' → ParAt w' w.heap.size p 28 := fun w' h => hP.up h
    clear hP
    refine region_list [] (fun _ w' => Below w0.heap.size w0 w') (by kernel_rfl) (by kernel_rfl) (Below.refl _ _).drew ?_
    iterate 2 ((refine' SeqS.calm _ (by rfl) (by rfl) (fun w => ?_) ?_; rotate_left; · (go_simp <;> with_reducible rfl)); simp only [Act.put, List.setIfInBounds_toArray, List.set_cons_zero, List.set_cons_succ])
    refine' SeqS.take _ (by rfl) (by rfl) (fun ph w' hS => ?_) ?_; rotate_left; · (have c0 : w'.cell? ⟨w.heap.size, 0, none⟩ = some (.int .u64 (p.inc : Int)) := (cells w' hS).cell 0; have c1 : w'.cell? ⟨w.heap.size, 1, none⟩ = some (.int .u64 (p.maxEff : Int)) := (cells w' hS).cell 1; go_simp <;> with_reducible rfl)
    simp only [Act.put, List.setIfInBounds_toArray, List.set_cons_zero, List.set_cons_succ]
    iterate 2 ((refine' SeqS.calm _ (by rfl) (by rfl) (fun w => ?_) ?_; rotate_left; · (go_simp <;> with_reducible rfl)); simp only [Act.put, List.setIfInBounds_toArray, List.set_cons_zero, List.set_cons_succ])
    refine' SeqS.take _ (by rfl) (by rfl) (fun ph w' hS => ?_) ?_; rotate_left; · (have c0 : w'.cell? ⟨w.heap.size, 0, none⟩ = some (.int .u64 (p.inc : Int)) := (cells w' hS).cell 0; have c1 : w'.cell? ⟨w.heap.size, 1, none⟩ = some (.int .u64 (p.maxEff : Int)) := (cells w' hS).cell 1; go_simp <;> with_reducible rfl)
    simp only [Act.put, List.setIfInBounds_toArray, List.set_cons_zero, List.set_cons_succ]
    iterate 2 ((refine' SeqS.calm _ (by rfl) (by rfl) (fun w => ?_) ?_; rotate_left; · (go_simp <;> with_reducible rfl)); simp only [Act.put, List.setIfInBounds_toArray, List.set_cons_zero, List.set_cons_succ])
    intro w3 hw3
    have hB3 := Below.then hB hw3
    have c1 := ((cells w3 hw3).cell 1).trans v1
    go_wp2
    go_ret
    exact ⟨rfl, hB3⟩
  · obtain rfl : m = n := by rw [← hn', if_neg hc]
    have d1 : decide ((p.maxEff : Int) < (m : Int)) = false := by simp; omega
    have d2 : decide (p.maxEff < m) = false := by simp; omega
    clear hn' hc
    go_enter Try.func13, Try.ntmps13
    go_upto_region 1 with fail
    generalize hw0 : World.alloc _ _ = w0
    rw [hw0] at hP hB
    clear hw0
    have cells : ∀ w', Below w0.heap.size w0 w' → ParAt w' w.heap.size p 28 := fun w' h => hP.up h
    clear hP
    refine region_list [] (fun _ w' => Below w0.heap.size w0 w') (by kernel_rfl) (by kernel_rfl) (Below.refl _ _).drew ?_
    iterate 2 ((refine' SeqS.calm _ (by rfl) (by rfl) (fun w => ?_) ?_; rotate_left; · (go_simp <;> with_reducible rfl)); simp only [Act.put, List.setIfInBounds_toArray, List.set_cons_zero, List.set_cons_succ])
    refine' SeqS.take _ (by rfl) (by rfl) (fun ph w' hS => ?_) ?_; rotate_left; · (have c0 : w'.cell? ⟨w.heap.size, 0, none⟩ = some (.int .u64 (p.inc : Int)) := (cells w' hS).cell 0; have c1 : w'.cell? ⟨w.heap.size, 1, none⟩ = some (.int .u64 (p.maxEff : Int)) := (cells w' hS).cell 1; go_simp <;> with_reducible rfl)
    simp only [Act.put, List.setIfInBounds_toArray, List.set_cons_zero, List.set_cons_succ]
    iterate 2 ((refine' SeqS.calm _ (by rfl) (by rfl) (fun w => ?_) ?_; rotate_left; · (go_simp <;> with_reducible rfl)); simp only [Act.put, List.setIfInBounds_toArray, List.set_cons_zero, List.set_cons_succ])
    refine' SeqS.take _ (by rfl) (by rfl) (fun ph w' hS => ?_) ?_; rotate_left; · (have c0 : w'.cell? ⟨w.heap.size, 0, none⟩ = some (.int .u64 (p.inc : Int)) := (cells w' hS).cell 0; have c1 : w'.cell? ⟨w.heap.size, 1, none⟩ = some (.int .u64 (p.maxEff : Int)) := (cells w' hS).cell 1; go_simp <;> with_reducible rfl)
    simp only [Act.put, List.setIfInBounds_toArray, List.set_cons_zero, List.set_cons_succ]
    iterate 2 ((refine' SeqS.calm _ (by rfl) (by rfl) (fun w => ?_) ?_; rotate_left; · (go_simp <;> with_reducible rfl)); simp only [Act.put, List.setIfInBounds_toArray, List.set_cons_zero, List.set_cons_succ])
    intro w3 hw3
    have hB3 := Below.then hB hw3
    have c1 := ((cells w3 hw3).cell 1).trans v1
    go_wp2
    go_ret
    exact ⟨rfl, hB3⟩

set_option maxRecDepth 100000 in
set_option maxHeartbeats 1000000 in
theorem refbelow_is (a b c : Nat) (r : Bool) (w : World) (ha : a < 18446744073709551616) (hb : b < 18446744073709551616) (hc : c < 18446744073709551616) (hr : Hid ((decide (a < c) && decide (b < c - a)) = r)) :
    Calls Try.prog 25 #[.int .u64 (a : Int), .int .u64 (b : Int), .int .u64 (c : Int)] w fun e w' => e = .returned (.bool r) ∧ w = w' := by
  have h' := hr.out
  clear hr
  by_cases h1 : a < c
  · have d1 : decide ((a : Int) < (c : Int)) = true := by simp; omega
    have d2 : decide (a < c) = true := by simp; omega
    have e1 : IntKind.u64.wrap ((c : Int) - (a : Int)) = ((c - a : Nat) : Int) := by rw [show ((c - a : Nat) : Int) = (c : Int) - (a : Int) by omega]; exact IntWalk.u64_in _ (by omega)
    have e2 : (c : Int) - (a : Int) = ((c - a : Nat) : Int) := by omega
    rw [d2, Bool.true_and] at h'
    have e5 : IntKind.u64.wrap ((c - a : Nat) : Int) = ((c - a : Nat) : Int) := IntWalk.u64_in _ (by omega)
    generalize c - a = m at *
    clear hb hc h1
    go_enter Try.func25, Try.ntmps25
    go_wp2
    go_ret
    exact ⟨by first | rfl | simp [h'] | (rw [← h']; simp) | (simp [e5]; simpa using h'), rfl⟩
  · have d1 : decide ((a : Int) < (c : Int)) = false := by simp; omega
    have d2 : decide (a < c) = false := by simp; omega
    obtain rfl : false = r := by rw [← h', d2]; simp
    clear hb hc h1 h'
    go_enter Try.func25, Try.ntmps25
    go_wp2
    go_ret
    exact ⟨rfl, rfl⟩

set_option maxRecDepth 100000 in
set_option maxHeartbeats 1000000 in
theorem refnext_is (p : Par) (e b n : Nat) (w : World) (h0 : 1 ≤ p.inc) (he : e < 18446744073709551616) (hb : b < 18446744073709551616) (hd : p.down < 18446744073709551616) (hu : p.up < 18446744073709551616) (hn : Hid (p.next e b = n)) :
    Calls Try.prog 14 #[.agg p.vals, .int .u64 (e : Int), .int .u64 (b : Int)] w fun ev w' => ev = .returned (.int .u64 (n : Int)) ∧ Below w.heap.size w w' := by
  have hP := ParAt.new w p 28
  have hB : Below w.heap.size w (w.alloc (.cells p.vals 28)) := (Below.refl _ _).alloc (Nat.le_refl _) _
  have c4 := (hP.cell 4).trans p.v4
  have c5 := (hP.cell 5).trans p.v5
  obtain ⟨x, hx⟩ : ∃ x, (decide (b < e) && decide (p.down < e - b)) = x := ⟨_, rfl⟩
  obtain ⟨y, hy⟩ : ∃ y, (decide (e < b) && decide (p.up < b - e)) = y := ⟨_, rfl⟩
  have k1 := fun w => refbelow_is b p.down e x w hb hd he (Lib.hid hx)
  have k2 := fun w => refbelow_is e p.up b y w he hu hb (Lib.hid hy)
  have hf : p.far e b = (x || y) := by rw [Par.ref_far, hx, hy]
  have hn' := hn.out
  cases x with
  | true =>
    have kw := fun w => refwhole_is p b n w h0 hb (Lib.hid ((Par.next_far (hf.trans (by simp))).symm.trans hn'))
    clear hn hn' hx hy hf h0 he hb hd hu k2
    go_enter Try.func14, Try.ntmps14
    go_wp2_with (first
      | (refine load_ref _ rfl rfl _ p _ rfl (by assumption) ?_)
      | (go_at_call 25; refine (k1 _).mono ?_; rintro e w1 ⟨rfl, rfl⟩)
      | (go_at_call 13; refine (kw _).mono ?_; rintro e w1 ⟨rfl, hb1⟩; have hB := Below.then hB hb1)
      )
    go_ret
    exact ⟨by first | rfl | simp, hB⟩
  | false =>
    cases y with
    | true =>
      have kw := fun w => refwhole_is p b n w h0 hb (Lib.hid ((Par.next_far (hf.trans (by simp))).symm.trans hn'))
      clear hn hn' hx hy hf h0 he hb hd hu
      go_enter Try.func14, Try.ntmps14
      go_wp2_with (first
        | (refine load_ref _ rfl rfl _ p _ rfl (by assumption) ?_)
        | (go_at_call 25; refine (k1 _).mono ?_; clear k1; rintro e w1 ⟨rfl, rfl⟩)
        | (go_at_call 25; refine (k2 _).mono ?_; clear k2; rintro e w1 ⟨rfl, rfl⟩)
        | (go_at_call 13; refine (kw _).mono ?_; rintro e w1 ⟨rfl, hb1⟩; have hB := Below.then hB hb1)
        )
      go_ret
      exact ⟨by first | rfl | simp, hB⟩
    | false =>
      obtain rfl : e = n := (Par.next_near (hf.trans (by simp))).symm.trans hn'
      clear hn hn' hx hy hf h0 he hb hd hu
      go_enter Try.func14, Try.ntmps14
      go_wp2_with (first
        | (refine load_ref _ rfl rfl _ p _ rfl (by assumption) ?_)
        | (go_at_call 25; refine (k1 _).mono ?_; clear k1; rintro e w1 ⟨rfl, rfl⟩)
        | (go_at_call 25; refine (k2 _).mono ?_; clear k2; rintro e w1 ⟨rfl, rfl⟩)
        )
      go_ret
      exact ⟨by first | rfl | simp, hB⟩

set_option maxRecDepth 100000 in
set_option maxHeartbeats 1000000 in
theorem reffits_is (p : Par) (e b : Nat) (r : Bool) (w : World) (h0 : 1 ≤ p.inc) (he : e < 18446744073709551616) (hb : b < 18446744073709551616) (hd : p.down < 18446744073709551616) (hu : p.up < 18446744073709551616) (hr : Hid (p.fit e b = r)) :
    Calls Try.prog 15 #[.agg p.vals, .int .u64 (e : Int), .int .u64 (b : Int)] w fun ev w' => ev = .returned (.bool r) ∧ Below w.heap.size w w' := by
  have hP := ParAt.new w p 28
  have hB : Below w.heap.size w (w.alloc (.cells p.vals 28)) := (Below.refl _ _).alloc (Nat.le_refl _) _
  have c0 := (hP.cell 0).trans p.v0
  have c1 := (hP.cell 1).trans p.v1
  have hz : ¬ p.inc = 0 := by omega
  have h' := hr.out
  have kn := fun w => refnext_is p e b _ w h0 he hb hd hu (Lib.hid rfl)
  unfold Par.fit Par.isStep at h'
  generalize p.next e b = n at *
  clear hr h0 hb hd hu he
  by_cases h1 : p.inc ≤ e
  · have d1 : decide ((p.inc : Int) ≤ (e : Int)) = true := by simp; omega
    have d4 : decide (p.inc ≤ e) = true := by simp; omega
    by_cases h2 : e ≤ p.maxEff
    · have d2 : decide ((e : Int) ≤ (p.maxEff : Int)) = true := by simp; omega
      have d5 : decide (e ≤ p.maxEff) = true := by simp; omega
      by_cases h3 : e % p.inc = 0
      · have d3 : ((e : Int) % (p.inc : Int) == 0) = true := by
          rw [show (e : Int) % (p.inc : Int) = ((e % p.inc : Nat) : Int) by simp, h3]; rfl
        have d6 : (e : Int) % (p.inc : Int) = 0 := by
          rw [show (e : Int) % (p.inc : Int) = ((e % p.inc : Nat) : Int) by simp, h3]; rfl
        by_cases h4 : n = e
        · obtain rfl : true = r := by rw [← h']; simp [h1, h2, h3, h4]
          subst h4
          clear h' h1 h2 h3
          go_enter Try.func15, Try.ntmps15
          go_wp2_with (first
            | (refine load_ref _ rfl rfl _ p _ rfl (by assumption) ?_)
            | (go_at_call 14; refine (kn _).mono ?_; rintro e w1 ⟨rfl, hb1⟩; have hB := Below.then hB hb1)
            )
          go_ret
          exact ⟨by first | rfl | simp, hB⟩
        · obtain rfl : false = r := by rw [← h']; simp [h4]
          have n1 : ((n : Int) == (e : Int)) = false := by simp; omega
          have n2 : decide ((n : Int) = (e : Int)) = false := by simp; omega
          have n3 : decide (n = e) = false := by simp; omega
          have n4 : (n == e) = false := by simp; omega
          clear h' h1 h2 h3 h4
          go_enter Try.func15, Try.ntmps15
          go_wp2_with (first
            | (refine load_ref _ rfl rfl _ p _ rfl (by assumption) ?_)
            | (go_at_call 14; refine (kn _).mono ?_; rintro e w1 ⟨rfl, hb1⟩; have hB := Below.then hB hb1)
            )
          go_ret
          exact ⟨by first | rfl | simp, hB⟩
      · obtain rfl : false = r := by rw [← h']; simp [h3]
        have d3 : ((e : Int) % (p.inc : Int) == 0) = false := by
          rw [show (e : Int) % (p.inc : Int) = ((e % p.inc : Nat) : Int) by simp]; simp; omega
        have d6 : ((e : Int) % (p.inc : Int) = 0) = False := by
          rw [show (e : Int) % (p.inc : Int) = ((e % p.inc : Nat) : Int) by simp]; simp; omega
        clear h' h1 h2 h3
        go_enter Try.func15, Try.ntmps15
        go_wp2_with (first
          | (refine load_ref _ rfl rfl _ p _ rfl (by assumption) ?_)
          | (go_at_call 14; refine (kn _).mono ?_; rintro e w1 ⟨rfl, hb1⟩; have hB := Below.then hB hb1)
          )
        go_ret
        exact ⟨by first | rfl | simp, hB⟩
    · obtain rfl : false = r := by rw [← h']; simp [h2]
      have d2 : decide ((e : Int) ≤ (p.maxEff : Int)) = false := by simp; omega
      have d5 : decide (e ≤ p.maxEff) = false := by simp; omega
      clear h' h1 h2
      go_enter Try.func15, Try.ntmps15
      go_wp2_with (first
        | (refine load_ref _ rfl rfl _ p _ rfl (by assumption) ?_)
        | (go_at_call 14; refine (kn _).mono ?_; rintro e w1 ⟨rfl, hb1⟩; have hB := Below.then hB hb1)
        )
      go_ret
      exact ⟨by first | rfl | simp, hB⟩
  · obtain rfl : false = r := by rw [← h']; simp [h1]
    have d1 : decide ((p.inc : Int) ≤ (e : Int)) = false := by simp; omega
    have d4 : decide (p.inc ≤ e) = false := by simp; omega
    clear h' h1
    go_enter Try.func15, Try.ntmps15
    go_wp2_with (first
      | (refine load_ref _ rfl rfl _ p _ rfl (by assumption) ?_)
      | (go_at_call 14; refine (kn _).mono ?_; rintro e w1 ⟨rfl, hb1⟩; have hB := Below.then hB hb1)
      )
    go_ret
    exact ⟨by first | rfl | simp, hB⟩
end Go.Proofs.Ytfaocjgelhefjaa
