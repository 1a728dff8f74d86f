/- Layer 10 (grain): the effective balance that follows. By contracts. -/
import Derived.Test.YtfmmcklggnflkaaGraM
import Derived.Test.YtfmmcklggnflkaaMoneyB
import Derived.Test.YtfmmcklggnflkaaParL
import Derived.Test.YtfmmcklggnflkaaSeq
namespace Go.Proofs.Ytfmmcklggnflkaa
open Go.RowKit
set_option linter.unusedVariables false
set_option linter.unusedSimpArgs false

section
variable {ops : Array Oper} {rest : List Oper} {o : Oper} {a : Act} {w : World} {Q : Exit → Act → World → Prop}
theorem scale_size : (Try.prog.info? 92).map (·.size) = some 24 := by kernel_rfl
theorem load_scale (x : Operand) (ho : o.op = .load 92 x) (hgd : Region.wanted o (yielded ops a.tmps) = true) (b : Nat) (p : Par) (T : TypeId) (hx : a.eval x = .pointer (some ⟨b, 0, none⟩)) (hP : ParAt w b p T)
    (h : wpList Try.prog ops Q rest (a.put o.dst (.agg p.vals)) w) : wpList Try.prog ops Q (o :: rest) a w :=
  wpList_step fun K hK => by
    rw [if_pos hgd]
    exact wp_load_row 92 x ho b hx T p.vals (0, 0) _ hP Try.underlying92 rfl (by kernel_rfl) (hK _ _ h)
theorem scale_built (p : Par) : Try.prog.built 92 [(0, .agg p.vals)] = some p.vals := by kernel_rfl
/-- A scale is its parameters. -/
theorem build_scale (x : Operand) (ho : o.op = .build 92 #[(0, x)]) (hgd : Region.wanted o (yielded ops a.tmps) = true) (p : Par) (hx : a.eval x = .agg p.vals)
    (h : wpList Try.prog ops Q rest (a.put o.dst (.agg p.vals)) w) : wpList Try.prog ops Q (o :: rest) a w :=
  wpList_step fun K hK => by
    rw [if_pos hgd]
    have hb : Try.prog.built 92 ((#[(0, x)] : Array (Nat × Operand)).map fun (i, x) => (i, a.eval x)).toList = some p.vals := by
      simp only [List.map_toArray, List.map_cons, List.map_nil, hx]
      exact scale_built p
    refine wp_build 92 #[(0, x)] ho (by rw [hb]; rfl) ?_
    rw [hb]
    exact hK _ _ h
/-- Stored into a block of its own; the world behind it has a new name. -/
theorem store_scale (x y : Operand) (ho : o.op = .store 92 x y) (hgd : Region.wanted o (yielded ops a.tmps) = true) (g : Nat) (p old : Par) (T : TypeId) (hx : a.eval x = .pointer (some ⟨g, 0, none⟩)) (hy : a.eval y = .agg p.vals) (hP : ParAt w g old T)
    (h : ∀ w', ParAt w' g p T → Below g w w' → wpList Try.prog ops Q rest (a.put o.dst undef) w') : wpList Try.prog ops Q (o :: rest) a w :=
  wpList_step fun K hK => by
    rw [if_pos hgd]
    exact wp_store_row 92 x y ho g p.vals hx hy T old.vals hP scale_size rfl (vals_one p) (hK _ _ (h _ (ParAt.set hP) (below_setRow (Below.refl _ _) (Nat.le_refl _) _)))
end


set_option maxRecDepth 100000 in
set_option maxHeartbeats 1000000 in
theorem whole_is (p : Par) (b : Nat) (w : World) (h0 : 1 ≤ p.inc) (hb : b < 18446744073709551616) :
    Calls Try.prog 50 #[.agg p.vals, .int .u64 (b : Int)] w fun e w' => e = .returned (.int .u64 (p.whole b : Int)) ∧ Below w.heap.size w w' := by
  have hP := ParAt.new w p 92
  have hB : Below w.heap.size w (w.alloc (.cells p.vals 92)) := (Below.refl _ _).alloc (Nat.le_refl _) _
  obtain ⟨r, hr⟩ : ∃ r, b % p.inc = r := ⟨_, rfl⟩
  have hrb : r ≤ b := hr ▸ Nat.mod_le _ _
  obtain ⟨n, hn⟩ : ∃ n, p.whole b = n := ⟨_, rfl⟩
  rw [hn]
  have e1 : (b : Int) % (p.inc : Int) = (r : Int) := by rw [← hr]; simp
  have e2 : Int.tmod (b : Int) (p.inc : Int) = (r : Int) := by rw [Int.tmod_eq_emod_of_nonneg (by omega)]; exact e1
  have e3 : IntKind.u64.wrap ((b : Int) - (r : Int)) = (b : Int) - (r : Int) := IntWalk.u64_in _ (by omega)
  have e4 : min ((b : Int) - (r : Int)) (p.maxEff : Int) = (n : Int) := by
    rw [← hn]; unfold Par.whole; rw [hr]; omega
  have hz : ¬ p.inc = 0 := by omega
  clear hn hr hrb h0 hb
  go_enter Try.func50, Try.ntmps50
  go_upto_region 1 with fail
  generalize hw0 : World.alloc _ _ = w0
  rw [hw0] at hP hB
  clear hw0
  have cells : ∀ w', Below w0.heap.size w0 w' → ParAt w' w.heap.size p 92 := fun w' h => hP.up h
  clear hP
  refine region_list [] (fun _ w' => Below w0.heap.size w0 w') (by kernel_rfl) (by kernel_rfl) (Below.refl _ _).drew ?_
  iterate 4 ((refine' SeqS.calm _ (by rfl) (by rfl) (fun w => ?_) ?_; rotate_left; · (go_simp <;> with_reducible rfl)); simp only [Act.put, List.setIfInBounds_toArray, List.set_cons_zero, List.set_cons_succ])
  refine' SeqS.take _ (by rfl) (by rfl) (fun ph w' hS => ?_) ?_; rotate_left; · (have c0 : w'.cell? ⟨w.heap.size, 0, none⟩ = some (.int .u64 (p.inc : Int)) := (cells w' hS).cell 0; have c1 : w'.cell? ⟨w.heap.size, 1, none⟩ = some (.int .u64 (p.maxEff : Int)) := (cells w' hS).cell 1; go_simp <;> with_reducible rfl)
  simp only [Act.put, List.setIfInBounds_toArray, List.set_cons_zero, List.set_cons_succ]
  iterate 4 ((refine' SeqS.calm _ (by rfl) (by rfl) (fun w => ?_) ?_; rotate_left; · (go_simp <;> with_reducible rfl)); simp only [Act.put, List.setIfInBounds_toArray, List.set_cons_zero, List.set_cons_succ])
  refine' SeqS.take _ (by rfl) (by rfl) (fun ph w' hS => ?_) ?_; rotate_left; · (have c0 : w'.cell? ⟨w.heap.size, 0, none⟩ = some (.int .u64 (p.inc : Int)) := (cells w' hS).cell 0; have c1 : w'.cell? ⟨w.heap.size, 1, none⟩ = some (.int .u64 (p.maxEff : Int)) := (cells w' hS).cell 1; go_simp <;> with_reducible rfl)
  simp only [Act.put, List.setIfInBounds_toArray, List.set_cons_zero, List.set_cons_succ]
  iterate 2 ((refine' SeqS.calm _ (by rfl) (by rfl) (fun w => ?_) ?_; rotate_left; · (go_simp <;> with_reducible rfl)); simp only [Act.put, List.setIfInBounds_toArray, List.set_cons_zero, List.set_cons_succ])
  intro w3 hw3
  have hB3 := Below.then hB hw3
  go_wp2
  go_ret
  exact ⟨rfl, hB3⟩

set_option maxRecDepth 100000 in
set_option maxHeartbeats 1000000 in
theorem far_is (p : Par) (e b : Nat) (r : Bool) (w : World) (he : e < 18446744073709551616) (hb : b < 18446744073709551616) (h : Hid (p.far e b = r)) :
    Calls Try.prog 61 #[.agg p.vals, .int .u64 (e : Int), .int .u64 (b : Int)] w fun ev w' => ev = .returned (.bool r) ∧ Below w.heap.size w w' := by
  have hP := ParAt.new w p 92
  have hB : Below w.heap.size w (w.alloc (.cells p.vals 92)) := (Below.refl _ _).alloc (Nat.le_refl _) _
  have k1 := fun w => fall_is e b w he hb
  have k2 := fun w => fall_is b e w hb he
  have h' := h.out
  simp only [Par.far] at h'
  clear h he hb
  generalize e - b = m at *
  generalize b - e = n at *
  by_cases h1 : p.down < m
  · obtain rfl : true = r := by rw [← h']; simp [h1]
    have d1 : decide ((p.down : Int) < (m : Int)) = true := by simp; omega
    have d3 : decide (p.down < m) = true := by simp; omega
    clear h1 h'
    go_enter Try.func61, Try.ntmps61
    go_upto_region 1 with fail
    generalize hw0 : World.alloc _ _ = w0
    rw [hw0] at hP hB
    clear hw0
    have cells : ∀ w', Below w0.heap.size w0 w' → ParAt w' w.heap.size p 92 := fun w' h => hP.up h
    clear hP
    refine region_list [] (fun _ w' => Below w0.heap.size w0 w') (by kernel_rfl) (by kernel_rfl) (Below.refl _ _).drew ?_
    iterate 2 ((refine' SeqS.calm _ (by rfl) (by rfl) (fun w => ?_) ?_; rotate_left; · (go_simp <;> with_reducible rfl)); simp only [Act.put, List.setIfInBounds_toArray, List.set_cons_zero, List.set_cons_succ])
    refine SeqS.call (quiet_call k1) (by rfl) (by rfl) (fun w => ?_) ?_; · go_simp
    simp only [Act.put, List.setIfInBounds_toArray, List.set_cons_zero, List.set_cons_succ]
    iterate 2 ((refine' SeqS.calm _ (by rfl) (by rfl) (fun w => ?_) ?_; rotate_left; · (go_simp <;> with_reducible rfl)); simp only [Act.put, List.setIfInBounds_toArray, List.set_cons_zero, List.set_cons_succ])
    refine' SeqS.take _ (by rfl) (by rfl) (fun ph w' hS => ?_) ?_; rotate_left; · (have c4 : w'.cell? ⟨w.heap.size, 4, none⟩ = some (.int .u64 (p.up : Int)) := (cells w' hS).cell 4; have c5 : w'.cell? ⟨w.heap.size, 5, none⟩ = some (.int .u64 (p.down : Int)) := (cells w' hS).cell 5; go_simp <;> with_reducible rfl)
    simp only [Act.put, List.setIfInBounds_toArray, List.set_cons_zero, List.set_cons_succ]
    iterate 2 ((refine' SeqS.calm _ (by rfl) (by rfl) (fun w => ?_) ?_; rotate_left; · (go_simp <;> with_reducible rfl)); simp only [Act.put, List.setIfInBounds_toArray, List.set_cons_zero, List.set_cons_succ])
    iterate 7 ((refine SeqS.skip (by rfl) (by rfl) ?_); simp only [Act.put, List.setIfInBounds_toArray, List.set_cons_zero, List.set_cons_succ])
    iterate 2 ((refine' SeqS.calm _ (by rfl) (by rfl) (fun w => ?_) ?_; rotate_left; · (go_simp <;> with_reducible rfl)); simp only [Act.put, List.setIfInBounds_toArray, List.set_cons_zero, List.set_cons_succ])
    intro w3 hw3
    have hB3 := Below.then hB hw3
    go_wp2
    go_ret
    exact ⟨rfl, hB3⟩
  · have d1 : decide ((p.down : Int) < (m : Int)) = false := by simp; omega
    have d3 : decide (p.down < m) = false := by simp; omega
    have d2 : decide (p.up < n) = r := by rw [← h']; simp [h1]
    clear h1 h'
    go_enter Try.func61, Try.ntmps61
    go_upto_region 1 with fail
    generalize hw0 : World.alloc _ _ = w0
    rw [hw0] at hP hB
    clear hw0
    have cells : ∀ w', Below w0.heap.size w0 w' → ParAt w' w.heap.size p 92 := fun w' h => hP.up h
    clear hP
    refine region_list [] (fun _ w' => Below w0.heap.size w0 w') (by kernel_rfl) (by kernel_rfl) (Below.refl _ _).drew ?_
    iterate 2 ((refine' SeqS.calm _ (by rfl) (by rfl) (fun w => ?_) ?_; rotate_left; · (go_simp <;> with_reducible rfl)); simp only [Act.put, List.setIfInBounds_toArray, List.set_cons_zero, List.set_cons_succ])
    refine SeqS.call (quiet_call k1) (by rfl) (by rfl) (fun w => ?_) ?_; · go_simp
    simp only [Act.put, List.setIfInBounds_toArray, List.set_cons_zero, List.set_cons_succ]
    iterate 2 ((refine' SeqS.calm _ (by rfl) (by rfl) (fun w => ?_) ?_; rotate_left; · (go_simp <;> with_reducible rfl)); simp only [Act.put, List.setIfInBounds_toArray, List.set_cons_zero, List.set_cons_succ])
    refine' SeqS.take _ (by rfl) (by rfl) (fun ph w' hS => ?_) ?_; rotate_left; · (have c4 : w'.cell? ⟨w.heap.size, 4, none⟩ = some (.int .u64 (p.up : Int)) := (cells w' hS).cell 4; have c5 : w'.cell? ⟨w.heap.size, 5, none⟩ = some (.int .u64 (p.down : Int)) := (cells w' hS).cell 5; go_simp <;> with_reducible rfl)
    simp only [Act.put, List.setIfInBounds_toArray, List.set_cons_zero, List.set_cons_succ]
    iterate 4 ((refine' SeqS.calm _ (by rfl) (by rfl) (fun w => ?_) ?_; rotate_left; · (go_simp <;> with_reducible rfl)); simp only [Act.put, List.setIfInBounds_toArray, List.set_cons_zero, List.set_cons_succ])
    refine SeqS.call (quiet_call k2) (by rfl) (by rfl) (fun w => ?_) ?_; · go_simp
    simp only [Act.put, List.setIfInBounds_toArray, List.set_cons_zero, List.set_cons_succ]
    iterate 2 ((refine' SeqS.calm _ (by rfl) (by rfl) (fun w => ?_) ?_; rotate_left; · (go_simp <;> with_reducible rfl)); simp only [Act.put, List.setIfInBounds_toArray, List.set_cons_zero, List.set_cons_succ])
    refine' SeqS.take _ (by rfl) (by rfl) (fun ph w' hS => ?_) ?_; rotate_left; · (have c4 : w'.cell? ⟨w.heap.size, 4, none⟩ = some (.int .u64 (p.up : Int)) := (cells w' hS).cell 4; have c5 : w'.cell? ⟨w.heap.size, 5, none⟩ = some (.int .u64 (p.down : Int)) := (cells w' hS).cell 5; go_simp <;> with_reducible rfl)
    simp only [Act.put, List.setIfInBounds_toArray, List.set_cons_zero, List.set_cons_succ]
    iterate 3 ((refine' SeqS.calm _ (by rfl) (by rfl) (fun w => ?_) ?_; rotate_left; · (go_simp <;> with_reducible rfl)); simp only [Act.put, List.setIfInBounds_toArray, List.set_cons_zero, List.set_cons_succ])
    intro w3 hw3
    have hB3 := Below.then hB hw3
    go_wp2
    go_ret
    exact ⟨by first | rfl | simp [d2], hB3⟩

set_option maxRecDepth 100000 in
set_option maxHeartbeats 1000000 in
theorem next_is (p : Par) (e b n : Nat) (w : World) (h0 : 1 ≤ p.inc) (he : e < 18446744073709551616) (hb : b < 18446744073709551616) (hn : Hid (p.next e b = n)) :
    Calls Try.prog 59 #[.agg p.vals, .int .u64 (e : Int), .int .u64 (b : Int)] w fun ev w' => ev = .returned (.int .u64 (n : Int)) ∧ Below w.heap.size w w' := by
  have hP := ParAt.new w p 92
  have hB : Below w.heap.size w (w.alloc (.cells p.vals 92)) := (Below.refl _ _).alloc (Nat.le_refl _) _
  cases hf : p.far e b with
  | true =>
    have kf := fun w => far_is p e b true w he hb (Lib.hid hf)
    have kw := fun w => whole_is p b w h0 hb
    obtain rfl := (Par.next_far hf).symm.trans hn.out
    clear hf hn he hb h0
    go_enter Try.func59, Try.ntmps59
    go_wp2_with (first
      | (refine load_scale _ rfl rfl _ p _ rfl (by assumption) ?_)
      | (go_at_call 61; refine (kf _).mono ?_; clear kf; rintro e w1 ⟨rfl, hb1⟩; have hP1 := hP.up hb1; have hB1 := Below.then hB hb1)
      | (go_at_call 50; refine (kw _).mono ?_; clear kw; rintro e w2 ⟨rfl, hb2⟩; have hB2 := Below.then hB1 hb2))
    go_ret
    exact ⟨rfl, hB2⟩
  | false =>
    have kf := fun w => far_is p e b false w he hb (Lib.hid hf)
    obtain rfl := (Par.next_near hf).symm.trans hn.out
    clear hf hn he hb h0
    go_enter Try.func59, Try.ntmps59
    go_wp2_with (first
      | (refine load_scale _ rfl rfl _ p _ rfl (by assumption) ?_)
      | (go_at_call 61; refine (kf _).mono ?_; clear kf; rintro e w1 ⟨rfl, hb1⟩; have hP1 := hP.up hb1; have hB1 := Below.then hB hb1))
    go_ret
    exact ⟨rfl, hB1⟩

set_option maxRecDepth 100000 in
set_option maxHeartbeats 1000000 in
theorem step_is (p : Par) (e : Nat) (r : Bool) (w : World) (h0 : 1 ≤ p.inc) (he : e < 18446744073709551616) (hr : Hid (p.isStep e = r)) :
    Calls Try.prog 58 #[.agg p.vals, .int .u64 (e : Int)] w fun ev w' => ev = .returned (.bool r) ∧ Below w.heap.size w w' := by
  have hP := ParAt.new w p 92
  have hB : Below w.heap.size w (w.alloc (.cells p.vals 92)) := (Below.refl _ _).alloc (Nat.le_refl _) _
  have c0 := (hP.cell 0).trans p.v0
  have c1 := (hP.cell 1).trans p.v1
  have hz : ¬ p.inc = 0 := by omega
  have h' := hr.out
  simp only [Par.isStep] at h'
  clear hr h0 he
  by_cases h1 : p.inc ≤ e
  · by_cases h2 : e ≤ p.maxEff
    · obtain rfl : decide (e % p.inc = 0) = r := by rw [← h']; simp [h1, h2]
      have d1 : decide ((p.inc : Int) ≤ (e : Int)) = true := by simp; omega
      have d2 : decide ((e : Int) ≤ (p.maxEff : Int)) = true := by simp; omega
      have d4 : decide (p.inc ≤ e) = true := by simp; omega
      have d5 : decide (e ≤ p.maxEff) = true := by simp; omega
      have d3 : ((e : Int) % (p.inc : Int) == 0) = decide (e % p.inc = 0) := by
        rw [show (e : Int) % (p.inc : Int) = ((e % p.inc : Nat) : Int) by simp]
        generalize e % p.inc = x
        cases x <;> simp <;> omega
      clear h1 h2 h'
      generalize decide (e % p.inc = 0) = r at *
      go_enter Try.func58, Try.ntmps58
      go_wp2
      go_ret
      exact ⟨by first | rfl | simp [d3], hB⟩
    · obtain rfl : false = r := by rw [← h']; simp [h2]
      have d1 : decide ((p.inc : Int) ≤ (e : Int)) = true := by simp; omega
      have d2 : decide ((e : Int) ≤ (p.maxEff : Int)) = false := by simp; omega
      have d4 : decide (p.inc ≤ e) = true := by simp; omega
      have d5 : decide (e ≤ p.maxEff) = false := by simp; omega
      clear h1 h2 h'
      go_enter Try.func58, Try.ntmps58
      go_wp2
      go_ret
      exact ⟨by first | rfl | simp, hB⟩
  · obtain rfl : false = r := by rw [← h']; simp [h1]
    have d1 : decide ((p.inc : Int) ≤ (e : Int)) = false := by simp; omega
    have d4 : decide (p.inc ≤ e) = false := by simp; omega
    clear h1 h'
    go_enter Try.func58, Try.ntmps58
    go_wp2
    go_ret
    exact ⟨by first | rfl | simp, hB⟩
end Go.Proofs.Ytfmmcklggnflkaa
