/- Law GrainStays (P10.3): what followed is left as it is; of a balance above the floor what follows fits, if it did ahead, and the whole always. No condition. -/
import Derived.Test.YtfaocjgelhefjaaAwake10
import Derived.Test.YtfaocjgelhefjaaGraL
import Derived.Test.YtfaocjgelhefjaaGraC
import Derived.Test.YtfaocjgelhefjaaLawP
import Derived.Test.YtfaocjgelhefjaaParP
import Derived.Test.YtfaocjgelhefjaaParV
import Derived.Test.YtfaocjgelhefjaaRows
namespace Go.Proofs.Ytfaocjgelhefjaa.GrainStays
open Go.RowKit Go.ChangeShapes Go.WideShapes Go.ChangeAt
set_option linter.unusedVariables false
set_option linter.unusedSimpArgs false


set_option maxRecDepth 100000 in
set_option maxHeartbeats 2000000 in
theorem walk (p : Par) (e xa xb : Nat) (w : World) (hf : p.Fits) (he : e < 18446744073709551616) (ha : xa < 18446744073709551616) (hb : xb < 18446744073709551616) :
    Calls Try.prog 4 #[.agg p.vals, .int .u64 (e : Int), .agg #[.int .u64 (xa : Int), .int .u64 (xb : Int)]] w fun ev w' => ev = .returned (.bool true) ∧ Below w.heap.size w w' := by
  have hP0 := ParAt.new w p 24
  have hP := hP0.up ((Below.refl _ _).alloc (Nat.le_refl _) (.cells #[.int .u64 (xa : Int), .int .u64 (xb : Int)] 38))
  have hX : TwoAt ((w.alloc (.cells p.vals 24)).alloc (.cells #[.int .u64 (xa : Int), .int .u64 (xb : Int)] 38)) (w.heap.size + 1) xa xb 38 := TwoAt.new _ _ _ _ (by simp)
  have hB : Below w.heap.size w ((w.alloc (.cells p.vals 24)).alloc (.cells #[.int .u64 (xa : Int), .int .u64 (xb : Int)] 38)) := ((Below.refl _ _).alloc (Nat.le_refl _) _).alloc (by simp) _
  clear hP0
  have v1 := p.v1
  have v2 := p.v2
  have v5 := p.v5
  by_cases hR : ∃ N, Par.Right p N
  · obtain ⟨N, hN⟩ := hR
    have hc : CheckIs p 0 := fun w => check_ok p N w hN
    have kr := fun w => refright_ok p N w hN
    have s := hN.spans
    have i0 := s.inc0
    have kn := fun w => gnext_ok p e xa _ w hc i0 he ha (Lib.hid rfl)
    have kn2 := fun w => gnext_ok p (p.next e xa) xa (p.next e xa) w hc i0 (Nat.lt_succ_of_le (Par.next_bound (Nat.le_of_lt_succ he) (Nat.le_of_lt_succ ha))) ha (Lib.hid (Par.next_next p e xa))
    generalize p.next e xa = n at *
    rcases Nat.lt_or_ge p.floor xb with hlt | hge
    · have d1 : decide ((xb : Int) ≤ (p.floor : Int)) = false := by simp; omega
      have d2 : decide (xb ≤ p.floor) = false := by simp; omega
      have kw := fun w => gwhole_ok p xb _ w hc i0 hb (Lib.hid rfl)
      have hwb : p.whole xb < 18446744073709551616 := Nat.lt_of_le_of_lt (Par.whole_le p xb) hb
      have kf1 := fun w => gfits_ok p (p.whole xb) xb true w hc i0 hwb hb (Lib.hid (Par.whole_fit s hlt))
      cases hF : p.fit e xa with
      | false =>
        have kf2 := fun w => gfits_ok p e xa false w hc i0 he ha (Lib.hid hF)
        generalize p.whole xb = m at *
        clear hF hN hf s hc i0 he ha hb hlt hwb
        go_enter Try.func4, Try.ntmps4
        go_wp2_with (first
          | (refine load_par _ rfl rfl _ p _ rfl (by assumption) ?_)
          | (go_at_call 6; refine (grain_awake _).mono ?_; rintro e w1 ⟨rfl, hb1⟩; have hP := hP.up hb1; have hX := hX.up hb1; have hB := Below.then hB hb1; have x0 := hX.c0; have x1 := hX.c1; have p1 := (hP.cell 1).trans v1; have p2 := (hP.cell 2).trans v2; have p5 := (hP.cell 5).trans v5; clear hb1)
          | (go_at_call 11; first | (refine (kn _).mono ?_; clear kn; rintro e w1 ⟨rfl, hb1⟩; have hP := hP.up hb1; have hX := hX.up hb1; have hB := Below.then hB hb1; have x0 := hX.c0; have x1 := hX.c1; have p1 := (hP.cell 1).trans v1; have p2 := (hP.cell 2).trans v2; have p5 := (hP.cell 5).trans v5; clear hb1) | (refine (kn2 _).mono ?_; clear kn2; rintro e w1 ⟨rfl, hb1⟩; have hP := hP.up hb1; have hX := hX.up hb1; have hB := Below.then hB hb1; have x0 := hX.c0; have x1 := hX.c1; have p1 := (hP.cell 1).trans v1; have p2 := (hP.cell 2).trans v2; have p5 := (hP.cell 5).trans v5; clear hb1))
          | (go_at_call 8; refine (plain_is p _).mono ?_; rintro e w1 ⟨rfl, hb1⟩; have hP := hP.up hb1; have hX := hX.up hb1; have hB := Below.then hB hb1; have x0 := hX.c0; have x1 := hX.c1; have p1 := (hP.cell 1).trans v1; have p2 := (hP.cell 2).trans v2; have p5 := (hP.cell 5).trans v5; clear hb1)
          | (go_at_call 9; refine (kr _).mono ?_; clear kr; rintro e w1 ⟨rfl, hb1⟩; have hP := hP.up hb1; have hX := hX.up hb1; have hB := Below.then hB hb1; have x0 := hX.c0; have x1 := hX.c1; have p1 := (hP.cell 1).trans v1; have p2 := (hP.cell 2).trans v2; have p5 := (hP.cell 5).trans v5; clear hb1))
        have cells : ∀ w', Below w1.heap.size w1 w' → ParAt w' w.heap.size p 24 := fun w' h => hP.up h
        have xells : ∀ w', Below w1.heap.size w1 w' → TwoAt w' (w.heap.size + 1) xa xb 38 := fun w' h => hX.up h
        clear hP hX x0 x1 p1 p2 p5
        refine region_list [] (fun _ w' => Below w1.heap.size w1 w') (by kernel_rfl) (by kernel_rfl) (Below.refl _ _).drew ?_
        iterate 2 ((refine SeqS.take _ (by rfl) (by rfl) (fun ph w' hS => exec_load_par _ rfl _ _ _ rfl (cells w' hS)) ?_); simp only [Act.put, List.setIfInBounds_toArray, List.set_cons_zero, List.set_cons_succ])
        refine' SeqS.calm _ (by rfl) (by rfl) (fun w => ?_) ?_; rotate_left; · (go_simp <;> with_reducible rfl)
        simp only [Act.put, List.setIfInBounds_toArray, List.set_cons_zero, List.set_cons_succ]
        refine' SeqS.take _ (by rfl) (by rfl) (fun ph w' hS => ?_) ?_; rotate_left; · (have x0 := (xells w' hS).c0; have x1 := (xells w' hS).c1; go_simp <;> with_reducible rfl)
        simp only [Act.put, List.setIfInBounds_toArray, List.set_cons_zero, List.set_cons_succ]
        refine SeqS.call (below_call (Nat.le_refl _) (fun w _ => kw w)) (by rfl) (by rfl) (fun w => ?_) ?_; · go_simp
        simp only [Act.put, List.setIfInBounds_toArray, List.set_cons_zero, List.set_cons_succ]
        refine' SeqS.calm _ (by rfl) (by rfl) (fun w => ?_) ?_; rotate_left; · (go_simp <;> with_reducible rfl)
        simp only [Act.put, List.setIfInBounds_toArray, List.set_cons_zero, List.set_cons_succ]
        refine' SeqS.take _ (by rfl) (by rfl) (fun ph w' hS => ?_) ?_; rotate_left; · (have x0 := (xells w' hS).c0; have x1 := (xells w' hS).c1; go_simp <;> with_reducible rfl)
        simp only [Act.put, List.setIfInBounds_toArray, List.set_cons_zero, List.set_cons_succ]
        refine SeqS.call (below_call (Nat.le_refl _) (fun w _ => kf1 w)) (by rfl) (by rfl) (fun w => ?_) ?_; · go_simp
        simp only [Act.put, List.setIfInBounds_toArray, List.set_cons_zero, List.set_cons_succ]
        refine' SeqS.calm _ (by rfl) (by rfl) (fun w => ?_) ?_; rotate_left; · (go_simp <;> with_reducible rfl)
        simp only [Act.put, List.setIfInBounds_toArray, List.set_cons_zero, List.set_cons_succ]
        refine SeqS.take _ (by rfl) (by rfl) (fun ph w' hS => exec_load_par _ rfl _ _ _ rfl (cells w' hS)) ?_
        simp only [Act.put, List.setIfInBounds_toArray, List.set_cons_zero, List.set_cons_succ]
        iterate 2 ((refine' SeqS.calm _ (by rfl) (by rfl) (fun w => ?_) ?_; rotate_left; · (go_simp <;> with_reducible rfl)); simp only [Act.put, List.setIfInBounds_toArray, List.set_cons_zero, List.set_cons_succ])
        refine' SeqS.take _ (by rfl) (by rfl) (fun ph w' hS => ?_) ?_; rotate_left; · (have x0 := (xells w' hS).c0; have x1 := (xells w' hS).c1; go_simp <;> with_reducible rfl)
        simp only [Act.put, List.setIfInBounds_toArray, List.set_cons_zero, List.set_cons_succ]
        refine SeqS.call (below_call (Nat.le_refl _) (fun w _ => kf2 w)) (by rfl) (by rfl) (fun w => ?_) ?_; · go_simp
        simp only [Act.put, List.setIfInBounds_toArray, List.set_cons_zero, List.set_cons_succ]
        iterate 2 ((refine' SeqS.calm _ (by rfl) (by rfl) (fun w => ?_) ?_; rotate_left; · (go_simp <;> with_reducible rfl)); simp only [Act.put, List.setIfInBounds_toArray, List.set_cons_zero, List.set_cons_succ])
        iterate 9 ((refine SeqS.skip (by rfl) (by rfl) ?_); simp only [Act.put, List.setIfInBounds_toArray, List.set_cons_zero, List.set_cons_succ])
        iterate 3 ((refine' SeqS.calm _ (by rfl) (by rfl) (fun w => ?_) ?_; rotate_left; · (go_simp <;> with_reducible rfl)); simp only [Act.put, List.setIfInBounds_toArray, List.set_cons_zero, List.set_cons_succ])
        intro w3 hw3
        have hB := Below.then hB hw3
        go_wp2
        go_ret
        exact ⟨by first | rfl | simp, hB⟩
      | true =>
        have kf2 := fun w => gfits_ok p e xa true w hc i0 he ha (Lib.hid hF)
        have kx := fun w => gnext_ok p e xb _ w hc i0 he hb (Lib.hid rfl)
        have kf3 := fun w => gfits_ok p (p.next e xb) xb true w hc i0 (Nat.lt_succ_of_le (Par.next_bound (Nat.le_of_lt_succ he) (Nat.le_of_lt_succ hb))) hb (Lib.hid (Par.next_fit s hlt hF))
        generalize p.whole xb = m at *
        generalize p.next e xb = l at *
        clear hF hN hf s hc i0 he ha hb hlt hwb
        go_enter Try.func4, Try.ntmps4
        go_wp2_with (first
          | (refine load_par _ rfl rfl _ p _ rfl (by assumption) ?_)
          | (go_at_call 6; refine (grain_awake _).mono ?_; rintro e w1 ⟨rfl, hb1⟩; have hP := hP.up hb1; have hX := hX.up hb1; have hB := Below.then hB hb1; have x0 := hX.c0; have x1 := hX.c1; have p1 := (hP.cell 1).trans v1; have p2 := (hP.cell 2).trans v2; have p5 := (hP.cell 5).trans v5; clear hb1)
          | (go_at_call 11; first | (refine (kn _).mono ?_; clear kn; rintro e w1 ⟨rfl, hb1⟩; have hP := hP.up hb1; have hX := hX.up hb1; have hB := Below.then hB hb1; have x0 := hX.c0; have x1 := hX.c1; have p1 := (hP.cell 1).trans v1; have p2 := (hP.cell 2).trans v2; have p5 := (hP.cell 5).trans v5; clear hb1) | (refine (kn2 _).mono ?_; clear kn2; rintro e w1 ⟨rfl, hb1⟩; have hP := hP.up hb1; have hX := hX.up hb1; have hB := Below.then hB hb1; have x0 := hX.c0; have x1 := hX.c1; have p1 := (hP.cell 1).trans v1; have p2 := (hP.cell 2).trans v2; have p5 := (hP.cell 5).trans v5; clear hb1))
          | (go_at_call 8; refine (plain_is p _).mono ?_; rintro e w1 ⟨rfl, hb1⟩; have hP := hP.up hb1; have hX := hX.up hb1; have hB := Below.then hB hb1; have x0 := hX.c0; have x1 := hX.c1; have p1 := (hP.cell 1).trans v1; have p2 := (hP.cell 2).trans v2; have p5 := (hP.cell 5).trans v5; clear hb1)
          | (go_at_call 9; refine (kr _).mono ?_; clear kr; rintro e w1 ⟨rfl, hb1⟩; have hP := hP.up hb1; have hX := hX.up hb1; have hB := Below.then hB hb1; have x0 := hX.c0; have x1 := hX.c1; have p1 := (hP.cell 1).trans v1; have p2 := (hP.cell 2).trans v2; have p5 := (hP.cell 5).trans v5; clear hb1))
        have cells : ∀ w', Below w1.heap.size w1 w' → ParAt w' w.heap.size p 24 := fun w' h => hP.up h
        have xells : ∀ w', Below w1.heap.size w1 w' → TwoAt w' (w.heap.size + 1) xa xb 38 := fun w' h => hX.up h
        clear hP hX x0 x1 p1 p2 p5
        refine region_list [] (fun _ w' => Below w1.heap.size w1 w') (by kernel_rfl) (by kernel_rfl) (Below.refl _ _).drew ?_
        iterate 2 ((refine SeqS.take _ (by rfl) (by rfl) (fun ph w' hS => exec_load_par _ rfl _ _ _ rfl (cells w' hS)) ?_); simp only [Act.put, List.setIfInBounds_toArray, List.set_cons_zero, List.set_cons_succ])
        refine' SeqS.calm _ (by rfl) (by rfl) (fun w => ?_) ?_; rotate_left; · (go_simp <;> with_reducible rfl)
        simp only [Act.put, List.setIfInBounds_toArray, List.set_cons_zero, List.set_cons_succ]
        refine' SeqS.take _ (by rfl) (by rfl) (fun ph w' hS => ?_) ?_; rotate_left; · (have x0 := (xells w' hS).c0; have x1 := (xells w' hS).c1; go_simp <;> with_reducible rfl)
        simp only [Act.put, List.setIfInBounds_toArray, List.set_cons_zero, List.set_cons_succ]
        refine SeqS.call (below_call (Nat.le_refl _) (fun w _ => kw w)) (by rfl) (by rfl) (fun w => ?_) ?_; · go_simp
        simp only [Act.put, List.setIfInBounds_toArray, List.set_cons_zero, List.set_cons_succ]
        refine' SeqS.calm _ (by rfl) (by rfl) (fun w => ?_) ?_; rotate_left; · (go_simp <;> with_reducible rfl)
        simp only [Act.put, List.setIfInBounds_toArray, List.set_cons_zero, List.set_cons_succ]
        refine' SeqS.take _ (by rfl) (by rfl) (fun ph w' hS => ?_) ?_; rotate_left; · (have x0 := (xells w' hS).c0; have x1 := (xells w' hS).c1; go_simp <;> with_reducible rfl)
        simp only [Act.put, List.setIfInBounds_toArray, List.set_cons_zero, List.set_cons_succ]
        refine SeqS.call (below_call (Nat.le_refl _) (fun w _ => kf1 w)) (by rfl) (by rfl) (fun w => ?_) ?_; · go_simp
        simp only [Act.put, List.setIfInBounds_toArray, List.set_cons_zero, List.set_cons_succ]
        refine' SeqS.calm _ (by rfl) (by rfl) (fun w => ?_) ?_; rotate_left; · (go_simp <;> with_reducible rfl)
        simp only [Act.put, List.setIfInBounds_toArray, List.set_cons_zero, List.set_cons_succ]
        refine SeqS.take _ (by rfl) (by rfl) (fun ph w' hS => exec_load_par _ rfl _ _ _ rfl (cells w' hS)) ?_
        simp only [Act.put, List.setIfInBounds_toArray, List.set_cons_zero, List.set_cons_succ]
        iterate 2 ((refine' SeqS.calm _ (by rfl) (by rfl) (fun w => ?_) ?_; rotate_left; · (go_simp <;> with_reducible rfl)); simp only [Act.put, List.setIfInBounds_toArray, List.set_cons_zero, List.set_cons_succ])
        refine' SeqS.take _ (by rfl) (by rfl) (fun ph w' hS => ?_) ?_; rotate_left; · (have x0 := (xells w' hS).c0; have x1 := (xells w' hS).c1; go_simp <;> with_reducible rfl)
        simp only [Act.put, List.setIfInBounds_toArray, List.set_cons_zero, List.set_cons_succ]
        refine SeqS.call (below_call (Nat.le_refl _) (fun w _ => kf2 w)) (by rfl) (by rfl) (fun w => ?_) ?_; · go_simp
        simp only [Act.put, List.setIfInBounds_toArray, List.set_cons_zero, List.set_cons_succ]
        iterate 2 ((refine' SeqS.calm _ (by rfl) (by rfl) (fun w => ?_) ?_; rotate_left; · (go_simp <;> with_reducible rfl)); simp only [Act.put, List.setIfInBounds_toArray, List.set_cons_zero, List.set_cons_succ])
        iterate 2 ((refine SeqS.take _ (by rfl) (by rfl) (fun ph w' hS => exec_load_par _ rfl _ _ _ rfl (cells w' hS)) ?_); simp only [Act.put, List.setIfInBounds_toArray, List.set_cons_zero, List.set_cons_succ])
        iterate 2 ((refine' SeqS.calm _ (by rfl) (by rfl) (fun w => ?_) ?_; rotate_left; · (go_simp <;> with_reducible rfl)); simp only [Act.put, List.setIfInBounds_toArray, List.set_cons_zero, List.set_cons_succ])
        refine' SeqS.take _ (by rfl) (by rfl) (fun ph w' hS => ?_) ?_; rotate_left; · (have x0 := (xells w' hS).c0; have x1 := (xells w' hS).c1; go_simp <;> with_reducible rfl)
        simp only [Act.put, List.setIfInBounds_toArray, List.set_cons_zero, List.set_cons_succ]
        refine SeqS.call (below_call (Nat.le_refl _) (fun w _ => kx w)) (by rfl) (by rfl) (fun w => ?_) ?_; · go_simp
        simp only [Act.put, List.setIfInBounds_toArray, List.set_cons_zero, List.set_cons_succ]
        refine' SeqS.calm _ (by rfl) (by rfl) (fun w => ?_) ?_; rotate_left; · (go_simp <;> with_reducible rfl)
        simp only [Act.put, List.setIfInBounds_toArray, List.set_cons_zero, List.set_cons_succ]
        refine' SeqS.take _ (by rfl) (by rfl) (fun ph w' hS => ?_) ?_; rotate_left; · (have x0 := (xells w' hS).c0; have x1 := (xells w' hS).c1; go_simp <;> with_reducible rfl)
        simp only [Act.put, List.setIfInBounds_toArray, List.set_cons_zero, List.set_cons_succ]
        refine SeqS.call (below_call (Nat.le_refl _) (fun w _ => kf3 w)) (by rfl) (by rfl) (fun w => ?_) ?_; · go_simp
        simp only [Act.put, List.setIfInBounds_toArray, List.set_cons_zero, List.set_cons_succ]
        iterate 3 ((refine' SeqS.calm _ (by rfl) (by rfl) (fun w => ?_) ?_; rotate_left; · (go_simp <;> with_reducible rfl)); simp only [Act.put, List.setIfInBounds_toArray, List.set_cons_zero, List.set_cons_succ])
        intro w3 hw3
        have hB := Below.then hB hw3
        go_wp2
        go_ret
        exact ⟨by first | rfl | simp, hB⟩
    · have d1 : decide ((xb : Int) ≤ (p.floor : Int)) = true := by simp; omega
      have d2 : decide (xb ≤ p.floor) = true := by simp; omega
      clear hN hf s hc i0 he ha hb hge kr
      go_enter Try.func4, Try.ntmps4
      go_wp2_with (first
        | (refine load_par _ rfl rfl _ p _ rfl (by assumption) ?_)
        | (go_at_call 6; refine (grain_awake _).mono ?_; rintro e w1 ⟨rfl, hb1⟩; have hP := hP.up hb1; have hX := hX.up hb1; have hB := Below.then hB hb1; have x0 := hX.c0; have x1 := hX.c1; have p1 := (hP.cell 1).trans v1; have p2 := (hP.cell 2).trans v2; have p5 := (hP.cell 5).trans v5; clear hb1)
        | (go_at_call 11; first | (refine (kn _).mono ?_; clear kn; rintro e w1 ⟨rfl, hb1⟩; have hP := hP.up hb1; have hX := hX.up hb1; have hB := Below.then hB hb1; have x0 := hX.c0; have x1 := hX.c1; have p1 := (hP.cell 1).trans v1; have p2 := (hP.cell 2).trans v2; have p5 := (hP.cell 5).trans v5; clear hb1) | (refine (kn2 _).mono ?_; clear kn2; rintro e w1 ⟨rfl, hb1⟩; have hP := hP.up hb1; have hX := hX.up hb1; have hB := Below.then hB hb1; have x0 := hX.c0; have x1 := hX.c1; have p1 := (hP.cell 1).trans v1; have p2 := (hP.cell 2).trans v2; have p5 := (hP.cell 5).trans v5; clear hb1))
        )
      go_ret
      exact ⟨by first | rfl | simp, hB⟩
  · have hc : CheckIs p 70 := fun w => check_no p w hf hR
    have kn := fun w => gnext_no p e xa w hc
    have kn2 := fun w => gnext_no p 0 xa w hc
    have kr := fun w => refright_no p w hR
    rw [show ((0 : Nat) : Int) = 0 from rfl] at kn2
    rcases Nat.lt_or_ge p.floor xb with hlt | hge
    · have d1 : decide ((xb : Int) ≤ (p.floor : Int)) = false := by simp; omega
      have d2 : decide (xb ≤ p.floor) = false := by simp; omega
      clear hf hR hc he ha hb hlt
      go_enter Try.func4, Try.ntmps4
      go_wp2_with (first
        | (refine load_par _ rfl rfl _ p _ rfl (by assumption) ?_)
        | (go_at_call 6; refine (grain_awake _).mono ?_; rintro e w1 ⟨rfl, hb1⟩; have hP := hP.up hb1; have hX := hX.up hb1; have hB := Below.then hB hb1; have x0 := hX.c0; have x1 := hX.c1; have p1 := (hP.cell 1).trans v1; have p2 := (hP.cell 2).trans v2; have p5 := (hP.cell 5).trans v5; clear hb1)
        | (go_at_call 11; first | (refine (kn _).mono ?_; clear kn; rintro e w1 ⟨rfl, hb1⟩; have hP := hP.up hb1; have hX := hX.up hb1; have hB := Below.then hB hb1; have x0 := hX.c0; have x1 := hX.c1; have p1 := (hP.cell 1).trans v1; have p2 := (hP.cell 2).trans v2; have p5 := (hP.cell 5).trans v5; clear hb1) | (refine (kn2 _).mono ?_; clear kn2; rintro e w1 ⟨rfl, hb1⟩; have hP := hP.up hb1; have hX := hX.up hb1; have hB := Below.then hB hb1; have x0 := hX.c0; have x1 := hX.c1; have p1 := (hP.cell 1).trans v1; have p2 := (hP.cell 2).trans v2; have p5 := (hP.cell 5).trans v5; clear hb1))
        | (go_at_call 8; refine (plain_is p _).mono ?_; rintro e w1 ⟨rfl, hb1⟩; have hP := hP.up hb1; have hX := hX.up hb1; have hB := Below.then hB hb1; have x0 := hX.c0; have x1 := hX.c1; have p1 := (hP.cell 1).trans v1; have p2 := (hP.cell 2).trans v2; have p5 := (hP.cell 5).trans v5; clear hb1)
        | (go_at_call 9; refine (kr _).mono ?_; clear kr; rintro e w1 ⟨rfl, hb1⟩; have hP := hP.up hb1; have hX := hX.up hb1; have hB := Below.then hB hb1; have x0 := hX.c0; have x1 := hX.c1; have p1 := (hP.cell 1).trans v1; have p2 := (hP.cell 2).trans v2; have p5 := (hP.cell 5).trans v5; clear hb1)
        )
      go_ret
      exact ⟨by first | rfl | simp, hB⟩
    · have d1 : decide ((xb : Int) ≤ (p.floor : Int)) = true := by simp; omega
      have d2 : decide (xb ≤ p.floor) = true := by simp; omega
      clear hf hR hc he ha hb hge kr
      go_enter Try.func4, Try.ntmps4
      go_wp2_with (first
        | (refine load_par _ rfl rfl _ p _ rfl (by assumption) ?_)
        | (go_at_call 6; refine (grain_awake _).mono ?_; rintro e w1 ⟨rfl, hb1⟩; have hP := hP.up hb1; have hX := hX.up hb1; have hB := Below.then hB hb1; have x0 := hX.c0; have x1 := hX.c1; have p1 := (hP.cell 1).trans v1; have p2 := (hP.cell 2).trans v2; have p5 := (hP.cell 5).trans v5; clear hb1)
        | (go_at_call 11; first | (refine (kn _).mono ?_; clear kn; rintro e w1 ⟨rfl, hb1⟩; have hP := hP.up hb1; have hX := hX.up hb1; have hB := Below.then hB hb1; have x0 := hX.c0; have x1 := hX.c1; have p1 := (hP.cell 1).trans v1; have p2 := (hP.cell 2).trans v2; have p5 := (hP.cell 5).trans v5; clear hb1) | (refine (kn2 _).mono ?_; clear kn2; rintro e w1 ⟨rfl, hb1⟩; have hP := hP.up hb1; have hX := hX.up hb1; have hB := Below.then hB hb1; have x0 := hX.c0; have x1 := hX.c1; have p1 := (hP.cell 1).trans v1; have p2 := (hP.cell 2).trans v2; have p5 := (hP.cell 5).trans v5; clear hb1))
        )
      go_ret
      exact ⟨by first | rfl | simp, hB⟩


theorem own : ownKnob Try.prog.godebug = none := by kernel_rfl
theorem laidOut : laidOutB Try.prog = true := by kernel_rfl

set_option maxRecDepth 100000 in
theorem lifted (os : Os) (started : os.Started) (H : Type) (enc : TypeId × Value → H) :
    ReturnsInHanded {} Try.checked os 4 .any (Rows.grainStaysSpec.pre6 enc Try.prog Try.f4 Rows.grainStaysRow.domain false) (Rows.grainStaysSpec.post enc Try.prog Try.f4 false true false false) := by
  refine returnsInHanded_of_change (C := Try.checked) own started (by kernel_rfl) Try.func4
    (ChangeSpec.witness6 (enc := enc) (C := Try.checked) false ⟨#[], #[.agg #[.int .u64 0, .int .u64 0, .int .u64 0, .int .u64 0, .int .u64 0, .int .u64 0, .int .u64 0, .int .u64 0, .int .u64 0, .int .u64 0, .int .u64 0, .int .u64 0, .int .u64 0, .int .u64 0, .int .i64 0, .int .i64 0, .int .i64 0, .int .i64 0, .int .i64 0, .int .i64 0, .int .i64 0, .int .i64 0, .int .i64 0, .int .i64 0], .int .u64 0, .agg #[.int .u64 0, .int .u64 0]], []⟩ 8 (by kernel_rfl) (by kernel_rfl) (by kernel_rfl) (by kernel_rfl)) ?_
  intro W base args ds gs before hval0 hW hcnd _
  have hval : ∀ (j : Nat) t v, Try.f4.params[j]? = some t → args[j]? = some v → Value.okWide Try.prog W .any base t v := hval0
  have hW' := hW
  obtain ⟨p, q, hA0, hV, rfl, hfz, hnd⟩ := hW
  have hlt : ∀ x ∈ p ++ q, x.block < W.heap.size := fun x hx => hW'.lt x hx
  have hA : DataW.TrodAll enc Try.prog W 0 (fun _ => true) true Try.f4.params.toList args.toList ds p := hA0
  rw [Try.params4] at hA hval
  obtain ⟨v0, vs0, d0, ds0, p0, q0, hargs, rfl, rfl, h0, r0⟩ := trodAll_cons hA
  obtain ⟨v1, vs1, d1, ds1, p1, q1, rfl, rfl, rfl, h1, r1⟩ := trodAll_cons r0
  obtain ⟨v2, vs2, d2, ds2, p2, q2, rfl, rfl, rfl, h2, r2⟩ := trodAll_cons r1
  obtain ⟨rfl, rfl, rfl⟩ := trodAll_nil r2
  obtain rfl : args = #[v0, v1, v2] := by cases args; simp_all
  obtain ⟨rfl, rfl⟩ := trodVars_none hV
  obtain ⟨a0, rfl, f0⟩ := open_par (hval 0 24 v0 rfl rfl) h0
  obtain ⟨a1, rfl, rfl, rfl, w1⟩ := open_int Try.underlying22 (hval 1 22 v1 rfl rfl) h1
  have b1 := u64_fits w1
  obtain ⟨n1, rfl⟩ := Int.eq_ofNat_of_zero_le b1.1
  obtain ⟨x20, x21, y20, y21, m2, rfl, rfl, rfl, hy20, hy21⟩ := Joins.open_agg2 Try.underlying38 (by kernel_rfl) (by kernel_rfl) (hval 2 38 v2 rfl rfl) h2
  obtain ⟨a20, e20, rfl, u20⟩ := DataW.trod_int Try.underlying22 hy20
  simp at e20
  subst e20
  have b20 := u64_fits u20
  obtain ⟨n20, rfl⟩ := Int.eq_ofNat_of_zero_le b20.1
  obtain ⟨a21, e21, rfl, u21⟩ := DataW.trod_int Try.underlying22 hy21
  simp at e21
  subst e21
  have b21 := u64_fits u21
  obtain ⟨n21, rfl⟩ := Int.eq_ofNat_of_zero_le b21.1
  clear hA0 hval0
  refine (walk a0 n1 n20 n21 W f0 (by have := b1.2; omega) (by have := b20.2; omega) (by have := b21.2; omega)).mono fun e W' ⟨he, hg⟩ => ?_
  subst he
  exact ⟨_, rfl, law_post laidOut (by kernel_rfl) rfl rfl Try.underlying4 rfl hW' hg⟩

theorem over : Rows.grainStaysRow.holds Try.pinned (OpenSpec.ofChange Rows.grainStaysSpec) :=
  OpenClaim.holds_of_wide 4 Try.f4 rfl rfl rfl rfl rfl rfl rfl ⟨rfl, rfl, rfl, rfl, rfl⟩ rfl rfl rfl rfl rfl (by kernel_rfl) Try.func4 (by kernel_rfl)
    (of_decide_eq_true (by kernel_rfl)) (by unfold Func.isWrapper; first | (rw [if_pos (by decide +kernel)]; kernel_rfl) | (rw [if_neg (by decide +kernel)]; exact ⟨rfl, rfl⟩))
    (fun os started H enc _ => lifted os started H enc)

/-- The statement. -/
theorem proved : Rows.GrainStaysSaid := over
#print axioms proved

end Go.Proofs.Ytfaocjgelhefjaa.GrainStays
