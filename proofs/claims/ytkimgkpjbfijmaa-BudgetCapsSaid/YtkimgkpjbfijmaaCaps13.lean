/- Law BudgetCaps (P13.2): what is minted with what was issued is never above the most, in a leak nothing is, and it is all of the budget or nothing. No condition. -/
import Derived.Test.YtkimgkpjbfijmaaAwake13
import Derived.Test.YtkimgkpjbfijmaaIssue
import Derived.Test.YtkimgkpjbfijmaaRows
namespace Go.Proofs.Ytkimgkpjbfijmaa.BudgetCaps
open Go.RowKit Go.ChangeShapes Go.WideShapes Go.ChangeAt
set_option linter.unusedVariables false
set_option linter.unusedSimpArgs false


set_option maxRecDepth 100000 in
set_option maxHeartbeats 2000000 in
theorem walk_none (p : Par) (a i M : Nat) (m : Int) (w : World) (n : Nat) (ko : OfIs p a n) (km : MintIs p a i M m 0) (hi : i < 18446744073709551616) :
    Calls Try.prog 4 #[.agg p.vals, .agg #[.int .u64 (a : Int), .int .u64 (i : Int), .int .u64 (M : Int), .int .i64 m]] w fun ev w' => ev = .returned (.bool true) ∧ Below w.heap.size w w' := by
  have hP0 := ParAt.new w p 24
  have hP := hP0.up ((Below.refl _ _).alloc (Nat.le_refl _) (.cells #[.int .u64 (a : Int), .int .u64 (i : Int), .int .u64 (M : Int), .int .i64 m] 26))
  have hX : IssAt ((w.alloc (.cells p.vals 24)).alloc (.cells #[.int .u64 (a : Int), .int .u64 (i : Int), .int .u64 (M : Int), .int .i64 m] 26)) (w.heap.size + 1) a i M m 26 := IssAt.new _ _ _ _ _ _ (by simp)
  have hB : Below w.heap.size w ((w.alloc (.cells p.vals 24)).alloc (.cells #[.int .u64 (a : Int), .int .u64 (i : Int), .int .u64 (M : Int), .int .i64 m] 26)) := ((Below.refl _ _).alloc (Nat.le_refl _) _).alloc (by simp) _
  clear hP0
  have ka := fun w => money_add_ok (i : Int) 0 w (by omega) (by omega) (by omega)
  unfold MintIs at km
  rw [Int.add_zero] at ka
  rw [show ((0 : Nat) : Int) = 0 from rfl] at km
  clear hi
  go_enter Try.func4, Try.ntmps4
  go_wp2_with (first
    | (refine load_par _ rfl rfl _ p _ rfl (by assumption) ?_)
    | (go_at_call 6; refine (bud_awake _).mono ?_; rintro e w1 ⟨rfl, hb1⟩; have hP := hP.up hb1; have hX := hX.up hb1; have hB := Below.then hB hb1; have x0 := hX.c0; have x1 := hX.c1; have x2 := hX.c2; have x3 := hX.c3; clear hb1)
    )
  have cells : ∀ w', Below w1.heap.size w1 w' → ParAt w' w.heap.size p 24 := fun w' h => hP.up h
  have xells : ∀ w', Below w1.heap.size w1 w' → IssAt w' (w.heap.size + 1) a i M m 26 := fun w' h => hX.up h
  clear hP hX x0 x1 x2 x3
  refine region_list [] (fun _ w' => Below w1.heap.size w1 w') (by kernel_rfl) (by kernel_rfl) (Below.refl _ _).drew ?_
  refine SeqS.take _ (by rfl) (by rfl) (fun ph w' hS => exec_load_par _ rfl _ _ _ rfl (cells w' hS)) ?_
  simp only [Act.put, List.setIfInBounds_toArray, List.set_cons_zero, List.set_cons_succ]
  refine' SeqS.calm _ (by rfl) (by rfl) (fun w => ?_) ?_; rotate_left; · (go_simp <;> with_reducible rfl)
  simp only [Act.put, List.setIfInBounds_toArray, List.set_cons_zero, List.set_cons_succ]
  refine' SeqS.take _ (by rfl) (by rfl) (fun ph w' hS => ?_) ?_; rotate_left; · (have x0 := (xells w' hS).c0; have x1 := (xells w' hS).c1; have x2 := (xells w' hS).c2; have x3 := (xells w' hS).c3; go_simp <;> with_reducible rfl)
  simp only [Act.put, List.setIfInBounds_toArray, List.set_cons_zero, List.set_cons_succ]
  refine SeqS.call (below_call (Nat.le_refl _) (fun w _ => ko w)) (by rfl) (by rfl) (fun w => ?_) ?_; · go_simp
  simp only [Act.put, List.setIfInBounds_toArray, List.set_cons_zero, List.set_cons_succ]
  refine SeqS.take _ (by rfl) (by rfl) (fun ph w' hS => exec_load_par _ rfl _ _ _ rfl (cells w' hS)) ?_
  simp only [Act.put, List.setIfInBounds_toArray, List.set_cons_zero, List.set_cons_succ]
  refine' SeqS.calm _ (by rfl) (by rfl) (fun w => ?_) ?_; rotate_left; · (go_simp <;> with_reducible rfl)
  simp only [Act.put, List.setIfInBounds_toArray, List.set_cons_zero, List.set_cons_succ]
  refine' SeqS.take _ (by rfl) (by rfl) (fun ph w' hS => ?_) ?_; rotate_left; · (have x0 := (xells w' hS).c0; have x1 := (xells w' hS).c1; have x2 := (xells w' hS).c2; have x3 := (xells w' hS).c3; go_simp <;> with_reducible rfl)
  simp only [Act.put, List.setIfInBounds_toArray, List.set_cons_zero, List.set_cons_succ]
  refine' SeqS.calm _ (by rfl) (by rfl) (fun w => ?_) ?_; rotate_left; · (go_simp <;> with_reducible rfl)
  simp only [Act.put, List.setIfInBounds_toArray, List.set_cons_zero, List.set_cons_succ]
  refine' SeqS.take _ (by rfl) (by rfl) (fun ph w' hS => ?_) ?_; rotate_left; · (have x0 := (xells w' hS).c0; have x1 := (xells w' hS).c1; have x2 := (xells w' hS).c2; have x3 := (xells w' hS).c3; go_simp <;> with_reducible rfl)
  simp only [Act.put, List.setIfInBounds_toArray, List.set_cons_zero, List.set_cons_succ]
  refine' SeqS.calm _ (by rfl) (by rfl) (fun w => ?_) ?_; rotate_left; · (go_simp <;> with_reducible rfl)
  simp only [Act.put, List.setIfInBounds_toArray, List.set_cons_zero, List.set_cons_succ]
  refine' SeqS.take _ (by rfl) (by rfl) (fun ph w' hS => ?_) ?_; rotate_left; · (have x0 := (xells w' hS).c0; have x1 := (xells w' hS).c1; have x2 := (xells w' hS).c2; have x3 := (xells w' hS).c3; go_simp <;> with_reducible rfl)
  simp only [Act.put, List.setIfInBounds_toArray, List.set_cons_zero, List.set_cons_succ]
  refine' SeqS.calm _ (by rfl) (by rfl) (fun w => ?_) ?_; rotate_left; · (go_simp <;> with_reducible rfl)
  simp only [Act.put, List.setIfInBounds_toArray, List.set_cons_zero, List.set_cons_succ]
  refine' SeqS.take _ (by rfl) (by rfl) (fun ph w' hS => ?_) ?_; rotate_left; · (have x0 := (xells w' hS).c0; have x1 := (xells w' hS).c1; have x2 := (xells w' hS).c2; have x3 := (xells w' hS).c3; go_simp <;> with_reducible rfl)
  simp only [Act.put, List.setIfInBounds_toArray, List.set_cons_zero, List.set_cons_succ]
  refine SeqS.call (below_call (Nat.le_refl _) (fun w _ => km w)) (by rfl) (by rfl) (fun w => ?_) ?_; · go_simp
  simp only [Act.put, List.setIfInBounds_toArray, List.set_cons_zero, List.set_cons_succ]
  iterate 2 ((refine' SeqS.calm _ (by rfl) (by rfl) (fun w => ?_) ?_; rotate_left; · (go_simp <;> with_reducible rfl)); simp only [Act.put, List.setIfInBounds_toArray, List.set_cons_zero, List.set_cons_succ])
  intro w3 hw3
  have hP := cells w3 hw3
  have hX := xells w3 hw3
  have x0 := hX.c0
  have x1 := hX.c1
  have x2 := hX.c2
  have x3 := hX.c3
  have hB := Below.then hB hw3
  clear cells xells hw3
  go_wp2_with (go_at_call 14; refine (ka _).mono ?_; clear ka; rintro e w4 ⟨rfl, rfl⟩)
  go_ret
  exact ⟨by first | rfl | simp, hB⟩

set_option maxRecDepth 100000 in
set_option maxHeartbeats 2000000 in
theorem walk_all (p : Par) (a i M : Nat) (m : Int) (w : World) (n : Nat) (ko : OfIs p a n) (km : MintIs p a i M m n) (h0 : 0 < n) (hl : Std.leaky m = false) (h : i + n ≤ M) (hM : M < 18446744073709551616) :
    Calls Try.prog 4 #[.agg p.vals, .agg #[.int .u64 (a : Int), .int .u64 (i : Int), .int .u64 (M : Int), .int .i64 m]] w fun ev w' => ev = .returned (.bool true) ∧ Below w.heap.size w w' := by
  have hP0 := ParAt.new w p 24
  have hP := hP0.up ((Below.refl _ _).alloc (Nat.le_refl _) (.cells #[.int .u64 (a : Int), .int .u64 (i : Int), .int .u64 (M : Int), .int .i64 m] 26))
  have hX : IssAt ((w.alloc (.cells p.vals 24)).alloc (.cells #[.int .u64 (a : Int), .int .u64 (i : Int), .int .u64 (M : Int), .int .i64 m] 26)) (w.heap.size + 1) a i M m 26 := IssAt.new _ _ _ _ _ _ (by simp)
  have hB : Below w.heap.size w ((w.alloc (.cells p.vals 24)).alloc (.cells #[.int .u64 (a : Int), .int .u64 (i : Int), .int .u64 (M : Int), .int .i64 m] 26)) := ((Below.refl _ _).alloc (Nat.le_refl _) _).alloc (by simp) _
  clear hP0
  have ka := fun w => money_add_ok (i : Int) (n : Int) w (by omega) (by omega) (by omega)
  obtain ⟨s, hs⟩ : ∃ s, i + n = s := ⟨_, rfl⟩
  rw [show (i : Int) + (n : Int) = (s : Int) by omega] at ka
  have d1 : decide ((s : Int) ≤ (M : Int)) = true := by simp; omega
  have d2 : decide (s ≤ M) = true := by simp; omega
  have z1 : ((n : Int) == 0) = false := by simp; omega
  have z2 : (n == 0) = false := by simp; omega
  have z3 : ¬ n = 0 := by omega
  unfold Std.leaky at hl
  have m3 : (m == 3) = false := by cases h3 : m == 3 <;> simp_all
  have m4 : (m == 4) = false := by cases h4 : m == 4 <;> simp_all
  have n3 : ¬ m = 3 := by simpa using m3
  have n4 : ¬ m = 4 := by simpa using m4
  clear hl h hM hs h0
  go_enter Try.func4, Try.ntmps4
  go_wp2_with (first
    | (refine load_par _ rfl rfl _ p _ rfl (by assumption) ?_)
    | (go_at_call 6; refine (bud_awake _).mono ?_; rintro e w1 ⟨rfl, hb1⟩; have hP := hP.up hb1; have hX := hX.up hb1; have hB := Below.then hB hb1; have x0 := hX.c0; have x1 := hX.c1; have x2 := hX.c2; have x3 := hX.c3; clear hb1)
    )
  have cells : ∀ w', Below w1.heap.size w1 w' → ParAt w' w.heap.size p 24 := fun w' h => hP.up h
  have xells : ∀ w', Below w1.heap.size w1 w' → IssAt w' (w.heap.size + 1) a i M m 26 := fun w' h => hX.up h
  clear hP hX x0 x1 x2 x3
  refine region_list [] (fun _ w' => Below w1.heap.size w1 w') (by kernel_rfl) (by kernel_rfl) (Below.refl _ _).drew ?_
  refine SeqS.take _ (by rfl) (by rfl) (fun ph w' hS => exec_load_par _ rfl _ _ _ rfl (cells w' hS)) ?_
  simp only [Act.put, List.setIfInBounds_toArray, List.set_cons_zero, List.set_cons_succ]
  refine' SeqS.calm _ (by rfl) (by rfl) (fun w => ?_) ?_; rotate_left; · (go_simp <;> with_reducible rfl)
  simp only [Act.put, List.setIfInBounds_toArray, List.set_cons_zero, List.set_cons_succ]
  refine' SeqS.take _ (by rfl) (by rfl) (fun ph w' hS => ?_) ?_; rotate_left; · (have x0 := (xells w' hS).c0; have x1 := (xells w' hS).c1; have x2 := (xells w' hS).c2; have x3 := (xells w' hS).c3; go_simp <;> with_reducible rfl)
  simp only [Act.put, List.setIfInBounds_toArray, List.set_cons_zero, List.set_cons_succ]
  refine SeqS.call (below_call (Nat.le_refl _) (fun w _ => ko w)) (by rfl) (by rfl) (fun w => ?_) ?_; · go_simp
  simp only [Act.put, List.setIfInBounds_toArray, List.set_cons_zero, List.set_cons_succ]
  refine SeqS.take _ (by rfl) (by rfl) (fun ph w' hS => exec_load_par _ rfl _ _ _ rfl (cells w' hS)) ?_
  simp only [Act.put, List.setIfInBounds_toArray, List.set_cons_zero, List.set_cons_succ]
  refine' SeqS.calm _ (by rfl) (by rfl) (fun w => ?_) ?_; rotate_left; · (go_simp <;> with_reducible rfl)
  simp only [Act.put, List.setIfInBounds_toArray, List.set_cons_zero, List.set_cons_succ]
  refine' SeqS.take _ (by rfl) (by rfl) (fun ph w' hS => ?_) ?_; rotate_left; · (have x0 := (xells w' hS).c0; have x1 := (xells w' hS).c1; have x2 := (xells w' hS).c2; have x3 := (xells w' hS).c3; go_simp <;> with_reducible rfl)
  simp only [Act.put, List.setIfInBounds_toArray, List.set_cons_zero, List.set_cons_succ]
  refine' SeqS.calm _ (by rfl) (by rfl) (fun w => ?_) ?_; rotate_left; · (go_simp <;> with_reducible rfl)
  simp only [Act.put, List.setIfInBounds_toArray, List.set_cons_zero, List.set_cons_succ]
  refine' SeqS.take _ (by rfl) (by rfl) (fun ph w' hS => ?_) ?_; rotate_left; · (have x0 := (xells w' hS).c0; have x1 := (xells w' hS).c1; have x2 := (xells w' hS).c2; have x3 := (xells w' hS).c3; go_simp <;> with_reducible rfl)
  simp only [Act.put, List.setIfInBounds_toArray, List.set_cons_zero, List.set_cons_succ]
  refine' SeqS.calm _ (by rfl) (by rfl) (fun w => ?_) ?_; rotate_left; · (go_simp <;> with_reducible rfl)
  simp only [Act.put, List.setIfInBounds_toArray, List.set_cons_zero, List.set_cons_succ]
  refine' SeqS.take _ (by rfl) (by rfl) (fun ph w' hS => ?_) ?_; rotate_left; · (have x0 := (xells w' hS).c0; have x1 := (xells w' hS).c1; have x2 := (xells w' hS).c2; have x3 := (xells w' hS).c3; go_simp <;> with_reducible rfl)
  simp only [Act.put, List.setIfInBounds_toArray, List.set_cons_zero, List.set_cons_succ]
  refine' SeqS.calm _ (by rfl) (by rfl) (fun w => ?_) ?_; rotate_left; · (go_simp <;> with_reducible rfl)
  simp only [Act.put, List.setIfInBounds_toArray, List.set_cons_zero, List.set_cons_succ]
  refine' SeqS.take _ (by rfl) (by rfl) (fun ph w' hS => ?_) ?_; rotate_left; · (have x0 := (xells w' hS).c0; have x1 := (xells w' hS).c1; have x2 := (xells w' hS).c2; have x3 := (xells w' hS).c3; go_simp <;> with_reducible rfl)
  simp only [Act.put, List.setIfInBounds_toArray, List.set_cons_zero, List.set_cons_succ]
  refine SeqS.call (below_call (Nat.le_refl _) (fun w _ => km w)) (by rfl) (by rfl) (fun w => ?_) ?_; · go_simp
  simp only [Act.put, List.setIfInBounds_toArray, List.set_cons_zero, List.set_cons_succ]
  iterate 2 ((refine' SeqS.calm _ (by rfl) (by rfl) (fun w => ?_) ?_; rotate_left; · (go_simp <;> with_reducible rfl)); simp only [Act.put, List.setIfInBounds_toArray, List.set_cons_zero, List.set_cons_succ])
  intro w3 hw3
  have hP := cells w3 hw3
  have hX := xells w3 hw3
  have x0 := hX.c0
  have x1 := hX.c1
  have x2 := hX.c2
  have x3 := hX.c3
  have hB := Below.then hB hw3
  clear cells xells hw3
  go_wp2_with (go_at_call 14; refine (ka _).mono ?_; clear ka; rintro e w4 ⟨rfl, rfl⟩)
  go_ret
  exact ⟨by first | rfl | simp, hB⟩
theorem walk (p : Par) (a i M : Nat) (m : Int) (w : World) (hf : p.Fits) (ha : a < 18446744073709551616) (hi : i < 18446744073709551616) (hM : M < 18446744073709551616) :
    Calls Try.prog 4 #[.agg p.vals, .agg #[.int .u64 (a : Int), .int .u64 (i : Int), .int .u64 (M : Int), .int .i64 m]] w fun ev w' => ev = .returned (.bool true) ∧ Below w.heap.size w w' := by
  obtain ⟨n, ko, hn⟩ := of_some p a hf
  have km := mint_is i M m ko hi (by omega) hM
  unfold mintOf at km
  cases hl : Std.leaky m with
  | true => rw [hl] at km; exact walk_none p a i M m w n ko km hi
  | false =>
    rw [hl] at km
    simp only [cond_false] at km
    by_cases h : i + n ≤ M
    · rw [if_pos h] at km
      rcases Nat.eq_zero_or_pos n with rfl | h0
      · exact walk_none p a i M m w 0 ko km hi
      · exact walk_all p a i M m w n ko km h0 hl h hM
    · rw [if_neg h] at km
      exact walk_none p a i M m w n ko km hi


theorem own : ownKnob Try.prog.godebug = none := by kernel_rfl
theorem laidOut : laidOutB Try.prog = true := by kernel_rfl

set_option maxRecDepth 100000 in
theorem lifted (os : Os) (started : os.Started) (H : Type) (enc : TypeId × Value → H) :
    ReturnsInHanded {} Try.checked os 4 .any (Rows.budgetCapsSpec.pre6 enc Try.prog Try.f4 Rows.budgetCapsRow.domain false) (Rows.budgetCapsSpec.post enc Try.prog Try.f4 false true false false) := by
  refine returnsInHanded_of_change (C := Try.checked) own started (by kernel_rfl) Try.func4
    (ChangeSpec.witness6 (enc := enc) (C := Try.checked) false ⟨#[], #[.agg #[.int .u64 0, .int .u64 0, .int .u64 0, .int .u64 0, .int .u64 0, .int .u64 0, .int .u64 0, .int .u64 0, .int .u64 0, .int .u64 0, .int .u64 0, .int .u64 0, .int .u64 0, .int .u64 0, .int .i64 0, .int .i64 0, .int .i64 0, .int .i64 0, .int .i64 0, .int .i64 0, .int .i64 0, .int .i64 0, .int .i64 0, .int .i64 0], .agg #[.int .u64 0, .int .u64 0, .int .u64 0, .int .i64 0]], []⟩ 8 (by kernel_rfl) (by kernel_rfl) (by kernel_rfl) (by kernel_rfl)) ?_
  intro W base args ds gs before hval0 hW hcnd _
  have hval : ∀ (j : Nat) t v, Try.f4.params[j]? = some t → args[j]? = some v → Value.okWide Try.prog W .any base t v := hval0
  have hW' := hW
  obtain ⟨p, q, hA0, hV, rfl, hfz, hnd⟩ := hW
  have hlt : ∀ x ∈ p ++ q, x.block < W.heap.size := fun x hx => hW'.lt x hx
  have hA : DataW.TrodAll enc Try.prog W 0 (fun _ => true) true Try.f4.params.toList args.toList ds p := hA0
  rw [Try.params4] at hA hval
  obtain ⟨v0, vs0, d0, ds0, p0, q0, hargs, rfl, rfl, h0, r0⟩ := trodAll_cons hA
  obtain ⟨v1, vs1, d1, ds1, p1, q1, rfl, rfl, rfl, h1, r1⟩ := trodAll_cons r0
  obtain ⟨rfl, rfl, rfl⟩ := trodAll_nil r1
  obtain rfl : args = #[v0, v1] := by cases args; simp_all
  obtain ⟨rfl, rfl⟩ := trodVars_none hV
  obtain ⟨a0, rfl, f0⟩ := open_par (hval 0 24 v0 rfl rfl) h0
  obtain ⟨x1, y1, z1, b1, rfl, f1, g1, j1⟩ := open_issue (hval 1 26 v1 rfl rfl) h1
  clear hA0 hval0
  refine (walk a0 x1 y1 z1 b1 W f0 f1 g1 j1).mono fun e W' ⟨he, hg⟩ => ?_
  subst he
  exact ⟨_, rfl, law_post laidOut (by kernel_rfl) rfl rfl Try.underlying4 rfl hW' hg⟩

theorem over : Rows.budgetCapsRow.holds Try.pinned (OpenSpec.ofChange Rows.budgetCapsSpec) :=
  OpenClaim.holds_of_wide 4 Try.f4 rfl rfl rfl rfl rfl rfl rfl ⟨rfl, rfl, rfl, rfl, rfl⟩ rfl rfl rfl rfl rfl (by kernel_rfl) Try.func4 (by kernel_rfl)
    (of_decide_eq_true (by kernel_rfl)) (by unfold Func.isWrapper; first | (rw [if_pos (by decide +kernel)]; kernel_rfl) | (rw [if_neg (by decide +kernel)]; exact ⟨rfl, rfl⟩))
    (fun os started H enc _ => lifted os started H enc)

/-- The statement. -/
theorem proved : Rows.BudgetCapsSaid := over
#print axioms proved

end Go.Proofs.Ytkimgkpjbfijmaa.BudgetCaps
