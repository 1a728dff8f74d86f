/- Law BudgetMints (P13.1, P13.2): of any parameters and any stake the budget, and what is minted of it, are the document's. No condition. -/
import Derived.Test.YtkimgkpjbfijmaaAwake13
import Derived.Test.YtkimgkpjbfijmaaBudB
import Derived.Test.YtkimgkpjbfijmaaIssue
import Derived.Test.YtkimgkpjbfijmaaParP
import Derived.Test.YtkimgkpjbfijmaaParSb
import Derived.Test.YtkimgkpjbfijmaaParNew
import Derived.Test.YtkimgkpjbfijmaaRows
namespace Go.Proofs.Ytkimgkpjbfijmaa.BudgetMints
open Go.RowKit Go.ChangeShapes Go.WideShapes Go.ChangeAt
set_option linter.unusedVariables false
set_option linter.unusedSimpArgs false


set_option maxRecDepth 100000 in
set_option maxHeartbeats 2000000 in
theorem walk_no (p : Par) (a i M : Nat) (m : Int) (w : World) (kr : ∀ w, Calls Try.prog 10 #[.agg p.vals] w fun e w' => e = .returned (.bool false) ∧ Below w.heap.size w w') (ko : OfIs p a 0) (km : MintIs p a i M m 0) :
    Calls Try.prog 3 #[.agg p.vals, .agg #[.int .u64 (a : Int), .int .u64 (i : Int), .int .u64 (M : Int), .int .i64 m]] w fun ev w' => ev = .returned (.bool true) ∧ Below w.heap.size w w' := by
  have hP0 := ParAt.new w p 24
  have hP := hP0.up ((Below.refl _ _).alloc (Nat.le_refl _) (.cells #[.int .u64 (a : Int), .int .u64 (i : Int), .int .u64 (M : Int), .int .i64 m] 26))
  have hX : IssAt ((w.alloc (.cells p.vals 24)).alloc (.cells #[.int .u64 (a : Int), .int .u64 (i : Int), .int .u64 (M : Int), .int .i64 m] 26)) (w.heap.size + 1) a i M m 26 := IssAt.new _ _ _ _ _ _ (by simp)
  have hB : Below w.heap.size w ((w.alloc (.cells p.vals 24)).alloc (.cells #[.int .u64 (a : Int), .int .u64 (i : Int), .int .u64 (M : Int), .int .i64 m] 26)) := ((Below.refl _ _).alloc (Nat.le_refl _) _).alloc (by simp) _
  clear hP0
  unfold OfIs at ko
  unfold MintIs at km
  rw [show ((0 : Nat) : Int) = 0 from rfl] at ko km
  go_enter Try.func3, Try.ntmps3
  go_wp2_with (first
    | (refine load_par _ rfl rfl _ p _ rfl (by assumption) ?_)
    | (go_at_call 6; refine (bud_awake _).mono ?_; rintro e w1 ⟨rfl, hb1⟩; have hP := hP.up hb1; have hX := hX.up hb1; have hB := Below.then hB hb1; have x0 := hX.c0; have x1 := hX.c1; have x2 := hX.c2; have x3 := hX.c3; clear hb1)
    )
  have cells : ∀ w', Below w1.heap.size w1 w' → ParAt w' w.heap.size p 24 := fun w' h => hP.up h
  have xells : ∀ w', Below w1.heap.size w1 w' → IssAt w' (w.heap.size + 1) a i M m 26 := fun w' h => hX.up h
  clear hP hX x0 x1 x2 x3
  refine region_list [] (fun _ w' => Below w1.heap.size w1 w') (by kernel_rfl) (by kernel_rfl) (Below.refl _ _).drew ?_
  refine SeqS.take _ (by rfl) (by rfl) (fun ph w' hS => exec_load_par _ rfl _ _ _ rfl (cells w' hS)) ?_
  simp only [Act.put, List.setIfInBounds_toArray, List.set_cons_zero, List.set_cons_succ]
  refine' SeqS.calm _ (by rfl) (by rfl) (fun w => ?_) ?_; rotate_left; · (go_simp <;> with_reducible rfl)
  simp only [Act.put, List.setIfInBounds_toArray, List.set_cons_zero, List.set_cons_succ]
  refine' SeqS.take _ (by rfl) (by rfl) (fun ph w' hS => ?_) ?_; rotate_left; · (have x0 := (xells w' hS).c0; have x1 := (xells w' hS).c1; have x2 := (xells w' hS).c2; have x3 := (xells w' hS).c3; go_simp <;> with_reducible rfl)
  simp only [Act.put, List.setIfInBounds_toArray, List.set_cons_zero, List.set_cons_succ]
  refine SeqS.call (below_call (Nat.le_refl _) (fun w _ => ko w)) (by rfl) (by rfl) (fun w => ?_) ?_; · go_simp
  simp only [Act.put, List.setIfInBounds_toArray, List.set_cons_zero, List.set_cons_succ]
  refine SeqS.take _ (by rfl) (by rfl) (fun ph w' hS => exec_load_par _ rfl _ _ _ rfl (cells w' hS)) ?_
  simp only [Act.put, List.setIfInBounds_toArray, List.set_cons_zero, List.set_cons_succ]
  refine' SeqS.calm _ (by rfl) (by rfl) (fun w => ?_) ?_; rotate_left; · (go_simp <;> with_reducible rfl)
  simp only [Act.put, List.setIfInBounds_toArray, List.set_cons_zero, List.set_cons_succ]
  refine' SeqS.take _ (by rfl) (by rfl) (fun ph w' hS => ?_) ?_; rotate_left; · (have x0 := (xells w' hS).c0; have x1 := (xells w' hS).c1; have x2 := (xells w' hS).c2; have x3 := (xells w' hS).c3; go_simp <;> with_reducible rfl)
  simp only [Act.put, List.setIfInBounds_toArray, List.set_cons_zero, List.set_cons_succ]
  refine' SeqS.calm _ (by rfl) (by rfl) (fun w => ?_) ?_; rotate_left; · (go_simp <;> with_reducible rfl)
  simp only [Act.put, List.setIfInBounds_toArray, List.set_cons_zero, List.set_cons_succ]
  refine' SeqS.take _ (by rfl) (by rfl) (fun ph w' hS => ?_) ?_; rotate_left; · (have x0 := (xells w' hS).c0; have x1 := (xells w' hS).c1; have x2 := (xells w' hS).c2; have x3 := (xells w' hS).c3; go_simp <;> with_reducible rfl)
  simp only [Act.put, List.setIfInBounds_toArray, List.set_cons_zero, List.set_cons_succ]
  refine' SeqS.calm _ (by rfl) (by rfl) (fun w => ?_) ?_; rotate_left; · (go_simp <;> with_reducible rfl)
  simp only [Act.put, List.setIfInBounds_toArray, List.set_cons_zero, List.set_cons_succ]
  refine' SeqS.take _ (by rfl) (by rfl) (fun ph w' hS => ?_) ?_; rotate_left; · (have x0 := (xells w' hS).c0; have x1 := (xells w' hS).c1; have x2 := (xells w' hS).c2; have x3 := (xells w' hS).c3; go_simp <;> with_reducible rfl)
  simp only [Act.put, List.setIfInBounds_toArray, List.set_cons_zero, List.set_cons_succ]
  refine' SeqS.calm _ (by rfl) (by rfl) (fun w => ?_) ?_; rotate_left; · (go_simp <;> with_reducible rfl)
  simp only [Act.put, List.setIfInBounds_toArray, List.set_cons_zero, List.set_cons_succ]
  refine' SeqS.take _ (by rfl) (by rfl) (fun ph w' hS => ?_) ?_; rotate_left; · (have x0 := (xells w' hS).c0; have x1 := (xells w' hS).c1; have x2 := (xells w' hS).c2; have x3 := (xells w' hS).c3; go_simp <;> with_reducible rfl)
  simp only [Act.put, List.setIfInBounds_toArray, List.set_cons_zero, List.set_cons_succ]
  refine SeqS.call (below_call (Nat.le_refl _) (fun w _ => km w)) (by rfl) (by rfl) (fun w => ?_) ?_; · go_simp
  simp only [Act.put, List.setIfInBounds_toArray, List.set_cons_zero, List.set_cons_succ]
  iterate 2 ((refine' SeqS.calm _ (by rfl) (by rfl) (fun w => ?_) ?_; rotate_left; · (go_simp <;> with_reducible rfl)); simp only [Act.put, List.setIfInBounds_toArray, List.set_cons_zero, List.set_cons_succ])
  intro w3 hw3
  have hP := cells w3 hw3
  have hX := xells w3 hw3
  have x0 := hX.c0
  have x1 := hX.c1
  have x2 := hX.c2
  have x3 := hX.c3
  have hB := Below.then hB hw3
  clear cells xells hw3
  go_wp2_with (first
    | (refine load_par _ rfl rfl _ p _ rfl (by assumption) ?_)
    | (refine load_ref _ rfl rfl _ p _ rfl (by assumption) ?_)
    | (refine store_ref_new _ _ rfl rfl _ p Par.none 30 rfl rfl (ParAt.new _ Par.none _) ?_; intro w2 hS hb2; have hP := hP.up (below_made (Below.refl _ _) hb2); have hX := hX.up (below_made (Below.refl _ _) hb2); have hB := below_made hB hb2; clear hb2; have x0 := hX.c0; have x1 := hX.c1; have x2 := hX.c2; have x3 := hX.c3)
    | (go_at_call 9; refine (plain_is p _).mono ?_; rintro e w1 ⟨rfl, hb1⟩; have hP := hP.up hb1; have hX := hX.up hb1; have hB := Below.then hB hb1; have x0 := hX.c0; have x1 := hX.c1; have x2 := hX.c2; have x3 := hX.c3; clear hb1)
    | (go_at_call 10; refine (kr _).mono ?_; clear kr; rintro e w1 ⟨rfl, hb1⟩; have hP := hP.up hb1; have hX := hX.up hb1; have hS := hS.up hb1; have hB := Below.then hB hb1; have x0 := hX.c0; have x1 := hX.c1; have x2 := hX.c2; have x3 := hX.c3; clear hb1))
  go_ret
  exact ⟨by first | rfl | simp, hB⟩

set_option maxRecDepth 100000 in
set_option maxHeartbeats 2000000 in
theorem walk_yes (p : Par) (a i M n k : Nat) (m : Int) (w : World) (kr : ∀ w, Calls Try.prog 10 #[.agg p.vals] w fun e w' => e = .returned (.bool true) ∧ Below w.heap.size w w') (ko : OfIs p a n) (km : MintIs p a i M m k) (kro : RofIs p a n) (krm : RmintIs p a i M (Std.leaky m) k) :
    Calls Try.prog 3 #[.agg p.vals, .agg #[.int .u64 (a : Int), .int .u64 (i : Int), .int .u64 (M : Int), .int .i64 m]] w fun ev w' => ev = .returned (.bool true) ∧ Below w.heap.size w w' := by
  have hP0 := ParAt.new w p 24
  have hP := hP0.up ((Below.refl _ _).alloc (Nat.le_refl _) (.cells #[.int .u64 (a : Int), .int .u64 (i : Int), .int .u64 (M : Int), .int .i64 m] 26))
  have hX : IssAt ((w.alloc (.cells p.vals 24)).alloc (.cells #[.int .u64 (a : Int), .int .u64 (i : Int), .int .u64 (M : Int), .int .i64 m] 26)) (w.heap.size + 1) a i M m 26 := IssAt.new _ _ _ _ _ _ (by simp)
  have hB : Below w.heap.size w ((w.alloc (.cells p.vals 24)).alloc (.cells #[.int .u64 (a : Int), .int .u64 (i : Int), .int .u64 (M : Int), .int .i64 m] 26)) := ((Below.refl _ _).alloc (Nat.le_refl _) _).alloc (by simp) _
  clear hP0

  go_enter Try.func3, Try.ntmps3
  go_wp2_with (first
    | (refine load_par _ rfl rfl _ p _ rfl (by assumption) ?_)
    | (go_at_call 6; refine (bud_awake _).mono ?_; rintro e w1 ⟨rfl, hb1⟩; have hP := hP.up hb1; have hX := hX.up hb1; have hB := Below.then hB hb1; have x0 := hX.c0; have x1 := hX.c1; have x2 := hX.c2; have x3 := hX.c3; clear hb1)
    )
  have cells : ∀ w', Below w1.heap.size w1 w' → ParAt w' w.heap.size p 24 := fun w' h => hP.up h
  have xells : ∀ w', Below w1.heap.size w1 w' → IssAt w' (w.heap.size + 1) a i M m 26 := fun w' h => hX.up h
  clear hP hX x0 x1 x2 x3
  refine region_list [] (fun _ w' => Below w1.heap.size w1 w') (by kernel_rfl) (by kernel_rfl) (Below.refl _ _).drew ?_
  refine SeqS.take _ (by rfl) (by rfl) (fun ph w' hS => exec_load_par _ rfl _ _ _ rfl (cells w' hS)) ?_
  simp only [Act.put, List.setIfInBounds_toArray, List.set_cons_zero, List.set_cons_succ]
  refine' SeqS.calm _ (by rfl) (by rfl) (fun w => ?_) ?_; rotate_left; · (go_simp <;> with_reducible rfl)
  simp only [Act.put, List.setIfInBounds_toArray, List.set_cons_zero, List.set_cons_succ]
  refine' SeqS.take _ (by rfl) (by rfl) (fun ph w' hS => ?_) ?_; rotate_left; · (have x0 := (xells w' hS).c0; have x1 := (xells w' hS).c1; have x2 := (xells w' hS).c2; have x3 := (xells w' hS).c3; go_simp <;> with_reducible rfl)
  simp only [Act.put, List.setIfInBounds_toArray, List.set_cons_zero, List.set_cons_succ]
  refine SeqS.call (below_call (Nat.le_refl _) (fun w _ => ko w)) (by rfl) (by rfl) (fun w => ?_) ?_; · go_simp
  simp only [Act.put, List.setIfInBounds_toArray, List.set_cons_zero, List.set_cons_succ]
  refine SeqS.take _ (by rfl) (by rfl) (fun ph w' hS => exec_load_par _ rfl _ _ _ rfl (cells w' hS)) ?_
  simp only [Act.put, List.setIfInBounds_toArray, List.set_cons_zero, List.set_cons_succ]
  refine' SeqS.calm _ (by rfl) (by rfl) (fun w => ?_) ?_; rotate_left; · (go_simp <;> with_reducible rfl)
  simp only [Act.put, List.setIfInBounds_toArray, List.set_cons_zero, List.set_cons_succ]
  refine' SeqS.take _ (by rfl) (by rfl) (fun ph w' hS => ?_) ?_; rotate_left; · (have x0 := (xells w' hS).c0; have x1 := (xells w' hS).c1; have x2 := (xells w' hS).c2; have x3 := (xells w' hS).c3; go_simp <;> with_reducible rfl)
  simp only [Act.put, List.setIfInBounds_toArray, List.set_cons_zero, List.set_cons_succ]
  refine' SeqS.calm _ (by rfl) (by rfl) (fun w => ?_) ?_; rotate_left; · (go_simp <;> with_reducible rfl)
  simp only [Act.put, List.setIfInBounds_toArray, List.set_cons_zero, List.set_cons_succ]
  refine' SeqS.take _ (by rfl) (by rfl) (fun ph w' hS => ?_) ?_; rotate_left; · (have x0 := (xells w' hS).c0; have x1 := (xells w' hS).c1; have x2 := (xells w' hS).c2; have x3 := (xells w' hS).c3; go_simp <;> with_reducible rfl)
  simp only [Act.put, List.setIfInBounds_toArray, List.set_cons_zero, List.set_cons_succ]
  refine' SeqS.calm _ (by rfl) (by rfl) (fun w => ?_) ?_; rotate_left; · (go_simp <;> with_reducible rfl)
  simp only [Act.put, List.setIfInBounds_toArray, List.set_cons_zero, List.set_cons_succ]
  refine' SeqS.take _ (by rfl) (by rfl) (fun ph w' hS => ?_) ?_; rotate_left; · (have x0 := (xells w' hS).c0; have x1 := (xells w' hS).c1; have x2 := (xells w' hS).c2; have x3 := (xells w' hS).c3; go_simp <;> with_reducible rfl)
  simp only [Act.put, List.setIfInBounds_toArray, List.set_cons_zero, List.set_cons_succ]
  refine' SeqS.calm _ (by rfl) (by rfl) (fun w => ?_) ?_; rotate_left; · (go_simp <;> with_reducible rfl)
  simp only [Act.put, List.setIfInBounds_toArray, List.set_cons_zero, List.set_cons_succ]
  refine' SeqS.take _ (by rfl) (by rfl) (fun ph w' hS => ?_) ?_; rotate_left; · (have x0 := (xells w' hS).c0; have x1 := (xells w' hS).c1; have x2 := (xells w' hS).c2; have x3 := (xells w' hS).c3; go_simp <;> with_reducible rfl)
  simp only [Act.put, List.setIfInBounds_toArray, List.set_cons_zero, List.set_cons_succ]
  refine SeqS.call (below_call (Nat.le_refl _) (fun w _ => km w)) (by rfl) (by rfl) (fun w => ?_) ?_; · go_simp
  simp only [Act.put, List.setIfInBounds_toArray, List.set_cons_zero, List.set_cons_succ]
  iterate 2 ((refine' SeqS.calm _ (by rfl) (by rfl) (fun w => ?_) ?_; rotate_left; · (go_simp <;> with_reducible rfl)); simp only [Act.put, List.setIfInBounds_toArray, List.set_cons_zero, List.set_cons_succ])
  intro w3 hw3
  have hP := cells w3 hw3
  have hX := xells w3 hw3
  have x0 := hX.c0
  have x1 := hX.c1
  have x2 := hX.c2
  have x3 := hX.c3
  have hB := Below.then hB hw3
  clear cells xells hw3
  go_wp2_with (first
    | (refine load_par _ rfl rfl _ p _ rfl (by assumption) ?_)
    | (refine load_ref _ rfl rfl _ p _ rfl (by assumption) ?_)
    | (refine store_ref_new _ _ rfl rfl _ p Par.none 30 rfl rfl (ParAt.new _ Par.none _) ?_; intro w2 hS hb2; have hP := hP.up (below_made (Below.refl _ _) hb2); have hX := hX.up (below_made (Below.refl _ _) hb2); have hB := below_made hB hb2; clear hb2; have x0 := hX.c0; have x1 := hX.c1; have x2 := hX.c2; have x3 := hX.c3)
    | (go_at_call 9; refine (plain_is p _).mono ?_; rintro e w1 ⟨rfl, hb1⟩; have hP := hP.up hb1; have hX := hX.up hb1; have hB := Below.then hB hb1; have x0 := hX.c0; have x1 := hX.c1; have x2 := hX.c2; have x3 := hX.c3; clear hb1)
    | (go_at_call 10; refine (kr _).mono ?_; clear kr; rintro e w1 ⟨rfl, hb1⟩; have hP := hP.up hb1; have hX := hX.up hb1; have hS := hS.up hb1; have hB := Below.then hB hb1; have x0 := hX.c0; have x1 := hX.c1; have x2 := hX.c2; have x3 := hX.c3; clear hb1))
  have xells : ∀ w', Below w1.heap.size w1 w' → IssAt w' (w.heap.size + 1) a i M m 26 := fun w' h => hX.up h
  have rells := fun w' (h : Below w1.heap.size w1 w') => hS.up h
  clear hP hX hS x0 x1 x2 x3
  try dsimp only [List.append_eq, List.cons_append, List.nil_append]
  refine region_list [] (fun _ w' => Below w1.heap.size w1 w') (by kernel_rfl) (by kernel_rfl) (Below.refl _ _).drew ?_
  refine' SeqS.calm _ (by rfl) (by rfl) (fun w => ?_) ?_; rotate_left; · (go_simp <;> with_reducible rfl)
  simp only [Act.put, List.setIfInBounds_toArray, List.set_cons_zero, List.set_cons_succ]
  refine SeqS.take _ (by rfl) (by rfl) (fun ph w' hS => exec_load_rpar _ rfl _ _ _ rfl (rells w' hS)) ?_
  simp only [Act.put, List.setIfInBounds_toArray, List.set_cons_zero, List.set_cons_succ]
  refine' SeqS.calm _ (by rfl) (by rfl) (fun w => ?_) ?_; rotate_left; · (go_simp <;> with_reducible rfl)
  simp only [Act.put, List.setIfInBounds_toArray, List.set_cons_zero, List.set_cons_succ]
  refine' SeqS.take _ (by rfl) (by rfl) (fun ph w' hS => ?_) ?_; rotate_left; · (have x0 := (xells w' hS).c0; have x1 := (xells w' hS).c1; have x2 := (xells w' hS).c2; have x3 := (xells w' hS).c3; go_simp <;> with_reducible rfl)
  simp only [Act.put, List.setIfInBounds_toArray, List.set_cons_zero, List.set_cons_succ]
  refine SeqS.call (below_call (Nat.le_refl _) (fun w _ => kro w)) (by rfl) (by rfl) (fun w => ?_) ?_; · go_simp
  simp only [Act.put, List.setIfInBounds_toArray, List.set_cons_zero, List.set_cons_succ]
  iterate 3 ((refine' SeqS.calm _ (by rfl) (by rfl) (fun w => ?_) ?_; rotate_left; · (go_simp <;> with_reducible rfl)); simp only [Act.put, List.setIfInBounds_toArray, List.set_cons_zero, List.set_cons_succ])
  refine SeqS.take _ (by rfl) (by rfl) (fun ph w' hS => exec_load_rpar _ rfl _ _ _ rfl (rells w' hS)) ?_
  simp only [Act.put, List.setIfInBounds_toArray, List.set_cons_zero, List.set_cons_succ]
  refine' SeqS.calm _ (by rfl) (by rfl) (fun w => ?_) ?_; rotate_left; · (go_simp <;> with_reducible rfl)
  simp only [Act.put, List.setIfInBounds_toArray, List.set_cons_zero, List.set_cons_succ]
  refine' SeqS.take _ (by rfl) (by rfl) (fun ph w' hS => ?_) ?_; rotate_left; · (have x0 := (xells w' hS).c0; have x1 := (xells w' hS).c1; have x2 := (xells w' hS).c2; have x3 := (xells w' hS).c3; go_simp <;> with_reducible rfl)
  simp only [Act.put, List.setIfInBounds_toArray, List.set_cons_zero, List.set_cons_succ]
  refine' SeqS.calm _ (by rfl) (by rfl) (fun w => ?_) ?_; rotate_left; · (go_simp <;> with_reducible rfl)
  simp only [Act.put, List.setIfInBounds_toArray, List.set_cons_zero, List.set_cons_succ]
  refine' SeqS.take _ (by rfl) (by rfl) (fun ph w' hS => ?_) ?_; rotate_left; · (have x0 := (xells w' hS).c0; have x1 := (xells w' hS).c1; have x2 := (xells w' hS).c2; have x3 := (xells w' hS).c3; go_simp <;> with_reducible rfl)
  simp only [Act.put, List.setIfInBounds_toArray, List.set_cons_zero, List.set_cons_succ]
  refine' SeqS.calm _ (by rfl) (by rfl) (fun w => ?_) ?_; rotate_left; · (go_simp <;> with_reducible rfl)
  simp only [Act.put, List.setIfInBounds_toArray, List.set_cons_zero, List.set_cons_succ]
  refine' SeqS.take _ (by rfl) (by rfl) (fun ph w' hS => ?_) ?_; rotate_left; · (have x0 := (xells w' hS).c0; have x1 := (xells w' hS).c1; have x2 := (xells w' hS).c2; have x3 := (xells w' hS).c3; go_simp <;> with_reducible rfl)
  simp only [Act.put, List.setIfInBounds_toArray, List.set_cons_zero, List.set_cons_succ]
  refine' SeqS.calm _ (by rfl) (by rfl) (fun w => ?_) ?_; rotate_left; · (go_simp <;> with_reducible rfl)
  simp only [Act.put, List.setIfInBounds_toArray, List.set_cons_zero, List.set_cons_succ]
  refine' SeqS.take _ (by rfl) (by rfl) (fun ph w' hS => ?_) ?_; rotate_left; · (have x0 := (xells w' hS).c0; have x1 := (xells w' hS).c1; have x2 := (xells w' hS).c2; have x3 := (xells w' hS).c3; go_simp <;> with_reducible rfl)
  simp only [Act.put, List.setIfInBounds_toArray, List.set_cons_zero, List.set_cons_succ]
  refine SeqS.call (quiet_call (fun w => refleaks_is m w)) (by rfl) (by rfl) (fun w => ?_) ?_; · go_simp
  simp only [Act.put, List.setIfInBounds_toArray, List.set_cons_zero, List.set_cons_succ]
  refine SeqS.call (below_call (Nat.le_refl _) (fun w _ => krm w)) (by rfl) (by rfl) (fun w => ?_) ?_; · go_simp
  simp only [Act.put, List.setIfInBounds_toArray, List.set_cons_zero, List.set_cons_succ]
  iterate 3 ((refine' SeqS.calm _ (by rfl) (by rfl) (fun w => ?_) ?_; rotate_left; · (go_simp <;> with_reducible rfl)); simp only [Act.put, List.setIfInBounds_toArray, List.set_cons_zero, List.set_cons_succ])
  intro w3 hw3
  have hB := Below.then hB hw3
  go_wp2
  go_ret
  exact ⟨by first | rfl | simp, hB⟩
theorem walk (p : Par) (a i M : Nat) (m : Int) (w : World) (hf : p.Fits) (ha : a < 18446744073709551616) (hi : i < 18446744073709551616) (hM : M < 18446744073709551616) :
    Calls Try.prog 3 #[.agg p.vals, .agg #[.int .u64 (a : Int), .int .u64 (i : Int), .int .u64 (M : Int), .int .i64 m]] w fun ev w' => ev = .returned (.bool true) ∧ Below w.heap.size w w' := by
  by_cases hR : ∃ N, Par.Right p N
  · obtain ⟨N, hN⟩ := hR
    have kr := fun w => refright_ok p N w hN
    obtain ⟨n, ko, kro, hn⟩ : ∃ n, OfIs p a n ∧ RofIs p a n ∧ n < 18446744073709551616 := by
      by_cases h : a = 0 ∨ 4611686018427387904 < a
      · exact ⟨0, of_none p a h, rof_none p a h, by omega⟩
      · obtain ⟨n, r, k, hb⟩ := bud_ex p.rate (a := a) (by omega)
        have hr := hN.spans.rate1
        exact ⟨n, of_is p a n r k (fun w => check_ok p N w hN) (by omega) (by omega) hr hb, rof_is p a n r k (by omega) (by omega) hr hb, by have := hb.most (by omega) (by omega) hr; omega⟩
    exact walk_yes p a i M n _ m w kr ko (mint_is i M m ko hi hn hM) kro (rmint_is i M _ kro hi hn hM)
  · have ko := of_no p a (fun w => check_no p w hf hR)
    have km := mint_is i M m ko hi (by omega) hM
    rw [show mintOf (Std.leaky m) i 0 M = 0 by unfold mintOf; cases Std.leaky m <;> simp] at km
    exact walk_no p a i M m w (fun w => refright_no p w hR) ko km


theorem own : ownKnob Try.prog.godebug = none := by kernel_rfl
theorem laidOut : laidOutB Try.prog = true := by kernel_rfl

set_option maxRecDepth 100000 in
theorem lifted (os : Os) (started : os.Started) (H : Type) (enc : TypeId × Value → H) :
    ReturnsInHanded {} Try.checked os 3 .any (Rows.budgetMintsSpec.pre6 enc Try.prog Try.f3 Rows.budgetMintsRow.domain false) (Rows.budgetMintsSpec.post enc Try.prog Try.f3 false true false false) := by
  refine returnsInHanded_of_change (C := Try.checked) own started (by kernel_rfl) Try.func3
    (ChangeSpec.witness6 (enc := enc) (C := Try.checked) false ⟨#[], #[.agg #[.int .u64 0, .int .u64 0, .int .u64 0, .int .u64 0, .int .u64 0, .int .u64 0, .int .u64 0, .int .u64 0, .int .u64 0, .int .u64 0, .int .u64 0, .int .u64 0, .int .u64 0, .int .u64 0, .int .i64 0, .int .i64 0, .int .i64 0, .int .i64 0, .int .i64 0, .int .i64 0, .int .i64 0, .int .i64 0, .int .i64 0, .int .i64 0], .agg #[.int .u64 0, .int .u64 0, .int .u64 0, .int .i64 0]], []⟩ 8 (by kernel_rfl) (by kernel_rfl) (by kernel_rfl) (by kernel_rfl)) ?_
  intro W base args ds gs before hval0 hW hcnd _
  have hval : ∀ (j : Nat) t v, Try.f3.params[j]? = some t → args[j]? = some v → Value.okWide Try.prog W .any base t v := hval0
  have hW' := hW
  obtain ⟨p, q, hA0, hV, rfl, hfz, hnd⟩ := hW
  have hlt : ∀ x ∈ p ++ q, x.block < W.heap.size := fun x hx => hW'.lt x hx
  have hA : DataW.TrodAll enc Try.prog W 0 (fun _ => true) true Try.f3.params.toList args.toList ds p := hA0
  rw [Try.params3] at hA hval
  obtain ⟨v0, vs0, d0, ds0, p0, q0, hargs, rfl, rfl, h0, r0⟩ := trodAll_cons hA
  obtain ⟨v1, vs1, d1, ds1, p1, q1, rfl, rfl, rfl, h1, r1⟩ := trodAll_cons r0
  obtain ⟨rfl, rfl, rfl⟩ := trodAll_nil r1
  obtain rfl : args = #[v0, v1] := by cases args; simp_all
  obtain ⟨rfl, rfl⟩ := trodVars_none hV
  obtain ⟨a0, rfl, f0⟩ := open_par (hval 0 24 v0 rfl rfl) h0
  obtain ⟨x1, y1, z1, b1, rfl, f1, g1, j1⟩ := open_issue (hval 1 26 v1 rfl rfl) h1
  clear hA0 hval0
  refine (walk a0 x1 y1 z1 b1 W f0 f1 g1 j1).mono fun e W' ⟨he, hg⟩ => ?_
  subst he
  exact ⟨_, rfl, law_post laidOut (by kernel_rfl) rfl rfl Try.underlying4 rfl hW' hg⟩

theorem over : Rows.budgetMintsRow.holds Try.pinned (OpenSpec.ofChange Rows.budgetMintsSpec) :=
  OpenClaim.holds_of_wide 3 Try.f3 rfl rfl rfl rfl rfl rfl rfl ⟨rfl, rfl, rfl, rfl, rfl⟩ rfl rfl rfl rfl rfl (by kernel_rfl) Try.func3 (by kernel_rfl)
    (of_decide_eq_true (by kernel_rfl)) (by unfold Func.isWrapper; first | (rw [if_pos (by decide +kernel)]; kernel_rfl) | (rw [if_neg (by decide +kernel)]; exact ⟨rfl, rfl⟩))
    (fun os started H enc _ => lifted os started H enc)

/-- The statement. -/
theorem proved : Rows.BudgetMintsSaid := over
#print axioms proved

end Go.Proofs.Ytkimgkpjbfijmaa.BudgetMints
