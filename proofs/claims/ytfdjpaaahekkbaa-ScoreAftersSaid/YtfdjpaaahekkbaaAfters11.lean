/- Law ScoreAfters (P11.1, P11.2): any standing, behind a tick in any mode, and within any parameters, is the document's. No condition. -/
import Derived.Test.YtfdjpaaahekkbaaAwake11
import Derived.Test.YtfdjpaaahekkbaaTick
import Derived.Test.YtfdjpaaahekkbaaSeqV
import Derived.Test.YtfdjpaaahekkbaaScoR
import Derived.Test.YtfdjpaaahekkbaaParP
import Derived.Test.YtfdjpaaahekkbaaParSb
import Derived.Test.YtfdjpaaahekkbaaParD
import Derived.Test.YtfdjpaaahekkbaaRows
namespace Go.Proofs.Ytfdjpaaahekkbaa.ScoreAfters
open Go.RowKit Go.ChangeShapes Go.WideShapes Go.ChangeAt
set_option linter.unusedVariables false
set_option linter.unusedSimpArgs false


set_option maxRecDepth 100000 in
set_option maxHeartbeats 2000000 in
theorem walk (p : Par) (s : Std) (b : Bool) (m : Int) (w : World) (hf : p.Fits) (hs : s.Fits) :
    Calls Try.prog 3 #[.agg p.vals, .agg s.vals, .agg #[.bool b, .int .i64 m]] w fun e w' => e = .returned (.bool true) ∧ Below w.heap.size w w' := by
  by_cases hR : ∃ N, Par.Right p N
  · obtain ⟨N, hN⟩ := hR
    have hc : CheckIs p 0 := fun w => check_ok p N w hN
    have kr := fun w => refright_ok p N w hN
    have sp := hN.spans
    have ka := fun w => after_ok s p b m w hc sp hs
    have kt := fun w => trim_ok s p w hc
    have kra := fun w => refafter_is s p b m w sp hs
    have krt := fun w => reftrim_is s p w sp
    generalize Std.after p (b, m) s = ra at *
    generalize Std.trim p s = rb at *
    clear hN hc sp hf hs
    go_enter Try.func3, Try.ntmps3
    go_upto_region 1 with fail
    generalize hw0 : World.alloc _ _ = w0
    have hP : ParAt w0 w.heap.size p 24 := by rw [← hw0]; exact ((ParAt.new w p _).up ((Below.refl _ _).alloc (Nat.le_refl _) _)).up ((Below.refl _ _).alloc (Nat.le_refl _) _)
    have hS : StdAt w0 (w.heap.size + 1) s 26 := by rw [← hw0]; exact (StdAt.new _ s _ (by simp)).up ((Below.refl _ _).alloc (Nat.le_refl _) _)
    have hX : TickAt w0 (w.heap.size + 1 + 1) (b, m) 28 := by rw [← hw0]; exact TickAt.new _ (b, m) _ (by simp)
    have hB : Below w.heap.size w w0 := by rw [← hw0]; exact (((Below.refl _ _).alloc (Nat.le_refl _) _).alloc (by simp) _).alloc (by simp; omega) _
    clear hw0
    go_upto_region 3 with (first
      | (go_at_call 6; refine (score_awake _).mono ?_; rintro e w1 ⟨rfl, hb1⟩; have hP := hP.up hb1; have hS := hS.up hb1; have hX := hX.up hb1; have hB := Below.then hB hb1; clear hb1))
    have cells : ∀ w', Below w1.heap.size w1 w' → ParAt w' w.heap.size p 24 := fun w' h => hP.up h
    have sells : ∀ w', Below w1.heap.size w1 w' → StdAt w' (w.heap.size + 1) s 26 := fun w' h => hS.up h
    have xells : ∀ w', Below w1.heap.size w1 w' → TickAt w' (w.heap.size + 1 + 1) (b, m) 28 := fun w' h => hX.up h
    clear hP hS hX
    refine region_vary [10, 11] 12 (fun w' => Below w1.heap.size w1 w') (by kernel_rfl) (by kernel_rfl) (Below.refl _ _).drew ?_
    simp only [List.take_succ_cons, List.take_zero, List.drop_succ_cons, List.drop_zero]
    refine SeqV.take0 _ (by rfl) (by rfl) (fun w' hS => exec_load_par _ rfl _ _ _ rfl (cells w' hS)) ?_
    simp only [Act.put, List.setIfInBounds_toArray, List.set_cons_zero, List.set_cons_succ]
    refine SeqV.take0 _ (by rfl) (by rfl) (fun w' hS => exec_load_std _ rfl _ _ _ rfl (sells w' hS)) ?_
    simp only [Act.put, List.setIfInBounds_toArray, List.set_cons_zero, List.set_cons_succ]
    refine' SeqV.calm0 _ (by rfl) (by rfl) (fun w => ?_) ?_; rotate_left; · (go_simp <;> with_reducible rfl)
    simp only [Act.put, List.setIfInBounds_toArray, List.set_cons_zero, List.set_cons_succ]
    refine' SeqV.take0 _ (by rfl) (by rfl) (fun w' hS => ?_) ?_; rotate_left; · (have x0 := (xells w' hS).c0; have x1 := (xells w' hS).c1; go_simp <;> with_reducible rfl)
    simp only [Act.put, List.setIfInBounds_toArray, List.set_cons_zero, List.set_cons_succ]
    refine' SeqV.calm0 _ (by rfl) (by rfl) (fun w => ?_) ?_; rotate_left; · (go_simp <;> with_reducible rfl)
    simp only [Act.put, List.setIfInBounds_toArray, List.set_cons_zero, List.set_cons_succ]
    refine' SeqV.take0 _ (by rfl) (by rfl) (fun w' hS => ?_) ?_; rotate_left; · (have x0 := (xells w' hS).c0; have x1 := (xells w' hS).c1; go_simp <;> with_reducible rfl)
    simp only [Act.put, List.setIfInBounds_toArray, List.set_cons_zero, List.set_cons_succ]
    refine SeqV.call0 (below_callV (Nat.le_refl _) (fun w _ => ka w)) (by rfl) (by rfl) (fun w => ?_) ?_; · go_simp
    simp only [Act.put, List.setIfInBounds_toArray, List.set_cons_zero, List.set_cons_succ]
    refine SeqV.take0 _ (by rfl) (by rfl) (fun w' hS => exec_load_par _ rfl _ _ _ rfl (cells w' hS)) ?_
    simp only [Act.put, List.setIfInBounds_toArray, List.set_cons_zero, List.set_cons_succ]
    refine SeqV.take0 _ (by rfl) (by rfl) (fun w' hS => exec_load_std _ rfl _ _ _ rfl (sells w' hS)) ?_
    simp only [Act.put, List.setIfInBounds_toArray, List.set_cons_zero, List.set_cons_succ]
    refine SeqV.call0 (below_callV (Nat.le_refl _) (fun w _ => kt w)) (by rfl) (by rfl) (fun w => ?_) ?_; · go_simp
    simp only [Act.put, List.setIfInBounds_toArray, List.set_cons_zero, List.set_cons_succ]
    iterate 2 ((refine SeqV.new w1.heap.size (.cells Std.none.vals 26) (fun _ => by rfl) (fun w hS => hS.size) (fun w hS => hS.alloc hS.size _) (fun val w => by rfl) ?_); simp only [Act.put, List.setIfInBounds_toArray, List.set_cons_zero, List.set_cons_succ])
    intro val w3 hS3 hR3 hD3
    obtain ⟨g7, e7, hB7, h7⟩ := hR3 10 (by decide)
    obtain ⟨g8, e8, hB8, h8⟩ := hR3 11 (by decide)
    have hne : g7 ≠ g8 := fun e => hD3 10 11 (by decide) (by decide) rfl rfl (by decide) (by rw [e7, e8, e])
    simp only [e7, e8, Act.put, List.setIfInBounds_toArray, List.set_cons_zero, List.set_cons_succ]
    clear hR3 hD3 e7 e8
    refine store_std' _ _ rfl rfl g7 ra Std.none 26 rfl rfl h7 ?_
    intro w4 hA hb4 hz4 hk4
    refine store_std' _ _ rfl rfl g8 rb Std.none 26 rfl rfl ((hk4 g8 hne.symm).trans h8) ?_
    intro w5 hC hb5 hz5 hk5
    have hA : StdAt w5 g7 ra 26 := (hk5 g7 hne).trans hA
    have hb5 : Below w1.heap.size w1 w5 := (hS3.trans (hb4.mono hB7)).trans (hb5.mono hB8)
    have hP := cells w5 hb5
    have hS := sells w5 hb5
    have hX := xells w5 hb5
    have hB := hB.trans (hb5.mono hB.size)
    clear cells sells xells hb4 hb5 hz4 hz5 hk4 hk5 hne h7 h8 hB7 hB8 hS3 ka kt
    refine wpList_nil ?_
    go_wp2
    have xells : ∀ w', Below w5.heap.size w5 w' → TickAt w' (w.heap.size + 1 + 1) (b, m) 28 := fun w' h => hX.up h
    refine region_list [] (fun _ w' => Below w5.heap.size w5 w') (by kernel_rfl) (by kernel_rfl) (Below.refl _ _).drew ?_
    refine' SeqS.calm _ (by rfl) (by rfl) (fun w => ?_) ?_; rotate_left; · (go_simp <;> with_reducible rfl)
    simp only [Act.put, List.setIfInBounds_toArray, List.set_cons_zero, List.set_cons_succ]
    refine' SeqS.take _ (by rfl) (by rfl) (fun ph w' hS => ?_) ?_; rotate_left; · (have x1 := (xells w' hS).c1; go_simp <;> with_reducible rfl)
    simp only [Act.put, List.setIfInBounds_toArray, List.set_cons_zero, List.set_cons_succ]
    refine SeqS.call (quiet_call (fun w => leaks11_is m w)) (by rfl) (by rfl) (fun w => ?_) ?_; · go_simp
    simp only [Act.put, List.setIfInBounds_toArray, List.set_cons_zero, List.set_cons_succ]
    refine' SeqS.calm _ (by rfl) (by rfl) (fun w => ?_) ?_; rotate_left; · (go_simp <;> with_reducible rfl)
    simp only [Act.put, List.setIfInBounds_toArray, List.set_cons_zero, List.set_cons_succ]
    refine' SeqS.take _ (by rfl) (by rfl) (fun ph w' hS => ?_) ?_; rotate_left; · (have x1 := (xells w' hS).c1; go_simp <;> with_reducible rfl)
    simp only [Act.put, List.setIfInBounds_toArray, List.set_cons_zero, List.set_cons_succ]
    refine SeqS.call (quiet_call (fun w => refleaks_is m w)) (by rfl) (by rfl) (fun w => ?_) ?_; · go_simp
    simp only [Act.put, List.setIfInBounds_toArray, List.set_cons_zero, List.set_cons_succ]
    refine' SeqS.calm _ (by rfl) (by rfl) (fun w => ?_) ?_; rotate_left; · (go_simp <;> with_reducible rfl)
    simp only [Act.put, List.setIfInBounds_toArray, List.set_cons_zero, List.set_cons_succ]
    intro w6 hb1
    have hP := hP.up hb1
    have hS := hS.up hb1
    have hX := hX.up hb1
    have hA := hA.up hb1
    have hC := hC.up hb1
    have hB := hB.trans (hb1.mono hB.size)
    clear hb1 xells
    go_wp2_with (first
      | (refine load_par _ rfl rfl _ p _ rfl (by assumption) ?_)
      | (go_at_call 11; refine (plain_is p _).mono ?_; rintro e w1 ⟨rfl, hb1⟩; have hP := hP.up hb1; have hS := hS.up hb1; have hX := hX.up hb1; have hA := hA.up hb1; have hC := hC.up hb1; have hB := Below.then hB hb1; clear hb1)
      | (refine store_ref_new _ _ rfl rfl _ p Par.none 33 rfl rfl (ParAt.new _ Par.none _) ?_; intro w2 hT hb2; have hb1 := below_made (Below.refl _ _) hb2; have hP := hP.up hb1; have hS := hS.up hb1; have hX := hX.up hb1; have hA := hA.up hb1; have hC := hC.up hb1; have hB := hB.trans (hb1.mono hB.size); clear hb1 hb2)
      | (refine load_ref _ rfl rfl _ p _ rfl (by assumption) ?_)
      | (go_at_call 12; refine (kr _).mono ?_; clear kr; rintro e w1 ⟨rfl, hb1⟩; have hP := hP.up hb1; have hS := hS.up hb1; have hX := hX.up hb1; have hA := hA.up hb1; have hC := hC.up hb1; have hB := Below.then hB hb1; have hT := hT.up hb1; clear hb1))
    have rells : ∀ w', Below w1.heap.size w1 w' → ParAt w' _ p 33 := fun w' h => hT.up h
    have sells : ∀ w', Below w1.heap.size w1 w' → StdAt w' (w.heap.size + 1) s 26 := fun w' h => hS.up h
    have aells : ∀ w', Below w1.heap.size w1 w' → StdAt w' g7 ra 26 := fun w' h => hA.up h
    have bells : ∀ w', Below w1.heap.size w1 w' → StdAt w' g8 rb 26 := fun w' h => hC.up h
    have xells : ∀ w', Below w1.heap.size w1 w' → TickAt w' (w.heap.size + 1 + 1) (b, m) 28 := fun w' h => hX.up h
    clear hP hS hX hA hC hT
    refine region_list [] (fun _ w' => Below w1.heap.size w1 w') (by kernel_rfl) (by kernel_rfl) (Below.refl _ _).drew ?_
    refine SeqS.take _ (by rfl) (by rfl) (fun ph w' hS => exec_load_std _ rfl _ _ _ rfl (aells w' hS)) ?_
    simp only [Act.put, List.setIfInBounds_toArray, List.set_cons_zero, List.set_cons_succ]
    refine SeqS.call (below_call (Nat.le_refl _) (fun w _ => splain_is ra w)) (by rfl) (by rfl) (fun w => ?_) ?_; · go_simp
    simp only [Act.put, List.setIfInBounds_toArray, List.set_cons_zero, List.set_cons_succ]
    refine SeqS.take _ (by rfl) (by rfl) (fun ph w' hS => exec_load_rpar _ rfl _ _ _ rfl (rells w' hS)) ?_
    simp only [Act.put, List.setIfInBounds_toArray, List.set_cons_zero, List.set_cons_succ]
    refine SeqS.take _ (by rfl) (by rfl) (fun ph w' hS => exec_load_std _ rfl _ _ _ rfl (sells w' hS)) ?_
    simp only [Act.put, List.setIfInBounds_toArray, List.set_cons_zero, List.set_cons_succ]
    refine SeqS.call (below_call (Nat.le_refl _) (fun w _ => splain_is s w)) (by rfl) (by rfl) (fun w => ?_) ?_; · go_simp
    simp only [Act.put, List.setIfInBounds_toArray, List.set_cons_zero, List.set_cons_succ]
    refine' SeqS.calm _ (by rfl) (by rfl) (fun w => ?_) ?_; rotate_left; · (go_simp <;> with_reducible rfl)
    simp only [Act.put, List.setIfInBounds_toArray, List.set_cons_zero, List.set_cons_succ]
    refine' SeqS.take _ (by rfl) (by rfl) (fun ph w' hS => ?_) ?_; rotate_left; · (have x0 := (xells w' hS).c0; have x1 := (xells w' hS).c1; go_simp <;> with_reducible rfl)
    simp only [Act.put, List.setIfInBounds_toArray, List.set_cons_zero, List.set_cons_succ]
    refine' SeqS.calm _ (by rfl) (by rfl) (fun w => ?_) ?_; rotate_left; · (go_simp <;> with_reducible rfl)
    simp only [Act.put, List.setIfInBounds_toArray, List.set_cons_zero, List.set_cons_succ]
    refine' SeqS.take _ (by rfl) (by rfl) (fun ph w' hS => ?_) ?_; rotate_left; · (have x0 := (xells w' hS).c0; have x1 := (xells w' hS).c1; go_simp <;> with_reducible rfl)
    simp only [Act.put, List.setIfInBounds_toArray, List.set_cons_zero, List.set_cons_succ]
    refine SeqS.call (below_call (Nat.le_refl _) (fun w _ => kra w)) (by rfl) (by rfl) (fun w => ?_) ?_; · go_simp
    simp only [Act.put, List.setIfInBounds_toArray, List.set_cons_zero, List.set_cons_succ]
    refine SeqS.calm _ (by rfl) (by rfl) (fun w => exec_eql_rst w _ _ _ rfl _ rfl rfl) ?_
    simp only [Act.put, List.setIfInBounds_toArray, List.set_cons_zero, List.set_cons_succ]
    refine' SeqS.calm _ (by rfl) (by rfl) (fun w => ?_) ?_; rotate_left; · (go_simp <;> with_reducible rfl)
    simp only [Act.put, List.setIfInBounds_toArray, List.set_cons_zero, List.set_cons_succ]
    refine SeqS.take _ (by rfl) (by rfl) (fun ph w' hS => exec_load_std _ rfl _ _ _ rfl (bells w' hS)) ?_
    simp only [Act.put, List.setIfInBounds_toArray, List.set_cons_zero, List.set_cons_succ]
    refine SeqS.call (below_call (Nat.le_refl _) (fun w _ => splain_is rb w)) (by rfl) (by rfl) (fun w => ?_) ?_; · go_simp
    simp only [Act.put, List.setIfInBounds_toArray, List.set_cons_zero, List.set_cons_succ]
    refine SeqS.take _ (by rfl) (by rfl) (fun ph w' hS => exec_load_rpar _ rfl _ _ _ rfl (rells w' hS)) ?_
    simp only [Act.put, List.setIfInBounds_toArray, List.set_cons_zero, List.set_cons_succ]
    refine SeqS.take _ (by rfl) (by rfl) (fun ph w' hS => exec_load_std _ rfl _ _ _ rfl (sells w' hS)) ?_
    simp only [Act.put, List.setIfInBounds_toArray, List.set_cons_zero, List.set_cons_succ]
    refine SeqS.call (below_call (Nat.le_refl _) (fun w _ => splain_is s w)) (by rfl) (by rfl) (fun w => ?_) ?_; · go_simp
    simp only [Act.put, List.setIfInBounds_toArray, List.set_cons_zero, List.set_cons_succ]
    refine SeqS.call (below_call (Nat.le_refl _) (fun w _ => krt w)) (by rfl) (by rfl) (fun w => ?_) ?_; · go_simp
    simp only [Act.put, List.setIfInBounds_toArray, List.set_cons_zero, List.set_cons_succ]
    refine SeqS.calm _ (by rfl) (by rfl) (fun w => exec_eql_rst w _ _ _ rfl _ rfl rfl) ?_
    simp only [Act.put, List.setIfInBounds_toArray, List.set_cons_zero, List.set_cons_succ]
    iterate 2 ((refine' SeqS.calm _ (by rfl) (by rfl) (fun w => ?_) ?_; rotate_left; · (go_simp <;> with_reducible rfl)); simp only [Act.put, List.setIfInBounds_toArray, List.set_cons_zero, List.set_cons_succ])
    intro w7 hb7
    have hB := hB.trans (hb7.mono hB.size)
    go_wp2
    go_ret
    exact ⟨by first | rfl | simp, hB⟩
  · have hc : CheckIs p 70 := fun w => check_no p w hf hR
    have kr := fun w => refright_no p w hR
    have ka := fun w => after_no s p b m w hc
    have kt := fun w => trim_no s p w hc
    clear hR hf hs hc
    obtain ⟨ra, hra⟩ : ∃ ra, ra = s := ⟨_, rfl⟩
    obtain ⟨rb, hrb⟩ : ∃ rb, rb = s := ⟨_, rfl⟩
    have ka : ∀ w, Calls Try.prog 7 #[.agg p.vals, .agg s.vals, .bool b, .int .i64 m] w fun e w' => e = .returned (.agg ra.vals) ∧ Below w.heap.size w w' := by rw [hra]; exact ka
    have kt : ∀ w, Calls Try.prog 8 #[.agg p.vals, .agg s.vals] w fun e w' => e = .returned (.agg rb.vals) ∧ Below w.heap.size w w' := by rw [hrb]; exact kt
    have HA := Lib.hid hra
    have HB := Lib.hid hrb
    clear hra hrb
    go_enter Try.func3, Try.ntmps3
    go_upto_region 1 with fail
    generalize hw0 : World.alloc _ _ = w0
    have hP : ParAt w0 w.heap.size p 24 := by rw [← hw0]; exact ((ParAt.new w p _).up ((Below.refl _ _).alloc (Nat.le_refl _) _)).up ((Below.refl _ _).alloc (Nat.le_refl _) _)
    have hS : StdAt w0 (w.heap.size + 1) s 26 := by rw [← hw0]; exact (StdAt.new _ s _ (by simp)).up ((Below.refl _ _).alloc (Nat.le_refl _) _)
    have hX : TickAt w0 (w.heap.size + 1 + 1) (b, m) 28 := by rw [← hw0]; exact TickAt.new _ (b, m) _ (by simp)
    have hB : Below w.heap.size w w0 := by rw [← hw0]; exact (((Below.refl _ _).alloc (Nat.le_refl _) _).alloc (by simp) _).alloc (by simp; omega) _
    clear hw0
    go_upto_region 3 with (first
      | (go_at_call 6; refine (score_awake _).mono ?_; rintro e w1 ⟨rfl, hb1⟩; have hP := hP.up hb1; have hS := hS.up hb1; have hX := hX.up hb1; have hB := Below.then hB hb1; clear hb1))
    have cells : ∀ w', Below w1.heap.size w1 w' → ParAt w' w.heap.size p 24 := fun w' h => hP.up h
    have sells : ∀ w', Below w1.heap.size w1 w' → StdAt w' (w.heap.size + 1) s 26 := fun w' h => hS.up h
    have xells : ∀ w', Below w1.heap.size w1 w' → TickAt w' (w.heap.size + 1 + 1) (b, m) 28 := fun w' h => hX.up h
    clear hP hS hX
    refine region_vary [10, 11] 12 (fun w' => Below w1.heap.size w1 w') (by kernel_rfl) (by kernel_rfl) (Below.refl _ _).drew ?_
    simp only [List.take_succ_cons, List.take_zero, List.drop_succ_cons, List.drop_zero]
    refine SeqV.take0 _ (by rfl) (by rfl) (fun w' hS => exec_load_par _ rfl _ _ _ rfl (cells w' hS)) ?_
    simp only [Act.put, List.setIfInBounds_toArray, List.set_cons_zero, List.set_cons_succ]
    refine SeqV.take0 _ (by rfl) (by rfl) (fun w' hS => exec_load_std _ rfl _ _ _ rfl (sells w' hS)) ?_
    simp only [Act.put, List.setIfInBounds_toArray, List.set_cons_zero, List.set_cons_succ]
    refine' SeqV.calm0 _ (by rfl) (by rfl) (fun w => ?_) ?_; rotate_left; · (go_simp <;> with_reducible rfl)
    simp only [Act.put, List.setIfInBounds_toArray, List.set_cons_zero, List.set_cons_succ]
    refine' SeqV.take0 _ (by rfl) (by rfl) (fun w' hS => ?_) ?_; rotate_left; · (have x0 := (xells w' hS).c0; have x1 := (xells w' hS).c1; go_simp <;> with_reducible rfl)
    simp only [Act.put, List.setIfInBounds_toArray, List.set_cons_zero, List.set_cons_succ]
    refine' SeqV.calm0 _ (by rfl) (by rfl) (fun w => ?_) ?_; rotate_left; · (go_simp <;> with_reducible rfl)
    simp only [Act.put, List.setIfInBounds_toArray, List.set_cons_zero, List.set_cons_succ]
    refine' SeqV.take0 _ (by rfl) (by rfl) (fun w' hS => ?_) ?_; rotate_left; · (have x0 := (xells w' hS).c0; have x1 := (xells w' hS).c1; go_simp <;> with_reducible rfl)
    simp only [Act.put, List.setIfInBounds_toArray, List.set_cons_zero, List.set_cons_succ]
    refine SeqV.call0 (below_callV (Nat.le_refl _) (fun w _ => ka w)) (by rfl) (by rfl) (fun w => ?_) ?_; · go_simp
    simp only [Act.put, List.setIfInBounds_toArray, List.set_cons_zero, List.set_cons_succ]
    refine SeqV.take0 _ (by rfl) (by rfl) (fun w' hS => exec_load_par _ rfl _ _ _ rfl (cells w' hS)) ?_
    simp only [Act.put, List.setIfInBounds_toArray, List.set_cons_zero, List.set_cons_succ]
    refine SeqV.take0 _ (by rfl) (by rfl) (fun w' hS => exec_load_std _ rfl _ _ _ rfl (sells w' hS)) ?_
    simp only [Act.put, List.setIfInBounds_toArray, List.set_cons_zero, List.set_cons_succ]
    refine SeqV.call0 (below_callV (Nat.le_refl _) (fun w _ => kt w)) (by rfl) (by rfl) (fun w => ?_) ?_; · go_simp
    simp only [Act.put, List.setIfInBounds_toArray, List.set_cons_zero, List.set_cons_succ]
    iterate 2 ((refine SeqV.new w1.heap.size (.cells Std.none.vals 26) (fun _ => by rfl) (fun w hS => hS.size) (fun w hS => hS.alloc hS.size _) (fun val w => by rfl) ?_); simp only [Act.put, List.setIfInBounds_toArray, List.set_cons_zero, List.set_cons_succ])
    intro val w3 hS3 hR3 hD3
    obtain ⟨g7, e7, hB7, h7⟩ := hR3 10 (by decide)
    obtain ⟨g8, e8, hB8, h8⟩ := hR3 11 (by decide)
    have hne : g7 ≠ g8 := fun e => hD3 10 11 (by decide) (by decide) rfl rfl (by decide) (by rw [e7, e8, e])
    simp only [e7, e8, Act.put, List.setIfInBounds_toArray, List.set_cons_zero, List.set_cons_succ]
    clear hR3 hD3 e7 e8
    refine store_std' _ _ rfl rfl g7 ra Std.none 26 rfl rfl h7 ?_
    intro w4 hA hb4 hz4 hk4
    refine store_std' _ _ rfl rfl g8 rb Std.none 26 rfl rfl ((hk4 g8 hne.symm).trans h8) ?_
    intro w5 hC hb5 hz5 hk5
    have hA : StdAt w5 g7 ra 26 := (hk5 g7 hne).trans hA
    have hb5 : Below w1.heap.size w1 w5 := (hS3.trans (hb4.mono hB7)).trans (hb5.mono hB8)
    have hP := cells w5 hb5
    have hS := sells w5 hb5
    have hX := xells w5 hb5
    have hB := hB.trans (hb5.mono hB.size)
    clear cells sells xells hb4 hb5 hz4 hz5 hk4 hk5 hne h7 h8 hB7 hB8 hS3 ka kt
    refine wpList_nil ?_
    go_wp2
    have xells : ∀ w', Below w5.heap.size w5 w' → TickAt w' (w.heap.size + 1 + 1) (b, m) 28 := fun w' h => hX.up h
    refine region_list [] (fun _ w' => Below w5.heap.size w5 w') (by kernel_rfl) (by kernel_rfl) (Below.refl _ _).drew ?_
    refine' SeqS.calm _ (by rfl) (by rfl) (fun w => ?_) ?_; rotate_left; · (go_simp <;> with_reducible rfl)
    simp only [Act.put, List.setIfInBounds_toArray, List.set_cons_zero, List.set_cons_succ]
    refine' SeqS.take _ (by rfl) (by rfl) (fun ph w' hS => ?_) ?_; rotate_left; · (have x1 := (xells w' hS).c1; go_simp <;> with_reducible rfl)
    simp only [Act.put, List.setIfInBounds_toArray, List.set_cons_zero, List.set_cons_succ]
    refine SeqS.call (quiet_call (fun w => leaks11_is m w)) (by rfl) (by rfl) (fun w => ?_) ?_; · go_simp
    simp only [Act.put, List.setIfInBounds_toArray, List.set_cons_zero, List.set_cons_succ]
    refine' SeqS.calm _ (by rfl) (by rfl) (fun w => ?_) ?_; rotate_left; · (go_simp <;> with_reducible rfl)
    simp only [Act.put, List.setIfInBounds_toArray, List.set_cons_zero, List.set_cons_succ]
    refine' SeqS.take _ (by rfl) (by rfl) (fun ph w' hS => ?_) ?_; rotate_left; · (have x1 := (xells w' hS).c1; go_simp <;> with_reducible rfl)
    simp only [Act.put, List.setIfInBounds_toArray, List.set_cons_zero, List.set_cons_succ]
    refine SeqS.call (quiet_call (fun w => refleaks_is m w)) (by rfl) (by rfl) (fun w => ?_) ?_; · go_simp
    simp only [Act.put, List.setIfInBounds_toArray, List.set_cons_zero, List.set_cons_succ]
    refine' SeqS.calm _ (by rfl) (by rfl) (fun w => ?_) ?_; rotate_left; · (go_simp <;> with_reducible rfl)
    simp only [Act.put, List.setIfInBounds_toArray, List.set_cons_zero, List.set_cons_succ]
    intro w6 hb1
    have hP := hP.up hb1
    have hS := hS.up hb1
    have hX := hX.up hb1
    have hA := hA.up hb1
    have hC := hC.up hb1
    have hB := hB.trans (hb1.mono hB.size)
    clear hb1 xells
    obtain rfl := HA.out
    obtain rfl := HB.out
    go_wp2_with (first
      | (refine load_par _ rfl rfl _ p _ rfl (by assumption) ?_)
      | (go_at_call 11; refine (plain_is p _).mono ?_; rintro e w1 ⟨rfl, hb1⟩; have hP := hP.up hb1; have hS := hS.up hb1; have hX := hX.up hb1; have hA := hA.up hb1; have hC := hC.up hb1; have hB := Below.then hB hb1; clear hb1)
      | (refine store_ref_new _ _ rfl rfl _ p Par.none 33 rfl rfl (ParAt.new _ Par.none _) ?_; intro w2 hT hb2; have hb1 := below_made (Below.refl _ _) hb2; have hP := hP.up hb1; have hS := hS.up hb1; have hX := hX.up hb1; have hA := hA.up hb1; have hC := hC.up hb1; have hB := hB.trans (hb1.mono hB.size); clear hb1 hb2)
      | (refine load_ref _ rfl rfl _ p _ rfl (by assumption) ?_)
      | (go_at_call 12; refine (kr _).mono ?_; clear kr; rintro e w1 ⟨rfl, hb1⟩; have hP := hP.up hb1; have hS := hS.up hb1; have hX := hX.up hb1; have hA := hA.up hb1; have hC := hC.up hb1; have hB := Below.then hB hb1; have hT := hT.up hb1; clear hb1)
      | (refine load_std _ rfl rfl _ _ _ rfl (by assumption) ?_)
      | (refine op_eql_std _ _ _ rfl rfl _ rfl rfl ?_))
    go_ret
    exact ⟨by first | rfl | simp, hB⟩


theorem own : ownKnob Try.prog.godebug = none := by kernel_rfl
theorem laidOut : laidOutB Try.prog = true := by kernel_rfl

set_option maxRecDepth 100000 in
theorem lifted (os : Os) (started : os.Started) (H : Type) (enc : TypeId × Value → H) :
    ReturnsInHanded {} Try.checked os 3 .any (Rows.scoreAftersSpec.pre6 enc Try.prog Try.f3 Rows.scoreAftersRow.domain false) (Rows.scoreAftersSpec.post enc Try.prog Try.f3 false true false false) := by
  refine returnsInHanded_of_change (C := Try.checked) own started (by kernel_rfl) Try.func3
    (ChangeSpec.witness6 (enc := enc) (C := Try.checked) false ⟨#[], #[.agg #[.int .u64 0, .int .u64 0, .int .u64 0, .int .u64 0, .int .u64 0, .int .u64 0, .int .u64 0, .int .u64 0, .int .u64 0, .int .u64 0, .int .u64 0, .int .u64 0, .int .u64 0, .int .u64 0, .int .i64 0, .int .i64 0, .int .i64 0, .int .i64 0, .int .i64 0, .int .i64 0, .int .i64 0, .int .i64 0, .int .i64 0, .int .i64 0], .agg #[.int .u64 0, .int .u64 0, .int .u64 0, .int .i64 0], .agg #[.bool false, .int .i64 0]], []⟩ 8 (by kernel_rfl) (by kernel_rfl) (by kernel_rfl) (by kernel_rfl)) ?_
  intro W base args ds gs before hval0 hW hcnd _
  have hval : ∀ (j : Nat) t v, Try.f3.params[j]? = some t → args[j]? = some v → Value.okWide Try.prog W .any base t v := hval0
  have hW' := hW
  obtain ⟨p, q, hA0, hV, rfl, hfz, hnd⟩ := hW
  have hlt : ∀ x ∈ p ++ q, x.block < W.heap.size := fun x hx => hW'.lt x hx
  have hA : DataW.TrodAll enc Try.prog W 0 (fun _ => true) true Try.f3.params.toList args.toList ds p := hA0
  rw [Try.params3] at hA hval
  obtain ⟨v0, vs0, d0, ds0, p0, q0, hargs, rfl, rfl, h0, r0⟩ := trodAll_cons hA
  obtain ⟨v1, vs1, d1, ds1, p1, q1, rfl, rfl, rfl, h1, r1⟩ := trodAll_cons r0
  obtain ⟨v2, vs2, d2, ds2, p2, q2, rfl, rfl, rfl, h2, r2⟩ := trodAll_cons r1
  obtain ⟨rfl, rfl, rfl⟩ := trodAll_nil r2
  obtain rfl : args = #[v0, v1, v2] := by cases args; simp_all
  obtain ⟨rfl, rfl⟩ := trodVars_none hV
  obtain ⟨a0, rfl, f0⟩ := open_par (hval 0 24 v0 rfl rfl) h0
  obtain ⟨a1, rfl, f1⟩ := open_std (hval 1 26 v1 rfl rfl) h1
  obtain ⟨b2, m2, rfl⟩ := open_tick (hval 2 28 v2 rfl rfl) h2
  clear hA0 hval0
  refine (walk a0 a1 b2 m2 W f0 f1).mono fun e W' ⟨he, hg⟩ => ?_
  subst he
  exact ⟨_, rfl, law_post laidOut (by kernel_rfl) rfl rfl Try.underlying4 rfl hW' hg⟩

theorem over : Rows.scoreAftersRow.holds Try.pinned (OpenSpec.ofChange Rows.scoreAftersSpec) :=
  OpenClaim.holds_of_wide 3 Try.f3 rfl rfl rfl rfl rfl rfl rfl ⟨rfl, rfl, rfl, rfl, rfl⟩ rfl rfl rfl rfl rfl (by kernel_rfl) Try.func3 (by kernel_rfl)
    (of_decide_eq_true (by kernel_rfl)) (by unfold Func.isWrapper; first | (rw [if_pos (by decide +kernel)]; kernel_rfl) | (rw [if_neg (by decide +kernel)]; exact ⟨rfl, rfl⟩))
    (fun os started H enc _ => lifted os started H enc)

/-- The statement. -/
theorem proved : Rows.ScoreAftersSaid := over
#print axioms proved

end Go.Proofs.Ytfdjpaaahekkbaa.ScoreAfters
