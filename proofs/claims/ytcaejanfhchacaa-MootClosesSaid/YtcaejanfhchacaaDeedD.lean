/- Layer 8 (deed): whether a deed is right, test by test. By contracts. -/
import Derived.Test.YtcaejanfhchacaaDeedB
namespace Go.Proofs.Ytcaejanfhchacaa
open Go.RowKit
set_option linter.unusedVariables false
set_option linter.unusedSimpArgs false

set_option maxRecDepth 100000 in
set_option maxHeartbeats 2000000 in
theorem right_n0 (d : Dd) (A : Option Addr) (c : Nat) (f : Int) (w : World) (hm : Hid (d.mask = f)) (H0 : (f != 0) = false) :
    Calls Try.prog 45 #[.agg (d.vals A c)] w fun e w' => e = .returned (.bool false) ∧ Below w.heap.size w w' := by
  have hD := DeedAt.new w d A c 48
  have hB : Below w.heap.size w (w.alloc (.cells (d.vals A c) 48)) := (Below.refl _ _).alloc (Nat.le_refl _) _
  have ku := fun w => used_is d A c w
  rw [hm.out] at ku
  obtain hz : f = 0 := by simpa using H0
  subst hz
  clear hm 
  go_enter Try.func45, Try.ntmps45
  go_wp2_with (first
    | (refine load_deed _ rfl rfl _ d A c _ rfl (by assumption) ?_)
    | (go_at_call 80; refine (ku _).mono ?_; clear ku; rintro e w1 ⟨rfl, hb1⟩; have hD1 := hD.next hb1; have hB1 := Below.then hB hb1; obtain ⟨c0, c1, c2, c3, c4, c5, c6, c7, c32, c33⟩ := hD1.cells))
  dsimp only [List.append_eq, List.cons_append, List.nil_append]
  have hl1 := hD1.lt
  have cells : ∀ w', Below w1.heap.size w1 w' → DeedAt w' w.heap.size d A c 48 := fun w' h => hD1.next h
  clear c0 c1 c2 c3 c4 c5 c6 c7 c32 c33 hD hD1
  refine region_list [] (fun _ w' => Below w1.heap.size w1 w') (by kernel_rfl) (by kernel_rfl) (Below.refl _ _).drew ?_
  iterate 3 ((refine' SeqS.calm _ (by rfl) (by rfl) (fun w => ?_) ?_; rotate_left; · (go_simp <;> with_reducible rfl)); simp only [Act.put, List.setIfInBounds_toArray, List.set_cons_zero, List.set_cons_succ])
  iterate 5 ((refine SeqS.skip (by rfl) (by rfl) ?_); simp only [Act.put, List.setIfInBounds_toArray, List.set_cons_zero, List.set_cons_succ])
  iterate 2 ((refine' SeqS.calm _ (by rfl) (by rfl) (fun w => ?_) ?_; rotate_left; · (go_simp <;> with_reducible rfl)); simp only [Act.put, List.setIfInBounds_toArray, List.set_cons_zero, List.set_cons_succ])
  iterate 5 ((refine SeqS.skip (by rfl) (by rfl) ?_); simp only [Act.put, List.setIfInBounds_toArray, List.set_cons_zero, List.set_cons_succ])
  iterate 2 ((refine' SeqS.calm _ (by rfl) (by rfl) (fun w => ?_) ?_; rotate_left; · (go_simp <;> with_reducible rfl)); simp only [Act.put, List.setIfInBounds_toArray, List.set_cons_zero, List.set_cons_succ])
  iterate 5 ((refine SeqS.skip (by rfl) (by rfl) ?_); simp only [Act.put, List.setIfInBounds_toArray, List.set_cons_zero, List.set_cons_succ])
  iterate 2 ((refine' SeqS.calm _ (by rfl) (by rfl) (fun w => ?_) ?_; rotate_left; · (go_simp <;> with_reducible rfl)); simp only [Act.put, List.setIfInBounds_toArray, List.set_cons_zero, List.set_cons_succ])
  iterate 6 ((refine SeqS.skip (by rfl) (by rfl) ?_); simp only [Act.put, List.setIfInBounds_toArray, List.set_cons_zero, List.set_cons_succ])
  iterate 2 ((refine' SeqS.calm _ (by rfl) (by rfl) (fun w => ?_) ?_; rotate_left; · (go_simp <;> with_reducible rfl)); simp only [Act.put, List.setIfInBounds_toArray, List.set_cons_zero, List.set_cons_succ])
  iterate 5 ((refine SeqS.skip (by rfl) (by rfl) ?_); simp only [Act.put, List.setIfInBounds_toArray, List.set_cons_zero, List.set_cons_succ])
  iterate 2 ((refine' SeqS.calm _ (by rfl) (by rfl) (fun w => ?_) ?_; rotate_left; · (go_simp <;> with_reducible rfl)); simp only [Act.put, List.setIfInBounds_toArray, List.set_cons_zero, List.set_cons_succ])
  iterate 5 ((refine SeqS.skip (by rfl) (by rfl) ?_); simp only [Act.put, List.setIfInBounds_toArray, List.set_cons_zero, List.set_cons_succ])
  iterate 2 ((refine' SeqS.calm _ (by rfl) (by rfl) (fun w => ?_) ?_; rotate_left; · (go_simp <;> with_reducible rfl)); simp only [Act.put, List.setIfInBounds_toArray, List.set_cons_zero, List.set_cons_succ])
  iterate 5 ((refine SeqS.skip (by rfl) (by rfl) ?_); simp only [Act.put, List.setIfInBounds_toArray, List.set_cons_zero, List.set_cons_succ])
  iterate 2 ((refine' SeqS.calm _ (by rfl) (by rfl) (fun w => ?_) ?_; rotate_left; · (go_simp <;> with_reducible rfl)); simp only [Act.put, List.setIfInBounds_toArray, List.set_cons_zero, List.set_cons_succ])
  iterate 5 ((refine SeqS.skip (by rfl) (by rfl) ?_); simp only [Act.put, List.setIfInBounds_toArray, List.set_cons_zero, List.set_cons_succ])
  iterate 2 ((refine' SeqS.calm _ (by rfl) (by rfl) (fun w => ?_) ?_; rotate_left; · (go_simp <;> with_reducible rfl)); simp only [Act.put, List.setIfInBounds_toArray, List.set_cons_zero, List.set_cons_succ])
  iterate 5 ((refine SeqS.skip (by rfl) (by rfl) ?_); simp only [Act.put, List.setIfInBounds_toArray, List.set_cons_zero, List.set_cons_succ])
  iterate 2 ((refine' SeqS.calm _ (by rfl) (by rfl) (fun w => ?_) ?_; rotate_left; · (go_simp <;> with_reducible rfl)); simp only [Act.put, List.setIfInBounds_toArray, List.set_cons_zero, List.set_cons_succ])
  iterate 7 ((refine SeqS.skip (by rfl) (by rfl) ?_); simp only [Act.put, List.setIfInBounds_toArray, List.set_cons_zero, List.set_cons_succ])
  iterate 2 ((refine' SeqS.calm _ (by rfl) (by rfl) (fun w => ?_) ?_; rotate_left; · (go_simp <;> with_reducible rfl)); simp only [Act.put, List.setIfInBounds_toArray, List.set_cons_zero, List.set_cons_succ])
  intro w3 hw3
  have hB3 := Below.then hB1 hw3
  go_wp2
  go_ret
  exact ⟨rfl, hB3⟩
set_option maxRecDepth 100000 in
set_option maxHeartbeats 2000000 in
theorem right_n1 (d : Dd) (A : Option Addr) (c : Nat) (f : Int) (w : World) (hm : Hid (d.mask = f)) (H0 : (f != 0) = true) (H1 : inI (hb f 1) d.account 0 63 = false) :
    Calls Try.prog 45 #[.agg (d.vals A c)] w fun e w' => e = .returned (.bool false) ∧ Below w.heap.size w w' := by
  have hD := DeedAt.new w d A c 48
  have hB : Below w.heap.size w (w.alloc (.cells (d.vals A c) 48)) := (Below.refl _ _).alloc (Nat.le_refl _) _
  have ku := fun w => used_is d A c w
  rw [hm.out] at ku
  have kw1 : ∀ w, Calls Try.prog 81 #[.bool (hb f 1), .int .i64 d.account, .int .i64 0, .int .i64 63] w fun e w' => e = .returned (.bool false) ∧ w = w' := fun w => by have := dwithin_i (hb f 1) d.account 0 63 w; rwa [H1] at this
  have kh : ∀ one w, Calls Try.prog 82 #[.int .i64 f, .int .i64 one] w fun e w' => e = .returned (.bool (hb f one)) ∧ w = w' := fun one w => has_is f one w
  clear hm H1
  go_enter Try.func45, Try.ntmps45
  go_wp2_with (first
    | (refine load_deed _ rfl rfl _ d A c _ rfl (by assumption) ?_)
    | (go_at_call 80; refine (ku _).mono ?_; clear ku; rintro e w1 ⟨rfl, hb1⟩; have hD1 := hD.next hb1; have hB1 := Below.then hB hb1; obtain ⟨c0, c1, c2, c3, c4, c5, c6, c7, c32, c33⟩ := hD1.cells))
  dsimp only [List.append_eq, List.cons_append, List.nil_append]
  have hl1 := hD1.lt
  have cells : ∀ w', Below w1.heap.size w1 w' → DeedAt w' w.heap.size d A c 48 := fun w' h => hD1.next h
  clear c0 c1 c2 c3 c4 c5 c6 c7 c32 c33 hD hD1
  refine region_list [] (fun _ w' => Below w1.heap.size w1 w') (by kernel_rfl) (by kernel_rfl) (Below.refl _ _).drew ?_
  iterate 4 ((refine' SeqS.calm _ (by rfl) (by rfl) (fun w => ?_) ?_; rotate_left; · (go_simp <;> with_reducible rfl)); simp only [Act.put, List.setIfInBounds_toArray, List.set_cons_zero, List.set_cons_succ])
  refine SeqS.call (quiet_call (kh 1)) (by rfl) (by rfl) (fun w => ?_) ?_; · go_simp
  simp only [Act.put, List.setIfInBounds_toArray, List.set_cons_zero, List.set_cons_succ]
  refine' SeqS.calm _ (by rfl) (by rfl) (fun w => ?_) ?_; rotate_left; · (go_simp <;> with_reducible rfl)
  simp only [Act.put, List.setIfInBounds_toArray, List.set_cons_zero, List.set_cons_succ]
  refine' SeqS.take _ (by rfl) (by rfl) (fun p w' hS => ?_) ?_; rotate_left; · (obtain ⟨c0, c1, c2, c3, c4, c5, c6, c7, c32, c33⟩ := (cells w' hS).cells; go_simp <;> with_reducible rfl)
  simp only [Act.put, List.setIfInBounds_toArray, List.set_cons_zero, List.set_cons_succ]
  refine SeqS.call (quiet_call kw1) (by rfl) (by rfl) (fun w => ?_) ?_; · go_simp
  simp only [Act.put, List.setIfInBounds_toArray, List.set_cons_zero, List.set_cons_succ]
  iterate 2 ((refine' SeqS.calm _ (by rfl) (by rfl) (fun w => ?_) ?_; rotate_left; · (go_simp <;> with_reducible rfl)); simp only [Act.put, List.setIfInBounds_toArray, List.set_cons_zero, List.set_cons_succ])
  iterate 5 ((refine SeqS.skip (by rfl) (by rfl) ?_); simp only [Act.put, List.setIfInBounds_toArray, List.set_cons_zero, List.set_cons_succ])
  iterate 2 ((refine' SeqS.calm _ (by rfl) (by rfl) (fun w => ?_) ?_; rotate_left; · (go_simp <;> with_reducible rfl)); simp only [Act.put, List.setIfInBounds_toArray, List.set_cons_zero, List.set_cons_succ])
  iterate 5 ((refine SeqS.skip (by rfl) (by rfl) ?_); simp only [Act.put, List.setIfInBounds_toArray, List.set_cons_zero, List.set_cons_succ])
  iterate 2 ((refine' SeqS.calm _ (by rfl) (by rfl) (fun w => ?_) ?_; rotate_left; · (go_simp <;> with_reducible rfl)); simp only [Act.put, List.setIfInBounds_toArray, List.set_cons_zero, List.set_cons_succ])
  iterate 6 ((refine SeqS.skip (by rfl) (by rfl) ?_); simp only [Act.put, List.setIfInBounds_toArray, List.set_cons_zero, List.set_cons_succ])
  iterate 2 ((refine' SeqS.calm _ (by rfl) (by rfl) (fun w => ?_) ?_; rotate_left; · (go_simp <;> with_reducible rfl)); simp only [Act.put, List.setIfInBounds_toArray, List.set_cons_zero, List.set_cons_succ])
  iterate 5 ((refine SeqS.skip (by rfl) (by rfl) ?_); simp only [Act.put, List.setIfInBounds_toArray, List.set_cons_zero, List.set_cons_succ])
  iterate 2 ((refine' SeqS.calm _ (by rfl) (by rfl) (fun w => ?_) ?_; rotate_left; · (go_simp <;> with_reducible rfl)); simp only [Act.put, List.setIfInBounds_toArray, List.set_cons_zero, List.set_cons_succ])
  iterate 5 ((refine SeqS.skip (by rfl) (by rfl) ?_); simp only [Act.put, List.setIfInBounds_toArray, List.set_cons_zero, List.set_cons_succ])
  iterate 2 ((refine' SeqS.calm _ (by rfl) (by rfl) (fun w => ?_) ?_; rotate_left; · (go_simp <;> with_reducible rfl)); simp only [Act.put, List.setIfInBounds_toArray, List.set_cons_zero, List.set_cons_succ])
  iterate 5 ((refine SeqS.skip (by rfl) (by rfl) ?_); simp only [Act.put, List.setIfInBounds_toArray, List.set_cons_zero, List.set_cons_succ])
  iterate 2 ((refine' SeqS.calm _ (by rfl) (by rfl) (fun w => ?_) ?_; rotate_left; · (go_simp <;> with_reducible rfl)); simp only [Act.put, List.setIfInBounds_toArray, List.set_cons_zero, List.set_cons_succ])
  iterate 5 ((refine SeqS.skip (by rfl) (by rfl) ?_); simp only [Act.put, List.setIfInBounds_toArray, List.set_cons_zero, List.set_cons_succ])
  iterate 2 ((refine' SeqS.calm _ (by rfl) (by rfl) (fun w => ?_) ?_; rotate_left; · (go_simp <;> with_reducible rfl)); simp only [Act.put, List.setIfInBounds_toArray, List.set_cons_zero, List.set_cons_succ])
  iterate 5 ((refine SeqS.skip (by rfl) (by rfl) ?_); simp only [Act.put, List.setIfInBounds_toArray, List.set_cons_zero, List.set_cons_succ])
  iterate 2 ((refine' SeqS.calm _ (by rfl) (by rfl) (fun w => ?_) ?_; rotate_left; · (go_simp <;> with_reducible rfl)); simp only [Act.put, List.setIfInBounds_toArray, List.set_cons_zero, List.set_cons_succ])
  iterate 7 ((refine SeqS.skip (by rfl) (by rfl) ?_); simp only [Act.put, List.setIfInBounds_toArray, List.set_cons_zero, List.set_cons_succ])
  iterate 2 ((refine' SeqS.calm _ (by rfl) (by rfl) (fun w => ?_) ?_; rotate_left; · (go_simp <;> with_reducible rfl)); simp only [Act.put, List.setIfInBounds_toArray, List.set_cons_zero, List.set_cons_succ])
  intro w3 hw3
  have hB3 := Below.then hB1 hw3
  go_wp2
  go_ret
  exact ⟨rfl, hB3⟩
set_option maxRecDepth 100000 in
set_option maxHeartbeats 2000000 in
theorem right_n2 (d : Dd) (A : Option Addr) (c : Nat) (f : Int) (w : World) (hm : Hid (d.mask = f)) (H0 : (f != 0) = true) (H1 : inI (hb f 1) d.account 0 63 = true) (H2 : inI (hb f 2) d.member 0 127 = false) :
    Calls Try.prog 45 #[.agg (d.vals A c)] w fun e w' => e = .returned (.bool false) ∧ Below w.heap.size w w' := by
  have hD := DeedAt.new w d A c 48
  have hB : Below w.heap.size w (w.alloc (.cells (d.vals A c) 48)) := (Below.refl _ _).alloc (Nat.le_refl _) _
  have ku := fun w => used_is d A c w
  rw [hm.out] at ku
  have kw1 : ∀ w, Calls Try.prog 81 #[.bool (hb f 1), .int .i64 d.account, .int .i64 0, .int .i64 63] w fun e w' => e = .returned (.bool true) ∧ w = w' := fun w => by have := dwithin_i (hb f 1) d.account 0 63 w; rwa [H1] at this
  have kw2 : ∀ w, Calls Try.prog 81 #[.bool (hb f 2), .int .i64 d.member, .int .i64 0, .int .i64 127] w fun e w' => e = .returned (.bool false) ∧ w = w' := fun w => by have := dwithin_i (hb f 2) d.member 0 127 w; rwa [H2] at this
  have kh : ∀ one w, Calls Try.prog 82 #[.int .i64 f, .int .i64 one] w fun e w' => e = .returned (.bool (hb f one)) ∧ w = w' := fun one w => has_is f one w
  clear hm H1 H2
  go_enter Try.func45, Try.ntmps45
  go_wp2_with (first
    | (refine load_deed _ rfl rfl _ d A c _ rfl (by assumption) ?_)
    | (go_at_call 80; refine (ku _).mono ?_; clear ku; rintro e w1 ⟨rfl, hb1⟩; have hD1 := hD.next hb1; have hB1 := Below.then hB hb1; obtain ⟨c0, c1, c2, c3, c4, c5, c6, c7, c32, c33⟩ := hD1.cells))
  dsimp only [List.append_eq, List.cons_append, List.nil_append]
  have hl1 := hD1.lt
  have cells : ∀ w', Below w1.heap.size w1 w' → DeedAt w' w.heap.size d A c 48 := fun w' h => hD1.next h
  clear c0 c1 c2 c3 c4 c5 c6 c7 c32 c33 hD hD1
  refine region_list [] (fun _ w' => Below w1.heap.size w1 w') (by kernel_rfl) (by kernel_rfl) (Below.refl _ _).drew ?_
  iterate 4 ((refine' SeqS.calm _ (by rfl) (by rfl) (fun w => ?_) ?_; rotate_left; · (go_simp <;> with_reducible rfl)); simp only [Act.put, List.setIfInBounds_toArray, List.set_cons_zero, List.set_cons_succ])
  refine SeqS.call (quiet_call (kh 1)) (by rfl) (by rfl) (fun w => ?_) ?_; · go_simp
  simp only [Act.put, List.setIfInBounds_toArray, List.set_cons_zero, List.set_cons_succ]
  refine' SeqS.calm _ (by rfl) (by rfl) (fun w => ?_) ?_; rotate_left; · (go_simp <;> with_reducible rfl)
  simp only [Act.put, List.setIfInBounds_toArray, List.set_cons_zero, List.set_cons_succ]
  refine' SeqS.take _ (by rfl) (by rfl) (fun p w' hS => ?_) ?_; rotate_left; · (obtain ⟨c0, c1, c2, c3, c4, c5, c6, c7, c32, c33⟩ := (cells w' hS).cells; go_simp <;> with_reducible rfl)
  simp only [Act.put, List.setIfInBounds_toArray, List.set_cons_zero, List.set_cons_succ]
  refine SeqS.call (quiet_call kw1) (by rfl) (by rfl) (fun w => ?_) ?_; · go_simp
  simp only [Act.put, List.setIfInBounds_toArray, List.set_cons_zero, List.set_cons_succ]
  iterate 3 ((refine' SeqS.calm _ (by rfl) (by rfl) (fun w => ?_) ?_; rotate_left; · (go_simp <;> with_reducible rfl)); simp only [Act.put, List.setIfInBounds_toArray, List.set_cons_zero, List.set_cons_succ])
  refine SeqS.call (quiet_call (kh 2)) (by rfl) (by rfl) (fun w => ?_) ?_; · go_simp
  simp only [Act.put, List.setIfInBounds_toArray, List.set_cons_zero, List.set_cons_succ]
  refine' SeqS.calm _ (by rfl) (by rfl) (fun w => ?_) ?_; rotate_left; · (go_simp <;> with_reducible rfl)
  simp only [Act.put, List.setIfInBounds_toArray, List.set_cons_zero, List.set_cons_succ]
  refine' SeqS.take _ (by rfl) (by rfl) (fun p w' hS => ?_) ?_; rotate_left; · (obtain ⟨c0, c1, c2, c3, c4, c5, c6, c7, c32, c33⟩ := (cells w' hS).cells; go_simp <;> with_reducible rfl)
  simp only [Act.put, List.setIfInBounds_toArray, List.set_cons_zero, List.set_cons_succ]
  refine SeqS.call (quiet_call kw2) (by rfl) (by rfl) (fun w => ?_) ?_; · go_simp
  simp only [Act.put, List.setIfInBounds_toArray, List.set_cons_zero, List.set_cons_succ]
  iterate 2 ((refine' SeqS.calm _ (by rfl) (by rfl) (fun w => ?_) ?_; rotate_left; · (go_simp <;> with_reducible rfl)); simp only [Act.put, List.setIfInBounds_toArray, List.set_cons_zero, List.set_cons_succ])
  iterate 5 ((refine SeqS.skip (by rfl) (by rfl) ?_); simp only [Act.put, List.setIfInBounds_toArray, List.set_cons_zero, List.set_cons_succ])
  iterate 2 ((refine' SeqS.calm _ (by rfl) (by rfl) (fun w => ?_) ?_; rotate_left; · (go_simp <;> with_reducible rfl)); simp only [Act.put, List.setIfInBounds_toArray, List.set_cons_zero, List.set_cons_succ])
  iterate 6 ((refine SeqS.skip (by rfl) (by rfl) ?_); simp only [Act.put, List.setIfInBounds_toArray, List.set_cons_zero, List.set_cons_succ])
  iterate 2 ((refine' SeqS.calm _ (by rfl) (by rfl) (fun w => ?_) ?_; rotate_left; · (go_simp <;> with_reducible rfl)); simp only [Act.put, List.setIfInBounds_toArray, List.set_cons_zero, List.set_cons_succ])
  iterate 5 ((refine SeqS.skip (by rfl) (by rfl) ?_); simp only [Act.put, List.setIfInBounds_toArray, List.set_cons_zero, List.set_cons_succ])
  iterate 2 ((refine' SeqS.calm _ (by rfl) (by rfl) (fun w => ?_) ?_; rotate_left; · (go_simp <;> with_reducible rfl)); simp only [Act.put, List.setIfInBounds_toArray, List.set_cons_zero, List.set_cons_succ])
  iterate 5 ((refine SeqS.skip (by rfl) (by rfl) ?_); simp only [Act.put, List.setIfInBounds_toArray, List.set_cons_zero, List.set_cons_succ])
  iterate 2 ((refine' SeqS.calm _ (by rfl) (by rfl) (fun w => ?_) ?_; rotate_left; · (go_simp <;> with_reducible rfl)); simp only [Act.put, List.setIfInBounds_toArray, List.set_cons_zero, List.set_cons_succ])
  iterate 5 ((refine SeqS.skip (by rfl) (by rfl) ?_); simp only [Act.put, List.setIfInBounds_toArray, List.set_cons_zero, List.set_cons_succ])
  iterate 2 ((refine' SeqS.calm _ (by rfl) (by rfl) (fun w => ?_) ?_; rotate_left; · (go_simp <;> with_reducible rfl)); simp only [Act.put, List.setIfInBounds_toArray, List.set_cons_zero, List.set_cons_succ])
  iterate 5 ((refine SeqS.skip (by rfl) (by rfl) ?_); simp only [Act.put, List.setIfInBounds_toArray, List.set_cons_zero, List.set_cons_succ])
  iterate 2 ((refine' SeqS.calm _ (by rfl) (by rfl) (fun w => ?_) ?_; rotate_left; · (go_simp <;> with_reducible rfl)); simp only [Act.put, List.setIfInBounds_toArray, List.set_cons_zero, List.set_cons_succ])
  iterate 5 ((refine SeqS.skip (by rfl) (by rfl) ?_); simp only [Act.put, List.setIfInBounds_toArray, List.set_cons_zero, List.set_cons_succ])
  iterate 2 ((refine' SeqS.calm _ (by rfl) (by rfl) (fun w => ?_) ?_; rotate_left; · (go_simp <;> with_reducible rfl)); simp only [Act.put, List.setIfInBounds_toArray, List.set_cons_zero, List.set_cons_succ])
  iterate 7 ((refine SeqS.skip (by rfl) (by rfl) ?_); simp only [Act.put, List.setIfInBounds_toArray, List.set_cons_zero, List.set_cons_succ])
  iterate 2 ((refine' SeqS.calm _ (by rfl) (by rfl) (fun w => ?_) ?_; rotate_left; · (go_simp <;> with_reducible rfl)); simp only [Act.put, List.setIfInBounds_toArray, List.set_cons_zero, List.set_cons_succ])
  intro w3 hw3
  have hB3 := Below.then hB1 hw3
  go_wp2
  go_ret
  exact ⟨rfl, hB3⟩
set_option maxRecDepth 100000 in
set_option maxHeartbeats 2000000 in
theorem right_n3 (d : Dd) (A : Option Addr) (c : Nat) (f : Int) (w : World) (hm : Hid (d.mask = f)) (H0 : (f != 0) = true) (H1 : inI (hb f 1) d.account 0 63 = true) (H2 : inI (hb f 2) d.member 0 127 = true) (H3 : inI (hb f 4) d.epoch 0 1073741824 = false) :
    Calls Try.prog 45 #[.agg (d.vals A c)] w fun e w' => e = .returned (.bool false) ∧ Below w.heap.size w w' := by
  have hD := DeedAt.new w d A c 48
  have hB : Below w.heap.size w (w.alloc (.cells (d.vals A c) 48)) := (Below.refl _ _).alloc (Nat.le_refl _) _
  have ku := fun w => used_is d A c w
  rw [hm.out] at ku
  have kw1 : ∀ w, Calls Try.prog 81 #[.bool (hb f 1), .int .i64 d.account, .int .i64 0, .int .i64 63] w fun e w' => e = .returned (.bool true) ∧ w = w' := fun w => by have := dwithin_i (hb f 1) d.account 0 63 w; rwa [H1] at this
  have kw2 : ∀ w, Calls Try.prog 81 #[.bool (hb f 2), .int .i64 d.member, .int .i64 0, .int .i64 127] w fun e w' => e = .returned (.bool true) ∧ w = w' := fun w => by have := dwithin_i (hb f 2) d.member 0 127 w; rwa [H2] at this
  have kw3 : ∀ w, Calls Try.prog 81 #[.bool (hb f 4), .int .i64 d.epoch, .int .i64 0, .int .i64 1073741824] w fun e w' => e = .returned (.bool false) ∧ w = w' := fun w => by have := dwithin_i (hb f 4) d.epoch 0 1073741824 w; rwa [H3] at this
  have kh : ∀ one w, Calls Try.prog 82 #[.int .i64 f, .int .i64 one] w fun e w' => e = .returned (.bool (hb f one)) ∧ w = w' := fun one w => has_is f one w
  clear hm H1 H2 H3
  go_enter Try.func45, Try.ntmps45
  go_wp2_with (first
    | (refine load_deed _ rfl rfl _ d A c _ rfl (by assumption) ?_)
    | (go_at_call 80; refine (ku _).mono ?_; clear ku; rintro e w1 ⟨rfl, hb1⟩; have hD1 := hD.next hb1; have hB1 := Below.then hB hb1; obtain ⟨c0, c1, c2, c3, c4, c5, c6, c7, c32, c33⟩ := hD1.cells))
  dsimp only [List.append_eq, List.cons_append, List.nil_append]
  have hl1 := hD1.lt
  have cells : ∀ w', Below w1.heap.size w1 w' → DeedAt w' w.heap.size d A c 48 := fun w' h => hD1.next h
  clear c0 c1 c2 c3 c4 c5 c6 c7 c32 c33 hD hD1
  refine region_list [] (fun _ w' => Below w1.heap.size w1 w') (by kernel_rfl) (by kernel_rfl) (Below.refl _ _).drew ?_
  iterate 4 ((refine' SeqS.calm _ (by rfl) (by rfl) (fun w => ?_) ?_; rotate_left; · (go_simp <;> with_reducible rfl)); simp only [Act.put, List.setIfInBounds_toArray, List.set_cons_zero, List.set_cons_succ])
  refine SeqS.call (quiet_call (kh 1)) (by rfl) (by rfl) (fun w => ?_) ?_; · go_simp
  simp only [Act.put, List.setIfInBounds_toArray, List.set_cons_zero, List.set_cons_succ]
  refine' SeqS.calm _ (by rfl) (by rfl) (fun w => ?_) ?_; rotate_left; · (go_simp <;> with_reducible rfl)
  simp only [Act.put, List.setIfInBounds_toArray, List.set_cons_zero, List.set_cons_succ]
  refine' SeqS.take _ (by rfl) (by rfl) (fun p w' hS => ?_) ?_; rotate_left; · (obtain ⟨c0, c1, c2, c3, c4, c5, c6, c7, c32, c33⟩ := (cells w' hS).cells; go_simp <;> with_reducible rfl)
  simp only [Act.put, List.setIfInBounds_toArray, List.set_cons_zero, List.set_cons_succ]
  refine SeqS.call (quiet_call kw1) (by rfl) (by rfl) (fun w => ?_) ?_; · go_simp
  simp only [Act.put, List.setIfInBounds_toArray, List.set_cons_zero, List.set_cons_succ]
  iterate 3 ((refine' SeqS.calm _ (by rfl) (by rfl) (fun w => ?_) ?_; rotate_left; · (go_simp <;> with_reducible rfl)); simp only [Act.put, List.setIfInBounds_toArray, List.set_cons_zero, List.set_cons_succ])
  refine SeqS.call (quiet_call (kh 2)) (by rfl) (by rfl) (fun w => ?_) ?_; · go_simp
  simp only [Act.put, List.setIfInBounds_toArray, List.set_cons_zero, List.set_cons_succ]
  refine' SeqS.calm _ (by rfl) (by rfl) (fun w => ?_) ?_; rotate_left; · (go_simp <;> with_reducible rfl)
  simp only [Act.put, List.setIfInBounds_toArray, List.set_cons_zero, List.set_cons_succ]
  refine' SeqS.take _ (by rfl) (by rfl) (fun p w' hS => ?_) ?_; rotate_left; · (obtain ⟨c0, c1, c2, c3, c4, c5, c6, c7, c32, c33⟩ := (cells w' hS).cells; go_simp <;> with_reducible rfl)
  simp only [Act.put, List.setIfInBounds_toArray, List.set_cons_zero, List.set_cons_succ]
  refine SeqS.call (quiet_call kw2) (by rfl) (by rfl) (fun w => ?_) ?_; · go_simp
  simp only [Act.put, List.setIfInBounds_toArray, List.set_cons_zero, List.set_cons_succ]
  iterate 3 ((refine' SeqS.calm _ (by rfl) (by rfl) (fun w => ?_) ?_; rotate_left; · (go_simp <;> with_reducible rfl)); simp only [Act.put, List.setIfInBounds_toArray, List.set_cons_zero, List.set_cons_succ])
  refine SeqS.call (quiet_call (kh 4)) (by rfl) (by rfl) (fun w => ?_) ?_; · go_simp
  simp only [Act.put, List.setIfInBounds_toArray, List.set_cons_zero, List.set_cons_succ]
  refine' SeqS.calm _ (by rfl) (by rfl) (fun w => ?_) ?_; rotate_left; · (go_simp <;> with_reducible rfl)
  simp only [Act.put, List.setIfInBounds_toArray, List.set_cons_zero, List.set_cons_succ]
  refine' SeqS.take _ (by rfl) (by rfl) (fun p w' hS => ?_) ?_; rotate_left; · (obtain ⟨c0, c1, c2, c3, c4, c5, c6, c7, c32, c33⟩ := (cells w' hS).cells; go_simp <;> with_reducible rfl)
  simp only [Act.put, List.setIfInBounds_toArray, List.set_cons_zero, List.set_cons_succ]
  refine SeqS.call (quiet_call kw3) (by rfl) (by rfl) (fun w => ?_) ?_; · go_simp
  simp only [Act.put, List.setIfInBounds_toArray, List.set_cons_zero, List.set_cons_succ]
  iterate 2 ((refine' SeqS.calm _ (by rfl) (by rfl) (fun w => ?_) ?_; rotate_left; · (go_simp <;> with_reducible rfl)); simp only [Act.put, List.setIfInBounds_toArray, List.set_cons_zero, List.set_cons_succ])
  iterate 6 ((refine SeqS.skip (by rfl) (by rfl) ?_); simp only [Act.put, List.setIfInBounds_toArray, List.set_cons_zero, List.set_cons_succ])
  iterate 2 ((refine' SeqS.calm _ (by rfl) (by rfl) (fun w => ?_) ?_; rotate_left; · (go_simp <;> with_reducible rfl)); simp only [Act.put, List.setIfInBounds_toArray, List.set_cons_zero, List.set_cons_succ])
  iterate 5 ((refine SeqS.skip (by rfl) (by rfl) ?_); simp only [Act.put, List.setIfInBounds_toArray, List.set_cons_zero, List.set_cons_succ])
  iterate 2 ((refine' SeqS.calm _ (by rfl) (by rfl) (fun w => ?_) ?_; rotate_left; · (go_simp <;> with_reducible rfl)); simp only [Act.put, List.setIfInBounds_toArray, List.set_cons_zero, List.set_cons_succ])
  iterate 5 ((refine SeqS.skip (by rfl) (by rfl) ?_); simp only [Act.put, List.setIfInBounds_toArray, List.set_cons_zero, List.set_cons_succ])
  iterate 2 ((refine' SeqS.calm _ (by rfl) (by rfl) (fun w => ?_) ?_; rotate_left; · (go_simp <;> with_reducible rfl)); simp only [Act.put, List.setIfInBounds_toArray, List.set_cons_zero, List.set_cons_succ])
  iterate 5 ((refine SeqS.skip (by rfl) (by rfl) ?_); simp only [Act.put, List.setIfInBounds_toArray, List.set_cons_zero, List.set_cons_succ])
  iterate 2 ((refine' SeqS.calm _ (by rfl) (by rfl) (fun w => ?_) ?_; rotate_left; · (go_simp <;> with_reducible rfl)); simp only [Act.put, List.setIfInBounds_toArray, List.set_cons_zero, List.set_cons_succ])
  iterate 5 ((refine SeqS.skip (by rfl) (by rfl) ?_); simp only [Act.put, List.setIfInBounds_toArray, List.set_cons_zero, List.set_cons_succ])
  iterate 2 ((refine' SeqS.calm _ (by rfl) (by rfl) (fun w => ?_) ?_; rotate_left; · (go_simp <;> with_reducible rfl)); simp only [Act.put, List.setIfInBounds_toArray, List.set_cons_zero, List.set_cons_succ])
  iterate 5 ((refine SeqS.skip (by rfl) (by rfl) ?_); simp only [Act.put, List.setIfInBounds_toArray, List.set_cons_zero, List.set_cons_succ])
  iterate 2 ((refine' SeqS.calm _ (by rfl) (by rfl) (fun w => ?_) ?_; rotate_left; · (go_simp <;> with_reducible rfl)); simp only [Act.put, List.setIfInBounds_toArray, List.set_cons_zero, List.set_cons_succ])
  iterate 7 ((refine SeqS.skip (by rfl) (by rfl) ?_); simp only [Act.put, List.setIfInBounds_toArray, List.set_cons_zero, List.set_cons_succ])
  iterate 2 ((refine' SeqS.calm _ (by rfl) (by rfl) (fun w => ?_) ?_; rotate_left; · (go_simp <;> with_reducible rfl)); simp only [Act.put, List.setIfInBounds_toArray, List.set_cons_zero, List.set_cons_succ])
  intro w3 hw3
  have hB3 := Below.then hB1 hw3
  go_wp2
  go_ret
  exact ⟨rfl, hB3⟩
set_option maxRecDepth 100000 in
set_option maxHeartbeats 2000000 in
theorem right_n4 (d : Dd) (A : Option Addr) (c : Nat) (f : Int) (w : World) (hm : Hid (d.mask = f)) (H0 : (f != 0) = true) (H1 : inI (hb f 1) d.account 0 63 = true) (H2 : inI (hb f 2) d.member 0 127 = true) (H3 : inI (hb f 4) d.epoch 0 1073741824 = true) (H4 : inI (hb f 4) (d.bits.length : Int) 0 32 = false) :
    Calls Try.prog 45 #[.agg (d.vals A c)] w fun e w' => e = .returned (.bool false) ∧ Below w.heap.size w w' := by
  have hD := DeedAt.new w d A c 48
  have hB : Below w.heap.size w (w.alloc (.cells (d.vals A c) 48)) := (Below.refl _ _).alloc (Nat.le_refl _) _
  have ku := fun w => used_is d A c w
  rw [hm.out] at ku
  have kw1 : ∀ w, Calls Try.prog 81 #[.bool (hb f 1), .int .i64 d.account, .int .i64 0, .int .i64 63] w fun e w' => e = .returned (.bool true) ∧ w = w' := fun w => by have := dwithin_i (hb f 1) d.account 0 63 w; rwa [H1] at this
  have kw2 : ∀ w, Calls Try.prog 81 #[.bool (hb f 2), .int .i64 d.member, .int .i64 0, .int .i64 127] w fun e w' => e = .returned (.bool true) ∧ w = w' := fun w => by have := dwithin_i (hb f 2) d.member 0 127 w; rwa [H2] at this
  have kw3 : ∀ w, Calls Try.prog 81 #[.bool (hb f 4), .int .i64 d.epoch, .int .i64 0, .int .i64 1073741824] w fun e w' => e = .returned (.bool true) ∧ w = w' := fun w => by have := dwithin_i (hb f 4) d.epoch 0 1073741824 w; rwa [H3] at this
  have kw4 : ∀ w, Calls Try.prog 81 #[.bool (hb f 4), .int .i64 (d.bits.length : Int), .int .i64 0, .int .i64 32] w fun e w' => e = .returned (.bool false) ∧ w = w' := fun w => by have := dwithin_i (hb f 4) (d.bits.length : Int) 0 32 w; rwa [H4] at this
  have kh : ∀ one w, Calls Try.prog 82 #[.int .i64 f, .int .i64 one] w fun e w' => e = .returned (.bool (hb f one)) ∧ w = w' := fun one w => has_is f one w
  clear hm H1 H2 H3 H4
  go_enter Try.func45, Try.ntmps45
  go_wp2_with (first
    | (refine load_deed _ rfl rfl _ d A c _ rfl (by assumption) ?_)
    | (go_at_call 80; refine (ku _).mono ?_; clear ku; rintro e w1 ⟨rfl, hb1⟩; have hD1 := hD.next hb1; have hB1 := Below.then hB hb1; obtain ⟨c0, c1, c2, c3, c4, c5, c6, c7, c32, c33⟩ := hD1.cells))
  dsimp only [List.append_eq, List.cons_append, List.nil_append]
  have hl1 := hD1.lt
  have cells : ∀ w', Below w1.heap.size w1 w' → DeedAt w' w.heap.size d A c 48 := fun w' h => hD1.next h
  clear c0 c1 c2 c3 c4 c5 c6 c7 c32 c33 hD hD1
  refine region_list [] (fun _ w' => Below w1.heap.size w1 w') (by kernel_rfl) (by kernel_rfl) (Below.refl _ _).drew ?_
  iterate 4 ((refine' SeqS.calm _ (by rfl) (by rfl) (fun w => ?_) ?_; rotate_left; · (go_simp <;> with_reducible rfl)); simp only [Act.put, List.setIfInBounds_toArray, List.set_cons_zero, List.set_cons_succ])
  refine SeqS.call (quiet_call (kh 1)) (by rfl) (by rfl) (fun w => ?_) ?_; · go_simp
  simp only [Act.put, List.setIfInBounds_toArray, List.set_cons_zero, List.set_cons_succ]
  refine' SeqS.calm _ (by rfl) (by rfl) (fun w => ?_) ?_; rotate_left; · (go_simp <;> with_reducible rfl)
  simp only [Act.put, List.setIfInBounds_toArray, List.set_cons_zero, List.set_cons_succ]
  refine' SeqS.take _ (by rfl) (by rfl) (fun p w' hS => ?_) ?_; rotate_left; · (obtain ⟨c0, c1, c2, c3, c4, c5, c6, c7, c32, c33⟩ := (cells w' hS).cells; go_simp <;> with_reducible rfl)
  simp only [Act.put, List.setIfInBounds_toArray, List.set_cons_zero, List.set_cons_succ]
  refine SeqS.call (quiet_call kw1) (by rfl) (by rfl) (fun w => ?_) ?_; · go_simp
  simp only [Act.put, List.setIfInBounds_toArray, List.set_cons_zero, List.set_cons_succ]
  iterate 3 ((refine' SeqS.calm _ (by rfl) (by rfl) (fun w => ?_) ?_; rotate_left; · (go_simp <;> with_reducible rfl)); simp only [Act.put, List.setIfInBounds_toArray, List.set_cons_zero, List.set_cons_succ])
  refine SeqS.call (quiet_call (kh 2)) (by rfl) (by rfl) (fun w => ?_) ?_; · go_simp
  simp only [Act.put, List.setIfInBounds_toArray, List.set_cons_zero, List.set_cons_succ]
  refine' SeqS.calm _ (by rfl) (by rfl) (fun w => ?_) ?_; rotate_left; · (go_simp <;> with_reducible rfl)
  simp only [Act.put, List.setIfInBounds_toArray, List.set_cons_zero, List.set_cons_succ]
  refine' SeqS.take _ (by rfl) (by rfl) (fun p w' hS => ?_) ?_; rotate_left; · (obtain ⟨c0, c1, c2, c3, c4, c5, c6, c7, c32, c33⟩ := (cells w' hS).cells; go_simp <;> with_reducible rfl)
  simp only [Act.put, List.setIfInBounds_toArray, List.set_cons_zero, List.set_cons_succ]
  refine SeqS.call (quiet_call kw2) (by rfl) (by rfl) (fun w => ?_) ?_; · go_simp
  simp only [Act.put, List.setIfInBounds_toArray, List.set_cons_zero, List.set_cons_succ]
  iterate 3 ((refine' SeqS.calm _ (by rfl) (by rfl) (fun w => ?_) ?_; rotate_left; · (go_simp <;> with_reducible rfl)); simp only [Act.put, List.setIfInBounds_toArray, List.set_cons_zero, List.set_cons_succ])
  refine SeqS.call (quiet_call (kh 4)) (by rfl) (by rfl) (fun w => ?_) ?_; · go_simp
  simp only [Act.put, List.setIfInBounds_toArray, List.set_cons_zero, List.set_cons_succ]
  refine' SeqS.calm _ (by rfl) (by rfl) (fun w => ?_) ?_; rotate_left; · (go_simp <;> with_reducible rfl)
  simp only [Act.put, List.setIfInBounds_toArray, List.set_cons_zero, List.set_cons_succ]
  refine' SeqS.take _ (by rfl) (by rfl) (fun p w' hS => ?_) ?_; rotate_left; · (obtain ⟨c0, c1, c2, c3, c4, c5, c6, c7, c32, c33⟩ := (cells w' hS).cells; go_simp <;> with_reducible rfl)
  simp only [Act.put, List.setIfInBounds_toArray, List.set_cons_zero, List.set_cons_succ]
  refine SeqS.call (quiet_call kw3) (by rfl) (by rfl) (fun w => ?_) ?_; · go_simp
  simp only [Act.put, List.setIfInBounds_toArray, List.set_cons_zero, List.set_cons_succ]
  iterate 3 ((refine' SeqS.calm _ (by rfl) (by rfl) (fun w => ?_) ?_; rotate_left; · (go_simp <;> with_reducible rfl)); simp only [Act.put, List.setIfInBounds_toArray, List.set_cons_zero, List.set_cons_succ])
  refine SeqS.call (quiet_call (kh 4)) (by rfl) (by rfl) (fun w => ?_) ?_; · go_simp
  simp only [Act.put, List.setIfInBounds_toArray, List.set_cons_zero, List.set_cons_succ]
  refine' SeqS.calm _ (by rfl) (by rfl) (fun w => ?_) ?_; rotate_left; · (go_simp <;> with_reducible rfl)
  simp only [Act.put, List.setIfInBounds_toArray, List.set_cons_zero, List.set_cons_succ]
  refine' SeqS.take _ (by rfl) (by rfl) (fun p w' hS => ?_) ?_; rotate_left; · (obtain ⟨c0, c1, c2, c3, c4, c5, c6, c7, c32, c33⟩ := (cells w' hS).cells; go_simp <;> with_reducible rfl)
  simp only [Act.put, List.setIfInBounds_toArray, List.set_cons_zero, List.set_cons_succ]
  refine' SeqS.calm _ (by rfl) (by rfl) (fun w => ?_) ?_; rotate_left; · (go_simp <;> with_reducible rfl)
  simp only [Act.put, List.setIfInBounds_toArray, List.set_cons_zero, List.set_cons_succ]
  refine SeqS.call (quiet_call kw4) (by rfl) (by rfl) (fun w => ?_) ?_; · go_simp
  simp only [Act.put, List.setIfInBounds_toArray, List.set_cons_zero, List.set_cons_succ]
  iterate 2 ((refine' SeqS.calm _ (by rfl) (by rfl) (fun w => ?_) ?_; rotate_left; · (go_simp <;> with_reducible rfl)); simp only [Act.put, List.setIfInBounds_toArray, List.set_cons_zero, List.set_cons_succ])
  iterate 5 ((refine SeqS.skip (by rfl) (by rfl) ?_); simp only [Act.put, List.setIfInBounds_toArray, List.set_cons_zero, List.set_cons_succ])
  iterate 2 ((refine' SeqS.calm _ (by rfl) (by rfl) (fun w => ?_) ?_; rotate_left; · (go_simp <;> with_reducible rfl)); simp only [Act.put, List.setIfInBounds_toArray, List.set_cons_zero, List.set_cons_succ])
  iterate 5 ((refine SeqS.skip (by rfl) (by rfl) ?_); simp only [Act.put, List.setIfInBounds_toArray, List.set_cons_zero, List.set_cons_succ])
  iterate 2 ((refine' SeqS.calm _ (by rfl) (by rfl) (fun w => ?_) ?_; rotate_left; · (go_simp <;> with_reducible rfl)); simp only [Act.put, List.setIfInBounds_toArray, List.set_cons_zero, List.set_cons_succ])
  iterate 5 ((refine SeqS.skip (by rfl) (by rfl) ?_); simp only [Act.put, List.setIfInBounds_toArray, List.set_cons_zero, List.set_cons_succ])
  iterate 2 ((refine' SeqS.calm _ (by rfl) (by rfl) (fun w => ?_) ?_; rotate_left; · (go_simp <;> with_reducible rfl)); simp only [Act.put, List.setIfInBounds_toArray, List.set_cons_zero, List.set_cons_succ])
  iterate 5 ((refine SeqS.skip (by rfl) (by rfl) ?_); simp only [Act.put, List.setIfInBounds_toArray, List.set_cons_zero, List.set_cons_succ])
  iterate 2 ((refine' SeqS.calm _ (by rfl) (by rfl) (fun w => ?_) ?_; rotate_left; · (go_simp <;> with_reducible rfl)); simp only [Act.put, List.setIfInBounds_toArray, List.set_cons_zero, List.set_cons_succ])
  iterate 5 ((refine SeqS.skip (by rfl) (by rfl) ?_); simp only [Act.put, List.setIfInBounds_toArray, List.set_cons_zero, List.set_cons_succ])
  iterate 2 ((refine' SeqS.calm _ (by rfl) (by rfl) (fun w => ?_) ?_; rotate_left; · (go_simp <;> with_reducible rfl)); simp only [Act.put, List.setIfInBounds_toArray, List.set_cons_zero, List.set_cons_succ])
  iterate 7 ((refine SeqS.skip (by rfl) (by rfl) ?_); simp only [Act.put, List.setIfInBounds_toArray, List.set_cons_zero, List.set_cons_succ])
  iterate 2 ((refine' SeqS.calm _ (by rfl) (by rfl) (fun w => ?_) ?_; rotate_left; · (go_simp <;> with_reducible rfl)); simp only [Act.put, List.setIfInBounds_toArray, List.set_cons_zero, List.set_cons_succ])
  intro w3 hw3
  have hB3 := Below.then hB1 hw3
  go_wp2
  go_ret
  exact ⟨rfl, hB3⟩
set_option maxRecDepth 100000 in
set_option maxHeartbeats 2000000 in
theorem right_n5 (d : Dd) (A : Option Addr) (c : Nat) (f : Int) (w : World) (hm : Hid (d.mask = f)) (H0 : (f != 0) = true) (H1 : inI (hb f 1) d.account 0 63 = true) (H2 : inI (hb f 2) d.member 0 127 = true) (H3 : inI (hb f 4) d.epoch 0 1073741824 = true) (H4 : inI (hb f 4) (d.bits.length : Int) 0 32 = true) (H5 : inI (hb f 8) d.what 1 4 = false) :
    Calls Try.prog 45 #[.agg (d.vals A c)] w fun e w' => e = .returned (.bool false) ∧ Below w.heap.size w w' := by
  have hD := DeedAt.new w d A c 48
  have hB : Below w.heap.size w (w.alloc (.cells (d.vals A c) 48)) := (Below.refl _ _).alloc (Nat.le_refl _) _
  have ku := fun w => used_is d A c w
  rw [hm.out] at ku
  have kw1 : ∀ w, Calls Try.prog 81 #[.bool (hb f 1), .int .i64 d.account, .int .i64 0, .int .i64 63] w fun e w' => e = .returned (.bool true) ∧ w = w' := fun w => by have := dwithin_i (hb f 1) d.account 0 63 w; rwa [H1] at this
  have kw2 : ∀ w, Calls Try.prog 81 #[.bool (hb f 2), .int .i64 d.member, .int .i64 0, .int .i64 127] w fun e w' => e = .returned (.bool true) ∧ w = w' := fun w => by have := dwithin_i (hb f 2) d.member 0 127 w; rwa [H2] at this
  have kw3 : ∀ w, Calls Try.prog 81 #[.bool (hb f 4), .int .i64 d.epoch, .int .i64 0, .int .i64 1073741824] w fun e w' => e = .returned (.bool true) ∧ w = w' := fun w => by have := dwithin_i (hb f 4) d.epoch 0 1073741824 w; rwa [H3] at this
  have kw4 : ∀ w, Calls Try.prog 81 #[.bool (hb f 4), .int .i64 (d.bits.length : Int), .int .i64 0, .int .i64 32] w fun e w' => e = .returned (.bool true) ∧ w = w' := fun w => by have := dwithin_i (hb f 4) (d.bits.length : Int) 0 32 w; rwa [H4] at this
  have kw5 : ∀ w, Calls Try.prog 81 #[.bool (hb f 8), .int .i64 d.what, .int .i64 1, .int .i64 4] w fun e w' => e = .returned (.bool false) ∧ w = w' := fun w => by have := dwithin_i (hb f 8) d.what 1 4 w; rwa [H5] at this
  have kh : ∀ one w, Calls Try.prog 82 #[.int .i64 f, .int .i64 one] w fun e w' => e = .returned (.bool (hb f one)) ∧ w = w' := fun one w => has_is f one w
  clear hm H1 H2 H3 H4 H5
  go_enter Try.func45, Try.ntmps45
  go_wp2_with (first
    | (refine load_deed _ rfl rfl _ d A c _ rfl (by assumption) ?_)
    | (go_at_call 80; refine (ku _).mono ?_; clear ku; rintro e w1 ⟨rfl, hb1⟩; have hD1 := hD.next hb1; have hB1 := Below.then hB hb1; obtain ⟨c0, c1, c2, c3, c4, c5, c6, c7, c32, c33⟩ := hD1.cells))
  dsimp only [List.append_eq, List.cons_append, List.nil_append]
  have hl1 := hD1.lt
  have cells : ∀ w', Below w1.heap.size w1 w' → DeedAt w' w.heap.size d A c 48 := fun w' h => hD1.next h
  clear c0 c1 c2 c3 c4 c5 c6 c7 c32 c33 hD hD1
  refine region_list [] (fun _ w' => Below w1.heap.size w1 w') (by kernel_rfl) (by kernel_rfl) (Below.refl _ _).drew ?_
  iterate 4 ((refine' SeqS.calm _ (by rfl) (by rfl) (fun w => ?_) ?_; rotate_left; · (go_simp <;> with_reducible rfl)); simp only [Act.put, List.setIfInBounds_toArray, List.set_cons_zero, List.set_cons_succ])
  refine SeqS.call (quiet_call (kh 1)) (by rfl) (by rfl) (fun w => ?_) ?_; · go_simp
  simp only [Act.put, List.setIfInBounds_toArray, List.set_cons_zero, List.set_cons_succ]
  refine' SeqS.calm _ (by rfl) (by rfl) (fun w => ?_) ?_; rotate_left; · (go_simp <;> with_reducible rfl)
  simp only [Act.put, List.setIfInBounds_toArray, List.set_cons_zero, List.set_cons_succ]
  refine' SeqS.take _ (by rfl) (by rfl) (fun p w' hS => ?_) ?_; rotate_left; · (obtain ⟨c0, c1, c2, c3, c4, c5, c6, c7, c32, c33⟩ := (cells w' hS).cells; go_simp <;> with_reducible rfl)
  simp only [Act.put, List.setIfInBounds_toArray, List.set_cons_zero, List.set_cons_succ]
  refine SeqS.call (quiet_call kw1) (by rfl) (by rfl) (fun w => ?_) ?_; · go_simp
  simp only [Act.put, List.setIfInBounds_toArray, List.set_cons_zero, List.set_cons_succ]
  iterate 3 ((refine' SeqS.calm _ (by rfl) (by rfl) (fun w => ?_) ?_; rotate_left; · (go_simp <;> with_reducible rfl)); simp only [Act.put, List.setIfInBounds_toArray, List.set_cons_zero, List.set_cons_succ])
  refine SeqS.call (quiet_call (kh 2)) (by rfl) (by rfl) (fun w => ?_) ?_; · go_simp
  simp only [Act.put, List.setIfInBounds_toArray, List.set_cons_zero, List.set_cons_succ]
  refine' SeqS.calm _ (by rfl) (by rfl) (fun w => ?_) ?_; rotate_left; · (go_simp <;> with_reducible rfl)
  simp only [Act.put, List.setIfInBounds_toArray, List.set_cons_zero, List.set_cons_succ]
  refine' SeqS.take _ (by rfl) (by rfl) (fun p w' hS => ?_) ?_; rotate_left; · (obtain ⟨c0, c1, c2, c3, c4, c5, c6, c7, c32, c33⟩ := (cells w' hS).cells; go_simp <;> with_reducible rfl)
  simp only [Act.put, List.setIfInBounds_toArray, List.set_cons_zero, List.set_cons_succ]
  refine SeqS.call (quiet_call kw2) (by rfl) (by rfl) (fun w => ?_) ?_; · go_simp
  simp only [Act.put, List.setIfInBounds_toArray, List.set_cons_zero, List.set_cons_succ]
  iterate 3 ((refine' SeqS.calm _ (by rfl) (by rfl) (fun w => ?_) ?_; rotate_left; · (go_simp <;> with_reducible rfl)); simp only [Act.put, List.setIfInBounds_toArray, List.set_cons_zero, List.set_cons_succ])
  refine SeqS.call (quiet_call (kh 4)) (by rfl) (by rfl) (fun w => ?_) ?_; · go_simp
  simp only [Act.put, List.setIfInBounds_toArray, List.set_cons_zero, List.set_cons_succ]
  refine' SeqS.calm _ (by rfl) (by rfl) (fun w => ?_) ?_; rotate_left; · (go_simp <;> with_reducible rfl)
  simp only [Act.put, List.setIfInBounds_toArray, List.set_cons_zero, List.set_cons_succ]
  refine' SeqS.take _ (by rfl) (by rfl) (fun p w' hS => ?_) ?_; rotate_left; · (obtain ⟨c0, c1, c2, c3, c4, c5, c6, c7, c32, c33⟩ := (cells w' hS).cells; go_simp <;> with_reducible rfl)
  simp only [Act.put, List.setIfInBounds_toArray, List.set_cons_zero, List.set_cons_succ]
  refine SeqS.call (quiet_call kw3) (by rfl) (by rfl) (fun w => ?_) ?_; · go_simp
  simp only [Act.put, List.setIfInBounds_toArray, List.set_cons_zero, List.set_cons_succ]
  iterate 3 ((refine' SeqS.calm _ (by rfl) (by rfl) (fun w => ?_) ?_; rotate_left; · (go_simp <;> with_reducible rfl)); simp only [Act.put, List.setIfInBounds_toArray, List.set_cons_zero, List.set_cons_succ])
  refine SeqS.call (quiet_call (kh 4)) (by rfl) (by rfl) (fun w => ?_) ?_; · go_simp
  simp only [Act.put, List.setIfInBounds_toArray, List.set_cons_zero, List.set_cons_succ]
  refine' SeqS.calm _ (by rfl) (by rfl) (fun w => ?_) ?_; rotate_left; · (go_simp <;> with_reducible rfl)
  simp only [Act.put, List.setIfInBounds_toArray, List.set_cons_zero, List.set_cons_succ]
  refine' SeqS.take _ (by rfl) (by rfl) (fun p w' hS => ?_) ?_; rotate_left; · (obtain ⟨c0, c1, c2, c3, c4, c5, c6, c7, c32, c33⟩ := (cells w' hS).cells; go_simp <;> with_reducible rfl)
  simp only [Act.put, List.setIfInBounds_toArray, List.set_cons_zero, List.set_cons_succ]
  refine' SeqS.calm _ (by rfl) (by rfl) (fun w => ?_) ?_; rotate_left; · (go_simp <;> with_reducible rfl)
  simp only [Act.put, List.setIfInBounds_toArray, List.set_cons_zero, List.set_cons_succ]
  refine SeqS.call (quiet_call kw4) (by rfl) (by rfl) (fun w => ?_) ?_; · go_simp
  simp only [Act.put, List.setIfInBounds_toArray, List.set_cons_zero, List.set_cons_succ]
  iterate 3 ((refine' SeqS.calm _ (by rfl) (by rfl) (fun w => ?_) ?_; rotate_left; · (go_simp <;> with_reducible rfl)); simp only [Act.put, List.setIfInBounds_toArray, List.set_cons_zero, List.set_cons_succ])
  refine SeqS.call (quiet_call (kh 8)) (by rfl) (by rfl) (fun w => ?_) ?_; · go_simp
  simp only [Act.put, List.setIfInBounds_toArray, List.set_cons_zero, List.set_cons_succ]
  refine' SeqS.calm _ (by rfl) (by rfl) (fun w => ?_) ?_; rotate_left; · (go_simp <;> with_reducible rfl)
  simp only [Act.put, List.setIfInBounds_toArray, List.set_cons_zero, List.set_cons_succ]
  refine' SeqS.take _ (by rfl) (by rfl) (fun p w' hS => ?_) ?_; rotate_left; · (obtain ⟨c0, c1, c2, c3, c4, c5, c6, c7, c32, c33⟩ := (cells w' hS).cells; go_simp <;> with_reducible rfl)
  simp only [Act.put, List.setIfInBounds_toArray, List.set_cons_zero, List.set_cons_succ]
  refine SeqS.call (quiet_call kw5) (by rfl) (by rfl) (fun w => ?_) ?_; · go_simp
  simp only [Act.put, List.setIfInBounds_toArray, List.set_cons_zero, List.set_cons_succ]
  iterate 2 ((refine' SeqS.calm _ (by rfl) (by rfl) (fun w => ?_) ?_; rotate_left; · (go_simp <;> with_reducible rfl)); simp only [Act.put, List.setIfInBounds_toArray, List.set_cons_zero, List.set_cons_succ])
  iterate 5 ((refine SeqS.skip (by rfl) (by rfl) ?_); simp only [Act.put, List.setIfInBounds_toArray, List.set_cons_zero, List.set_cons_succ])
  iterate 2 ((refine' SeqS.calm _ (by rfl) (by rfl) (fun w => ?_) ?_; rotate_left; · (go_simp <;> with_reducible rfl)); simp only [Act.put, List.setIfInBounds_toArray, List.set_cons_zero, List.set_cons_succ])
  iterate 5 ((refine SeqS.skip (by rfl) (by rfl) ?_); simp only [Act.put, List.setIfInBounds_toArray, List.set_cons_zero, List.set_cons_succ])
  iterate 2 ((refine' SeqS.calm _ (by rfl) (by rfl) (fun w => ?_) ?_; rotate_left; · (go_simp <;> with_reducible rfl)); simp only [Act.put, List.setIfInBounds_toArray, List.set_cons_zero, List.set_cons_succ])
  iterate 5 ((refine SeqS.skip (by rfl) (by rfl) ?_); simp only [Act.put, List.setIfInBounds_toArray, List.set_cons_zero, List.set_cons_succ])
  iterate 2 ((refine' SeqS.calm _ (by rfl) (by rfl) (fun w => ?_) ?_; rotate_left; · (go_simp <;> with_reducible rfl)); simp only [Act.put, List.setIfInBounds_toArray, List.set_cons_zero, List.set_cons_succ])
  iterate 5 ((refine SeqS.skip (by rfl) (by rfl) ?_); simp only [Act.put, List.setIfInBounds_toArray, List.set_cons_zero, List.set_cons_succ])
  iterate 2 ((refine' SeqS.calm _ (by rfl) (by rfl) (fun w => ?_) ?_; rotate_left; · (go_simp <;> with_reducible rfl)); simp only [Act.put, List.setIfInBounds_toArray, List.set_cons_zero, List.set_cons_succ])
  iterate 7 ((refine SeqS.skip (by rfl) (by rfl) ?_); simp only [Act.put, List.setIfInBounds_toArray, List.set_cons_zero, List.set_cons_succ])
  iterate 2 ((refine' SeqS.calm _ (by rfl) (by rfl) (fun w => ?_) ?_; rotate_left; · (go_simp <;> with_reducible rfl)); simp only [Act.put, List.setIfInBounds_toArray, List.set_cons_zero, List.set_cons_succ])
  intro w3 hw3
  have hB3 := Below.then hB1 hw3
  go_wp2
  go_ret
  exact ⟨rfl, hB3⟩
set_option maxRecDepth 100000 in
set_option maxHeartbeats 2000000 in
theorem right_n6 (d : Dd) (A : Option Addr) (c : Nat) (f : Int) (w : World) (hm : Hid (d.mask = f)) (H0 : (f != 0) = true) (H1 : inI (hb f 1) d.account 0 63 = true) (H2 : inI (hb f 2) d.member 0 127 = true) (H3 : inI (hb f 4) d.epoch 0 1073741824 = true) (H4 : inI (hb f 4) (d.bits.length : Int) 0 32 = true) (H5 : inI (hb f 8) d.what 1 4 = true) (H6 : ∀ w, Calls Try.prog 83 #[.bool (hb f 16), .agg d.par.vals] w fun e w' => e = .returned (.bool false) ∧ Below w.heap.size w w') :
    Calls Try.prog 45 #[.agg (d.vals A c)] w fun e w' => e = .returned (.bool false) ∧ Below w.heap.size w w' := by
  have hD := DeedAt.new w d A c 48
  have hB : Below w.heap.size w (w.alloc (.cells (d.vals A c) 48)) := (Below.refl _ _).alloc (Nat.le_refl _) _
  have ku := fun w => used_is d A c w
  rw [hm.out] at ku
  have kw1 : ∀ w, Calls Try.prog 81 #[.bool (hb f 1), .int .i64 d.account, .int .i64 0, .int .i64 63] w fun e w' => e = .returned (.bool true) ∧ w = w' := fun w => by have := dwithin_i (hb f 1) d.account 0 63 w; rwa [H1] at this
  have kw2 : ∀ w, Calls Try.prog 81 #[.bool (hb f 2), .int .i64 d.member, .int .i64 0, .int .i64 127] w fun e w' => e = .returned (.bool true) ∧ w = w' := fun w => by have := dwithin_i (hb f 2) d.member 0 127 w; rwa [H2] at this
  have kw3 : ∀ w, Calls Try.prog 81 #[.bool (hb f 4), .int .i64 d.epoch, .int .i64 0, .int .i64 1073741824] w fun e w' => e = .returned (.bool true) ∧ w = w' := fun w => by have := dwithin_i (hb f 4) d.epoch 0 1073741824 w; rwa [H3] at this
  have kw4 : ∀ w, Calls Try.prog 81 #[.bool (hb f 4), .int .i64 (d.bits.length : Int), .int .i64 0, .int .i64 32] w fun e w' => e = .returned (.bool true) ∧ w = w' := fun w => by have := dwithin_i (hb f 4) (d.bits.length : Int) 0 32 w; rwa [H4] at this
  have kw5 : ∀ w, Calls Try.prog 81 #[.bool (hb f 8), .int .i64 d.what, .int .i64 1, .int .i64 4] w fun e w' => e = .returned (.bool true) ∧ w = w' := fun w => by have := dwithin_i (hb f 8) d.what 1 4 w; rwa [H5] at this
  have kh : ∀ one w, Calls Try.prog 82 #[.int .i64 f, .int .i64 one] w fun e w' => e = .returned (.bool (hb f one)) ∧ w = w' := fun one w => has_is f one w
  clear hm H1 H2 H3 H4 H5
  go_enter Try.func45, Try.ntmps45
  go_wp2_with (first
    | (refine load_deed _ rfl rfl _ d A c _ rfl (by assumption) ?_)
    | (go_at_call 80; refine (ku _).mono ?_; clear ku; rintro e w1 ⟨rfl, hb1⟩; have hD1 := hD.next hb1; have hB1 := Below.then hB hb1; obtain ⟨c0, c1, c2, c3, c4, c5, c6, c7, c32, c33⟩ := hD1.cells))
  dsimp only [List.append_eq, List.cons_append, List.nil_append]
  have hl1 := hD1.lt
  have cells : ∀ w', Below w1.heap.size w1 w' → DeedAt w' w.heap.size d A c 48 := fun w' h => hD1.next h
  clear c0 c1 c2 c3 c4 c5 c6 c7 c32 c33 hD hD1
  refine region_list [] (fun _ w' => Below w1.heap.size w1 w') (by kernel_rfl) (by kernel_rfl) (Below.refl _ _).drew ?_
  iterate 4 ((refine' SeqS.calm _ (by rfl) (by rfl) (fun w => ?_) ?_; rotate_left; · (go_simp <;> with_reducible rfl)); simp only [Act.put, List.setIfInBounds_toArray, List.set_cons_zero, List.set_cons_succ])
  refine SeqS.call (quiet_call (kh 1)) (by rfl) (by rfl) (fun w => ?_) ?_; · go_simp
  simp only [Act.put, List.setIfInBounds_toArray, List.set_cons_zero, List.set_cons_succ]
  refine' SeqS.calm _ (by rfl) (by rfl) (fun w => ?_) ?_; rotate_left; · (go_simp <;> with_reducible rfl)
  simp only [Act.put, List.setIfInBounds_toArray, List.set_cons_zero, List.set_cons_succ]
  refine' SeqS.take _ (by rfl) (by rfl) (fun p w' hS => ?_) ?_; rotate_left; · (obtain ⟨c0, c1, c2, c3, c4, c5, c6, c7, c32, c33⟩ := (cells w' hS).cells; go_simp <;> with_reducible rfl)
  simp only [Act.put, List.setIfInBounds_toArray, List.set_cons_zero, List.set_cons_succ]
  refine SeqS.call (quiet_call kw1) (by rfl) (by rfl) (fun w => ?_) ?_; · go_simp
  simp only [Act.put, List.setIfInBounds_toArray, List.set_cons_zero, List.set_cons_succ]
  iterate 3 ((refine' SeqS.calm _ (by rfl) (by rfl) (fun w => ?_) ?_; rotate_left; · (go_simp <;> with_reducible rfl)); simp only [Act.put, List.setIfInBounds_toArray, List.set_cons_zero, List.set_cons_succ])
  refine SeqS.call (quiet_call (kh 2)) (by rfl) (by rfl) (fun w => ?_) ?_; · go_simp
  simp only [Act.put, List.setIfInBounds_toArray, List.set_cons_zero, List.set_cons_succ]
  refine' SeqS.calm _ (by rfl) (by rfl) (fun w => ?_) ?_; rotate_left; · (go_simp <;> with_reducible rfl)
  simp only [Act.put, List.setIfInBounds_toArray, List.set_cons_zero, List.set_cons_succ]
  refine' SeqS.take _ (by rfl) (by rfl) (fun p w' hS => ?_) ?_; rotate_left; · (obtain ⟨c0, c1, c2, c3, c4, c5, c6, c7, c32, c33⟩ := (cells w' hS).cells; go_simp <;> with_reducible rfl)
  simp only [Act.put, List.setIfInBounds_toArray, List.set_cons_zero, List.set_cons_succ]
  refine SeqS.call (quiet_call kw2) (by rfl) (by rfl) (fun w => ?_) ?_; · go_simp
  simp only [Act.put, List.setIfInBounds_toArray, List.set_cons_zero, List.set_cons_succ]
  iterate 3 ((refine' SeqS.calm _ (by rfl) (by rfl) (fun w => ?_) ?_; rotate_left; · (go_simp <;> with_reducible rfl)); simp only [Act.put, List.setIfInBounds_toArray, List.set_cons_zero, List.set_cons_succ])
  refine SeqS.call (quiet_call (kh 4)) (by rfl) (by rfl) (fun w => ?_) ?_; · go_simp
  simp only [Act.put, List.setIfInBounds_toArray, List.set_cons_zero, List.set_cons_succ]
  refine' SeqS.calm _ (by rfl) (by rfl) (fun w => ?_) ?_; rotate_left; · (go_simp <;> with_reducible rfl)
  simp only [Act.put, List.setIfInBounds_toArray, List.set_cons_zero, List.set_cons_succ]
  refine' SeqS.take _ (by rfl) (by rfl) (fun p w' hS => ?_) ?_; rotate_left; · (obtain ⟨c0, c1, c2, c3, c4, c5, c6, c7, c32, c33⟩ := (cells w' hS).cells; go_simp <;> with_reducible rfl)
  simp only [Act.put, List.setIfInBounds_toArray, List.set_cons_zero, List.set_cons_succ]
  refine SeqS.call (quiet_call kw3) (by rfl) (by rfl) (fun w => ?_) ?_; · go_simp
  simp only [Act.put, List.setIfInBounds_toArray, List.set_cons_zero, List.set_cons_succ]
  iterate 3 ((refine' SeqS.calm _ (by rfl) (by rfl) (fun w => ?_) ?_; rotate_left; · (go_simp <;> with_reducible rfl)); simp only [Act.put, List.setIfInBounds_toArray, List.set_cons_zero, List.set_cons_succ])
  refine SeqS.call (quiet_call (kh 4)) (by rfl) (by rfl) (fun w => ?_) ?_; · go_simp
  simp only [Act.put, List.setIfInBounds_toArray, List.set_cons_zero, List.set_cons_succ]
  refine' SeqS.calm _ (by rfl) (by rfl) (fun w => ?_) ?_; rotate_left; · (go_simp <;> with_reducible rfl)
  simp only [Act.put, List.setIfInBounds_toArray, List.set_cons_zero, List.set_cons_succ]
  refine' SeqS.take _ (by rfl) (by rfl) (fun p w' hS => ?_) ?_; rotate_left; · (obtain ⟨c0, c1, c2, c3, c4, c5, c6, c7, c32, c33⟩ := (cells w' hS).cells; go_simp <;> with_reducible rfl)
  simp only [Act.put, List.setIfInBounds_toArray, List.set_cons_zero, List.set_cons_succ]
  refine' SeqS.calm _ (by rfl) (by rfl) (fun w => ?_) ?_; rotate_left; · (go_simp <;> with_reducible rfl)
  simp only [Act.put, List.setIfInBounds_toArray, List.set_cons_zero, List.set_cons_succ]
  refine SeqS.call (quiet_call kw4) (by rfl) (by rfl) (fun w => ?_) ?_; · go_simp
  simp only [Act.put, List.setIfInBounds_toArray, List.set_cons_zero, List.set_cons_succ]
  iterate 3 ((refine' SeqS.calm _ (by rfl) (by rfl) (fun w => ?_) ?_; rotate_left; · (go_simp <;> with_reducible rfl)); simp only [Act.put, List.setIfInBounds_toArray, List.set_cons_zero, List.set_cons_succ])
  refine SeqS.call (quiet_call (kh 8)) (by rfl) (by rfl) (fun w => ?_) ?_; · go_simp
  simp only [Act.put, List.setIfInBounds_toArray, List.set_cons_zero, List.set_cons_succ]
  refine' SeqS.calm _ (by rfl) (by rfl) (fun w => ?_) ?_; rotate_left; · (go_simp <;> with_reducible rfl)
  simp only [Act.put, List.setIfInBounds_toArray, List.set_cons_zero, List.set_cons_succ]
  refine' SeqS.take _ (by rfl) (by rfl) (fun p w' hS => ?_) ?_; rotate_left; · (obtain ⟨c0, c1, c2, c3, c4, c5, c6, c7, c32, c33⟩ := (cells w' hS).cells; go_simp <;> with_reducible rfl)
  simp only [Act.put, List.setIfInBounds_toArray, List.set_cons_zero, List.set_cons_succ]
  refine SeqS.call (quiet_call kw5) (by rfl) (by rfl) (fun w => ?_) ?_; · go_simp
  simp only [Act.put, List.setIfInBounds_toArray, List.set_cons_zero, List.set_cons_succ]
  iterate 3 ((refine' SeqS.calm _ (by rfl) (by rfl) (fun w => ?_) ?_; rotate_left; · (go_simp <;> with_reducible rfl)); simp only [Act.put, List.setIfInBounds_toArray, List.set_cons_zero, List.set_cons_succ])
  refine SeqS.call (quiet_call (kh 16)) (by rfl) (by rfl) (fun w => ?_) ?_; · go_simp
  simp only [Act.put, List.setIfInBounds_toArray, List.set_cons_zero, List.set_cons_succ]
  refine' SeqS.calm _ (by rfl) (by rfl) (fun w => ?_) ?_; rotate_left; · (go_simp <;> with_reducible rfl)
  simp only [Act.put, List.setIfInBounds_toArray, List.set_cons_zero, List.set_cons_succ]
  refine SeqS.take _ (by rfl) (by rfl) (fun p w' hS => exec_load_pars _ rfl _ d A c _ rfl (cells w' hS)) ?_
  simp only [Act.put, List.setIfInBounds_toArray, List.set_cons_zero, List.set_cons_succ]
  refine SeqS.call (below_call (Nat.le_refl _) (fun w _ => H6 w)) (by rfl) (by rfl) (fun w => ?_) ?_; · go_simp
  simp only [Act.put, List.setIfInBounds_toArray, List.set_cons_zero, List.set_cons_succ]
  iterate 2 ((refine' SeqS.calm _ (by rfl) (by rfl) (fun w => ?_) ?_; rotate_left; · (go_simp <;> with_reducible rfl)); simp only [Act.put, List.setIfInBounds_toArray, List.set_cons_zero, List.set_cons_succ])
  iterate 5 ((refine SeqS.skip (by rfl) (by rfl) ?_); simp only [Act.put, List.setIfInBounds_toArray, List.set_cons_zero, List.set_cons_succ])
  iterate 2 ((refine' SeqS.calm _ (by rfl) (by rfl) (fun w => ?_) ?_; rotate_left; · (go_simp <;> with_reducible rfl)); simp only [Act.put, List.setIfInBounds_toArray, List.set_cons_zero, List.set_cons_succ])
  iterate 5 ((refine SeqS.skip (by rfl) (by rfl) ?_); simp only [Act.put, List.setIfInBounds_toArray, List.set_cons_zero, List.set_cons_succ])
  iterate 2 ((refine' SeqS.calm _ (by rfl) (by rfl) (fun w => ?_) ?_; rotate_left; · (go_simp <;> with_reducible rfl)); simp only [Act.put, List.setIfInBounds_toArray, List.set_cons_zero, List.set_cons_succ])
  iterate 5 ((refine SeqS.skip (by rfl) (by rfl) ?_); simp only [Act.put, List.setIfInBounds_toArray, List.set_cons_zero, List.set_cons_succ])
  iterate 2 ((refine' SeqS.calm _ (by rfl) (by rfl) (fun w => ?_) ?_; rotate_left; · (go_simp <;> with_reducible rfl)); simp only [Act.put, List.setIfInBounds_toArray, List.set_cons_zero, List.set_cons_succ])
  iterate 7 ((refine SeqS.skip (by rfl) (by rfl) ?_); simp only [Act.put, List.setIfInBounds_toArray, List.set_cons_zero, List.set_cons_succ])
  iterate 2 ((refine' SeqS.calm _ (by rfl) (by rfl) (fun w => ?_) ?_; rotate_left; · (go_simp <;> with_reducible rfl)); simp only [Act.put, List.setIfInBounds_toArray, List.set_cons_zero, List.set_cons_succ])
  intro w3 hw3
  have hB3 := Below.then hB1 hw3
  go_wp2
  go_ret
  exact ⟨rfl, hB3⟩
set_option maxRecDepth 100000 in
set_option maxHeartbeats 2000000 in
theorem right_n7 (d : Dd) (A : Option Addr) (c : Nat) (f : Int) (w : World) (hm : Hid (d.mask = f)) (H0 : (f != 0) = true) (H1 : inI (hb f 1) d.account 0 63 = true) (H2 : inI (hb f 2) d.member 0 127 = true) (H3 : inI (hb f 4) d.epoch 0 1073741824 = true) (H4 : inI (hb f 4) (d.bits.length : Int) 0 32 = true) (H5 : inI (hb f 8) d.what 1 4 = true) (H6 : ∀ w, Calls Try.prog 83 #[.bool (hb f 16), .agg d.par.vals] w fun e w' => e = .returned (.bool true) ∧ Below w.heap.size w w') (H7 : inI (hb f 32) d.dest 0 63 = false) :
    Calls Try.prog 45 #[.agg (d.vals A c)] w fun e w' => e = .returned (.bool false) ∧ Below w.heap.size w w' := by
  have hD := DeedAt.new w d A c 48
  have hB : Below w.heap.size w (w.alloc (.cells (d.vals A c) 48)) := (Below.refl _ _).alloc (Nat.le_refl _) _
  have ku := fun w => used_is d A c w
  rw [hm.out] at ku
  have kw1 : ∀ w, Calls Try.prog 81 #[.bool (hb f 1), .int .i64 d.account, .int .i64 0, .int .i64 63] w fun e w' => e = .returned (.bool true) ∧ w = w' := fun w => by have := dwithin_i (hb f 1) d.account 0 63 w; rwa [H1] at this
  have kw2 : ∀ w, Calls Try.prog 81 #[.bool (hb f 2), .int .i64 d.member, .int .i64 0, .int .i64 127] w fun e w' => e = .returned (.bool true) ∧ w = w' := fun w => by have := dwithin_i (hb f 2) d.member 0 127 w; rwa [H2] at this
  have kw3 : ∀ w, Calls Try.prog 81 #[.bool (hb f 4), .int .i64 d.epoch, .int .i64 0, .int .i64 1073741824] w fun e w' => e = .returned (.bool true) ∧ w = w' := fun w => by have := dwithin_i (hb f 4) d.epoch 0 1073741824 w; rwa [H3] at this
  have kw4 : ∀ w, Calls Try.prog 81 #[.bool (hb f 4), .int .i64 (d.bits.length : Int), .int .i64 0, .int .i64 32] w fun e w' => e = .returned (.bool true) ∧ w = w' := fun w => by have := dwithin_i (hb f 4) (d.bits.length : Int) 0 32 w; rwa [H4] at this
  have kw5 : ∀ w, Calls Try.prog 81 #[.bool (hb f 8), .int .i64 d.what, .int .i64 1, .int .i64 4] w fun e w' => e = .returned (.bool true) ∧ w = w' := fun w => by have := dwithin_i (hb f 8) d.what 1 4 w; rwa [H5] at this
  have kw7 : ∀ w, Calls Try.prog 81 #[.bool (hb f 32), .int .i64 d.dest, .int .i64 0, .int .i64 63] w fun e w' => e = .returned (.bool false) ∧ w = w' := fun w => by have := dwithin_i (hb f 32) d.dest 0 63 w; rwa [H7] at this
  have kh : ∀ one w, Calls Try.prog 82 #[.int .i64 f, .int .i64 one] w fun e w' => e = .returned (.bool (hb f one)) ∧ w = w' := fun one w => has_is f one w
  clear hm H1 H2 H3 H4 H5 H7
  go_enter Try.func45, Try.ntmps45
  go_wp2_with (first
    | (refine load_deed _ rfl rfl _ d A c _ rfl (by assumption) ?_)
    | (go_at_call 80; refine (ku _).mono ?_; clear ku; rintro e w1 ⟨rfl, hb1⟩; have hD1 := hD.next hb1; have hB1 := Below.then hB hb1; obtain ⟨c0, c1, c2, c3, c4, c5, c6, c7, c32, c33⟩ := hD1.cells))
  dsimp only [List.append_eq, List.cons_append, List.nil_append]
  have hl1 := hD1.lt
  have cells : ∀ w', Below w1.heap.size w1 w' → DeedAt w' w.heap.size d A c 48 := fun w' h => hD1.next h
  clear c0 c1 c2 c3 c4 c5 c6 c7 c32 c33 hD hD1
  refine region_list [] (fun _ w' => Below w1.heap.size w1 w') (by kernel_rfl) (by kernel_rfl) (Below.refl _ _).drew ?_
  iterate 4 ((refine' SeqS.calm _ (by rfl) (by rfl) (fun w => ?_) ?_; rotate_left; · (go_simp <;> with_reducible rfl)); simp only [Act.put, List.setIfInBounds_toArray, List.set_cons_zero, List.set_cons_succ])
  refine SeqS.call (quiet_call (kh 1)) (by rfl) (by rfl) (fun w => ?_) ?_; · go_simp
  simp only [Act.put, List.setIfInBounds_toArray, List.set_cons_zero, List.set_cons_succ]
  refine' SeqS.calm _ (by rfl) (by rfl) (fun w => ?_) ?_; rotate_left; · (go_simp <;> with_reducible rfl)
  simp only [Act.put, List.setIfInBounds_toArray, List.set_cons_zero, List.set_cons_succ]
  refine' SeqS.take _ (by rfl) (by rfl) (fun p w' hS => ?_) ?_; rotate_left; · (obtain ⟨c0, c1, c2, c3, c4, c5, c6, c7, c32, c33⟩ := (cells w' hS).cells; go_simp <;> with_reducible rfl)
  simp only [Act.put, List.setIfInBounds_toArray, List.set_cons_zero, List.set_cons_succ]
  refine SeqS.call (quiet_call kw1) (by rfl) (by rfl) (fun w => ?_) ?_; · go_simp
  simp only [Act.put, List.setIfInBounds_toArray, List.set_cons_zero, List.set_cons_succ]
  iterate 3 ((refine' SeqS.calm _ (by rfl) (by rfl) (fun w => ?_) ?_; rotate_left; · (go_simp <;> with_reducible rfl)); simp only [Act.put, List.setIfInBounds_toArray, List.set_cons_zero, List.set_cons_succ])
  refine SeqS.call (quiet_call (kh 2)) (by rfl) (by rfl) (fun w => ?_) ?_; · go_simp
  simp only [Act.put, List.setIfInBounds_toArray, List.set_cons_zero, List.set_cons_succ]
  refine' SeqS.calm _ (by rfl) (by rfl) (fun w => ?_) ?_; rotate_left; · (go_simp <;> with_reducible rfl)
  simp only [Act.put, List.setIfInBounds_toArray, List.set_cons_zero, List.set_cons_succ]
  refine' SeqS.take _ (by rfl) (by rfl) (fun p w' hS => ?_) ?_; rotate_left; · (obtain ⟨c0, c1, c2, c3, c4, c5, c6, c7, c32, c33⟩ := (cells w' hS).cells; go_simp <;> with_reducible rfl)
  simp only [Act.put, List.setIfInBounds_toArray, List.set_cons_zero, List.set_cons_succ]
  refine SeqS.call (quiet_call kw2) (by rfl) (by rfl) (fun w => ?_) ?_; · go_simp
  simp only [Act.put, List.setIfInBounds_toArray, List.set_cons_zero, List.set_cons_succ]
  iterate 3 ((refine' SeqS.calm _ (by rfl) (by rfl) (fun w => ?_) ?_; rotate_left; · (go_simp <;> with_reducible rfl)); simp only [Act.put, List.setIfInBounds_toArray, List.set_cons_zero, List.set_cons_succ])
  refine SeqS.call (quiet_call (kh 4)) (by rfl) (by rfl) (fun w => ?_) ?_; · go_simp
  simp only [Act.put, List.setIfInBounds_toArray, List.set_cons_zero, List.set_cons_succ]
  refine' SeqS.calm _ (by rfl) (by rfl) (fun w => ?_) ?_; rotate_left; · (go_simp <;> with_reducible rfl)
  simp only [Act.put, List.setIfInBounds_toArray, List.set_cons_zero, List.set_cons_succ]
  refine' SeqS.take _ (by rfl) (by rfl) (fun p w' hS => ?_) ?_; rotate_left; · (obtain ⟨c0, c1, c2, c3, c4, c5, c6, c7, c32, c33⟩ := (cells w' hS).cells; go_simp <;> with_reducible rfl)
  simp only [Act.put, List.setIfInBounds_toArray, List.set_cons_zero, List.set_cons_succ]
  refine SeqS.call (quiet_call kw3) (by rfl) (by rfl) (fun w => ?_) ?_; · go_simp
  simp only [Act.put, List.setIfInBounds_toArray, List.set_cons_zero, List.set_cons_succ]
  iterate 3 ((refine' SeqS.calm _ (by rfl) (by rfl) (fun w => ?_) ?_; rotate_left; · (go_simp <;> with_reducible rfl)); simp only [Act.put, List.setIfInBounds_toArray, List.set_cons_zero, List.set_cons_succ])
  refine SeqS.call (quiet_call (kh 4)) (by rfl) (by rfl) (fun w => ?_) ?_; · go_simp
  simp only [Act.put, List.setIfInBounds_toArray, List.set_cons_zero, List.set_cons_succ]
  refine' SeqS.calm _ (by rfl) (by rfl) (fun w => ?_) ?_; rotate_left; · (go_simp <;> with_reducible rfl)
  simp only [Act.put, List.setIfInBounds_toArray, List.set_cons_zero, List.set_cons_succ]
  refine' SeqS.take _ (by rfl) (by rfl) (fun p w' hS => ?_) ?_; rotate_left; · (obtain ⟨c0, c1, c2, c3, c4, c5, c6, c7, c32, c33⟩ := (cells w' hS).cells; go_simp <;> with_reducible rfl)
  simp only [Act.put, List.setIfInBounds_toArray, List.set_cons_zero, List.set_cons_succ]
  refine' SeqS.calm _ (by rfl) (by rfl) (fun w => ?_) ?_; rotate_left; · (go_simp <;> with_reducible rfl)
  simp only [Act.put, List.setIfInBounds_toArray, List.set_cons_zero, List.set_cons_succ]
  refine SeqS.call (quiet_call kw4) (by rfl) (by rfl) (fun w => ?_) ?_; · go_simp
  simp only [Act.put, List.setIfInBounds_toArray, List.set_cons_zero, List.set_cons_succ]
  iterate 3 ((refine' SeqS.calm _ (by rfl) (by rfl) (fun w => ?_) ?_; rotate_left; · (go_simp <;> with_reducible rfl)); simp only [Act.put, List.setIfInBounds_toArray, List.set_cons_zero, List.set_cons_succ])
  refine SeqS.call (quiet_call (kh 8)) (by rfl) (by rfl) (fun w => ?_) ?_; · go_simp
  simp only [Act.put, List.setIfInBounds_toArray, List.set_cons_zero, List.set_cons_succ]
  refine' SeqS.calm _ (by rfl) (by rfl) (fun w => ?_) ?_; rotate_left; · (go_simp <;> with_reducible rfl)
  simp only [Act.put, List.setIfInBounds_toArray, List.set_cons_zero, List.set_cons_succ]
  refine' SeqS.take _ (by rfl) (by rfl) (fun p w' hS => ?_) ?_; rotate_left; · (obtain ⟨c0, c1, c2, c3, c4, c5, c6, c7, c32, c33⟩ := (cells w' hS).cells; go_simp <;> with_reducible rfl)
  simp only [Act.put, List.setIfInBounds_toArray, List.set_cons_zero, List.set_cons_succ]
  refine SeqS.call (quiet_call kw5) (by rfl) (by rfl) (fun w => ?_) ?_; · go_simp
  simp only [Act.put, List.setIfInBounds_toArray, List.set_cons_zero, List.set_cons_succ]
  iterate 3 ((refine' SeqS.calm _ (by rfl) (by rfl) (fun w => ?_) ?_; rotate_left; · (go_simp <;> with_reducible rfl)); simp only [Act.put, List.setIfInBounds_toArray, List.set_cons_zero, List.set_cons_succ])
  refine SeqS.call (quiet_call (kh 16)) (by rfl) (by rfl) (fun w => ?_) ?_; · go_simp
  simp only [Act.put, List.setIfInBounds_toArray, List.set_cons_zero, List.set_cons_succ]
  refine' SeqS.calm _ (by rfl) (by rfl) (fun w => ?_) ?_; rotate_left; · (go_simp <;> with_reducible rfl)
  simp only [Act.put, List.setIfInBounds_toArray, List.set_cons_zero, List.set_cons_succ]
  refine SeqS.take _ (by rfl) (by rfl) (fun p w' hS => exec_load_pars _ rfl _ d A c _ rfl (cells w' hS)) ?_
  simp only [Act.put, List.setIfInBounds_toArray, List.set_cons_zero, List.set_cons_succ]
  refine SeqS.call (below_call (Nat.le_refl _) (fun w _ => H6 w)) (by rfl) (by rfl) (fun w => ?_) ?_; · go_simp
  simp only [Act.put, List.setIfInBounds_toArray, List.set_cons_zero, List.set_cons_succ]
  iterate 3 ((refine' SeqS.calm _ (by rfl) (by rfl) (fun w => ?_) ?_; rotate_left; · (go_simp <;> with_reducible rfl)); simp only [Act.put, List.setIfInBounds_toArray, List.set_cons_zero, List.set_cons_succ])
  refine SeqS.call (quiet_call (kh 32)) (by rfl) (by rfl) (fun w => ?_) ?_; · go_simp
  simp only [Act.put, List.setIfInBounds_toArray, List.set_cons_zero, List.set_cons_succ]
  refine' SeqS.calm _ (by rfl) (by rfl) (fun w => ?_) ?_; rotate_left; · (go_simp <;> with_reducible rfl)
  simp only [Act.put, List.setIfInBounds_toArray, List.set_cons_zero, List.set_cons_succ]
  refine' SeqS.take _ (by rfl) (by rfl) (fun p w' hS => ?_) ?_; rotate_left; · (obtain ⟨c0, c1, c2, c3, c4, c5, c6, c7, c32, c33⟩ := (cells w' hS).cells; go_simp <;> with_reducible rfl)
  simp only [Act.put, List.setIfInBounds_toArray, List.set_cons_zero, List.set_cons_succ]
  refine SeqS.call (quiet_call kw7) (by rfl) (by rfl) (fun w => ?_) ?_; · go_simp
  simp only [Act.put, List.setIfInBounds_toArray, List.set_cons_zero, List.set_cons_succ]
  iterate 2 ((refine' SeqS.calm _ (by rfl) (by rfl) (fun w => ?_) ?_; rotate_left; · (go_simp <;> with_reducible rfl)); simp only [Act.put, List.setIfInBounds_toArray, List.set_cons_zero, List.set_cons_succ])
  iterate 5 ((refine SeqS.skip (by rfl) (by rfl) ?_); simp only [Act.put, List.setIfInBounds_toArray, List.set_cons_zero, List.set_cons_succ])
  iterate 2 ((refine' SeqS.calm _ (by rfl) (by rfl) (fun w => ?_) ?_; rotate_left; · (go_simp <;> with_reducible rfl)); simp only [Act.put, List.setIfInBounds_toArray, List.set_cons_zero, List.set_cons_succ])
  iterate 5 ((refine SeqS.skip (by rfl) (by rfl) ?_); simp only [Act.put, List.setIfInBounds_toArray, List.set_cons_zero, List.set_cons_succ])
  iterate 2 ((refine' SeqS.calm _ (by rfl) (by rfl) (fun w => ?_) ?_; rotate_left; · (go_simp <;> with_reducible rfl)); simp only [Act.put, List.setIfInBounds_toArray, List.set_cons_zero, List.set_cons_succ])
  iterate 7 ((refine SeqS.skip (by rfl) (by rfl) ?_); simp only [Act.put, List.setIfInBounds_toArray, List.set_cons_zero, List.set_cons_succ])
  iterate 2 ((refine' SeqS.calm _ (by rfl) (by rfl) (fun w => ?_) ?_; rotate_left; · (go_simp <;> with_reducible rfl)); simp only [Act.put, List.setIfInBounds_toArray, List.set_cons_zero, List.set_cons_succ])
  intro w3 hw3
  have hB3 := Below.then hB1 hw3
  go_wp2
  go_ret
  exact ⟨rfl, hB3⟩
set_option maxRecDepth 100000 in
set_option maxHeartbeats 2000000 in
theorem right_n8 (d : Dd) (A : Option Addr) (c : Nat) (f : Int) (w : World) (hm : Hid (d.mask = f)) (H0 : (f != 0) = true) (H1 : inI (hb f 1) d.account 0 63 = true) (H2 : inI (hb f 2) d.member 0 127 = true) (H3 : inI (hb f 4) d.epoch 0 1073741824 = true) (H4 : inI (hb f 4) (d.bits.length : Int) 0 32 = true) (H5 : inI (hb f 8) d.what 1 4 = true) (H6 : ∀ w, Calls Try.prog 83 #[.bool (hb f 16), .agg d.par.vals] w fun e w' => e = .returned (.bool true) ∧ Below w.heap.size w w') (H7 : inI (hb f 32) d.dest 0 63 = true) (H8 : inI (hb f 64) (d.amount : Int) 1 4611686018427387904 = false) :
    Calls Try.prog 45 #[.agg (d.vals A c)] w fun e w' => e = .returned (.bool false) ∧ Below w.heap.size w w' := by
  have hD := DeedAt.new w d A c 48
  have hB : Below w.heap.size w (w.alloc (.cells (d.vals A c) 48)) := (Below.refl _ _).alloc (Nat.le_refl _) _
  have ku := fun w => used_is d A c w
  rw [hm.out] at ku
  have kw1 : ∀ w, Calls Try.prog 81 #[.bool (hb f 1), .int .i64 d.account, .int .i64 0, .int .i64 63] w fun e w' => e = .returned (.bool true) ∧ w = w' := fun w => by have := dwithin_i (hb f 1) d.account 0 63 w; rwa [H1] at this
  have kw2 : ∀ w, Calls Try.prog 81 #[.bool (hb f 2), .int .i64 d.member, .int .i64 0, .int .i64 127] w fun e w' => e = .returned (.bool true) ∧ w = w' := fun w => by have := dwithin_i (hb f 2) d.member 0 127 w; rwa [H2] at this
  have kw3 : ∀ w, Calls Try.prog 81 #[.bool (hb f 4), .int .i64 d.epoch, .int .i64 0, .int .i64 1073741824] w fun e w' => e = .returned (.bool true) ∧ w = w' := fun w => by have := dwithin_i (hb f 4) d.epoch 0 1073741824 w; rwa [H3] at this
  have kw4 : ∀ w, Calls Try.prog 81 #[.bool (hb f 4), .int .i64 (d.bits.length : Int), .int .i64 0, .int .i64 32] w fun e w' => e = .returned (.bool true) ∧ w = w' := fun w => by have := dwithin_i (hb f 4) (d.bits.length : Int) 0 32 w; rwa [H4] at this
  have kw5 : ∀ w, Calls Try.prog 81 #[.bool (hb f 8), .int .i64 d.what, .int .i64 1, .int .i64 4] w fun e w' => e = .returned (.bool true) ∧ w = w' := fun w => by have := dwithin_i (hb f 8) d.what 1 4 w; rwa [H5] at this
  have kw7 : ∀ w, Calls Try.prog 81 #[.bool (hb f 32), .int .i64 d.dest, .int .i64 0, .int .i64 63] w fun e w' => e = .returned (.bool true) ∧ w = w' := fun w => by have := dwithin_i (hb f 32) d.dest 0 63 w; rwa [H7] at this
  have kw8 : ∀ w, Calls Try.prog 84 #[.bool (hb f 64), .int .u64 (d.amount : Int), .int .u64 1, .int .u64 4611686018427387904] w fun e w' => e = .returned (.bool false) ∧ w = w' := fun w => by have := dwithin_u (hb f 64) (d.amount : Int) 1 4611686018427387904 w; rwa [H8] at this
  have kh : ∀ one w, Calls Try.prog 82 #[.int .i64 f, .int .i64 one] w fun e w' => e = .returned (.bool (hb f one)) ∧ w = w' := fun one w => has_is f one w
  clear hm H1 H2 H3 H4 H5 H7 H8
  go_enter Try.func45, Try.ntmps45
  go_wp2_with (first
    | (refine load_deed _ rfl rfl _ d A c _ rfl (by assumption) ?_)
    | (go_at_call 80; refine (ku _).mono ?_; clear ku; rintro e w1 ⟨rfl, hb1⟩; have hD1 := hD.next hb1; have hB1 := Below.then hB hb1; obtain ⟨c0, c1, c2, c3, c4, c5, c6, c7, c32, c33⟩ := hD1.cells))
  dsimp only [List.append_eq, List.cons_append, List.nil_append]
  have hl1 := hD1.lt
  have cells : ∀ w', Below w1.heap.size w1 w' → DeedAt w' w.heap.size d A c 48 := fun w' h => hD1.next h
  clear c0 c1 c2 c3 c4 c5 c6 c7 c32 c33 hD hD1
  refine region_list [] (fun _ w' => Below w1.heap.size w1 w') (by kernel_rfl) (by kernel_rfl) (Below.refl _ _).drew ?_
  iterate 4 ((refine' SeqS.calm _ (by rfl) (by rfl) (fun w => ?_) ?_; rotate_left; · (go_simp <;> with_reducible rfl)); simp only [Act.put, List.setIfInBounds_toArray, List.set_cons_zero, List.set_cons_succ])
  refine SeqS.call (quiet_call (kh 1)) (by rfl) (by rfl) (fun w => ?_) ?_; · go_simp
  simp only [Act.put, List.setIfInBounds_toArray, List.set_cons_zero, List.set_cons_succ]
  refine' SeqS.calm _ (by rfl) (by rfl) (fun w => ?_) ?_; rotate_left; · (go_simp <;> with_reducible rfl)
  simp only [Act.put, List.setIfInBounds_toArray, List.set_cons_zero, List.set_cons_succ]
  refine' SeqS.take _ (by rfl) (by rfl) (fun p w' hS => ?_) ?_; rotate_left; · (obtain ⟨c0, c1, c2, c3, c4, c5, c6, c7, c32, c33⟩ := (cells w' hS).cells; go_simp <;> with_reducible rfl)
  simp only [Act.put, List.setIfInBounds_toArray, List.set_cons_zero, List.set_cons_succ]
  refine SeqS.call (quiet_call kw1) (by rfl) (by rfl) (fun w => ?_) ?_; · go_simp
  simp only [Act.put, List.setIfInBounds_toArray, List.set_cons_zero, List.set_cons_succ]
  iterate 3 ((refine' SeqS.calm _ (by rfl) (by rfl) (fun w => ?_) ?_; rotate_left; · (go_simp <;> with_reducible rfl)); simp only [Act.put, List.setIfInBounds_toArray, List.set_cons_zero, List.set_cons_succ])
  refine SeqS.call (quiet_call (kh 2)) (by rfl) (by rfl) (fun w => ?_) ?_; · go_simp
  simp only [Act.put, List.setIfInBounds_toArray, List.set_cons_zero, List.set_cons_succ]
  refine' SeqS.calm _ (by rfl) (by rfl) (fun w => ?_) ?_; rotate_left; · (go_simp <;> with_reducible rfl)
  simp only [Act.put, List.setIfInBounds_toArray, List.set_cons_zero, List.set_cons_succ]
  refine' SeqS.take _ (by rfl) (by rfl) (fun p w' hS => ?_) ?_; rotate_left; · (obtain ⟨c0, c1, c2, c3, c4, c5, c6, c7, c32, c33⟩ := (cells w' hS).cells; go_simp <;> with_reducible rfl)
  simp only [Act.put, List.setIfInBounds_toArray, List.set_cons_zero, List.set_cons_succ]
  refine SeqS.call (quiet_call kw2) (by rfl) (by rfl) (fun w => ?_) ?_; · go_simp
  simp only [Act.put, List.setIfInBounds_toArray, List.set_cons_zero, List.set_cons_succ]
  iterate 3 ((refine' SeqS.calm _ (by rfl) (by rfl) (fun w => ?_) ?_; rotate_left; · (go_simp <;> with_reducible rfl)); simp only [Act.put, List.setIfInBounds_toArray, List.set_cons_zero, List.set_cons_succ])
  refine SeqS.call (quiet_call (kh 4)) (by rfl) (by rfl) (fun w => ?_) ?_; · go_simp
  simp only [Act.put, List.setIfInBounds_toArray, List.set_cons_zero, List.set_cons_succ]
  refine' SeqS.calm _ (by rfl) (by rfl) (fun w => ?_) ?_; rotate_left; · (go_simp <;> with_reducible rfl)
  simp only [Act.put, List.setIfInBounds_toArray, List.set_cons_zero, List.set_cons_succ]
  refine' SeqS.take _ (by rfl) (by rfl) (fun p w' hS => ?_) ?_; rotate_left; · (obtain ⟨c0, c1, c2, c3, c4, c5, c6, c7, c32, c33⟩ := (cells w' hS).cells; go_simp <;> with_reducible rfl)
  simp only [Act.put, List.setIfInBounds_toArray, List.set_cons_zero, List.set_cons_succ]
  refine SeqS.call (quiet_call kw3) (by rfl) (by rfl) (fun w => ?_) ?_; · go_simp
  simp only [Act.put, List.setIfInBounds_toArray, List.set_cons_zero, List.set_cons_succ]
  iterate 3 ((refine' SeqS.calm _ (by rfl) (by rfl) (fun w => ?_) ?_; rotate_left; · (go_simp <;> with_reducible rfl)); simp only [Act.put, List.setIfInBounds_toArray, List.set_cons_zero, List.set_cons_succ])
  refine SeqS.call (quiet_call (kh 4)) (by rfl) (by rfl) (fun w => ?_) ?_; · go_simp
  simp only [Act.put, List.setIfInBounds_toArray, List.set_cons_zero, List.set_cons_succ]
  refine' SeqS.calm _ (by rfl) (by rfl) (fun w => ?_) ?_; rotate_left; · (go_simp <;> with_reducible rfl)
  simp only [Act.put, List.setIfInBounds_toArray, List.set_cons_zero, List.set_cons_succ]
  refine' SeqS.take _ (by rfl) (by rfl) (fun p w' hS => ?_) ?_; rotate_left; · (obtain ⟨c0, c1, c2, c3, c4, c5, c6, c7, c32, c33⟩ := (cells w' hS).cells; go_simp <;> with_reducible rfl)
  simp only [Act.put, List.setIfInBounds_toArray, List.set_cons_zero, List.set_cons_succ]
  refine' SeqS.calm _ (by rfl) (by rfl) (fun w => ?_) ?_; rotate_left; · (go_simp <;> with_reducible rfl)
  simp only [Act.put, List.setIfInBounds_toArray, List.set_cons_zero, List.set_cons_succ]
  refine SeqS.call (quiet_call kw4) (by rfl) (by rfl) (fun w => ?_) ?_; · go_simp
  simp only [Act.put, List.setIfInBounds_toArray, List.set_cons_zero, List.set_cons_succ]
  iterate 3 ((refine' SeqS.calm _ (by rfl) (by rfl) (fun w => ?_) ?_; rotate_left; · (go_simp <;> with_reducible rfl)); simp only [Act.put, List.setIfInBounds_toArray, List.set_cons_zero, List.set_cons_succ])
  refine SeqS.call (quiet_call (kh 8)) (by rfl) (by rfl) (fun w => ?_) ?_; · go_simp
  simp only [Act.put, List.setIfInBounds_toArray, List.set_cons_zero, List.set_cons_succ]
  refine' SeqS.calm _ (by rfl) (by rfl) (fun w => ?_) ?_; rotate_left; · (go_simp <;> with_reducible rfl)
  simp only [Act.put, List.setIfInBounds_toArray, List.set_cons_zero, List.set_cons_succ]
  refine' SeqS.take _ (by rfl) (by rfl) (fun p w' hS => ?_) ?_; rotate_left; · (obtain ⟨c0, c1, c2, c3, c4, c5, c6, c7, c32, c33⟩ := (cells w' hS).cells; go_simp <;> with_reducible rfl)
  simp only [Act.put, List.setIfInBounds_toArray, List.set_cons_zero, List.set_cons_succ]
  refine SeqS.call (quiet_call kw5) (by rfl) (by rfl) (fun w => ?_) ?_; · go_simp
  simp only [Act.put, List.setIfInBounds_toArray, List.set_cons_zero, List.set_cons_succ]
  iterate 3 ((refine' SeqS.calm _ (by rfl) (by rfl) (fun w => ?_) ?_; rotate_left; · (go_simp <;> with_reducible rfl)); simp only [Act.put, List.setIfInBounds_toArray, List.set_cons_zero, List.set_cons_succ])
  refine SeqS.call (quiet_call (kh 16)) (by rfl) (by rfl) (fun w => ?_) ?_; · go_simp
  simp only [Act.put, List.setIfInBounds_toArray, List.set_cons_zero, List.set_cons_succ]
  refine' SeqS.calm _ (by rfl) (by rfl) (fun w => ?_) ?_; rotate_left; · (go_simp <;> with_reducible rfl)
  simp only [Act.put, List.setIfInBounds_toArray, List.set_cons_zero, List.set_cons_succ]
  refine SeqS.take _ (by rfl) (by rfl) (fun p w' hS => exec_load_pars _ rfl _ d A c _ rfl (cells w' hS)) ?_
  simp only [Act.put, List.setIfInBounds_toArray, List.set_cons_zero, List.set_cons_succ]
  refine SeqS.call (below_call (Nat.le_refl _) (fun w _ => H6 w)) (by rfl) (by rfl) (fun w => ?_) ?_; · go_simp
  simp only [Act.put, List.setIfInBounds_toArray, List.set_cons_zero, List.set_cons_succ]
  iterate 3 ((refine' SeqS.calm _ (by rfl) (by rfl) (fun w => ?_) ?_; rotate_left; · (go_simp <;> with_reducible rfl)); simp only [Act.put, List.setIfInBounds_toArray, List.set_cons_zero, List.set_cons_succ])
  refine SeqS.call (quiet_call (kh 32)) (by rfl) (by rfl) (fun w => ?_) ?_; · go_simp
  simp only [Act.put, List.setIfInBounds_toArray, List.set_cons_zero, List.set_cons_succ]
  refine' SeqS.calm _ (by rfl) (by rfl) (fun w => ?_) ?_; rotate_left; · (go_simp <;> with_reducible rfl)
  simp only [Act.put, List.setIfInBounds_toArray, List.set_cons_zero, List.set_cons_succ]
  refine' SeqS.take _ (by rfl) (by rfl) (fun p w' hS => ?_) ?_; rotate_left; · (obtain ⟨c0, c1, c2, c3, c4, c5, c6, c7, c32, c33⟩ := (cells w' hS).cells; go_simp <;> with_reducible rfl)
  simp only [Act.put, List.setIfInBounds_toArray, List.set_cons_zero, List.set_cons_succ]
  refine SeqS.call (quiet_call kw7) (by rfl) (by rfl) (fun w => ?_) ?_; · go_simp
  simp only [Act.put, List.setIfInBounds_toArray, List.set_cons_zero, List.set_cons_succ]
  iterate 3 ((refine' SeqS.calm _ (by rfl) (by rfl) (fun w => ?_) ?_; rotate_left; · (go_simp <;> with_reducible rfl)); simp only [Act.put, List.setIfInBounds_toArray, List.set_cons_zero, List.set_cons_succ])
  refine SeqS.call (quiet_call (kh 64)) (by rfl) (by rfl) (fun w => ?_) ?_; · go_simp
  simp only [Act.put, List.setIfInBounds_toArray, List.set_cons_zero, List.set_cons_succ]
  refine' SeqS.calm _ (by rfl) (by rfl) (fun w => ?_) ?_; rotate_left; · (go_simp <;> with_reducible rfl)
  simp only [Act.put, List.setIfInBounds_toArray, List.set_cons_zero, List.set_cons_succ]
  refine' SeqS.take _ (by rfl) (by rfl) (fun p w' hS => ?_) ?_; rotate_left; · (obtain ⟨c0, c1, c2, c3, c4, c5, c6, c7, c32, c33⟩ := (cells w' hS).cells; go_simp <;> with_reducible rfl)
  simp only [Act.put, List.setIfInBounds_toArray, List.set_cons_zero, List.set_cons_succ]
  refine SeqS.call (quiet_call kw8) (by rfl) (by rfl) (fun w => ?_) ?_; · go_simp
  simp only [Act.put, List.setIfInBounds_toArray, List.set_cons_zero, List.set_cons_succ]
  iterate 2 ((refine' SeqS.calm _ (by rfl) (by rfl) (fun w => ?_) ?_; rotate_left; · (go_simp <;> with_reducible rfl)); simp only [Act.put, List.setIfInBounds_toArray, List.set_cons_zero, List.set_cons_succ])
  iterate 5 ((refine SeqS.skip (by rfl) (by rfl) ?_); simp only [Act.put, List.setIfInBounds_toArray, List.set_cons_zero, List.set_cons_succ])
  iterate 2 ((refine' SeqS.calm _ (by rfl) (by rfl) (fun w => ?_) ?_; rotate_left; · (go_simp <;> with_reducible rfl)); simp only [Act.put, List.setIfInBounds_toArray, List.set_cons_zero, List.set_cons_succ])
  iterate 7 ((refine SeqS.skip (by rfl) (by rfl) ?_); simp only [Act.put, List.setIfInBounds_toArray, List.set_cons_zero, List.set_cons_succ])
  iterate 2 ((refine' SeqS.calm _ (by rfl) (by rfl) (fun w => ?_) ?_; rotate_left; · (go_simp <;> with_reducible rfl)); simp only [Act.put, List.setIfInBounds_toArray, List.set_cons_zero, List.set_cons_succ])
  intro w3 hw3
  have hB3 := Below.then hB1 hw3
  go_wp2
  go_ret
  exact ⟨rfl, hB3⟩
set_option maxRecDepth 100000 in
set_option maxHeartbeats 2000000 in
theorem right_n9 (d : Dd) (A : Option Addr) (c : Nat) (f : Int) (w : World) (hm : Hid (d.mask = f)) (H0 : (f != 0) = true) (H1 : inI (hb f 1) d.account 0 63 = true) (H2 : inI (hb f 2) d.member 0 127 = true) (H3 : inI (hb f 4) d.epoch 0 1073741824 = true) (H4 : inI (hb f 4) (d.bits.length : Int) 0 32 = true) (H5 : inI (hb f 8) d.what 1 4 = true) (H6 : ∀ w, Calls Try.prog 83 #[.bool (hb f 16), .agg d.par.vals] w fun e w' => e = .returned (.bool true) ∧ Below w.heap.size w w') (H7 : inI (hb f 32) d.dest 0 63 = true) (H8 : inI (hb f 64) (d.amount : Int) 1 4611686018427387904 = true) (H9 : inI (hb f 128) d.motion 0 31 = false) :
    Calls Try.prog 45 #[.agg (d.vals A c)] w fun e w' => e = .returned (.bool false) ∧ Below w.heap.size w w' := by
  have hD := DeedAt.new w d A c 48
  have hB : Below w.heap.size w (w.alloc (.cells (d.vals A c) 48)) := (Below.refl _ _).alloc (Nat.le_refl _) _
  have ku := fun w => used_is d A c w
  rw [hm.out] at ku
  have kw1 : ∀ w, Calls Try.prog 81 #[.bool (hb f 1), .int .i64 d.account, .int .i64 0, .int .i64 63] w fun e w' => e = .returned (.bool true) ∧ w = w' := fun w => by have := dwithin_i (hb f 1) d.account 0 63 w; rwa [H1] at this
  have kw2 : ∀ w, Calls Try.prog 81 #[.bool (hb f 2), .int .i64 d.member, .int .i64 0, .int .i64 127] w fun e w' => e = .returned (.bool true) ∧ w = w' := fun w => by have := dwithin_i (hb f 2) d.member 0 127 w; rwa [H2] at this
  have kw3 : ∀ w, Calls Try.prog 81 #[.bool (hb f 4), .int .i64 d.epoch, .int .i64 0, .int .i64 1073741824] w fun e w' => e = .returned (.bool true) ∧ w = w' := fun w => by have := dwithin_i (hb f 4) d.epoch 0 1073741824 w; rwa [H3] at this
  have kw4 : ∀ w, Calls Try.prog 81 #[.bool (hb f 4), .int .i64 (d.bits.length : Int), .int .i64 0, .int .i64 32] w fun e w' => e = .returned (.bool true) ∧ w = w' := fun w => by have := dwithin_i (hb f 4) (d.bits.length : Int) 0 32 w; rwa [H4] at this
  have kw5 : ∀ w, Calls Try.prog 81 #[.bool (hb f 8), .int .i64 d.what, .int .i64 1, .int .i64 4] w fun e w' => e = .returned (.bool true) ∧ w = w' := fun w => by have := dwithin_i (hb f 8) d.what 1 4 w; rwa [H5] at this
  have kw7 : ∀ w, Calls Try.prog 81 #[.bool (hb f 32), .int .i64 d.dest, .int .i64 0, .int .i64 63] w fun e w' => e = .returned (.bool true) ∧ w = w' := fun w => by have := dwithin_i (hb f 32) d.dest 0 63 w; rwa [H7] at this
  have kw8 : ∀ w, Calls Try.prog 84 #[.bool (hb f 64), .int .u64 (d.amount : Int), .int .u64 1, .int .u64 4611686018427387904] w fun e w' => e = .returned (.bool true) ∧ w = w' := fun w => by have := dwithin_u (hb f 64) (d.amount : Int) 1 4611686018427387904 w; rwa [H8] at this
  have kw9 : ∀ w, Calls Try.prog 81 #[.bool (hb f 128), .int .i64 d.motion, .int .i64 0, .int .i64 31] w fun e w' => e = .returned (.bool false) ∧ w = w' := fun w => by have := dwithin_i (hb f 128) d.motion 0 31 w; rwa [H9] at this
  have kh : ∀ one w, Calls Try.prog 82 #[.int .i64 f, .int .i64 one] w fun e w' => e = .returned (.bool (hb f one)) ∧ w = w' := fun one w => has_is f one w
  clear hm H1 H2 H3 H4 H5 H7 H8 H9
  go_enter Try.func45, Try.ntmps45
  go_wp2_with (first
    | (refine load_deed _ rfl rfl _ d A c _ rfl (by assumption) ?_)
    | (go_at_call 80; refine (ku _).mono ?_; clear ku; rintro e w1 ⟨rfl, hb1⟩; have hD1 := hD.next hb1; have hB1 := Below.then hB hb1; obtain ⟨c0, c1, c2, c3, c4, c5, c6, c7, c32, c33⟩ := hD1.cells))
  dsimp only [List.append_eq, List.cons_append, List.nil_append]
  have hl1 := hD1.lt
  have cells : ∀ w', Below w1.heap.size w1 w' → DeedAt w' w.heap.size d A c 48 := fun w' h => hD1.next h
  clear c0 c1 c2 c3 c4 c5 c6 c7 c32 c33 hD hD1
  refine region_list [] (fun _ w' => Below w1.heap.size w1 w') (by kernel_rfl) (by kernel_rfl) (Below.refl _ _).drew ?_
  iterate 4 ((refine' SeqS.calm _ (by rfl) (by rfl) (fun w => ?_) ?_; rotate_left; · (go_simp <;> with_reducible rfl)); simp only [Act.put, List.setIfInBounds_toArray, List.set_cons_zero, List.set_cons_succ])
  refine SeqS.call (quiet_call (kh 1)) (by rfl) (by rfl) (fun w => ?_) ?_; · go_simp
  simp only [Act.put, List.setIfInBounds_toArray, List.set_cons_zero, List.set_cons_succ]
  refine' SeqS.calm _ (by rfl) (by rfl) (fun w => ?_) ?_; rotate_left; · (go_simp <;> with_reducible rfl)
  simp only [Act.put, List.setIfInBounds_toArray, List.set_cons_zero, List.set_cons_succ]
  refine' SeqS.take _ (by rfl) (by rfl) (fun p w' hS => ?_) ?_; rotate_left; · (obtain ⟨c0, c1, c2, c3, c4, c5, c6, c7, c32, c33⟩ := (cells w' hS).cells; go_simp <;> with_reducible rfl)
  simp only [Act.put, List.setIfInBounds_toArray, List.set_cons_zero, List.set_cons_succ]
  refine SeqS.call (quiet_call kw1) (by rfl) (by rfl) (fun w => ?_) ?_; · go_simp
  simp only [Act.put, List.setIfInBounds_toArray, List.set_cons_zero, List.set_cons_succ]
  iterate 3 ((refine' SeqS.calm _ (by rfl) (by rfl) (fun w => ?_) ?_; rotate_left; · (go_simp <;> with_reducible rfl)); simp only [Act.put, List.setIfInBounds_toArray, List.set_cons_zero, List.set_cons_succ])
  refine SeqS.call (quiet_call (kh 2)) (by rfl) (by rfl) (fun w => ?_) ?_; · go_simp
  simp only [Act.put, List.setIfInBounds_toArray, List.set_cons_zero, List.set_cons_succ]
  refine' SeqS.calm _ (by rfl) (by rfl) (fun w => ?_) ?_; rotate_left; · (go_simp <;> with_reducible rfl)
  simp only [Act.put, List.setIfInBounds_toArray, List.set_cons_zero, List.set_cons_succ]
  refine' SeqS.take _ (by rfl) (by rfl) (fun p w' hS => ?_) ?_; rotate_left; · (obtain ⟨c0, c1, c2, c3, c4, c5, c6, c7, c32, c33⟩ := (cells w' hS).cells; go_simp <;> with_reducible rfl)
  simp only [Act.put, List.setIfInBounds_toArray, List.set_cons_zero, List.set_cons_succ]
  refine SeqS.call (quiet_call kw2) (by rfl) (by rfl) (fun w => ?_) ?_; · go_simp
  simp only [Act.put, List.setIfInBounds_toArray, List.set_cons_zero, List.set_cons_succ]
  iterate 3 ((refine' SeqS.calm _ (by rfl) (by rfl) (fun w => ?_) ?_; rotate_left; · (go_simp <;> with_reducible rfl)); simp only [Act.put, List.setIfInBounds_toArray, List.set_cons_zero, List.set_cons_succ])
  refine SeqS.call (quiet_call (kh 4)) (by rfl) (by rfl) (fun w => ?_) ?_; · go_simp
  simp only [Act.put, List.setIfInBounds_toArray, List.set_cons_zero, List.set_cons_succ]
  refine' SeqS.calm _ (by rfl) (by rfl) (fun w => ?_) ?_; rotate_left; · (go_simp <;> with_reducible rfl)
  simp only [Act.put, List.setIfInBounds_toArray, List.set_cons_zero, List.set_cons_succ]
  refine' SeqS.take _ (by rfl) (by rfl) (fun p w' hS => ?_) ?_; rotate_left; · (obtain ⟨c0, c1, c2, c3, c4, c5, c6, c7, c32, c33⟩ := (cells w' hS).cells; go_simp <;> with_reducible rfl)
  simp only [Act.put, List.setIfInBounds_toArray, List.set_cons_zero, List.set_cons_succ]
  refine SeqS.call (quiet_call kw3) (by rfl) (by rfl) (fun w => ?_) ?_; · go_simp
  simp only [Act.put, List.setIfInBounds_toArray, List.set_cons_zero, List.set_cons_succ]
  iterate 3 ((refine' SeqS.calm _ (by rfl) (by rfl) (fun w => ?_) ?_; rotate_left; · (go_simp <;> with_reducible rfl)); simp only [Act.put, List.setIfInBounds_toArray, List.set_cons_zero, List.set_cons_succ])
  refine SeqS.call (quiet_call (kh 4)) (by rfl) (by rfl) (fun w => ?_) ?_; · go_simp
  simp only [Act.put, List.setIfInBounds_toArray, List.set_cons_zero, List.set_cons_succ]
  refine' SeqS.calm _ (by rfl) (by rfl) (fun w => ?_) ?_; rotate_left; · (go_simp <;> with_reducible rfl)
  simp only [Act.put, List.setIfInBounds_toArray, List.set_cons_zero, List.set_cons_succ]
  refine' SeqS.take _ (by rfl) (by rfl) (fun p w' hS => ?_) ?_; rotate_left; · (obtain ⟨c0, c1, c2, c3, c4, c5, c6, c7, c32, c33⟩ := (cells w' hS).cells; go_simp <;> with_reducible rfl)
  simp only [Act.put, List.setIfInBounds_toArray, List.set_cons_zero, List.set_cons_succ]
  refine' SeqS.calm _ (by rfl) (by rfl) (fun w => ?_) ?_; rotate_left; · (go_simp <;> with_reducible rfl)
  simp only [Act.put, List.setIfInBounds_toArray, List.set_cons_zero, List.set_cons_succ]
  refine SeqS.call (quiet_call kw4) (by rfl) (by rfl) (fun w => ?_) ?_; · go_simp
  simp only [Act.put, List.setIfInBounds_toArray, List.set_cons_zero, List.set_cons_succ]
  iterate 3 ((refine' SeqS.calm _ (by rfl) (by rfl) (fun w => ?_) ?_; rotate_left; · (go_simp <;> with_reducible rfl)); simp only [Act.put, List.setIfInBounds_toArray, List.set_cons_zero, List.set_cons_succ])
  refine SeqS.call (quiet_call (kh 8)) (by rfl) (by rfl) (fun w => ?_) ?_; · go_simp
  simp only [Act.put, List.setIfInBounds_toArray, List.set_cons_zero, List.set_cons_succ]
  refine' SeqS.calm _ (by rfl) (by rfl) (fun w => ?_) ?_; rotate_left; · (go_simp <;> with_reducible rfl)
  simp only [Act.put, List.setIfInBounds_toArray, List.set_cons_zero, List.set_cons_succ]
  refine' SeqS.take _ (by rfl) (by rfl) (fun p w' hS => ?_) ?_; rotate_left; · (obtain ⟨c0, c1, c2, c3, c4, c5, c6, c7, c32, c33⟩ := (cells w' hS).cells; go_simp <;> with_reducible rfl)
  simp only [Act.put, List.setIfInBounds_toArray, List.set_cons_zero, List.set_cons_succ]
  refine SeqS.call (quiet_call kw5) (by rfl) (by rfl) (fun w => ?_) ?_; · go_simp
  simp only [Act.put, List.setIfInBounds_toArray, List.set_cons_zero, List.set_cons_succ]
  iterate 3 ((refine' SeqS.calm _ (by rfl) (by rfl) (fun w => ?_) ?_; rotate_left; · (go_simp <;> with_reducible rfl)); simp only [Act.put, List.setIfInBounds_toArray, List.set_cons_zero, List.set_cons_succ])
  refine SeqS.call (quiet_call (kh 16)) (by rfl) (by rfl) (fun w => ?_) ?_; · go_simp
  simp only [Act.put, List.setIfInBounds_toArray, List.set_cons_zero, List.set_cons_succ]
  refine' SeqS.calm _ (by rfl) (by rfl) (fun w => ?_) ?_; rotate_left; · (go_simp <;> with_reducible rfl)
  simp only [Act.put, List.setIfInBounds_toArray, List.set_cons_zero, List.set_cons_succ]
  refine SeqS.take _ (by rfl) (by rfl) (fun p w' hS => exec_load_pars _ rfl _ d A c _ rfl (cells w' hS)) ?_
  simp only [Act.put, List.setIfInBounds_toArray, List.set_cons_zero, List.set_cons_succ]
  refine SeqS.call (below_call (Nat.le_refl _) (fun w _ => H6 w)) (by rfl) (by rfl) (fun w => ?_) ?_; · go_simp
  simp only [Act.put, List.setIfInBounds_toArray, List.set_cons_zero, List.set_cons_succ]
  iterate 3 ((refine' SeqS.calm _ (by rfl) (by rfl) (fun w => ?_) ?_; rotate_left; · (go_simp <;> with_reducible rfl)); simp only [Act.put, List.setIfInBounds_toArray, List.set_cons_zero, List.set_cons_succ])
  refine SeqS.call (quiet_call (kh 32)) (by rfl) (by rfl) (fun w => ?_) ?_; · go_simp
  simp only [Act.put, List.setIfInBounds_toArray, List.set_cons_zero, List.set_cons_succ]
  refine' SeqS.calm _ (by rfl) (by rfl) (fun w => ?_) ?_; rotate_left; · (go_simp <;> with_reducible rfl)
  simp only [Act.put, List.setIfInBounds_toArray, List.set_cons_zero, List.set_cons_succ]
  refine' SeqS.take _ (by rfl) (by rfl) (fun p w' hS => ?_) ?_; rotate_left; · (obtain ⟨c0, c1, c2, c3, c4, c5, c6, c7, c32, c33⟩ := (cells w' hS).cells; go_simp <;> with_reducible rfl)
  simp only [Act.put, List.setIfInBounds_toArray, List.set_cons_zero, List.set_cons_succ]
  refine SeqS.call (quiet_call kw7) (by rfl) (by rfl) (fun w => ?_) ?_; · go_simp
  simp only [Act.put, List.setIfInBounds_toArray, List.set_cons_zero, List.set_cons_succ]
  iterate 3 ((refine' SeqS.calm _ (by rfl) (by rfl) (fun w => ?_) ?_; rotate_left; · (go_simp <;> with_reducible rfl)); simp only [Act.put, List.setIfInBounds_toArray, List.set_cons_zero, List.set_cons_succ])
  refine SeqS.call (quiet_call (kh 64)) (by rfl) (by rfl) (fun w => ?_) ?_; · go_simp
  simp only [Act.put, List.setIfInBounds_toArray, List.set_cons_zero, List.set_cons_succ]
  refine' SeqS.calm _ (by rfl) (by rfl) (fun w => ?_) ?_; rotate_left; · (go_simp <;> with_reducible rfl)
  simp only [Act.put, List.setIfInBounds_toArray, List.set_cons_zero, List.set_cons_succ]
  refine' SeqS.take _ (by rfl) (by rfl) (fun p w' hS => ?_) ?_; rotate_left; · (obtain ⟨c0, c1, c2, c3, c4, c5, c6, c7, c32, c33⟩ := (cells w' hS).cells; go_simp <;> with_reducible rfl)
  simp only [Act.put, List.setIfInBounds_toArray, List.set_cons_zero, List.set_cons_succ]
  refine SeqS.call (quiet_call kw8) (by rfl) (by rfl) (fun w => ?_) ?_; · go_simp
  simp only [Act.put, List.setIfInBounds_toArray, List.set_cons_zero, List.set_cons_succ]
  iterate 3 ((refine' SeqS.calm _ (by rfl) (by rfl) (fun w => ?_) ?_; rotate_left; · (go_simp <;> with_reducible rfl)); simp only [Act.put, List.setIfInBounds_toArray, List.set_cons_zero, List.set_cons_succ])
  refine SeqS.call (quiet_call (kh 128)) (by rfl) (by rfl) (fun w => ?_) ?_; · go_simp
  simp only [Act.put, List.setIfInBounds_toArray, List.set_cons_zero, List.set_cons_succ]
  refine' SeqS.calm _ (by rfl) (by rfl) (fun w => ?_) ?_; rotate_left; · (go_simp <;> with_reducible rfl)
  simp only [Act.put, List.setIfInBounds_toArray, List.set_cons_zero, List.set_cons_succ]
  refine' SeqS.take _ (by rfl) (by rfl) (fun p w' hS => ?_) ?_; rotate_left; · (obtain ⟨c0, c1, c2, c3, c4, c5, c6, c7, c32, c33⟩ := (cells w' hS).cells; go_simp <;> with_reducible rfl)
  simp only [Act.put, List.setIfInBounds_toArray, List.set_cons_zero, List.set_cons_succ]
  refine SeqS.call (quiet_call kw9) (by rfl) (by rfl) (fun w => ?_) ?_; · go_simp
  simp only [Act.put, List.setIfInBounds_toArray, List.set_cons_zero, List.set_cons_succ]
  iterate 2 ((refine' SeqS.calm _ (by rfl) (by rfl) (fun w => ?_) ?_; rotate_left; · (go_simp <;> with_reducible rfl)); simp only [Act.put, List.setIfInBounds_toArray, List.set_cons_zero, List.set_cons_succ])
  iterate 7 ((refine SeqS.skip (by rfl) (by rfl) ?_); simp only [Act.put, List.setIfInBounds_toArray, List.set_cons_zero, List.set_cons_succ])
  iterate 2 ((refine' SeqS.calm _ (by rfl) (by rfl) (fun w => ?_) ?_; rotate_left; · (go_simp <;> with_reducible rfl)); simp only [Act.put, List.setIfInBounds_toArray, List.set_cons_zero, List.set_cons_succ])
  intro w3 hw3
  have hB3 := Below.then hB1 hw3
  go_wp2
  go_ret
  exact ⟨rfl, hB3⟩
set_option maxRecDepth 100000 in
set_option maxHeartbeats 2000000 in
theorem right_n10 (d : Dd) (A : Option Addr) (c : Nat) (f : Int) (w : World) (hm : Hid (d.mask = f)) (H0 : (f != 0) = true) (H1 : inI (hb f 1) d.account 0 63 = true) (H2 : inI (hb f 2) d.member 0 127 = true) (H3 : inI (hb f 4) d.epoch 0 1073741824 = true) (H4 : inI (hb f 4) (d.bits.length : Int) 0 32 = true) (H5 : inI (hb f 8) d.what 1 4 = true) (H6 : ∀ w, Calls Try.prog 83 #[.bool (hb f 16), .agg d.par.vals] w fun e w' => e = .returned (.bool true) ∧ Below w.heap.size w w') (H7 : inI (hb f 32) d.dest 0 63 = true) (H8 : inI (hb f 64) (d.amount : Int) 1 4611686018427387904 = true) (H9 : inI (hb f 128) d.motion 0 31 = true) (V : hb f 128 = false) (Y : d.yes = true) :
    Calls Try.prog 45 #[.agg (d.vals A c)] w fun e w' => e = .returned (.bool false) ∧ Below w.heap.size w w' := by
  have hD := DeedAt.new w d A c 48
  have hB : Below w.heap.size w (w.alloc (.cells (d.vals A c) 48)) := (Below.refl _ _).alloc (Nat.le_refl _) _
  have ku := fun w => used_is d A c w
  rw [hm.out] at ku
  have kw1 : ∀ w, Calls Try.prog 81 #[.bool (hb f 1), .int .i64 d.account, .int .i64 0, .int .i64 63] w fun e w' => e = .returned (.bool true) ∧ w = w' := fun w => by have := dwithin_i (hb f 1) d.account 0 63 w; rwa [H1] at this
  have kw2 : ∀ w, Calls Try.prog 81 #[.bool (hb f 2), .int .i64 d.member, .int .i64 0, .int .i64 127] w fun e w' => e = .returned (.bool true) ∧ w = w' := fun w => by have := dwithin_i (hb f 2) d.member 0 127 w; rwa [H2] at this
  have kw3 : ∀ w, Calls Try.prog 81 #[.bool (hb f 4), .int .i64 d.epoch, .int .i64 0, .int .i64 1073741824] w fun e w' => e = .returned (.bool true) ∧ w = w' := fun w => by have := dwithin_i (hb f 4) d.epoch 0 1073741824 w; rwa [H3] at this
  have kw4 : ∀ w, Calls Try.prog 81 #[.bool (hb f 4), .int .i64 (d.bits.length : Int), .int .i64 0, .int .i64 32] w fun e w' => e = .returned (.bool true) ∧ w = w' := fun w => by have := dwithin_i (hb f 4) (d.bits.length : Int) 0 32 w; rwa [H4] at this
  have kw5 : ∀ w, Calls Try.prog 81 #[.bool (hb f 8), .int .i64 d.what, .int .i64 1, .int .i64 4] w fun e w' => e = .returned (.bool true) ∧ w = w' := fun w => by have := dwithin_i (hb f 8) d.what 1 4 w; rwa [H5] at this
  have kw7 : ∀ w, Calls Try.prog 81 #[.bool (hb f 32), .int .i64 d.dest, .int .i64 0, .int .i64 63] w fun e w' => e = .returned (.bool true) ∧ w = w' := fun w => by have := dwithin_i (hb f 32) d.dest 0 63 w; rwa [H7] at this
  have kw8 : ∀ w, Calls Try.prog 84 #[.bool (hb f 64), .int .u64 (d.amount : Int), .int .u64 1, .int .u64 4611686018427387904] w fun e w' => e = .returned (.bool true) ∧ w = w' := fun w => by have := dwithin_u (hb f 64) (d.amount : Int) 1 4611686018427387904 w; rwa [H8] at this
  have kw9 : ∀ w, Calls Try.prog 81 #[.bool (hb f 128), .int .i64 d.motion, .int .i64 0, .int .i64 31] w fun e w' => e = .returned (.bool true) ∧ w = w' := fun w => by have := dwithin_i (hb f 128) d.motion 0 31 w; rwa [H9] at this
  have kh : ∀ one w, Calls Try.prog 82 #[.int .i64 f, .int .i64 one] w fun e w' => e = .returned (.bool (hb f one)) ∧ w = w' := fun one w => has_is f one w
  have kv : ∀ w, Calls Try.prog 82 #[.int .i64 f, .int .i64 128] w fun e w' => e = .returned (.bool false) ∧ w = w' := fun w => by have := has_is f 128 w; rwa [V] at this
  rw [V] at kw9
  clear hm H1 H2 H3 H4 H5 H7 H8 H9 V
  go_enter Try.func45, Try.ntmps45
  go_wp2_with (first
    | (refine load_deed _ rfl rfl _ d A c _ rfl (by assumption) ?_)
    | (go_at_call 80; refine (ku _).mono ?_; clear ku; rintro e w1 ⟨rfl, hb1⟩; have hD1 := hD.next hb1; have hB1 := Below.then hB hb1; obtain ⟨c0, c1, c2, c3, c4, c5, c6, c7, c32, c33⟩ := hD1.cells; rw [Y] at c33))
  dsimp only [List.append_eq, List.cons_append, List.nil_append]
  have hl1 := hD1.lt
  have cells : ∀ w', Below w1.heap.size w1 w' → DeedAt w' w.heap.size d A c 48 := fun w' h => hD1.next h
  clear c0 c1 c2 c3 c4 c5 c6 c7 c32 c33 hD hD1
  refine region_list [] (fun _ w' => Below w1.heap.size w1 w') (by kernel_rfl) (by kernel_rfl) (Below.refl _ _).drew ?_
  iterate 4 ((refine' SeqS.calm _ (by rfl) (by rfl) (fun w => ?_) ?_; rotate_left; · (go_simp <;> with_reducible rfl)); simp only [Act.put, List.setIfInBounds_toArray, List.set_cons_zero, List.set_cons_succ])
  refine SeqS.call (quiet_call (kh 1)) (by rfl) (by rfl) (fun w => ?_) ?_; · go_simp
  simp only [Act.put, List.setIfInBounds_toArray, List.set_cons_zero, List.set_cons_succ]
  refine' SeqS.calm _ (by rfl) (by rfl) (fun w => ?_) ?_; rotate_left; · (go_simp <;> with_reducible rfl)
  simp only [Act.put, List.setIfInBounds_toArray, List.set_cons_zero, List.set_cons_succ]
  refine' SeqS.take _ (by rfl) (by rfl) (fun p w' hS => ?_) ?_; rotate_left; · (obtain ⟨c0, c1, c2, c3, c4, c5, c6, c7, c32, c33⟩ := (cells w' hS).cells; rw [Y] at c33; go_simp <;> with_reducible rfl)
  simp only [Act.put, List.setIfInBounds_toArray, List.set_cons_zero, List.set_cons_succ]
  refine SeqS.call (quiet_call kw1) (by rfl) (by rfl) (fun w => ?_) ?_; · go_simp
  simp only [Act.put, List.setIfInBounds_toArray, List.set_cons_zero, List.set_cons_succ]
  iterate 3 ((refine' SeqS.calm _ (by rfl) (by rfl) (fun w => ?_) ?_; rotate_left; · (go_simp <;> with_reducible rfl)); simp only [Act.put, List.setIfInBounds_toArray, List.set_cons_zero, List.set_cons_succ])
  refine SeqS.call (quiet_call (kh 2)) (by rfl) (by rfl) (fun w => ?_) ?_; · go_simp
  simp only [Act.put, List.setIfInBounds_toArray, List.set_cons_zero, List.set_cons_succ]
  refine' SeqS.calm _ (by rfl) (by rfl) (fun w => ?_) ?_; rotate_left; · (go_simp <;> with_reducible rfl)
  simp only [Act.put, List.setIfInBounds_toArray, List.set_cons_zero, List.set_cons_succ]
  refine' SeqS.take _ (by rfl) (by rfl) (fun p w' hS => ?_) ?_; rotate_left; · (obtain ⟨c0, c1, c2, c3, c4, c5, c6, c7, c32, c33⟩ := (cells w' hS).cells; rw [Y] at c33; go_simp <;> with_reducible rfl)
  simp only [Act.put, List.setIfInBounds_toArray, List.set_cons_zero, List.set_cons_succ]
  refine SeqS.call (quiet_call kw2) (by rfl) (by rfl) (fun w => ?_) ?_; · go_simp
  simp only [Act.put, List.setIfInBounds_toArray, List.set_cons_zero, List.set_cons_succ]
  iterate 3 ((refine' SeqS.calm _ (by rfl) (by rfl) (fun w => ?_) ?_; rotate_left; · (go_simp <;> with_reducible rfl)); simp only [Act.put, List.setIfInBounds_toArray, List.set_cons_zero, List.set_cons_succ])
  refine SeqS.call (quiet_call (kh 4)) (by rfl) (by rfl) (fun w => ?_) ?_; · go_simp
  simp only [Act.put, List.setIfInBounds_toArray, List.set_cons_zero, List.set_cons_succ]
  refine' SeqS.calm _ (by rfl) (by rfl) (fun w => ?_) ?_; rotate_left; · (go_simp <;> with_reducible rfl)
  simp only [Act.put, List.setIfInBounds_toArray, List.set_cons_zero, List.set_cons_succ]
  refine' SeqS.take _ (by rfl) (by rfl) (fun p w' hS => ?_) ?_; rotate_left; · (obtain ⟨c0, c1, c2, c3, c4, c5, c6, c7, c32, c33⟩ := (cells w' hS).cells; rw [Y] at c33; go_simp <;> with_reducible rfl)
  simp only [Act.put, List.setIfInBounds_toArray, List.set_cons_zero, List.set_cons_succ]
  refine SeqS.call (quiet_call kw3) (by rfl) (by rfl) (fun w => ?_) ?_; · go_simp
  simp only [Act.put, List.setIfInBounds_toArray, List.set_cons_zero, List.set_cons_succ]
  iterate 3 ((refine' SeqS.calm _ (by rfl) (by rfl) (fun w => ?_) ?_; rotate_left; · (go_simp <;> with_reducible rfl)); simp only [Act.put, List.setIfInBounds_toArray, List.set_cons_zero, List.set_cons_succ])
  refine SeqS.call (quiet_call (kh 4)) (by rfl) (by rfl) (fun w => ?_) ?_; · go_simp
  simp only [Act.put, List.setIfInBounds_toArray, List.set_cons_zero, List.set_cons_succ]
  refine' SeqS.calm _ (by rfl) (by rfl) (fun w => ?_) ?_; rotate_left; · (go_simp <;> with_reducible rfl)
  simp only [Act.put, List.setIfInBounds_toArray, List.set_cons_zero, List.set_cons_succ]
  refine' SeqS.take _ (by rfl) (by rfl) (fun p w' hS => ?_) ?_; rotate_left; · (obtain ⟨c0, c1, c2, c3, c4, c5, c6, c7, c32, c33⟩ := (cells w' hS).cells; rw [Y] at c33; go_simp <;> with_reducible rfl)
  simp only [Act.put, List.setIfInBounds_toArray, List.set_cons_zero, List.set_cons_succ]
  refine' SeqS.calm _ (by rfl) (by rfl) (fun w => ?_) ?_; rotate_left; · (go_simp <;> with_reducible rfl)
  simp only [Act.put, List.setIfInBounds_toArray, List.set_cons_zero, List.set_cons_succ]
  refine SeqS.call (quiet_call kw4) (by rfl) (by rfl) (fun w => ?_) ?_; · go_simp
  simp only [Act.put, List.setIfInBounds_toArray, List.set_cons_zero, List.set_cons_succ]
  iterate 3 ((refine' SeqS.calm _ (by rfl) (by rfl) (fun w => ?_) ?_; rotate_left; · (go_simp <;> with_reducible rfl)); simp only [Act.put, List.setIfInBounds_toArray, List.set_cons_zero, List.set_cons_succ])
  refine SeqS.call (quiet_call (kh 8)) (by rfl) (by rfl) (fun w => ?_) ?_; · go_simp
  simp only [Act.put, List.setIfInBounds_toArray, List.set_cons_zero, List.set_cons_succ]
  refine' SeqS.calm _ (by rfl) (by rfl) (fun w => ?_) ?_; rotate_left; · (go_simp <;> with_reducible rfl)
  simp only [Act.put, List.setIfInBounds_toArray, List.set_cons_zero, List.set_cons_succ]
  refine' SeqS.take _ (by rfl) (by rfl) (fun p w' hS => ?_) ?_; rotate_left; · (obtain ⟨c0, c1, c2, c3, c4, c5, c6, c7, c32, c33⟩ := (cells w' hS).cells; rw [Y] at c33; go_simp <;> with_reducible rfl)
  simp only [Act.put, List.setIfInBounds_toArray, List.set_cons_zero, List.set_cons_succ]
  refine SeqS.call (quiet_call kw5) (by rfl) (by rfl) (fun w => ?_) ?_; · go_simp
  simp only [Act.put, List.setIfInBounds_toArray, List.set_cons_zero, List.set_cons_succ]
  iterate 3 ((refine' SeqS.calm _ (by rfl) (by rfl) (fun w => ?_) ?_; rotate_left; · (go_simp <;> with_reducible rfl)); simp only [Act.put, List.setIfInBounds_toArray, List.set_cons_zero, List.set_cons_succ])
  refine SeqS.call (quiet_call (kh 16)) (by rfl) (by rfl) (fun w => ?_) ?_; · go_simp
  simp only [Act.put, List.setIfInBounds_toArray, List.set_cons_zero, List.set_cons_succ]
  refine' SeqS.calm _ (by rfl) (by rfl) (fun w => ?_) ?_; rotate_left; · (go_simp <;> with_reducible rfl)
  simp only [Act.put, List.setIfInBounds_toArray, List.set_cons_zero, List.set_cons_succ]
  refine SeqS.take _ (by rfl) (by rfl) (fun p w' hS => exec_load_pars _ rfl _ d A c _ rfl (cells w' hS)) ?_
  simp only [Act.put, List.setIfInBounds_toArray, List.set_cons_zero, List.set_cons_succ]
  refine SeqS.call (below_call (Nat.le_refl _) (fun w _ => H6 w)) (by rfl) (by rfl) (fun w => ?_) ?_; · go_simp
  simp only [Act.put, List.setIfInBounds_toArray, List.set_cons_zero, List.set_cons_succ]
  iterate 3 ((refine' SeqS.calm _ (by rfl) (by rfl) (fun w => ?_) ?_; rotate_left; · (go_simp <;> with_reducible rfl)); simp only [Act.put, List.setIfInBounds_toArray, List.set_cons_zero, List.set_cons_succ])
  refine SeqS.call (quiet_call (kh 32)) (by rfl) (by rfl) (fun w => ?_) ?_; · go_simp
  simp only [Act.put, List.setIfInBounds_toArray, List.set_cons_zero, List.set_cons_succ]
  refine' SeqS.calm _ (by rfl) (by rfl) (fun w => ?_) ?_; rotate_left; · (go_simp <;> with_reducible rfl)
  simp only [Act.put, List.setIfInBounds_toArray, List.set_cons_zero, List.set_cons_succ]
  refine' SeqS.take _ (by rfl) (by rfl) (fun p w' hS => ?_) ?_; rotate_left; · (obtain ⟨c0, c1, c2, c3, c4, c5, c6, c7, c32, c33⟩ := (cells w' hS).cells; rw [Y] at c33; go_simp <;> with_reducible rfl)
  simp only [Act.put, List.setIfInBounds_toArray, List.set_cons_zero, List.set_cons_succ]
  refine SeqS.call (quiet_call kw7) (by rfl) (by rfl) (fun w => ?_) ?_; · go_simp
  simp only [Act.put, List.setIfInBounds_toArray, List.set_cons_zero, List.set_cons_succ]
  iterate 3 ((refine' SeqS.calm _ (by rfl) (by rfl) (fun w => ?_) ?_; rotate_left; · (go_simp <;> with_reducible rfl)); simp only [Act.put, List.setIfInBounds_toArray, List.set_cons_zero, List.set_cons_succ])
  refine SeqS.call (quiet_call (kh 64)) (by rfl) (by rfl) (fun w => ?_) ?_; · go_simp
  simp only [Act.put, List.setIfInBounds_toArray, List.set_cons_zero, List.set_cons_succ]
  refine' SeqS.calm _ (by rfl) (by rfl) (fun w => ?_) ?_; rotate_left; · (go_simp <;> with_reducible rfl)
  simp only [Act.put, List.setIfInBounds_toArray, List.set_cons_zero, List.set_cons_succ]
  refine' SeqS.take _ (by rfl) (by rfl) (fun p w' hS => ?_) ?_; rotate_left; · (obtain ⟨c0, c1, c2, c3, c4, c5, c6, c7, c32, c33⟩ := (cells w' hS).cells; rw [Y] at c33; go_simp <;> with_reducible rfl)
  simp only [Act.put, List.setIfInBounds_toArray, List.set_cons_zero, List.set_cons_succ]
  refine SeqS.call (quiet_call kw8) (by rfl) (by rfl) (fun w => ?_) ?_; · go_simp
  simp only [Act.put, List.setIfInBounds_toArray, List.set_cons_zero, List.set_cons_succ]
  iterate 3 ((refine' SeqS.calm _ (by rfl) (by rfl) (fun w => ?_) ?_; rotate_left; · (go_simp <;> with_reducible rfl)); simp only [Act.put, List.setIfInBounds_toArray, List.set_cons_zero, List.set_cons_succ])
  refine SeqS.call (quiet_call kv) (by rfl) (by rfl) (fun w => ?_) ?_; · go_simp
  simp only [Act.put, List.setIfInBounds_toArray, List.set_cons_zero, List.set_cons_succ]
  refine' SeqS.calm _ (by rfl) (by rfl) (fun w => ?_) ?_; rotate_left; · (go_simp <;> with_reducible rfl)
  simp only [Act.put, List.setIfInBounds_toArray, List.set_cons_zero, List.set_cons_succ]
  refine' SeqS.take _ (by rfl) (by rfl) (fun p w' hS => ?_) ?_; rotate_left; · (obtain ⟨c0, c1, c2, c3, c4, c5, c6, c7, c32, c33⟩ := (cells w' hS).cells; rw [Y] at c33; go_simp <;> with_reducible rfl)
  simp only [Act.put, List.setIfInBounds_toArray, List.set_cons_zero, List.set_cons_succ]
  refine SeqS.call (quiet_call kw9) (by rfl) (by rfl) (fun w => ?_) ?_; · go_simp
  simp only [Act.put, List.setIfInBounds_toArray, List.set_cons_zero, List.set_cons_succ]
  iterate 3 ((refine' SeqS.calm _ (by rfl) (by rfl) (fun w => ?_) ?_; rotate_left; · (go_simp <;> with_reducible rfl)); simp only [Act.put, List.setIfInBounds_toArray, List.set_cons_zero, List.set_cons_succ])
  refine SeqS.call (quiet_call kv) (by rfl) (by rfl) (fun w => ?_) ?_; · go_simp
  simp only [Act.put, List.setIfInBounds_toArray, List.set_cons_zero, List.set_cons_succ]
  iterate 2 ((refine' SeqS.calm _ (by rfl) (by rfl) (fun w => ?_) ?_; rotate_left; · (go_simp <;> with_reducible rfl)); simp only [Act.put, List.setIfInBounds_toArray, List.set_cons_zero, List.set_cons_succ])
  refine' SeqS.take _ (by rfl) (by rfl) (fun p w' hS => ?_) ?_; rotate_left; · (obtain ⟨c0, c1, c2, c3, c4, c5, c6, c7, c32, c33⟩ := (cells w' hS).cells; rw [Y] at c33; go_simp <;> with_reducible rfl)
  simp only [Act.put, List.setIfInBounds_toArray, List.set_cons_zero, List.set_cons_succ]
  iterate 4 ((refine' SeqS.calm _ (by rfl) (by rfl) (fun w => ?_) ?_; rotate_left; · (go_simp <;> with_reducible rfl)); simp only [Act.put, List.setIfInBounds_toArray, List.set_cons_zero, List.set_cons_succ])
  intro w3 hw3
  have hB3 := Below.then hB1 hw3
  go_wp2
  go_ret
  exact ⟨rfl, hB3⟩
set_option maxRecDepth 100000 in
set_option maxHeartbeats 2000000 in
theorem right_y1 (d : Dd) (A : Option Addr) (c : Nat) (f : Int) (w : World) (hm : Hid (d.mask = f)) (H0 : (f != 0) = true) (H1 : inI (hb f 1) d.account 0 63 = true) (H2 : inI (hb f 2) d.member 0 127 = true) (H3 : inI (hb f 4) d.epoch 0 1073741824 = true) (H4 : inI (hb f 4) (d.bits.length : Int) 0 32 = true) (H5 : inI (hb f 8) d.what 1 4 = true) (H6 : ∀ w, Calls Try.prog 83 #[.bool (hb f 16), .agg d.par.vals] w fun e w' => e = .returned (.bool true) ∧ Below w.heap.size w w') (H7 : inI (hb f 32) d.dest 0 63 = true) (H8 : inI (hb f 64) (d.amount : Int) 1 4611686018427387904 = true) (H9 : inI (hb f 128) d.motion 0 31 = true) (V : hb f 128 = true) :
    Calls Try.prog 45 #[.agg (d.vals A c)] w fun e w' => e = .returned (.bool true) ∧ Below w.heap.size w w' := by
  have hD := DeedAt.new w d A c 48
  have hB : Below w.heap.size w (w.alloc (.cells (d.vals A c) 48)) := (Below.refl _ _).alloc (Nat.le_refl _) _
  have ku := fun w => used_is d A c w
  rw [hm.out] at ku
  have kw1 : ∀ w, Calls Try.prog 81 #[.bool (hb f 1), .int .i64 d.account, .int .i64 0, .int .i64 63] w fun e w' => e = .returned (.bool true) ∧ w = w' := fun w => by have := dwithin_i (hb f 1) d.account 0 63 w; rwa [H1] at this
  have kw2 : ∀ w, Calls Try.prog 81 #[.bool (hb f 2), .int .i64 d.member, .int .i64 0, .int .i64 127] w fun e w' => e = .returned (.bool true) ∧ w = w' := fun w => by have := dwithin_i (hb f 2) d.member 0 127 w; rwa [H2] at this
  have kw3 : ∀ w, Calls Try.prog 81 #[.bool (hb f 4), .int .i64 d.epoch, .int .i64 0, .int .i64 1073741824] w fun e w' => e = .returned (.bool true) ∧ w = w' := fun w => by have := dwithin_i (hb f 4) d.epoch 0 1073741824 w; rwa [H3] at this
  have kw4 : ∀ w, Calls Try.prog 81 #[.bool (hb f 4), .int .i64 (d.bits.length : Int), .int .i64 0, .int .i64 32] w fun e w' => e = .returned (.bool true) ∧ w = w' := fun w => by have := dwithin_i (hb f 4) (d.bits.length : Int) 0 32 w; rwa [H4] at this
  have kw5 : ∀ w, Calls Try.prog 81 #[.bool (hb f 8), .int .i64 d.what, .int .i64 1, .int .i64 4] w fun e w' => e = .returned (.bool true) ∧ w = w' := fun w => by have := dwithin_i (hb f 8) d.what 1 4 w; rwa [H5] at this
  have kw7 : ∀ w, Calls Try.prog 81 #[.bool (hb f 32), .int .i64 d.dest, .int .i64 0, .int .i64 63] w fun e w' => e = .returned (.bool true) ∧ w = w' := fun w => by have := dwithin_i (hb f 32) d.dest 0 63 w; rwa [H7] at this
  have kw8 : ∀ w, Calls Try.prog 84 #[.bool (hb f 64), .int .u64 (d.amount : Int), .int .u64 1, .int .u64 4611686018427387904] w fun e w' => e = .returned (.bool true) ∧ w = w' := fun w => by have := dwithin_u (hb f 64) (d.amount : Int) 1 4611686018427387904 w; rwa [H8] at this
  have kw9 : ∀ w, Calls Try.prog 81 #[.bool (hb f 128), .int .i64 d.motion, .int .i64 0, .int .i64 31] w fun e w' => e = .returned (.bool true) ∧ w = w' := fun w => by have := dwithin_i (hb f 128) d.motion 0 31 w; rwa [H9] at this
  have kh : ∀ one w, Calls Try.prog 82 #[.int .i64 f, .int .i64 one] w fun e w' => e = .returned (.bool (hb f one)) ∧ w = w' := fun one w => has_is f one w
  have kv : ∀ w, Calls Try.prog 82 #[.int .i64 f, .int .i64 128] w fun e w' => e = .returned (.bool true) ∧ w = w' := fun w => by have := has_is f 128 w; rwa [V] at this
  rw [V] at kw9
  clear hm H1 H2 H3 H4 H5 H7 H8 H9 V
  go_enter Try.func45, Try.ntmps45
  go_wp2_with (first
    | (refine load_deed _ rfl rfl _ d A c _ rfl (by assumption) ?_)
    | (go_at_call 80; refine (ku _).mono ?_; clear ku; rintro e w1 ⟨rfl, hb1⟩; have hD1 := hD.next hb1; have hB1 := Below.then hB hb1; obtain ⟨c0, c1, c2, c3, c4, c5, c6, c7, c32, c33⟩ := hD1.cells))
  dsimp only [List.append_eq, List.cons_append, List.nil_append]
  have hl1 := hD1.lt
  have cells : ∀ w', Below w1.heap.size w1 w' → DeedAt w' w.heap.size d A c 48 := fun w' h => hD1.next h
  clear c0 c1 c2 c3 c4 c5 c6 c7 c32 c33 hD hD1
  refine region_list [] (fun _ w' => Below w1.heap.size w1 w') (by kernel_rfl) (by kernel_rfl) (Below.refl _ _).drew ?_
  iterate 4 ((refine' SeqS.calm _ (by rfl) (by rfl) (fun w => ?_) ?_; rotate_left; · (go_simp <;> with_reducible rfl)); simp only [Act.put, List.setIfInBounds_toArray, List.set_cons_zero, List.set_cons_succ])
  refine SeqS.call (quiet_call (kh 1)) (by rfl) (by rfl) (fun w => ?_) ?_; · go_simp
  simp only [Act.put, List.setIfInBounds_toArray, List.set_cons_zero, List.set_cons_succ]
  refine' SeqS.calm _ (by rfl) (by rfl) (fun w => ?_) ?_; rotate_left; · (go_simp <;> with_reducible rfl)
  simp only [Act.put, List.setIfInBounds_toArray, List.set_cons_zero, List.set_cons_succ]
  refine' SeqS.take _ (by rfl) (by rfl) (fun p w' hS => ?_) ?_; rotate_left; · (obtain ⟨c0, c1, c2, c3, c4, c5, c6, c7, c32, c33⟩ := (cells w' hS).cells; go_simp <;> with_reducible rfl)
  simp only [Act.put, List.setIfInBounds_toArray, List.set_cons_zero, List.set_cons_succ]
  refine SeqS.call (quiet_call kw1) (by rfl) (by rfl) (fun w => ?_) ?_; · go_simp
  simp only [Act.put, List.setIfInBounds_toArray, List.set_cons_zero, List.set_cons_succ]
  iterate 3 ((refine' SeqS.calm _ (by rfl) (by rfl) (fun w => ?_) ?_; rotate_left; · (go_simp <;> with_reducible rfl)); simp only [Act.put, List.setIfInBounds_toArray, List.set_cons_zero, List.set_cons_succ])
  refine SeqS.call (quiet_call (kh 2)) (by rfl) (by rfl) (fun w => ?_) ?_; · go_simp
  simp only [Act.put, List.setIfInBounds_toArray, List.set_cons_zero, List.set_cons_succ]
  refine' SeqS.calm _ (by rfl) (by rfl) (fun w => ?_) ?_; rotate_left; · (go_simp <;> with_reducible rfl)
  simp only [Act.put, List.setIfInBounds_toArray, List.set_cons_zero, List.set_cons_succ]
  refine' SeqS.take _ (by rfl) (by rfl) (fun p w' hS => ?_) ?_; rotate_left; · (obtain ⟨c0, c1, c2, c3, c4, c5, c6, c7, c32, c33⟩ := (cells w' hS).cells; go_simp <;> with_reducible rfl)
  simp only [Act.put, List.setIfInBounds_toArray, List.set_cons_zero, List.set_cons_succ]
  refine SeqS.call (quiet_call kw2) (by rfl) (by rfl) (fun w => ?_) ?_; · go_simp
  simp only [Act.put, List.setIfInBounds_toArray, List.set_cons_zero, List.set_cons_succ]
  iterate 3 ((refine' SeqS.calm _ (by rfl) (by rfl) (fun w => ?_) ?_; rotate_left; · (go_simp <;> with_reducible rfl)); simp only [Act.put, List.setIfInBounds_toArray, List.set_cons_zero, List.set_cons_succ])
  refine SeqS.call (quiet_call (kh 4)) (by rfl) (by rfl) (fun w => ?_) ?_; · go_simp
  simp only [Act.put, List.setIfInBounds_toArray, List.set_cons_zero, List.set_cons_succ]
  refine' SeqS.calm _ (by rfl) (by rfl) (fun w => ?_) ?_; rotate_left; · (go_simp <;> with_reducible rfl)
  simp only [Act.put, List.setIfInBounds_toArray, List.set_cons_zero, List.set_cons_succ]
  refine' SeqS.take _ (by rfl) (by rfl) (fun p w' hS => ?_) ?_; rotate_left; · (obtain ⟨c0, c1, c2, c3, c4, c5, c6, c7, c32, c33⟩ := (cells w' hS).cells; go_simp <;> with_reducible rfl)
  simp only [Act.put, List.setIfInBounds_toArray, List.set_cons_zero, List.set_cons_succ]
  refine SeqS.call (quiet_call kw3) (by rfl) (by rfl) (fun w => ?_) ?_; · go_simp
  simp only [Act.put, List.setIfInBounds_toArray, List.set_cons_zero, List.set_cons_succ]
  iterate 3 ((refine' SeqS.calm _ (by rfl) (by rfl) (fun w => ?_) ?_; rotate_left; · (go_simp <;> with_reducible rfl)); simp only [Act.put, List.setIfInBounds_toArray, List.set_cons_zero, List.set_cons_succ])
  refine SeqS.call (quiet_call (kh 4)) (by rfl) (by rfl) (fun w => ?_) ?_; · go_simp
  simp only [Act.put, List.setIfInBounds_toArray, List.set_cons_zero, List.set_cons_succ]
  refine' SeqS.calm _ (by rfl) (by rfl) (fun w => ?_) ?_; rotate_left; · (go_simp <;> with_reducible rfl)
  simp only [Act.put, List.setIfInBounds_toArray, List.set_cons_zero, List.set_cons_succ]
  refine' SeqS.take _ (by rfl) (by rfl) (fun p w' hS => ?_) ?_; rotate_left; · (obtain ⟨c0, c1, c2, c3, c4, c5, c6, c7, c32, c33⟩ := (cells w' hS).cells; go_simp <;> with_reducible rfl)
  simp only [Act.put, List.setIfInBounds_toArray, List.set_cons_zero, List.set_cons_succ]
  refine' SeqS.calm _ (by rfl) (by rfl) (fun w => ?_) ?_; rotate_left; · (go_simp <;> with_reducible rfl)
  simp only [Act.put, List.setIfInBounds_toArray, List.set_cons_zero, List.set_cons_succ]
  refine SeqS.call (quiet_call kw4) (by rfl) (by rfl) (fun w => ?_) ?_; · go_simp
  simp only [Act.put, List.setIfInBounds_toArray, List.set_cons_zero, List.set_cons_succ]
  iterate 3 ((refine' SeqS.calm _ (by rfl) (by rfl) (fun w => ?_) ?_; rotate_left; · (go_simp <;> with_reducible rfl)); simp only [Act.put, List.setIfInBounds_toArray, List.set_cons_zero, List.set_cons_succ])
  refine SeqS.call (quiet_call (kh 8)) (by rfl) (by rfl) (fun w => ?_) ?_; · go_simp
  simp only [Act.put, List.setIfInBounds_toArray, List.set_cons_zero, List.set_cons_succ]
  refine' SeqS.calm _ (by rfl) (by rfl) (fun w => ?_) ?_; rotate_left; · (go_simp <;> with_reducible rfl)
  simp only [Act.put, List.setIfInBounds_toArray, List.set_cons_zero, List.set_cons_succ]
  refine' SeqS.take _ (by rfl) (by rfl) (fun p w' hS => ?_) ?_; rotate_left; · (obtain ⟨c0, c1, c2, c3, c4, c5, c6, c7, c32, c33⟩ := (cells w' hS).cells; go_simp <;> with_reducible rfl)
  simp only [Act.put, List.setIfInBounds_toArray, List.set_cons_zero, List.set_cons_succ]
  refine SeqS.call (quiet_call kw5) (by rfl) (by rfl) (fun w => ?_) ?_; · go_simp
  simp only [Act.put, List.setIfInBounds_toArray, List.set_cons_zero, List.set_cons_succ]
  iterate 3 ((refine' SeqS.calm _ (by rfl) (by rfl) (fun w => ?_) ?_; rotate_left; · (go_simp <;> with_reducible rfl)); simp only [Act.put, List.setIfInBounds_toArray, List.set_cons_zero, List.set_cons_succ])
  refine SeqS.call (quiet_call (kh 16)) (by rfl) (by rfl) (fun w => ?_) ?_; · go_simp
  simp only [Act.put, List.setIfInBounds_toArray, List.set_cons_zero, List.set_cons_succ]
  refine' SeqS.calm _ (by rfl) (by rfl) (fun w => ?_) ?_; rotate_left; · (go_simp <;> with_reducible rfl)
  simp only [Act.put, List.setIfInBounds_toArray, List.set_cons_zero, List.set_cons_succ]
  refine SeqS.take _ (by rfl) (by rfl) (fun p w' hS => exec_load_pars _ rfl _ d A c _ rfl (cells w' hS)) ?_
  simp only [Act.put, List.setIfInBounds_toArray, List.set_cons_zero, List.set_cons_succ]
  refine SeqS.call (below_call (Nat.le_refl _) (fun w _ => H6 w)) (by rfl) (by rfl) (fun w => ?_) ?_; · go_simp
  simp only [Act.put, List.setIfInBounds_toArray, List.set_cons_zero, List.set_cons_succ]
  iterate 3 ((refine' SeqS.calm _ (by rfl) (by rfl) (fun w => ?_) ?_; rotate_left; · (go_simp <;> with_reducible rfl)); simp only [Act.put, List.setIfInBounds_toArray, List.set_cons_zero, List.set_cons_succ])
  refine SeqS.call (quiet_call (kh 32)) (by rfl) (by rfl) (fun w => ?_) ?_; · go_simp
  simp only [Act.put, List.setIfInBounds_toArray, List.set_cons_zero, List.set_cons_succ]
  refine' SeqS.calm _ (by rfl) (by rfl) (fun w => ?_) ?_; rotate_left; · (go_simp <;> with_reducible rfl)
  simp only [Act.put, List.setIfInBounds_toArray, List.set_cons_zero, List.set_cons_succ]
  refine' SeqS.take _ (by rfl) (by rfl) (fun p w' hS => ?_) ?_; rotate_left; · (obtain ⟨c0, c1, c2, c3, c4, c5, c6, c7, c32, c33⟩ := (cells w' hS).cells; go_simp <;> with_reducible rfl)
  simp only [Act.put, List.setIfInBounds_toArray, List.set_cons_zero, List.set_cons_succ]
  refine SeqS.call (quiet_call kw7) (by rfl) (by rfl) (fun w => ?_) ?_; · go_simp
  simp only [Act.put, List.setIfInBounds_toArray, List.set_cons_zero, List.set_cons_succ]
  iterate 3 ((refine' SeqS.calm _ (by rfl) (by rfl) (fun w => ?_) ?_; rotate_left; · (go_simp <;> with_reducible rfl)); simp only [Act.put, List.setIfInBounds_toArray, List.set_cons_zero, List.set_cons_succ])
  refine SeqS.call (quiet_call (kh 64)) (by rfl) (by rfl) (fun w => ?_) ?_; · go_simp
  simp only [Act.put, List.setIfInBounds_toArray, List.set_cons_zero, List.set_cons_succ]
  refine' SeqS.calm _ (by rfl) (by rfl) (fun w => ?_) ?_; rotate_left; · (go_simp <;> with_reducible rfl)
  simp only [Act.put, List.setIfInBounds_toArray, List.set_cons_zero, List.set_cons_succ]
  refine' SeqS.take _ (by rfl) (by rfl) (fun p w' hS => ?_) ?_; rotate_left; · (obtain ⟨c0, c1, c2, c3, c4, c5, c6, c7, c32, c33⟩ := (cells w' hS).cells; go_simp <;> with_reducible rfl)
  simp only [Act.put, List.setIfInBounds_toArray, List.set_cons_zero, List.set_cons_succ]
  refine SeqS.call (quiet_call kw8) (by rfl) (by rfl) (fun w => ?_) ?_; · go_simp
  simp only [Act.put, List.setIfInBounds_toArray, List.set_cons_zero, List.set_cons_succ]
  iterate 3 ((refine' SeqS.calm _ (by rfl) (by rfl) (fun w => ?_) ?_; rotate_left; · (go_simp <;> with_reducible rfl)); simp only [Act.put, List.setIfInBounds_toArray, List.set_cons_zero, List.set_cons_succ])
  refine SeqS.call (quiet_call kv) (by rfl) (by rfl) (fun w => ?_) ?_; · go_simp
  simp only [Act.put, List.setIfInBounds_toArray, List.set_cons_zero, List.set_cons_succ]
  refine' SeqS.calm _ (by rfl) (by rfl) (fun w => ?_) ?_; rotate_left; · (go_simp <;> with_reducible rfl)
  simp only [Act.put, List.setIfInBounds_toArray, List.set_cons_zero, List.set_cons_succ]
  refine' SeqS.take _ (by rfl) (by rfl) (fun p w' hS => ?_) ?_; rotate_left; · (obtain ⟨c0, c1, c2, c3, c4, c5, c6, c7, c32, c33⟩ := (cells w' hS).cells; go_simp <;> with_reducible rfl)
  simp only [Act.put, List.setIfInBounds_toArray, List.set_cons_zero, List.set_cons_succ]
  refine SeqS.call (quiet_call kw9) (by rfl) (by rfl) (fun w => ?_) ?_; · go_simp
  simp only [Act.put, List.setIfInBounds_toArray, List.set_cons_zero, List.set_cons_succ]
  iterate 3 ((refine' SeqS.calm _ (by rfl) (by rfl) (fun w => ?_) ?_; rotate_left; · (go_simp <;> with_reducible rfl)); simp only [Act.put, List.setIfInBounds_toArray, List.set_cons_zero, List.set_cons_succ])
  refine SeqS.call (quiet_call kv) (by rfl) (by rfl) (fun w => ?_) ?_; · go_simp
  simp only [Act.put, List.setIfInBounds_toArray, List.set_cons_zero, List.set_cons_succ]
  refine' SeqS.calm _ (by rfl) (by rfl) (fun w => ?_) ?_; rotate_left; · (go_simp <;> with_reducible rfl)
  simp only [Act.put, List.setIfInBounds_toArray, List.set_cons_zero, List.set_cons_succ]
  iterate 3 ((refine SeqS.skip (by rfl) (by rfl) ?_); simp only [Act.put, List.setIfInBounds_toArray, List.set_cons_zero, List.set_cons_succ])
  iterate 3 ((refine' SeqS.calm _ (by rfl) (by rfl) (fun w => ?_) ?_; rotate_left; · (go_simp <;> with_reducible rfl)); simp only [Act.put, List.setIfInBounds_toArray, List.set_cons_zero, List.set_cons_succ])
  intro w3 hw3
  have hB3 := Below.then hB1 hw3
  go_wp2
  go_ret
  exact ⟨rfl, hB3⟩
set_option maxRecDepth 100000 in
set_option maxHeartbeats 2000000 in
theorem right_y0 (d : Dd) (A : Option Addr) (c : Nat) (f : Int) (w : World) (hm : Hid (d.mask = f)) (H0 : (f != 0) = true) (H1 : inI (hb f 1) d.account 0 63 = true) (H2 : inI (hb f 2) d.member 0 127 = true) (H3 : inI (hb f 4) d.epoch 0 1073741824 = true) (H4 : inI (hb f 4) (d.bits.length : Int) 0 32 = true) (H5 : inI (hb f 8) d.what 1 4 = true) (H6 : ∀ w, Calls Try.prog 83 #[.bool (hb f 16), .agg d.par.vals] w fun e w' => e = .returned (.bool true) ∧ Below w.heap.size w w') (H7 : inI (hb f 32) d.dest 0 63 = true) (H8 : inI (hb f 64) (d.amount : Int) 1 4611686018427387904 = true) (H9 : inI (hb f 128) d.motion 0 31 = true) (V : hb f 128 = false) (Y : d.yes = false) :
    Calls Try.prog 45 #[.agg (d.vals A c)] w fun e w' => e = .returned (.bool true) ∧ Below w.heap.size w w' := by
  have hD := DeedAt.new w d A c 48
  have hB : Below w.heap.size w (w.alloc (.cells (d.vals A c) 48)) := (Below.refl _ _).alloc (Nat.le_refl _) _
  have ku := fun w => used_is d A c w
  rw [hm.out] at ku
  have kw1 : ∀ w, Calls Try.prog 81 #[.bool (hb f 1), .int .i64 d.account, .int .i64 0, .int .i64 63] w fun e w' => e = .returned (.bool true) ∧ w = w' := fun w => by have := dwithin_i (hb f 1) d.account 0 63 w; rwa [H1] at this
  have kw2 : ∀ w, Calls Try.prog 81 #[.bool (hb f 2), .int .i64 d.member, .int .i64 0, .int .i64 127] w fun e w' => e = .returned (.bool true) ∧ w = w' := fun w => by have := dwithin_i (hb f 2) d.member 0 127 w; rwa [H2] at this
  have kw3 : ∀ w, Calls Try.prog 81 #[.bool (hb f 4), .int .i64 d.epoch, .int .i64 0, .int .i64 1073741824] w fun e w' => e = .returned (.bool true) ∧ w = w' := fun w => by have := dwithin_i (hb f 4) d.epoch 0 1073741824 w; rwa [H3] at this
  have kw4 : ∀ w, Calls Try.prog 81 #[.bool (hb f 4), .int .i64 (d.bits.length : Int), .int .i64 0, .int .i64 32] w fun e w' => e = .returned (.bool true) ∧ w = w' := fun w => by have := dwithin_i (hb f 4) (d.bits.length : Int) 0 32 w; rwa [H4] at this
  have kw5 : ∀ w, Calls Try.prog 81 #[.bool (hb f 8), .int .i64 d.what, .int .i64 1, .int .i64 4] w fun e w' => e = .returned (.bool true) ∧ w = w' := fun w => by have := dwithin_i (hb f 8) d.what 1 4 w; rwa [H5] at this
  have kw7 : ∀ w, Calls Try.prog 81 #[.bool (hb f 32), .int .i64 d.dest, .int .i64 0, .int .i64 63] w fun e w' => e = .returned (.bool true) ∧ w = w' := fun w => by have := dwithin_i (hb f 32) d.dest 0 63 w; rwa [H7] at this
  have kw8 : ∀ w, Calls Try.prog 84 #[.bool (hb f 64), .int .u64 (d.amount : Int), .int .u64 1, .int .u64 4611686018427387904] w fun e w' => e = .returned (.bool true) ∧ w = w' := fun w => by have := dwithin_u (hb f 64) (d.amount : Int) 1 4611686018427387904 w; rwa [H8] at this
  have kw9 : ∀ w, Calls Try.prog 81 #[.bool (hb f 128), .int .i64 d.motion, .int .i64 0, .int .i64 31] w fun e w' => e = .returned (.bool true) ∧ w = w' := fun w => by have := dwithin_i (hb f 128) d.motion 0 31 w; rwa [H9] at this
  have kh : ∀ one w, Calls Try.prog 82 #[.int .i64 f, .int .i64 one] w fun e w' => e = .returned (.bool (hb f one)) ∧ w = w' := fun one w => has_is f one w
  have kv : ∀ w, Calls Try.prog 82 #[.int .i64 f, .int .i64 128] w fun e w' => e = .returned (.bool false) ∧ w = w' := fun w => by have := has_is f 128 w; rwa [V] at this
  rw [V] at kw9
  clear hm H1 H2 H3 H4 H5 H7 H8 H9 V
  go_enter Try.func45, Try.ntmps45
  go_wp2_with (first
    | (refine load_deed _ rfl rfl _ d A c _ rfl (by assumption) ?_)
    | (go_at_call 80; refine (ku _).mono ?_; clear ku; rintro e w1 ⟨rfl, hb1⟩; have hD1 := hD.next hb1; have hB1 := Below.then hB hb1; obtain ⟨c0, c1, c2, c3, c4, c5, c6, c7, c32, c33⟩ := hD1.cells; rw [Y] at c33))
  dsimp only [List.append_eq, List.cons_append, List.nil_append]
  have hl1 := hD1.lt
  have cells : ∀ w', Below w1.heap.size w1 w' → DeedAt w' w.heap.size d A c 48 := fun w' h => hD1.next h
  clear c0 c1 c2 c3 c4 c5 c6 c7 c32 c33 hD hD1
  refine region_list [] (fun _ w' => Below w1.heap.size w1 w') (by kernel_rfl) (by kernel_rfl) (Below.refl _ _).drew ?_
  iterate 4 ((refine' SeqS.calm _ (by rfl) (by rfl) (fun w => ?_) ?_; rotate_left; · (go_simp <;> with_reducible rfl)); simp only [Act.put, List.setIfInBounds_toArray, List.set_cons_zero, List.set_cons_succ])
  refine SeqS.call (quiet_call (kh 1)) (by rfl) (by rfl) (fun w => ?_) ?_; · go_simp
  simp only [Act.put, List.setIfInBounds_toArray, List.set_cons_zero, List.set_cons_succ]
  refine' SeqS.calm _ (by rfl) (by rfl) (fun w => ?_) ?_; rotate_left; · (go_simp <;> with_reducible rfl)
  simp only [Act.put, List.setIfInBounds_toArray, List.set_cons_zero, List.set_cons_succ]
  refine' SeqS.take _ (by rfl) (by rfl) (fun p w' hS => ?_) ?_; rotate_left; · (obtain ⟨c0, c1, c2, c3, c4, c5, c6, c7, c32, c33⟩ := (cells w' hS).cells; rw [Y] at c33; go_simp <;> with_reducible rfl)
  simp only [Act.put, List.setIfInBounds_toArray, List.set_cons_zero, List.set_cons_succ]
  refine SeqS.call (quiet_call kw1) (by rfl) (by rfl) (fun w => ?_) ?_; · go_simp
  simp only [Act.put, List.setIfInBounds_toArray, List.set_cons_zero, List.set_cons_succ]
  iterate 3 ((refine' SeqS.calm _ (by rfl) (by rfl) (fun w => ?_) ?_; rotate_left; · (go_simp <;> with_reducible rfl)); simp only [Act.put, List.setIfInBounds_toArray, List.set_cons_zero, List.set_cons_succ])
  refine SeqS.call (quiet_call (kh 2)) (by rfl) (by rfl) (fun w => ?_) ?_; · go_simp
  simp only [Act.put, List.setIfInBounds_toArray, List.set_cons_zero, List.set_cons_succ]
  refine' SeqS.calm _ (by rfl) (by rfl) (fun w => ?_) ?_; rotate_left; · (go_simp <;> with_reducible rfl)
  simp only [Act.put, List.setIfInBounds_toArray, List.set_cons_zero, List.set_cons_succ]
  refine' SeqS.take _ (by rfl) (by rfl) (fun p w' hS => ?_) ?_; rotate_left; · (obtain ⟨c0, c1, c2, c3, c4, c5, c6, c7, c32, c33⟩ := (cells w' hS).cells; rw [Y] at c33; go_simp <;> with_reducible rfl)
  simp only [Act.put, List.setIfInBounds_toArray, List.set_cons_zero, List.set_cons_succ]
  refine SeqS.call (quiet_call kw2) (by rfl) (by rfl) (fun w => ?_) ?_; · go_simp
  simp only [Act.put, List.setIfInBounds_toArray, List.set_cons_zero, List.set_cons_succ]
  iterate 3 ((refine' SeqS.calm _ (by rfl) (by rfl) (fun w => ?_) ?_; rotate_left; · (go_simp <;> with_reducible rfl)); simp only [Act.put, List.setIfInBounds_toArray, List.set_cons_zero, List.set_cons_succ])
  refine SeqS.call (quiet_call (kh 4)) (by rfl) (by rfl) (fun w => ?_) ?_; · go_simp
  simp only [Act.put, List.setIfInBounds_toArray, List.set_cons_zero, List.set_cons_succ]
  refine' SeqS.calm _ (by rfl) (by rfl) (fun w => ?_) ?_; rotate_left; · (go_simp <;> with_reducible rfl)
  simp only [Act.put, List.setIfInBounds_toArray, List.set_cons_zero, List.set_cons_succ]
  refine' SeqS.take _ (by rfl) (by rfl) (fun p w' hS => ?_) ?_; rotate_left; · (obtain ⟨c0, c1, c2, c3, c4, c5, c6, c7, c32, c33⟩ := (cells w' hS).cells; rw [Y] at c33; go_simp <;> with_reducible rfl)
  simp only [Act.put, List.setIfInBounds_toArray, List.set_cons_zero, List.set_cons_succ]
  refine SeqS.call (quiet_call kw3) (by rfl) (by rfl) (fun w => ?_) ?_; · go_simp
  simp only [Act.put, List.setIfInBounds_toArray, List.set_cons_zero, List.set_cons_succ]
  iterate 3 ((refine' SeqS.calm _ (by rfl) (by rfl) (fun w => ?_) ?_; rotate_left; · (go_simp <;> with_reducible rfl)); simp only [Act.put, List.setIfInBounds_toArray, List.set_cons_zero, List.set_cons_succ])
  refine SeqS.call (quiet_call (kh 4)) (by rfl) (by rfl) (fun w => ?_) ?_; · go_simp
  simp only [Act.put, List.setIfInBounds_toArray, List.set_cons_zero, List.set_cons_succ]
  refine' SeqS.calm _ (by rfl) (by rfl) (fun w => ?_) ?_; rotate_left; · (go_simp <;> with_reducible rfl)
  simp only [Act.put, List.setIfInBounds_toArray, List.set_cons_zero, List.set_cons_succ]
  refine' SeqS.take _ (by rfl) (by rfl) (fun p w' hS => ?_) ?_; rotate_left; · (obtain ⟨c0, c1, c2, c3, c4, c5, c6, c7, c32, c33⟩ := (cells w' hS).cells; rw [Y] at c33; go_simp <;> with_reducible rfl)
  simp only [Act.put, List.setIfInBounds_toArray, List.set_cons_zero, List.set_cons_succ]
  refine' SeqS.calm _ (by rfl) (by rfl) (fun w => ?_) ?_; rotate_left; · (go_simp <;> with_reducible rfl)
  simp only [Act.put, List.setIfInBounds_toArray, List.set_cons_zero, List.set_cons_succ]
  refine SeqS.call (quiet_call kw4) (by rfl) (by rfl) (fun w => ?_) ?_; · go_simp
  simp only [Act.put, List.setIfInBounds_toArray, List.set_cons_zero, List.set_cons_succ]
  iterate 3 ((refine' SeqS.calm _ (by rfl) (by rfl) (fun w => ?_) ?_; rotate_left; · (go_simp <;> with_reducible rfl)); simp only [Act.put, List.setIfInBounds_toArray, List.set_cons_zero, List.set_cons_succ])
  refine SeqS.call (quiet_call (kh 8)) (by rfl) (by rfl) (fun w => ?_) ?_; · go_simp
  simp only [Act.put, List.setIfInBounds_toArray, List.set_cons_zero, List.set_cons_succ]
  refine' SeqS.calm _ (by rfl) (by rfl) (fun w => ?_) ?_; rotate_left; · (go_simp <;> with_reducible rfl)
  simp only [Act.put, List.setIfInBounds_toArray, List.set_cons_zero, List.set_cons_succ]
  refine' SeqS.take _ (by rfl) (by rfl) (fun p w' hS => ?_) ?_; rotate_left; · (obtain ⟨c0, c1, c2, c3, c4, c5, c6, c7, c32, c33⟩ := (cells w' hS).cells; rw [Y] at c33; go_simp <;> with_reducible rfl)
  simp only [Act.put, List.setIfInBounds_toArray, List.set_cons_zero, List.set_cons_succ]
  refine SeqS.call (quiet_call kw5) (by rfl) (by rfl) (fun w => ?_) ?_; · go_simp
  simp only [Act.put, List.setIfInBounds_toArray, List.set_cons_zero, List.set_cons_succ]
  iterate 3 ((refine' SeqS.calm _ (by rfl) (by rfl) (fun w => ?_) ?_; rotate_left; · (go_simp <;> with_reducible rfl)); simp only [Act.put, List.setIfInBounds_toArray, List.set_cons_zero, List.set_cons_succ])
  refine SeqS.call (quiet_call (kh 16)) (by rfl) (by rfl) (fun w => ?_) ?_; · go_simp
  simp only [Act.put, List.setIfInBounds_toArray, List.set_cons_zero, List.set_cons_succ]
  refine' SeqS.calm _ (by rfl) (by rfl) (fun w => ?_) ?_; rotate_left; · (go_simp <;> with_reducible rfl)
  simp only [Act.put, List.setIfInBounds_toArray, List.set_cons_zero, List.set_cons_succ]
  refine SeqS.take _ (by rfl) (by rfl) (fun p w' hS => exec_load_pars _ rfl _ d A c _ rfl (cells w' hS)) ?_
  simp only [Act.put, List.setIfInBounds_toArray, List.set_cons_zero, List.set_cons_succ]
  refine SeqS.call (below_call (Nat.le_refl _) (fun w _ => H6 w)) (by rfl) (by rfl) (fun w => ?_) ?_; · go_simp
  simp only [Act.put, List.setIfInBounds_toArray, List.set_cons_zero, List.set_cons_succ]
  iterate 3 ((refine' SeqS.calm _ (by rfl) (by rfl) (fun w => ?_) ?_; rotate_left; · (go_simp <;> with_reducible rfl)); simp only [Act.put, List.setIfInBounds_toArray, List.set_cons_zero, List.set_cons_succ])
  refine SeqS.call (quiet_call (kh 32)) (by rfl) (by rfl) (fun w => ?_) ?_; · go_simp
  simp only [Act.put, List.setIfInBounds_toArray, List.set_cons_zero, List.set_cons_succ]
  refine' SeqS.calm _ (by rfl) (by rfl) (fun w => ?_) ?_; rotate_left; · (go_simp <;> with_reducible rfl)
  simp only [Act.put, List.setIfInBounds_toArray, List.set_cons_zero, List.set_cons_succ]
  refine' SeqS.take _ (by rfl) (by rfl) (fun p w' hS => ?_) ?_; rotate_left; · (obtain ⟨c0, c1, c2, c3, c4, c5, c6, c7, c32, c33⟩ := (cells w' hS).cells; rw [Y] at c33; go_simp <;> with_reducible rfl)
  simp only [Act.put, List.setIfInBounds_toArray, List.set_cons_zero, List.set_cons_succ]
  refine SeqS.call (quiet_call kw7) (by rfl) (by rfl) (fun w => ?_) ?_; · go_simp
  simp only [Act.put, List.setIfInBounds_toArray, List.set_cons_zero, List.set_cons_succ]
  iterate 3 ((refine' SeqS.calm _ (by rfl) (by rfl) (fun w => ?_) ?_; rotate_left; · (go_simp <;> with_reducible rfl)); simp only [Act.put, List.setIfInBounds_toArray, List.set_cons_zero, List.set_cons_succ])
  refine SeqS.call (quiet_call (kh 64)) (by rfl) (by rfl) (fun w => ?_) ?_; · go_simp
  simp only [Act.put, List.setIfInBounds_toArray, List.set_cons_zero, List.set_cons_succ]
  refine' SeqS.calm _ (by rfl) (by rfl) (fun w => ?_) ?_; rotate_left; · (go_simp <;> with_reducible rfl)
  simp only [Act.put, List.setIfInBounds_toArray, List.set_cons_zero, List.set_cons_succ]
  refine' SeqS.take _ (by rfl) (by rfl) (fun p w' hS => ?_) ?_; rotate_left; · (obtain ⟨c0, c1, c2, c3, c4, c5, c6, c7, c32, c33⟩ := (cells w' hS).cells; rw [Y] at c33; go_simp <;> with_reducible rfl)
  simp only [Act.put, List.setIfInBounds_toArray, List.set_cons_zero, List.set_cons_succ]
  refine SeqS.call (quiet_call kw8) (by rfl) (by rfl) (fun w => ?_) ?_; · go_simp
  simp only [Act.put, List.setIfInBounds_toArray, List.set_cons_zero, List.set_cons_succ]
  iterate 3 ((refine' SeqS.calm _ (by rfl) (by rfl) (fun w => ?_) ?_; rotate_left; · (go_simp <;> with_reducible rfl)); simp only [Act.put, List.setIfInBounds_toArray, List.set_cons_zero, List.set_cons_succ])
  refine SeqS.call (quiet_call kv) (by rfl) (by rfl) (fun w => ?_) ?_; · go_simp
  simp only [Act.put, List.setIfInBounds_toArray, List.set_cons_zero, List.set_cons_succ]
  refine' SeqS.calm _ (by rfl) (by rfl) (fun w => ?_) ?_; rotate_left; · (go_simp <;> with_reducible rfl)
  simp only [Act.put, List.setIfInBounds_toArray, List.set_cons_zero, List.set_cons_succ]
  refine' SeqS.take _ (by rfl) (by rfl) (fun p w' hS => ?_) ?_; rotate_left; · (obtain ⟨c0, c1, c2, c3, c4, c5, c6, c7, c32, c33⟩ := (cells w' hS).cells; rw [Y] at c33; go_simp <;> with_reducible rfl)
  simp only [Act.put, List.setIfInBounds_toArray, List.set_cons_zero, List.set_cons_succ]
  refine SeqS.call (quiet_call kw9) (by rfl) (by rfl) (fun w => ?_) ?_; · go_simp
  simp only [Act.put, List.setIfInBounds_toArray, List.set_cons_zero, List.set_cons_succ]
  iterate 3 ((refine' SeqS.calm _ (by rfl) (by rfl) (fun w => ?_) ?_; rotate_left; · (go_simp <;> with_reducible rfl)); simp only [Act.put, List.setIfInBounds_toArray, List.set_cons_zero, List.set_cons_succ])
  refine SeqS.call (quiet_call kv) (by rfl) (by rfl) (fun w => ?_) ?_; · go_simp
  simp only [Act.put, List.setIfInBounds_toArray, List.set_cons_zero, List.set_cons_succ]
  iterate 2 ((refine' SeqS.calm _ (by rfl) (by rfl) (fun w => ?_) ?_; rotate_left; · (go_simp <;> with_reducible rfl)); simp only [Act.put, List.setIfInBounds_toArray, List.set_cons_zero, List.set_cons_succ])
  refine' SeqS.take _ (by rfl) (by rfl) (fun p w' hS => ?_) ?_; rotate_left; · (obtain ⟨c0, c1, c2, c3, c4, c5, c6, c7, c32, c33⟩ := (cells w' hS).cells; rw [Y] at c33; go_simp <;> with_reducible rfl)
  simp only [Act.put, List.setIfInBounds_toArray, List.set_cons_zero, List.set_cons_succ]
  iterate 4 ((refine' SeqS.calm _ (by rfl) (by rfl) (fun w => ?_) ?_; rotate_left; · (go_simp <;> with_reducible rfl)); simp only [Act.put, List.setIfInBounds_toArray, List.set_cons_zero, List.set_cons_succ])
  intro w3 hw3
  have hB3 := Below.then hB1 hw3
  go_wp2
  go_ret
  exact ⟨rfl, hB3⟩
end Go.Proofs.Ytcaejanfhchacaa
