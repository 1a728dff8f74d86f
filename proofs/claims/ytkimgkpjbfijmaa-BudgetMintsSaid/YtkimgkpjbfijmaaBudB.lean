/- Layer 13 (budget), the document's. By contracts. -/
import Derived.Test.YtkimgkpjbfijmaaBudA
import Derived.Test.YtkimgkpjbfijmaaRef3
import Derived.Test.YtkimgkpjbfijmaaRef2B
import Derived.Test.YtkimgkpjbfijmaaParR
namespace Go.Proofs.Ytkimgkpjbfijmaa
open Go.RowKit
set_option linter.unusedVariables false
set_option linter.unusedSimpArgs false


/-- What it answers, in any world. -/
def RofIs (p : Par) (a n : Nat) : Prop := ∀ w, Calls Try.prog 11 #[.agg p.vals, .int .u64 (a : Int)] w fun e w' => e = .returned (.int .u64 (n : Int)) ∧ Below w.heap.size w w'


set_option maxRecDepth 100000 in
set_option maxHeartbeats 1000000 in
theorem rof_none (p : Par) (a : Nat) (h : a = 0 ∨ 4611686018427387904 < a) : RofIs p a 0 := by
  intro w
  have hP := ParAt.new w p 30
  have hB : Below w.heap.size w (w.alloc (.cells p.vals 30)) := (Below.refl _ _).alloc (Nat.le_refl _) _
  rcases h with rfl | h
  · go_enter Try.func11, Try.ntmps11
    go_wp2_with (first
      | (refine load_ref _ rfl rfl _ p _ rfl (by assumption) ?_)
      )
    go_ret
    exact ⟨by first | rfl | simp, hB⟩
  · have z0 : ((a : Int) == 0) = false := by simp; omega
    have z1 : (a == 0) = false := by simp; omega
    have d1 : decide ((4611686018427387904 : Int) < (a : Int)) = true := by simp; omega
    have d2 : decide (4611686018427387904 < a) = true := by simp; omega
    clear h
    go_enter Try.func11, Try.ntmps11
    go_wp2_with (first
      | (refine load_ref _ rfl rfl _ p _ rfl (by assumption) ?_)
      )
    go_ret
    exact ⟨by first | rfl | simp, hB⟩

set_option maxRecDepth 100000 in
set_option maxHeartbeats 1000000 in
theorem rof_ok (p : Par) (a n r k : Nat) (w : World) (h0 : 0 < a) (h1 : a ≤ 4611686018427387904) (hr : p.rate ≤ 4294967296) (hb : Bud p.rate a n r k) :
    Calls Try.prog 11 #[.agg p.vals, .int .u64 (a : Int)] w fun e w' => e = .returned (.int .u64 (n : Int)) ∧ Below w.heap.size w w' := by
  have hP := ParAt.new w p 30
  have hB : Below w.heap.size w (w.alloc (.cells p.vals 30)) := (Below.refl _ _).alloc (Nat.le_refl _) _
  have v12 := p.v12
  have z0 : ((a : Int) == 0) = false := by simp; omega
  have z1 : (a == 0) = false := by simp; omega
  have d1 : decide ((4611686018427387904 : Int) < (a : Int)) = false := by simp; omega
  have d2 : decide (4611686018427387904 < a) = false := by simp; omega
  have kr := fun w => ref_root a r w (by omega) (Lib.hid hb.root)
  have kd := fun w => ref_down a p.rate (1048576 * r) n k w (by omega) (by omega) (hb.by_lt h1) (Lib.hid hb.part) hb.left
  rw [tx_in (by have := hb.most h0 h1 hr; omega), te_in (by have := hb.most h0 h1 hr; omega)] at kd
  have e1 : (1048576 : Int) * (r : Int) = ((1048576 * r : Nat) : Int) := by omega
  have e2 : IntKind.u64.wrap ((1048576 * r : Nat) : Int) = ((1048576 * r : Nat) : Int) := IntWalk.u64_in _ (by have := hb.by_lt h1; omega)
  have e3 : IntKind.u64.wrap ((1048576 : Int) * (r : Int)) = ((1048576 * r : Nat) : Int) := by rw [e1, e2]
  generalize 1048576 * r = c at *
  clear hb hr h0 h1
  go_enter Try.func11, Try.ntmps11
  go_wp2
  generalize hw0 : World.alloc _ _ = w0
  rw [hw0] at hP hB
  clear hw0
  have cells : ∀ w', Below w0.heap.size w0 w' → ParAt w' w.heap.size p 30 := fun w' h => hP.up h
  clear hP
  refine region_list [] (fun _ w' => Below w0.heap.size w0 w') (by kernel_rfl) (by kernel_rfl) (Below.refl _ _).drew ?_
  iterate 2 ((refine' SeqS.calm _ (by rfl) (by rfl) (fun w => ?_) ?_; rotate_left; · (go_simp <;> with_reducible rfl)); simp only [Act.put, List.setIfInBounds_toArray, List.set_cons_zero, List.set_cons_succ])
  refine' SeqS.take _ (by rfl) (by rfl) (fun ph w' hS => ?_) ?_; rotate_left; · (have c12 := ((cells w' hS).cell 12).trans v12; go_simp <;> with_reducible rfl)
  simp only [Act.put, List.setIfInBounds_toArray, List.set_cons_zero, List.set_cons_succ]
  refine' SeqS.calm _ (by rfl) (by rfl) (fun w => ?_) ?_; rotate_left; · (go_simp <;> with_reducible rfl)
  simp only [Act.put, List.setIfInBounds_toArray, List.set_cons_zero, List.set_cons_succ]
  refine SeqS.call (below_call (Nat.le_refl _) (fun w _ => kr w)) (by rfl) (by rfl) (fun w => ?_) ?_; · go_simp
  simp only [Act.put, List.setIfInBounds_toArray, List.set_cons_zero, List.set_cons_succ]
  refine' SeqS.calm _ (by rfl) (by rfl) (fun w => ?_) ?_; rotate_left; · (go_simp <;> with_reducible rfl)
  simp only [Act.put, List.setIfInBounds_toArray, List.set_cons_zero, List.set_cons_succ]
  refine SeqS.call (below_call (Nat.le_refl _) (fun w _ => kd w)) (by rfl) (by rfl) (fun w => ?_) ?_; · go_simp
  simp only [Act.put, List.setIfInBounds_toArray, List.set_cons_zero, List.set_cons_succ]
  iterate 5 ((refine' SeqS.calm _ (by rfl) (by rfl) (fun w => ?_) ?_; rotate_left; · (go_simp <;> with_reducible rfl)); simp only [Act.put, List.setIfInBounds_toArray, List.set_cons_zero, List.set_cons_succ])
  intro w3 hw3
  have hB := Below.then hB hw3
  go_wp2
  go_ret
  exact ⟨by first | rfl | simp, hB⟩
theorem rof_is (p : Par) (a n r k : Nat) (h0 : 0 < a) (h1 : a ≤ 4611686018427387904) (hr : p.rate ≤ 4294967296) (hb : Bud p.rate a n r k) : RofIs p a n :=
  fun w => rof_ok p a n r k w h0 h1 hr hb


/-- What it answers, in any world. -/
def RmintIs (p : Par) (a i M : Nat) (l : Bool) (k : Nat) : Prop := ∀ w, Calls Try.prog 12 #[.agg p.vals, .int .u64 (a : Int), .int .u64 (i : Int), .int .u64 (M : Int), .bool l] w fun e w' => e = .returned (.int .u64 (k : Int)) ∧ Below w.heap.size w w'


set_option maxRecDepth 100000 in
set_option maxHeartbeats 1000000 in
theorem rmint_leaks {p : Par} {a n : Nat} (i M : Nat) (ko : RofIs p a n) : RmintIs p a i M true 0 := by
  intro w
  have hP := ParAt.new w p 30
  have hB : Below w.heap.size w (w.alloc (.cells p.vals 30)) := (Below.refl _ _).alloc (Nat.le_refl _) _
  go_enter Try.func12, Try.ntmps12
  go_wp2_with (first
    | (refine load_ref _ rfl rfl _ p _ rfl (by assumption) ?_)
    | (go_at_call 11; refine (ko _).mono ?_; clear ko; rintro e w1 ⟨rfl, hb1⟩; have hP := hP.up hb1; have hB := Below.then hB hb1; clear hb1)
    )
  go_ret
  exact ⟨by first | rfl | simp, hB⟩


set_option maxRecDepth 100000 in
set_option maxHeartbeats 1000000 in
theorem rmint_in {p : Par} {a n : Nat} (i M : Nat) (ko : RofIs p a n) (hi : i < 18446744073709551616) (hn : n < 18446744073709551616) (hM : M < 18446744073709551616) (h : i + n ≤ M) : RmintIs p a i M false n := by
  intro w
  have hP := ParAt.new w p 30
  have hB : Below w.heap.size w (w.alloc (.cells p.vals 30)) := (Below.refl _ _).alloc (Nat.le_refl _) _
  have k1 := fun w => of_any i w (by omega)
  have k2 := fun w => of_any n w (by omega)
  have k3 := fun w => of_any M w (by omega)
  have l1 : (digs i).length ≤ 1000000 := Nat.le_trans (digs_len (k := 20) (by omega)) (by omega)
  have l2 : (digs n).length ≤ 1000000 := Nat.le_trans (digs_len (k := 20) (by omega)) (by omega)
  have HH := Lib.hid h
  clear h hi hn hM
  go_enter Try.func12, Try.ntmps12
  go_wp2_with (first
    | (refine load_ref _ rfl rfl _ p _ rfl (by assumption) ?_)
    | (go_at_call 11; refine (ko _).mono ?_; clear ko; rintro e w1 ⟨rfl, hb1⟩; have hP := hP.up hb1; have hB := Below.then hB hb1; clear hb1)
    | (go_at_call 29; refine (k1 _).mono ?_; clear k1; rintro e w1 ⟨x, rfl, hx, -, hb1⟩; have hB := Below.then hB hb1; clear hb1)
    | (go_at_call 29; refine (k2 _).mono ?_; clear k2; rintro e w1 ⟨y, rfl, hy, -, hb1⟩; have hx := (hx.below hb1).up hb1.size; have hB := Below.then hB hb1; clear hb1)
    | (go_at_call 28; refine (add_nat i n _ _ _ _ hx hy (Nat.le_refl _) l1 l2).mono ?_; rintro e w1 ⟨s, rfl, hs, -, hb1⟩; clear hx hy; have hB := Below.then hB hb1; clear hb1)
    | (go_at_call 29; refine (k3 _).mono ?_; clear k3; rintro e w1 ⟨z, rfl, hz, -, hb1⟩; have hs := (hs.below hb1).up hb1.size; have hB := Below.then hB hb1; clear hb1)
    | (go_at_call 27; refine (cmp_upto (i + n) M _ _ _ _ hs hz (Nat.le_refl _) HH.out).mono ?_; rintro e w1 ⟨z, hz1, rfl, hb1⟩; have dz := decide_eq_false (show ¬ (0 : Int) < z by omega); have hB := Below.then hB hb1; clear hb1)
    )
  go_ret
  exact ⟨by first | rfl | simp, hB⟩


set_option maxRecDepth 100000 in
set_option maxHeartbeats 1000000 in
theorem rmint_over {p : Par} {a n : Nat} (i M : Nat) (ko : RofIs p a n) (hi : i < 18446744073709551616) (hn : n < 18446744073709551616) (hM : M < 18446744073709551616) (h : M < i + n) : RmintIs p a i M false 0 := by
  intro w
  have hP := ParAt.new w p 30
  have hB : Below w.heap.size w (w.alloc (.cells p.vals 30)) := (Below.refl _ _).alloc (Nat.le_refl _) _
  have k1 := fun w => of_any i w (by omega)
  have k2 := fun w => of_any n w (by omega)
  have k3 := fun w => of_any M w (by omega)
  have l1 : (digs i).length ≤ 1000000 := Nat.le_trans (digs_len (k := 20) (by omega)) (by omega)
  have l2 : (digs n).length ≤ 1000000 := Nat.le_trans (digs_len (k := 20) (by omega)) (by omega)
  have HH := Lib.hid h
  clear h hi hn hM
  go_enter Try.func12, Try.ntmps12
  go_wp2_with (first
    | (refine load_ref _ rfl rfl _ p _ rfl (by assumption) ?_)
    | (go_at_call 11; refine (ko _).mono ?_; clear ko; rintro e w1 ⟨rfl, hb1⟩; have hP := hP.up hb1; have hB := Below.then hB hb1; clear hb1)
    | (go_at_call 29; refine (k1 _).mono ?_; clear k1; rintro e w1 ⟨x, rfl, hx, -, hb1⟩; have hB := Below.then hB hb1; clear hb1)
    | (go_at_call 29; refine (k2 _).mono ?_; clear k2; rintro e w1 ⟨y, rfl, hy, -, hb1⟩; have hx := (hx.below hb1).up hb1.size; have hB := Below.then hB hb1; clear hb1)
    | (go_at_call 28; refine (add_nat i n _ _ _ _ hx hy (Nat.le_refl _) l1 l2).mono ?_; rintro e w1 ⟨s, rfl, hs, -, hb1⟩; clear hx hy; have hB := Below.then hB hb1; clear hb1)
    | (go_at_call 29; refine (k3 _).mono ?_; clear k3; rintro e w1 ⟨z, rfl, hz, -, hb1⟩; have hs := (hs.below hb1).up hb1.size; have hB := Below.then hB hb1; clear hb1)
    | (go_at_call 27; refine (cmp_more (i + n) M _ _ _ _ hs hz (Nat.le_refl _) HH.out).mono ?_; rintro e w1 ⟨rfl, hb1⟩; have hB := Below.then hB hb1; clear hb1)
    )
  go_ret
  exact ⟨by first | rfl | simp, hB⟩

theorem rmint_is {p : Par} {a n : Nat} (i M : Nat) (l : Bool) (ko : RofIs p a n) (hi : i < 18446744073709551616) (hn : n < 18446744073709551616) (hM : M < 18446744073709551616) : RmintIs p a i M l (mintOf l i n M) := by
  unfold mintOf
  cases l with
  | true => exact rmint_leaks i M ko
  | false =>
    simp only [cond_false]
    by_cases h : i + n ≤ M
    · rw [if_pos h]; exact rmint_in i M ko hi hn hM h
    · rw [if_neg h]; exact rmint_over i M ko hi hn hM (by omega)

end Go.Proofs.Ytkimgkpjbfijmaa
