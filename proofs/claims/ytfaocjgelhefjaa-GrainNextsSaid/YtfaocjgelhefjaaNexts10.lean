/- Law GrainNexts (P10.1, P10.2): of any parameters and any balances the effective balance that follows, whether it fits, and what is above the most, are the document's. No condition. -/
import Derived.Test.YtfaocjgelhefjaaAwake10
import Derived.Test.YtfaocjgelhefjaaGraL
import Derived.Test.YtfaocjgelhefjaaGraC
import Derived.Test.YtfaocjgelhefjaaLawP
import Derived.Test.YtfaocjgelhefjaaParP
import Derived.Test.YtfaocjgelhefjaaParV
import Derived.Test.YtfaocjgelhefjaaRows
namespace Go.Proofs.Ytfaocjgelhefjaa.GrainNexts
open Go.RowKit Go.ChangeShapes Go.WideShapes Go.ChangeAt
set_option linter.unusedVariables false
set_option linter.unusedSimpArgs false


set_option maxRecDepth 100000 in
set_option maxHeartbeats 2000000 in
theorem walk (p : Par) (e b : Nat) (w : World) (hf : p.Fits) (he : e < 18446744073709551616) (hb : b < 18446744073709551616) :
    Calls Try.prog 3 #[.agg p.vals, .int .u64 (e : Int), .int .u64 (b : Int)] w fun ev w' => ev = .returned (.bool true) ∧ Below w.heap.size w w' := by
  have hP := ParAt.new w p 24
  have hB : Below w.heap.size w (w.alloc (.cells p.vals 24)) := (Below.refl _ _).alloc (Nat.le_refl _) _
  by_cases hR : ∃ N, Par.Right p N
  · obtain ⟨N, hN⟩ := hR
    have hc : CheckIs p 0 := fun w => check_ok p N w hN
    have kr := fun w => refright_ok p N w hN
    have s := hN.spans
    have i0 := s.inc0
    have c1 := s.cap1
    have u1 := s.up1
    have o1 := s.down1
    have kc := fun w => gclamp_ok p b w hc hb (by omega)
    have kw := fun w => gwhole_ok p b _ w hc i0 hb (Lib.hid rfl)
    have rw1 := fun w => refwhole_is p b _ w i0 hb (Lib.hid rfl)
    have kn := fun w => gnext_ok p e b _ w hc i0 he hb (Lib.hid rfl)
    have rn := fun w => refnext_is p e b _ w i0 he hb (by omega) (by omega) (Lib.hid rfl)
    have kf := fun w => gfits_ok p e b _ w hc i0 he hb (Lib.hid rfl)
    have rf := fun w => reffits_is p e b _ w i0 he hb (by omega) (by omega) (Lib.hid rfl)
    have e1 : min (b : Int) (p.cap : Int) = ((min b p.cap : Nat) : Int) := by omega
    have e2 : (b : Int) - ((min b p.cap : Nat) : Int) = ((b - p.cap : Nat) : Int) := by omega
    have e3 : IntKind.u64.wrap ((b - p.cap : Nat) : Int) = ((b - p.cap : Nat) : Int) := IntWalk.u64_in _ (by omega)
    have e4 : IntKind.u64.wrap ((b : Int) - ((min b p.cap : Nat) : Int)) = ((b - p.cap : Nat) : Int) := by rw [e2, e3]
    have v3 := p.v3
    generalize min b p.cap = K at *
    generalize b - p.cap = R at *
    generalize p.whole b = W at *
    generalize p.next e b = n at *
    generalize p.fit e b = F at *
    clear hN hf s hc i0 c1 u1 o1 he hb
    go_enter Try.func3, Try.ntmps3
    go_wp2_with (first
      | (refine load_par _ rfl rfl _ p _ rfl (by assumption) ?_)
      | (refine load_ref _ rfl rfl _ p _ rfl (by assumption) ?_)
      | (refine store_ref_new _ _ rfl rfl _ p Par.none 28 rfl rfl (ParAt.new _ Par.none _) ?_; intro w2 hS hb2; have hP := hP.up (below_made (Below.refl _ _) hb2); have hB := below_made hB hb2; have hg := hb2.size; clear hb2)
      | (go_at_call 6; refine (grain_awake _).mono ?_; rintro e w1 ⟨rfl, hb1⟩; have hP := hP.up hb1; have hB := Below.then hB hb1; clear hb1)
      | (go_at_call 7; refine (kc _).mono ?_; clear kc; rintro e w1 ⟨rfl, hb1⟩; have hP := hP.up hb1; have hB := Below.then hB hb1; clear hb1)
      | (go_at_call 8; refine (plain_is p _).mono ?_; rintro e w1 ⟨rfl, hb1⟩; have hP := hP.up hb1; have hB := Below.then hB hb1; clear hb1)
      | (go_at_call 9; refine (kr _).mono ?_; clear kr; rintro e w1 ⟨rfl, hb1⟩; have hP := hP.up hb1; have hS := hS.up hb1; have hB := Below.then hB hb1; clear hb1))
    have cells : ∀ w', Below w1.heap.size w1 w' → ParAt w' w.heap.size p 24 := fun w' h => hP.up h
    have rells := fun w' (h : Below w1.heap.size w1 w') => hS.up h
    clear hP hS
    try dsimp only [List.append_eq, List.cons_append, List.nil_append]
    refine region_list [] (fun _ w' => Below w1.heap.size w1 w') (by kernel_rfl) (by kernel_rfl) (Below.refl _ _).drew ?_
    refine SeqS.take _ (by rfl) (by rfl) (fun ph w' hS => exec_load_par _ rfl _ _ _ rfl (cells w' hS)) ?_
    simp only [Act.put, List.setIfInBounds_toArray, List.set_cons_zero, List.set_cons_succ]
    refine' SeqS.calm _ (by rfl) (by rfl) (fun w => ?_) ?_; rotate_left; · (go_simp <;> with_reducible rfl)
    simp only [Act.put, List.setIfInBounds_toArray, List.set_cons_zero, List.set_cons_succ]
    refine SeqS.call (below_call (Nat.le_refl _) (fun w _ => kw w)) (by rfl) (by rfl) (fun w => ?_) ?_; · go_simp
    simp only [Act.put, List.setIfInBounds_toArray, List.set_cons_zero, List.set_cons_succ]
    refine SeqS.take _ (by rfl) (by rfl) (fun ph w' hS => exec_load_rpar _ rfl _ _ _ rfl (rells w' hS)) ?_
    simp only [Act.put, List.setIfInBounds_toArray, List.set_cons_zero, List.set_cons_succ]
    refine' SeqS.calm _ (by rfl) (by rfl) (fun w => ?_) ?_; rotate_left; · (go_simp <;> with_reducible rfl)
    simp only [Act.put, List.setIfInBounds_toArray, List.set_cons_zero, List.set_cons_succ]
    refine SeqS.call (below_call (Nat.le_refl _) (fun w _ => rw1 w)) (by rfl) (by rfl) (fun w => ?_) ?_; · go_simp
    simp only [Act.put, List.setIfInBounds_toArray, List.set_cons_zero, List.set_cons_succ]
    iterate 2 ((refine' SeqS.calm _ (by rfl) (by rfl) (fun w => ?_) ?_; rotate_left; · (go_simp <;> with_reducible rfl)); simp only [Act.put, List.setIfInBounds_toArray, List.set_cons_zero, List.set_cons_succ])
    refine SeqS.take _ (by rfl) (by rfl) (fun ph w' hS => exec_load_par _ rfl _ _ _ rfl (cells w' hS)) ?_
    simp only [Act.put, List.setIfInBounds_toArray, List.set_cons_zero, List.set_cons_succ]
    iterate 2 ((refine' SeqS.calm _ (by rfl) (by rfl) (fun w => ?_) ?_; rotate_left; · (go_simp <;> with_reducible rfl)); simp only [Act.put, List.setIfInBounds_toArray, List.set_cons_zero, List.set_cons_succ])
    refine SeqS.call (below_call (Nat.le_refl _) (fun w _ => kn w)) (by rfl) (by rfl) (fun w => ?_) ?_; · go_simp
    simp only [Act.put, List.setIfInBounds_toArray, List.set_cons_zero, List.set_cons_succ]
    refine SeqS.take _ (by rfl) (by rfl) (fun ph w' hS => exec_load_rpar _ rfl _ _ _ rfl (rells w' hS)) ?_
    simp only [Act.put, List.setIfInBounds_toArray, List.set_cons_zero, List.set_cons_succ]
    iterate 2 ((refine' SeqS.calm _ (by rfl) (by rfl) (fun w => ?_) ?_; rotate_left; · (go_simp <;> with_reducible rfl)); simp only [Act.put, List.setIfInBounds_toArray, List.set_cons_zero, List.set_cons_succ])
    refine SeqS.call (below_call (Nat.le_refl _) (fun w _ => rn w)) (by rfl) (by rfl) (fun w => ?_) ?_; · go_simp
    simp only [Act.put, List.setIfInBounds_toArray, List.set_cons_zero, List.set_cons_succ]
    iterate 3 ((refine' SeqS.calm _ (by rfl) (by rfl) (fun w => ?_) ?_; rotate_left; · (go_simp <;> with_reducible rfl)); simp only [Act.put, List.setIfInBounds_toArray, List.set_cons_zero, List.set_cons_succ])
    refine SeqS.take _ (by rfl) (by rfl) (fun ph w' hS => exec_load_par _ rfl _ _ _ rfl (cells w' hS)) ?_
    simp only [Act.put, List.setIfInBounds_toArray, List.set_cons_zero, List.set_cons_succ]
    iterate 2 ((refine' SeqS.calm _ (by rfl) (by rfl) (fun w => ?_) ?_; rotate_left; · (go_simp <;> with_reducible rfl)); simp only [Act.put, List.setIfInBounds_toArray, List.set_cons_zero, List.set_cons_succ])
    refine SeqS.call (below_call (Nat.le_refl _) (fun w _ => kf w)) (by rfl) (by rfl) (fun w => ?_) ?_; · go_simp
    simp only [Act.put, List.setIfInBounds_toArray, List.set_cons_zero, List.set_cons_succ]
    refine SeqS.take _ (by rfl) (by rfl) (fun ph w' hS => exec_load_rpar _ rfl _ _ _ rfl (rells w' hS)) ?_
    simp only [Act.put, List.setIfInBounds_toArray, List.set_cons_zero, List.set_cons_succ]
    iterate 2 ((refine' SeqS.calm _ (by rfl) (by rfl) (fun w => ?_) ?_; rotate_left; · (go_simp <;> with_reducible rfl)); simp only [Act.put, List.setIfInBounds_toArray, List.set_cons_zero, List.set_cons_succ])
    refine SeqS.call (below_call (Nat.le_refl _) (fun w _ => rf w)) (by rfl) (by rfl) (fun w => ?_) ?_; · go_simp
    simp only [Act.put, List.setIfInBounds_toArray, List.set_cons_zero, List.set_cons_succ]
    iterate 6 ((refine' SeqS.calm _ (by rfl) (by rfl) (fun w => ?_) ?_; rotate_left; · (go_simp <;> with_reducible rfl)); simp only [Act.put, List.setIfInBounds_toArray, List.set_cons_zero, List.set_cons_succ])
    refine' SeqS.take _ (by rfl) (by rfl) (fun ph w' hS => ?_) ?_; rotate_left; · (have c3 := ((rells w' hS).cell 3).trans v3; go_simp <;> with_reducible rfl)
    simp only [Act.put, List.setIfInBounds_toArray, List.set_cons_zero, List.set_cons_succ]
    iterate 11 ((refine' SeqS.calm _ (by rfl) (by rfl) (fun w => ?_) ?_; rotate_left; · (go_simp <;> with_reducible rfl)); simp only [Act.put, List.setIfInBounds_toArray, List.set_cons_zero, List.set_cons_succ])
    intro w3 hw3
    have hB := Below.then hB hw3
    go_wp2
    go_ret
    exact ⟨by first | rfl | simp, hB⟩
  · have hc : CheckIs p 70 := fun w => check_no p w hf hR
    have kr := fun w => refright_no p w hR
    have kc := fun w => gclamp_no p b w hc
    have kw := fun w => gwhole_no p b w hc
    have kn := fun w => gnext_no p e b w hc
    have kf := fun w => gfits_no p e b w hc
    clear hf hR hc he hb
    go_enter Try.func3, Try.ntmps3
    go_wp2_with (first
      | (refine load_par _ rfl rfl _ p _ rfl (by assumption) ?_)
      | (refine load_ref _ rfl rfl _ p _ rfl (by assumption) ?_)
      | (refine store_ref_new _ _ rfl rfl _ p Par.none 28 rfl rfl (ParAt.new _ Par.none _) ?_; intro w2 hS hb2; have hP := hP.up (below_made (Below.refl _ _) hb2); have hB := below_made hB hb2; have hg := hb2.size; clear hb2)
      | (go_at_call 6; refine (grain_awake _).mono ?_; rintro e w1 ⟨rfl, hb1⟩; have hP := hP.up hb1; have hB := Below.then hB hb1; clear hb1)
      | (go_at_call 7; refine (kc _).mono ?_; clear kc; rintro e w1 ⟨rfl, hb1⟩; have hP := hP.up hb1; have hB := Below.then hB hb1; clear hb1)
      | (go_at_call 8; refine (plain_is p _).mono ?_; rintro e w1 ⟨rfl, hb1⟩; have hP := hP.up hb1; have hB := Below.then hB hb1; clear hb1)
      | (go_at_call 9; refine (kr _).mono ?_; clear kr; rintro e w1 ⟨rfl, hb1⟩; have hP := hP.up hb1; have hS := hS.up hb1; have hB := Below.then hB hb1; clear hb1)
      | (go_at_call 10; refine (kw _).mono ?_; clear kw; rintro e w1 ⟨rfl, hb1⟩; have hP := hP.up hb1; have hS := hS.up hb1; have hB := Below.then hB hb1; clear hb1)
      | (go_at_call 11; refine (kn _).mono ?_; clear kn; rintro e w1 ⟨rfl, hb1⟩; have hP := hP.up hb1; have hS := hS.up hb1; have hB := Below.then hB hb1; clear hb1)
      | (go_at_call 12; refine (kf _).mono ?_; clear kf; rintro e w1 ⟨rfl, hb1⟩; have hP := hP.up hb1; have hS := hS.up hb1; have hB := Below.then hB hb1; clear hb1)
      )
    go_ret
    exact ⟨by first | rfl | simp, hB⟩


theorem own : ownKnob Try.prog.godebug = none := by kernel_rfl
theorem laidOut : laidOutB Try.prog = true := by kernel_rfl

set_option maxRecDepth 100000 in
theorem lifted (os : Os) (started : os.Started) (H : Type) (enc : TypeId × Value → H) :
    ReturnsInHanded {} Try.checked os 3 .any (Rows.grainNextsSpec.pre6 enc Try.prog Try.f3 Rows.grainNextsRow.domain false) (Rows.grainNextsSpec.post enc Try.prog Try.f3 false true false false) := by
  refine returnsInHanded_of_change (C := Try.checked) own started (by kernel_rfl) Try.func3
    (ChangeSpec.witness6 (enc := enc) (C := Try.checked) false ⟨#[], #[.agg #[.int .u64 0, .int .u64 0, .int .u64 0, .int .u64 0, .int .u64 0, .int .u64 0, .int .u64 0, .int .u64 0, .int .u64 0, .int .u64 0, .int .u64 0, .int .u64 0, .int .u64 0, .int .u64 0, .int .i64 0, .int .i64 0, .int .i64 0, .int .i64 0, .int .i64 0, .int .i64 0, .int .i64 0, .int .i64 0, .int .i64 0, .int .i64 0], .int .u64 0, .int .u64 0], []⟩ 8 (by kernel_rfl) (by kernel_rfl) (by kernel_rfl) (by kernel_rfl)) ?_
  intro W base args ds gs before hval0 hW hcnd _
  have hval : ∀ (j : Nat) t v, Try.f3.params[j]? = some t → args[j]? = some v → Value.okWide Try.prog W .any base t v := hval0
  have hW' := hW
  obtain ⟨p, q, hA0, hV, rfl, hfz, hnd⟩ := hW
  have hlt : ∀ x ∈ p ++ q, x.block < W.heap.size := fun x hx => hW'.lt x hx
  have hA : DataW.TrodAll enc Try.prog W 0 (fun _ => true) true Try.f3.params.toList args.toList ds p := hA0
  rw [Try.params3] at hA hval
  obtain ⟨v0, vs0, d0, ds0, p0, q0, hargs, rfl, rfl, h0, r0⟩ := trodAll_cons hA
  obtain ⟨v1, vs1, d1, ds1, p1, q1, rfl, rfl, rfl, h1, r1⟩ := trodAll_cons r0
  obtain ⟨v2, vs2, d2, ds2, p2, q2, rfl, rfl, rfl, h2, r2⟩ := trodAll_cons r1
  obtain ⟨rfl, rfl, rfl⟩ := trodAll_nil r2
  obtain rfl : args = #[v0, v1, v2] := by cases args; simp_all
  obtain ⟨rfl, rfl⟩ := trodVars_none hV
  obtain ⟨a0, rfl, f0⟩ := open_par (hval 0 24 v0 rfl rfl) h0
  obtain ⟨a1, rfl, rfl, rfl, w1⟩ := open_int Try.underlying22 (hval 1 22 v1 rfl rfl) h1
  have b1 := u64_fits w1
  obtain ⟨n1, rfl⟩ := Int.eq_ofNat_of_zero_le b1.1
  obtain ⟨a2, rfl, rfl, rfl, w2⟩ := open_int Try.underlying22 (hval 2 22 v2 rfl rfl) h2
  have b2 := u64_fits w2
  obtain ⟨n2, rfl⟩ := Int.eq_ofNat_of_zero_le b2.1
  clear hA0 hval0
  refine (walk a0 n1 n2 W f0 (by have := b1.2; omega) (by have := b2.2; omega)).mono fun e W' ⟨he, hg⟩ => ?_
  subst he
  exact ⟨_, rfl, law_post laidOut (by kernel_rfl) rfl rfl Try.underlying4 rfl hW' hg⟩

theorem over : Rows.grainNextsRow.holds Try.pinned (OpenSpec.ofChange Rows.grainNextsSpec) :=
  OpenClaim.holds_of_wide 3 Try.f3 rfl rfl rfl rfl rfl rfl rfl ⟨rfl, rfl, rfl, rfl, rfl⟩ rfl rfl rfl rfl rfl (by kernel_rfl) Try.func3 (by kernel_rfl)
    (of_decide_eq_true (by kernel_rfl)) (by unfold Func.isWrapper; first | (rw [if_pos (by decide +kernel)]; kernel_rfl) | (rw [if_neg (by decide +kernel)]; exact ⟨rfl, rfl⟩))
    (fun os started H enc _ => lifted os started H enc)

/-- The statement. -/
theorem proved : Rows.GrainNextsSaid := over
#print axioms proved

end Go.Proofs.Ytfaocjgelhefjaa.GrainNexts
