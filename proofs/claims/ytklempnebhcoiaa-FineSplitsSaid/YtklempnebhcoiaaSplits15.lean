/- Law FineSplits (P15.2): any fine is split as the document says; of parameters that are not right nothing of it goes anywhere. No condition. -/
import Derived.Test.YtklempnebhcoiaaAwake15
import Derived.Test.YtklempnebhcoiaaFinB
import Derived.Test.YtklempnebhcoiaaParP
import Derived.Test.YtklempnebhcoiaaParSb
import Derived.Test.YtklempnebhcoiaaLawP
import Derived.Test.YtklempnebhcoiaaRows
namespace Go.Proofs.Ytklempnebhcoiaa.FineSplits
open Go.RowKit Go.ChangeShapes Go.WideShapes Go.ChangeAt
set_option linter.unusedVariables false
set_option linter.unusedSimpArgs false


set_option maxRecDepth 100000 in
set_option maxHeartbeats 2000000 in
theorem walk_no (p : Par) (n : Nat) (w : World) (ks : SplitIs p n 0 0) (kr : ∀ w, Calls Try.prog 11 #[.agg p.vals] w fun e w' => e = .returned (.bool false) ∧ Below w.heap.size w w') : Calls Try.prog 4 #[.agg p.vals, .int .u64 (n : Int)] w fun ev w' => ev = .returned (.bool true) ∧ Below w.heap.size w w' := by
  have hP := ParAt.new w p 24
  have hB : Below w.heap.size w (w.alloc (.cells p.vals 24)) := (Below.refl _ _).alloc (Nat.le_refl _) _
  unfold SplitIs at ks
  rw [show ((0 : Nat) : Int) = 0 from rfl] at ks
  go_enter Try.func4, Try.ntmps4
  go_wp2_with (first
    | (refine load_par _ rfl rfl _ p _ rfl (by assumption) ?_)
    | (refine load_ref _ rfl rfl _ p _ rfl (by assumption) ?_)
    | (go_at_call 7; refine (fine_awake _).mono ?_; rintro e w1 ⟨rfl, hb1⟩; have hP := hP.up hb1; have hB := Below.then hB hb1; clear hb1)
    | (go_at_call 14; refine (ks _).mono ?_; clear ks; rintro e w1 ⟨rfl, hb1⟩; have hP := hP.up hb1; have hB := Below.then hB hb1; clear hb1)
    | (go_at_call 10; refine (plain_is p _).mono ?_; rintro e w1 ⟨rfl, hb1⟩; have hP := hP.up hb1; have hB := Below.then hB hb1; clear hb1)
    | (refine store_ref_new _ _ rfl rfl _ p Par.none 31 rfl rfl (ParAt.new _ Par.none _) ?_; intro w2 hQ hb2; have hb1 := below_made (Below.refl _ _) hb2; clear hb2; have hP := hP.up hb1; have hB := Below.then hB hb1; clear hb1)
    | (go_at_call 11; refine (kr _).mono ?_; clear kr; rintro e w1 ⟨rfl, hb1⟩; have hP := hP.up hb1; have hQ := hQ.up hb1; have hB := Below.then hB hb1; clear hb1)
    )
  go_ret
  exact ⟨by first | rfl | simp, hB⟩

set_option maxRecDepth 100000 in
set_option maxHeartbeats 2000000 in
theorem walk_yes (p : Par) (n x y : Nat) (w : World) (ks : SplitIs p n x y) (kb : RburnIs p n x) (kr : ∀ w, Calls Try.prog 11 #[.agg p.vals] w fun e w' => e = .returned (.bool true) ∧ Below w.heap.size w w') (hy : x + y = n) (hn : n < 18446744073709551616) : Calls Try.prog 4 #[.agg p.vals, .int .u64 (n : Int)] w fun ev w' => ev = .returned (.bool true) ∧ Below w.heap.size w w' := by
  have hP := ParAt.new w p 24
  have hB : Below w.heap.size w (w.alloc (.cells p.vals 24)) := (Below.refl _ _).alloc (Nat.le_refl _) _
  unfold SplitIs at ks
  unfold RburnIs at kb
  have e1 : IntKind.u64.wrap ((n : Int) - (x : Int)) = (y : Int) := by rw [show (n : Int) - (x : Int) = (y : Int) by omega]; exact IntWalk.u64_in _ (by omega)
  clear hy hn
  go_enter Try.func4, Try.ntmps4
  go_wp2_with (first
    | (refine load_par _ rfl rfl _ p _ rfl (by assumption) ?_)
    | (refine load_ref _ rfl rfl _ p _ rfl (by assumption) ?_)
    | (go_at_call 7; refine (fine_awake _).mono ?_; rintro e w1 ⟨rfl, hb1⟩; have hP := hP.up hb1; have hB := Below.then hB hb1; clear hb1)
    | (go_at_call 14; refine (ks _).mono ?_; clear ks; rintro e w1 ⟨rfl, hb1⟩; have hP := hP.up hb1; have hB := Below.then hB hb1; clear hb1)
    | (go_at_call 10; refine (plain_is p _).mono ?_; rintro e w1 ⟨rfl, hb1⟩; have hP := hP.up hb1; have hB := Below.then hB hb1; clear hb1)
    | (refine store_ref_new _ _ rfl rfl _ p Par.none 31 rfl rfl (ParAt.new _ Par.none _) ?_; intro w2 hQ hb2; have hb1 := below_made (Below.refl _ _) hb2; clear hb2; have hP := hP.up hb1; have hB := Below.then hB hb1; clear hb1)
    | (go_at_call 11; refine (kr _).mono ?_; clear kr; rintro e w1 ⟨rfl, hb1⟩; have hP := hP.up hb1; have hQ := hQ.up hb1; have hB := Below.then hB hb1; clear hb1)
    | (go_at_call 13; refine (kb _).mono ?_; clear kb; rintro e w1 ⟨rfl, hb1⟩; have hP := hP.up hb1; have hQ := hQ.up hb1; have hB := Below.then hB hb1; clear hb1)
    )
  go_ret
  exact ⟨by first | rfl | simp, hB⟩
theorem walk (p : Par) (n : Nat) (w : World) (hf : p.Fits) (hn : n < 18446744073709551616) : Calls Try.prog 4 #[.agg p.vals, .int .u64 (n : Int)] w fun ev w' => ev = .returned (.bool true) ∧ Below w.heap.size w w' := by
  by_cases hR : ∃ N, Par.Right p N
  · obtain ⟨N, hN⟩ := hR
    have hle := burned_le hN.spans n
    exact walk_yes p n _ _ w (split_ok p n (fun w => check_ok p N w hN) hN.spans hn) (rburn_is p n hN.spans hn) (fun w => refright_ok p N w hN) (by omega) hn
  · exact walk_no p n w (split_no p n (fun w => check_no p w hf hR)) (fun w => refright_no p w hR)


theorem own : ownKnob Try.prog.godebug = none := by kernel_rfl
theorem laidOut : laidOutB Try.prog = true := by kernel_rfl

set_option maxRecDepth 100000 in
theorem lifted (os : Os) (started : os.Started) (H : Type) (enc : TypeId × Value → H) :
    ReturnsInHanded {} Try.checked os 4 .any (Rows.fineSplitsSpec.pre6 enc Try.prog Try.f4 Rows.fineSplitsRow.domain false) (Rows.fineSplitsSpec.post enc Try.prog Try.f4 false true false false) := by
  refine returnsInHanded_of_change (C := Try.checked) own started (by kernel_rfl) Try.func4
    (ChangeSpec.witness6 (enc := enc) (C := Try.checked) false ⟨#[], #[.agg #[.int .u64 0, .int .u64 0, .int .u64 0, .int .u64 0, .int .u64 0, .int .u64 0, .int .u64 0, .int .u64 0, .int .u64 0, .int .u64 0, .int .u64 0, .int .u64 0, .int .u64 0, .int .u64 0, .int .i64 0, .int .i64 0, .int .i64 0, .int .i64 0, .int .i64 0, .int .i64 0, .int .i64 0, .int .i64 0, .int .i64 0, .int .i64 0], .int .u64 0], []⟩ 8 (by kernel_rfl) (by kernel_rfl) (by kernel_rfl) (by kernel_rfl)) ?_
  intro W base args ds gs before hval0 hW hcnd _
  have hval : ∀ (j : Nat) t v, Try.f4.params[j]? = some t → args[j]? = some v → Value.okWide Try.prog W .any base t v := hval0
  have hW' := hW
  obtain ⟨p, q, hA0, hV, rfl, hfz, hnd⟩ := hW
  have hlt : ∀ x ∈ p ++ q, x.block < W.heap.size := fun x hx => hW'.lt x hx
  have hA : DataW.TrodAll enc Try.prog W 0 (fun _ => true) true Try.f4.params.toList args.toList ds p := hA0
  rw [Try.params4] at hA hval
  obtain ⟨v0, vs0, d0, ds0, p0, q0, hargs, rfl, rfl, h0, r0⟩ := trodAll_cons hA
  obtain ⟨v1, vs1, d1, ds1, p1, q1, rfl, rfl, rfl, h1, r1⟩ := trodAll_cons r0
  obtain ⟨rfl, rfl, rfl⟩ := trodAll_nil r1
  obtain rfl : args = #[v0, v1] := by cases args; simp_all
  obtain ⟨rfl, rfl⟩ := trodVars_none hV
  obtain ⟨a0, rfl, f0⟩ := open_par (hval 0 24 v0 rfl rfl) h0
  obtain ⟨a1, rfl, rfl, rfl, w1⟩ := open_int Try.underlying22 (hval 1 22 v1 rfl rfl) h1
  have b1 := u64_fits w1
  obtain ⟨n1, rfl⟩ := Int.eq_ofNat_of_zero_le b1.1
  clear hA0 hval0
  refine (walk a0 n1 W f0 (by have := b1.2; omega)).mono fun e W' ⟨he, hg⟩ => ?_
  subst he
  exact ⟨_, rfl, law_post laidOut (by kernel_rfl) rfl rfl Try.underlying4 rfl hW' hg⟩

theorem over : Rows.fineSplitsRow.holds Try.pinned (OpenSpec.ofChange Rows.fineSplitsSpec) :=
  OpenClaim.holds_of_wide 4 Try.f4 rfl rfl rfl rfl rfl rfl rfl ⟨rfl, rfl, rfl, rfl, rfl⟩ rfl rfl rfl rfl rfl (by kernel_rfl) Try.func4 (by kernel_rfl)
    (of_decide_eq_true (by kernel_rfl)) (by unfold Func.isWrapper; first | (rw [if_pos (by decide +kernel)]; kernel_rfl) | (rw [if_neg (by decide +kernel)]; exact ⟨rfl, rfl⟩))
    (fun os started H enc _ => lifted os started H enc)

/-- The statement. -/
theorem proved : Rows.FineSplitsSaid := over
#print axioms proved

end Go.Proofs.Ytklempnebhcoiaa.FineSplits
