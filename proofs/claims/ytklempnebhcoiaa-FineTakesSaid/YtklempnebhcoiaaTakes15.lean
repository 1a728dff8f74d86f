/- Law FineTakes (P15.1, P15.2): of any parameters and any standing, in any mode, what is lost, and where it goes, are the document's; nothing else of the standing changes. No condition. -/
import Derived.Test.YtklempnebhcoiaaAwake15
import Derived.Test.YtklempnebhcoiaaFinB
import Derived.Test.YtklempnebhcoiaaParP
import Derived.Test.YtklempnebhcoiaaParSb
import Derived.Test.YtklempnebhcoiaaLawP
import Derived.Test.YtklempnebhcoiaaLawS
import Derived.Test.YtklempnebhcoiaaRows
namespace Go.Proofs.Ytklempnebhcoiaa.FineTakes
open Go.RowKit Go.ChangeShapes Go.WideShapes Go.ChangeAt
set_option linter.unusedVariables false
set_option linter.unusedSimpArgs false


set_option maxRecDepth 100000 in
set_option maxHeartbeats 2000000 in
theorem walk_no (p : Par) (s : Std) (m : Int) (w : World) (kf : FineIs p s m 0) (kt : TakeIs p s m s 0 0) (kr : ∀ w, Calls Try.prog 11 #[.agg p.vals] w fun e w' => e = .returned (.bool false) ∧ Below w.heap.size w w') : Calls Try.prog 3 #[.agg p.vals, .agg s.vals, .int .i64 m] w fun ev w' => ev = .returned (.bool true) ∧ Below w.heap.size w w' := by
  have hP := (ParAt.new w p 24).up ((Below.refl _ _).alloc (Nat.le_refl _) (.cells s.vals 26))
  have hS : StdAt ((w.alloc (.cells p.vals 24)).alloc (.cells s.vals 26)) (w.heap.size + 1) s 26 := StdAt.new _ s _ (by simp)
  have hB : Below w.heap.size w ((w.alloc (.cells p.vals 24)).alloc (.cells s.vals 26)) := ((Below.refl _ _).alloc (Nat.le_refl _) _).alloc (by simp) _
  unfold FineIs at kf
  unfold TakeIs at kt
  rw [show ((0 : Nat) : Int) = 0 from rfl] at kf kt
  go_enter Try.func3, Try.ntmps3
  go_wp2_with (first
    | (refine load_par _ rfl rfl _ p _ rfl (by assumption) ?_)
    | (refine load_std _ rfl rfl _ s _ rfl (by assumption) ?_)
    | (refine load_ref _ rfl rfl _ p _ rfl (by assumption) ?_)
    | (go_at_call 7; refine (fine_awake _).mono ?_; rintro e w1 ⟨rfl, hb1⟩; have hP := hP.up hb1; have hS := hS.up hb1; have hB := Below.then hB hb1; clear hb1)
    | (go_at_call 8; refine (kf _).mono ?_; clear kf; rintro e w1 ⟨rfl, hb1⟩; have hP := hP.up hb1; have hS := hS.up hb1; have hB := Below.then hB hb1; clear hb1)
    | (go_at_call 9; refine (kt _).mono ?_; clear kt; rintro e w1 ⟨rfl, hb1⟩; have hP := hP.up hb1; have hS := hS.up hb1; have hB := Below.then hB hb1; clear hb1)
    | (refine store_std _ _ rfl rfl _ s Std.none 26 rfl rfl (std_zero_new _ _) ?_; intro w2 hR hb2; have hb1 := below_made (Below.refl _ _) hb2; clear hb2; have hP := hP.up hb1; have hS := hS.up hb1; have hB := Below.then hB hb1; clear hb1)
    | (go_at_call 10; refine (plain_is p _).mono ?_; rintro e w1 ⟨rfl, hb1⟩; have hP := hP.up hb1; have hS := hS.up hb1; have hR := hR.up hb1; have hB := Below.then hB hb1; clear hb1)
    | (refine store_ref_new _ _ rfl rfl _ p Par.none 31 rfl rfl (ParAt.new _ Par.none _) ?_; intro w2 hQ hb2; have hb1 := below_made (Below.refl _ _) hb2; clear hb2; have hP := hP.up hb1; have hS := hS.up hb1; have hR := hR.up hb1; have hB := Below.then hB hb1; clear hb1)
    | (go_at_call 11; refine (kr _).mono ?_; clear kr; rintro e w1 ⟨rfl, hb1⟩; have hP := hP.up hb1; have hS := hS.up hb1; have hR := hR.up hb1; have hQ := hQ.up hb1; have hB := Below.then hB hb1; clear hb1)
    | (refine op_eql_std _ _ _ rfl rfl s rfl rfl ?_)
    )
  go_ret
  exact ⟨by first | rfl | simp, hB⟩

set_option maxRecDepth 100000 in
set_option maxHeartbeats 2000000 in
theorem walk_yes (p : Par) (s : Std) (m : Int) (n v x y : Nat) (w : World) (kf : FineIs p s m n) (kt : TakeIs p s m ⟨v, s.eff, s.score, s.streak⟩ x y) (kq : RfineIs p s m n) (kb : RburnIs p n x) (kr : ∀ w, Calls Try.prog 11 #[.agg p.vals] w fun e w' => e = .returned (.bool true) ∧ Below w.heap.size w w') (hv : v + n = s.bal) (hy : x + y = n) (hb : s.bal < 18446744073709551616) : Calls Try.prog 3 #[.agg p.vals, .agg s.vals, .int .i64 m] w fun ev w' => ev = .returned (.bool true) ∧ Below w.heap.size w w' := by
  have hP := (ParAt.new w p 24).up ((Below.refl _ _).alloc (Nat.le_refl _) (.cells s.vals 26))
  have hS : StdAt ((w.alloc (.cells p.vals 24)).alloc (.cells s.vals 26)) (w.heap.size + 1) s 26 := StdAt.new _ s _ (by simp)
  have hB : Below w.heap.size w ((w.alloc (.cells p.vals 24)).alloc (.cells s.vals 26)) := ((Below.refl _ _).alloc (Nat.le_refl _) _).alloc (by simp) _
  unfold FineIs at kf
  unfold TakeIs at kt
  unfold RfineIs at kq
  unfold RburnIs at kb
  have e1 : IntKind.u64.wrap ((n : Int) - (x : Int)) = (y : Int) := by rw [show (n : Int) - (x : Int) = (y : Int) by omega]; exact IntWalk.u64_in _ (by omega)
  have e2 : IntKind.u64.wrap ((s.bal : Int) - (n : Int)) = (v : Int) := by rw [show (s.bal : Int) - (n : Int) = (v : Int) by omega]; exact IntWalk.u64_in _ (by omega)
  clear hy hv hb
  go_enter Try.func3, Try.ntmps3
  go_upto_region 10 with (first
    | (refine load_par _ rfl rfl _ p _ rfl (by assumption) ?_)
    | (refine load_std _ rfl rfl _ s _ rfl (by assumption) ?_)
    | (refine load_ref _ rfl rfl _ p _ rfl (by assumption) ?_)
    | (refine load_rst _ rfl rfl _ s _ rfl (by assumption) ?_)
    | (go_at_call 7; refine (fine_awake _).mono ?_; rintro e w1 ⟨rfl, hb1⟩; have hP := hP.up hb1; have hS := hS.up hb1; have hB := Below.then hB hb1; clear hb1)
    | (go_at_call 8; refine (kf _).mono ?_; clear kf; rintro e w1 ⟨rfl, hb1⟩; have hP := hP.up hb1; have hS := hS.up hb1; have hB := Below.then hB hb1; clear hb1)
    | (go_at_call 9; refine (kt _).mono ?_; clear kt; rintro e w1 ⟨rfl, hb1⟩; have hP := hP.up hb1; have hS := hS.up hb1; have hB := Below.then hB hb1; clear hb1)
    | (refine store_std _ _ rfl rfl _ (⟨v, s.eff, s.score, s.streak⟩ : Std) Std.none 26 rfl rfl (std_zero_new _ _) ?_; intro w2 hR hb2; have hb1 := below_made (Below.refl _ _) hb2; clear hb2; have hP := hP.up hb1; have hS := hS.up hb1; have hB := Below.then hB hb1; clear hb1)
    | (go_at_call 10; refine (plain_is p _).mono ?_; rintro e w1 ⟨rfl, hb1⟩; have hP := hP.up hb1; have hS := hS.up hb1; have hR := hR.up hb1; have hB := Below.then hB hb1; clear hb1)
    | (refine store_ref_new _ _ rfl rfl _ p Par.none 31 rfl rfl (ParAt.new _ Par.none _) ?_; intro w2 hQ hb2; have hb1 := below_made (Below.refl _ _) hb2; clear hb2; have hP := hP.up hb1; have hS := hS.up hb1; have hR := hR.up hb1; have hB := Below.then hB hb1; clear hb1)
    | (go_at_call 11; refine (kr _).mono ?_; clear kr; rintro e w1 ⟨rfl, hb1⟩; have hP := hP.up hb1; have hS := hS.up hb1; have hR := hR.up hb1; have hQ := hQ.up hb1; have hB := Below.then hB hb1; clear hb1)
    | (go_at_call 12; refine (kq _).mono ?_; clear kq; rintro e w1 ⟨rfl, hb1⟩; have hP := hP.up hb1; have hS := hS.up hb1; have hR := hR.up hb1; have hQ := hQ.up hb1; have hB := Below.then hB hb1; clear hb1)
    | (go_at_call 13; refine (kb _).mono ?_; clear kb; rintro e w1 ⟨rfl, hb1⟩; have hP := hP.up hb1; have hS := hS.up hb1; have hR := hR.up hb1; have hQ := hQ.up hb1; have hB := Below.then hB hb1; clear hb1)
    )
  have s0 := hS.c0
  have s1 := hS.c1
  have s2 := hS.c2
  have s3 := hS.c3
  have r0 := hR.c0
  have r1 := hR.c1
  have r2 := hR.c2
  have r3 := hR.c3
  go_wp2
  go_ret
  exact ⟨by first | rfl | simp, hB⟩
theorem walk (p : Par) (s : Std) (m : Int) (w : World) (hf : p.Fits) (hs : s.Fits) : Calls Try.prog 3 #[.agg p.vals, .agg s.vals, .int .i64 m] w fun ev w' => ev = .returned (.bool true) ∧ Below w.heap.size w w' := by
  by_cases hR : ∃ N, Par.Right p N
  · obtain ⟨N, hN⟩ := hR
    have kc : CheckIs p 0 := fun w => check_ok p N w hN
    have hle := Std.fine_le p m s
    have hle2 := burned_le hN.spans (Std.fine p m s)
    have hb := hs.bal
    exact walk_yes p s m _ _ _ _ w (of_ok p s m kc hN.spans hs) (take_ok p s m kc hN.spans hs) (rfine_is p s m hN.spans hs) (rburn_is p _ hN.spans (by omega)) (fun w => refright_ok p N w hN) (by omega) (by omega) hb
  · have kc : CheckIs p 70 := fun w => check_no p w hf hR
    exact walk_no p s m w (of_no p s m kc) (take_no p s m kc hs) (fun w => refright_no p w hR)


theorem own : ownKnob Try.prog.godebug = none := by kernel_rfl
theorem laidOut : laidOutB Try.prog = true := by kernel_rfl

set_option maxRecDepth 100000 in
theorem lifted (os : Os) (started : os.Started) (H : Type) (enc : TypeId × Value → H) :
    ReturnsInHanded {} Try.checked os 3 .any (Rows.fineTakesSpec.pre6 enc Try.prog Try.f3 Rows.fineTakesRow.domain false) (Rows.fineTakesSpec.post enc Try.prog Try.f3 false true false false) := by
  refine returnsInHanded_of_change (C := Try.checked) own started (by kernel_rfl) Try.func3
    (ChangeSpec.witness6 (enc := enc) (C := Try.checked) false ⟨#[], #[.agg #[.int .u64 0, .int .u64 0, .int .u64 0, .int .u64 0, .int .u64 0, .int .u64 0, .int .u64 0, .int .u64 0, .int .u64 0, .int .u64 0, .int .u64 0, .int .u64 0, .int .u64 0, .int .u64 0, .int .i64 0, .int .i64 0, .int .i64 0, .int .i64 0, .int .i64 0, .int .i64 0, .int .i64 0, .int .i64 0, .int .i64 0, .int .i64 0], .agg #[.int .u64 0, .int .u64 0, .int .u64 0, .int .i64 0], .int .i64 0], []⟩ 8 (by kernel_rfl) (by kernel_rfl) (by kernel_rfl) (by kernel_rfl)) ?_
  intro W base args ds gs before hval0 hW hcnd _
  have hval : ∀ (j : Nat) t v, Try.f3.params[j]? = some t → args[j]? = some v → Value.okWide Try.prog W .any base t v := hval0
  have hW' := hW
  obtain ⟨p, q, hA0, hV, rfl, hfz, hnd⟩ := hW
  have hlt : ∀ x ∈ p ++ q, x.block < W.heap.size := fun x hx => hW'.lt x hx
  have hA : DataW.TrodAll enc Try.prog W 0 (fun _ => true) true Try.f3.params.toList args.toList ds p := hA0
  rw [Try.params3] at hA hval
  obtain ⟨v0, vs0, d0, ds0, p0, q0, hargs, rfl, rfl, h0, r0⟩ := trodAll_cons hA
  obtain ⟨v1, vs1, d1, ds1, p1, q1, rfl, rfl, rfl, h1, r1⟩ := trodAll_cons r0
  obtain ⟨v2, vs2, d2, ds2, p2, q2, rfl, rfl, rfl, h2, r2⟩ := trodAll_cons r1
  obtain ⟨rfl, rfl, rfl⟩ := trodAll_nil r2
  obtain rfl : args = #[v0, v1, v2] := by cases args; simp_all
  obtain ⟨rfl, rfl⟩ := trodVars_none hV
  obtain ⟨a0, rfl, f0⟩ := open_par (hval 0 24 v0 rfl rfl) h0
  obtain ⟨a1, rfl, f1⟩ := open_std (hval 1 26 v1 rfl rfl) h1
  obtain ⟨a2, rfl, rfl, rfl, w2⟩ := open_int Try.underlying3 (hval 2 3 v2 rfl rfl) h2
  clear hA0 hval0
  refine (walk a0 a1 a2 W f0 f1).mono fun e W' ⟨he, hg⟩ => ?_
  subst he
  exact ⟨_, rfl, law_post laidOut (by kernel_rfl) rfl rfl Try.underlying4 rfl hW' hg⟩

theorem over : Rows.fineTakesRow.holds Try.pinned (OpenSpec.ofChange Rows.fineTakesSpec) :=
  OpenClaim.holds_of_wide 3 Try.f3 rfl rfl rfl rfl rfl rfl rfl ⟨rfl, rfl, rfl, rfl, rfl⟩ rfl rfl rfl rfl rfl (by kernel_rfl) Try.func3 (by kernel_rfl)
    (of_decide_eq_true (by kernel_rfl)) (by unfold Func.isWrapper; first | (rw [if_pos (by decide +kernel)]; kernel_rfl) | (rw [if_neg (by decide +kernel)]; exact ⟨rfl, rfl⟩))
    (fun os started H enc _ => lifted os started H enc)

/-- The statement. -/
theorem proved : Rows.FineTakesSaid := over
#print axioms proved

end Go.Proofs.Ytklempnebhcoiaa.FineTakes
