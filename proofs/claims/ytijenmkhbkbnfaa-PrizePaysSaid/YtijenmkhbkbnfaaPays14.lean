/- Law PrizePays (P14.2): what is paid of any prize, and what is above the most, are the document's. No condition. -/
import Derived.Test.YtijenmkhbkbnfaaAwake14
import Derived.Test.YtijenmkhbkbnfaaPriC
import Derived.Test.YtijenmkhbkbnfaaParP
import Derived.Test.YtijenmkhbkbnfaaParSb
import Derived.Test.YtijenmkhbkbnfaaLawP
import Derived.Test.YtijenmkhbkbnfaaStdL
import Derived.Test.YtijenmkhbkbnfaaParNew
import Derived.Test.YtijenmkhbkbnfaaRows
namespace Go.Proofs.Ytijenmkhbkbnfaa.PrizePays
open Go.RowKit Go.ChangeShapes Go.WideShapes Go.ChangeAt
set_option linter.unusedVariables false
set_option linter.unusedSimpArgs false


set_option maxRecDepth 100000 in
set_option maxHeartbeats 2000000 in
theorem walk_no (p : Par) (s : Std) (n : Nat) (w : World) (kp : PayIs p s n s n) (kr : ∀ w, Calls Try.prog 10 #[.agg p.vals] w fun e w' => e = .returned (.bool false) ∧ Below w.heap.size w w') : Calls Try.prog 4 #[.agg p.vals, .agg s.vals, .int .u64 (n : Int)] w fun ev w' => ev = .returned (.bool true) ∧ Below w.heap.size w w' := by
  have hP := (ParAt.new w p 24).up ((Below.refl _ _).alloc (Nat.le_refl _) (.cells s.vals 36))
  have hS : StdAt ((w.alloc (.cells p.vals 24)).alloc (.cells s.vals 36)) (w.heap.size + 1) s 36 := StdAt.new _ s _ (by simp)
  have hB : Below w.heap.size w ((w.alloc (.cells p.vals 24)).alloc (.cells s.vals 36)) := ((Below.refl _ _).alloc (Nat.le_refl _) _).alloc (by simp) _
  unfold PayIs at kp
  go_enter Try.func4, Try.ntmps4
  go_wp2_with (first
    | (refine load_par _ rfl rfl _ p _ rfl (by assumption) ?_)
    | (refine load_std _ rfl rfl _ s _ rfl (by assumption) ?_)
    | (refine load_ref _ rfl rfl _ p _ rfl (by assumption) ?_)
    | (go_at_call 7; refine (prize_awake _).mono ?_; rintro e w1 ⟨rfl, hb1⟩; have hP := hP.up hb1; have hS := hS.up hb1; have hB := Below.then hB hb1; clear hb1)
    | (go_at_call 15; refine (kp _).mono ?_; clear kp; rintro e w1 ⟨rfl, hb1⟩; have hP := hP.up hb1; have hS := hS.up hb1; have hB := Below.then hB hb1; clear hb1)
    | (refine store_std _ _ rfl rfl _ s Std.none 36 rfl rfl (std_zero_new _ _) ?_; intro w2 hR hb2; have hb1 := below_made (Below.refl _ _) hb2; clear hb2; have hP := hP.up hb1; have hS := hS.up hb1; have hB := Below.then hB hb1; clear hb1)
    | (go_at_call 9; refine (plain_is p _).mono ?_; rintro e w1 ⟨rfl, hb1⟩; have hP := hP.up hb1; have hS := hS.up hb1; have hR := hR.up hb1; have hB := Below.then hB hb1; clear hb1)
    | (refine store_ref_new _ _ rfl rfl _ p Par.none 31 rfl rfl (ParAt.new _ Par.none _) ?_; intro w2 hQ hb2; have hb1 := below_made (Below.refl _ _) hb2; clear hb2; have hP := hP.up hb1; have hS := hS.up hb1; have hR := hR.up hb1; have hB := Below.then hB hb1; clear hb1)
    | (go_at_call 10; refine (kr _).mono ?_; clear kr; rintro e w1 ⟨rfl, hb1⟩; have hP := hP.up hb1; have hS := hS.up hb1; have hR := hR.up hb1; have hQ := hQ.up hb1; have hB := Below.then hB hb1; clear hb1)
    | (refine op_eql_std _ _ _ rfl rfl s rfl rfl ?_)
    )
  go_ret
  exact ⟨by first | rfl | simp, hB⟩

set_option maxRecDepth 100000 in
set_option maxHeartbeats 2000000 in
theorem walk_yes (p : Par) (s r : Std) (n k : Nat) (w : World) (kp : PayIs p s n r k) (kq : RpayIs p s n r k) (kr : ∀ w, Calls Try.prog 10 #[.agg p.vals] w fun e w' => e = .returned (.bool true) ∧ Below w.heap.size w w') : Calls Try.prog 4 #[.agg p.vals, .agg s.vals, .int .u64 (n : Int)] w fun ev w' => ev = .returned (.bool true) ∧ Below w.heap.size w w' := by
  have hP := (ParAt.new w p 24).up ((Below.refl _ _).alloc (Nat.le_refl _) (.cells s.vals 36))
  have hS : StdAt ((w.alloc (.cells p.vals 24)).alloc (.cells s.vals 36)) (w.heap.size + 1) s 36 := StdAt.new _ s _ (by simp)
  have hB : Below w.heap.size w ((w.alloc (.cells p.vals 24)).alloc (.cells s.vals 36)) := ((Below.refl _ _).alloc (Nat.le_refl _) _).alloc (by simp) _
  unfold PayIs at kp
  unfold RpayIs at kq
  go_enter Try.func4, Try.ntmps4
  go_wp2_with (first
    | (refine load_par _ rfl rfl _ p _ rfl (by assumption) ?_)
    | (refine load_std _ rfl rfl _ s _ rfl (by assumption) ?_)
    | (refine load_std _ rfl rfl _ r _ rfl (by assumption) ?_)
    | (refine load_rst _ rfl rfl _ r _ rfl (by assumption) ?_)
    | (refine load_ref _ rfl rfl _ p _ rfl (by assumption) ?_)
    | (go_at_call 7; refine (prize_awake _).mono ?_; rintro e w1 ⟨rfl, hb1⟩; have hP := hP.up hb1; have hS := hS.up hb1; have hB := Below.then hB hb1; clear hb1)
    | (go_at_call 15; refine (kp _).mono ?_; clear kp; rintro e w1 ⟨rfl, hb1⟩; have hP := hP.up hb1; have hS := hS.up hb1; have hB := Below.then hB hb1; clear hb1)
    | (refine store_std _ _ rfl rfl _ r Std.none 36 rfl rfl (std_zero_new _ _) ?_; intro w2 hR hb2; have hb1 := below_made (Below.refl _ _) hb2; clear hb2; have hP := hP.up hb1; have hS := hS.up hb1; have hB := Below.then hB hb1; clear hb1)
    | (go_at_call 9; refine (plain_is p _).mono ?_; rintro e w1 ⟨rfl, hb1⟩; have hP := hP.up hb1; have hS := hS.up hb1; have hR := hR.up hb1; have hB := Below.then hB hb1; clear hb1)
    | (refine store_ref_new _ _ rfl rfl _ p Par.none 31 rfl rfl (ParAt.new _ Par.none _) ?_; intro w2 hQ hb2; have hb1 := below_made (Below.refl _ _) hb2; clear hb2; have hP := hP.up hb1; have hS := hS.up hb1; have hR := hR.up hb1; have hB := Below.then hB hb1; clear hb1)
    | (go_at_call 10; refine (kr _).mono ?_; clear kr; rintro e w1 ⟨rfl, hb1⟩; have hP := hP.up hb1; have hS := hS.up hb1; have hR := hR.up hb1; have hQ := hQ.up hb1; have hB := Below.then hB hb1; clear hb1)
    | (go_at_call 16; refine (kq _).mono ?_; clear kq; rintro e w1 ⟨rfl, hb1⟩; have hP := hP.up hb1; have hS := hS.up hb1; have hR := hR.up hb1; have hQ := hQ.up hb1; have hB := Below.then hB hb1; clear hb1)
    | (refine store_rst _ _ rfl rfl _ r Std.none 37 rfl rfl (std_zero_new _ _) ?_; intro w2 hX hb2; have hb1 := below_made (Below.refl _ _) hb2; clear hb2; have hP := hP.up hb1; have hS := hS.up hb1; have hR := hR.up hb1; have hQ := hQ.up hb1; have hB := Below.then hB hb1; clear hb1)
    | (refine op_eql_rst _ _ _ rfl rfl r rfl rfl ?_)
    )
  go_ret
  exact ⟨by first | rfl | simp, hB⟩
theorem walk (p : Par) (s : Std) (n : Nat) (w : World) (hf : p.Fits) (hs : s.Fits) (hn : n < 18446744073709551616) : Calls Try.prog 4 #[.agg p.vals, .agg s.vals, .int .u64 (n : Int)] w fun ev w' => ev = .returned (.bool true) ∧ Below w.heap.size w w' := by
  by_cases hR : ∃ N, Par.Right p N
  · obtain ⟨N, hN⟩ := hR
    have hc := hN.spans.cap1
    exact walk_yes p s _ n _ w (pay_ok p s n (fun w => check_ok p N w hN) (by omega) hs hn) (rpay_is p s n (by omega) hs hn) (fun w => refright_ok p N w hN)
  · exact walk_no p s n w (pay_no p s n (fun w => check_no p w hf hR)) (fun w => refright_no p w hR)


theorem own : ownKnob Try.prog.godebug = none := by kernel_rfl
theorem laidOut : laidOutB Try.prog = true := by kernel_rfl

set_option maxRecDepth 100000 in
theorem lifted (os : Os) (started : os.Started) (H : Type) (enc : TypeId × Value → H) :
    ReturnsInHanded {} Try.checked os 4 .any (Rows.prizePaysSpec.pre6 enc Try.prog Try.f4 Rows.prizePaysRow.domain false) (Rows.prizePaysSpec.post enc Try.prog Try.f4 false true false false) := by
  refine returnsInHanded_of_change (C := Try.checked) own started (by kernel_rfl) Try.func4
    (ChangeSpec.witness6 (enc := enc) (C := Try.checked) false ⟨#[], #[.agg #[.int .u64 0, .int .u64 0, .int .u64 0, .int .u64 0, .int .u64 0, .int .u64 0, .int .u64 0, .int .u64 0, .int .u64 0, .int .u64 0, .int .u64 0, .int .u64 0, .int .u64 0, .int .u64 0, .int .i64 0, .int .i64 0, .int .i64 0, .int .i64 0, .int .i64 0, .int .i64 0, .int .i64 0, .int .i64 0, .int .i64 0, .int .i64 0], .agg #[.int .u64 0, .int .u64 0, .int .u64 0, .int .i64 0], .int .u64 0], []⟩ 8 (by kernel_rfl) (by kernel_rfl) (by kernel_rfl) (by kernel_rfl)) ?_
  intro W base args ds gs before hval0 hW hcnd _
  have hval : ∀ (j : Nat) t v, Try.f4.params[j]? = some t → args[j]? = some v → Value.okWide Try.prog W .any base t v := hval0
  have hW' := hW
  obtain ⟨p, q, hA0, hV, rfl, hfz, hnd⟩ := hW
  have hlt : ∀ x ∈ p ++ q, x.block < W.heap.size := fun x hx => hW'.lt x hx
  have hA : DataW.TrodAll enc Try.prog W 0 (fun _ => true) true Try.f4.params.toList args.toList ds p := hA0
  rw [Try.params4] at hA hval
  obtain ⟨v0, vs0, d0, ds0, p0, q0, hargs, rfl, rfl, h0, r0⟩ := trodAll_cons hA
  obtain ⟨v1, vs1, d1, ds1, p1, q1, rfl, rfl, rfl, h1, r1⟩ := trodAll_cons r0
  obtain ⟨v2, vs2, d2, ds2, p2, q2, rfl, rfl, rfl, h2, r2⟩ := trodAll_cons r1
  obtain ⟨rfl, rfl, rfl⟩ := trodAll_nil r2
  obtain rfl : args = #[v0, v1, v2] := by cases args; simp_all
  obtain ⟨rfl, rfl⟩ := trodVars_none hV
  obtain ⟨a0, rfl, f0⟩ := open_par (hval 0 24 v0 rfl rfl) h0
  obtain ⟨a1, rfl, f1⟩ := open_std (hval 1 36 v1 rfl rfl) h1
  obtain ⟨a2, rfl, rfl, rfl, w2⟩ := open_int Try.underlying22 (hval 2 22 v2 rfl rfl) h2
  have b2 := u64_fits w2
  obtain ⟨n2, rfl⟩ := Int.eq_ofNat_of_zero_le b2.1
  clear hA0 hval0
  refine (walk a0 a1 n2 W f0 f1 (by have := b2.2; omega)).mono fun e W' ⟨he, hg⟩ => ?_
  subst he
  exact ⟨_, rfl, law_post laidOut (by kernel_rfl) rfl rfl Try.underlying4 rfl hW' hg⟩

theorem over : Rows.prizePaysRow.holds Try.pinned (OpenSpec.ofChange Rows.prizePaysSpec) :=
  OpenClaim.holds_of_wide 4 Try.f4 rfl rfl rfl rfl rfl rfl rfl ⟨rfl, rfl, rfl, rfl, rfl⟩ rfl rfl rfl rfl rfl (by kernel_rfl) Try.func4 (by kernel_rfl)
    (of_decide_eq_true (by kernel_rfl)) (by unfold Func.isWrapper; first | (rw [if_pos (by decide +kernel)]; kernel_rfl) | (rw [if_neg (by decide +kernel)]; exact ⟨rfl, rfl⟩))
    (fun os started H enc _ => lifted os started H enc)

/-- The statement. -/
theorem proved : Rows.PrizePaysSaid := over
#print axioms proved

end Go.Proofs.Ytijenmkhbkbnfaa.PrizePays
