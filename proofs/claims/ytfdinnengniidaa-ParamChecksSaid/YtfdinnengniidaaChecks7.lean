/- Law ParamChecks (P7.1): any parameters are right just if the document says so, and their leak is the document's. No condition. -/
import Derived.Test.YtfdinnengniidaaAwake7
import Derived.Test.YtfdinnengniidaaLawP
import Derived.Test.YtfdinnengniidaaParP
import Derived.Test.YtfdinnengniidaaParV
import Derived.Test.YtfdinnengniidaaRows
namespace Go.Proofs.Ytfdinnengniidaa.ParamChecks
open Go.RowKit Go.ChangeShapes Go.WideShapes Go.ChangeAt
set_option linter.unusedVariables false
set_option linter.unusedSimpArgs false

theorem leak_is (p : Par) (N : Nat) (w : World) (h : Par.Right p N) :
    Calls Try.prog 9 #[.agg p.vals] w fun e w' => e = .returned (.tuple #[.int .i64 (N : Int), .int .i64 0]) ∧ Below w.heap.size w w' := by
  obtain ⟨m, rfl⟩ : ∃ m, N = m + 1 := ⟨N - 1, by have := h.halt.pos; omega⟩
  rw [Int.natCast_add]
  exact leak_ok p m w h

set_option maxRecDepth 100000 in
set_option maxHeartbeats 2000000 in
theorem walk (p : Par) (w : World) (hf : p.Fits) :
    Calls Try.prog 3 #[.agg p.vals] w fun e w' => e = .returned (.bool true) ∧ Below w.heap.size w w' := by
  have hP := ParAt.new w p 24
  have hB : Below w.heap.size w (w.alloc (.cells p.vals 24)) := (Below.refl _ _).alloc (Nat.le_refl _) _
  by_cases hR : ∃ N, Par.Right p N
  · obtain ⟨N, hN⟩ := hR
    have hm := hN.most
    have kl := fun w => leak_is p N w hN
    have kr := fun w => refright_ok p N w hN
    have kc := fun w => check_ok p N w hN
    have kt := fun w => ticks_of p N hN.spans hN.halt w
    have hwr : IntKind.u64.wrap (N : Int) = (N : Int) := IntWalk.u64_in _ (by omega)
    clear hN hf hm
    go_enter Try.func3, Try.ntmps3
    go_wp2_with (first
      | (refine load_par _ rfl rfl _ p _ rfl (by assumption) ?_)
      | (go_at_call 8; refine (param_awake _).mono ?_; rintro e w1 ⟨rfl, hb1⟩; have hP := hP.up hb1; have hB := Below.then hB hb1)
      | (go_at_call 9; refine (kl _).mono ?_; clear kl; rintro e w1 ⟨rfl, hb1⟩; have hP := hP.up hb1; have hB := Below.then hB hb1)
      | (go_at_call 11; refine (plain_is p _).mono ?_; rintro e w1 ⟨rfl, hb1⟩; have hP := hP.up hb1; have hB := Below.then hB hb1)
      | (go_at_call 10; refine (kr _).mono ?_; clear kr; rintro e w1 ⟨rfl, hb1⟩; have hP := hP.up hb1; have hB := Below.then hB hb1)
      | (go_at_call 12; refine (kc _).mono ?_; clear kc; rintro e w1 ⟨rfl, hb1⟩; have hP := hP.up hb1; have hB := Below.then hB hb1)
      | (go_at_call 13; refine (kt _).mono ?_; clear kt; rintro e w1 ⟨rfl, hb1⟩; have hP := hP.up hb1; have hB := Below.then hB hb1))
    go_ret
    exact ⟨rfl, hB⟩
  · have kl := fun w => leak_no p w hf hR
    have kr := fun w => refright_no p w hR
    have kc := fun w => check_no p w hf hR
    clear hf hR
    go_enter Try.func3, Try.ntmps3
    go_wp2_with (first
      | (refine load_par _ rfl rfl _ p _ rfl (by assumption) ?_)
      | (go_at_call 8; refine (param_awake _).mono ?_; rintro e w1 ⟨rfl, hb1⟩; have hP := hP.up hb1; have hB := Below.then hB hb1)
      | (go_at_call 9; refine (kl _).mono ?_; clear kl; rintro e w1 ⟨rfl, hb1⟩; have hP := hP.up hb1; have hB := Below.then hB hb1)
      | (go_at_call 11; refine (plain_is p _).mono ?_; rintro e w1 ⟨rfl, hb1⟩; have hP := hP.up hb1; have hB := Below.then hB hb1)
      | (go_at_call 10; refine (kr _).mono ?_; clear kr; rintro e w1 ⟨rfl, hb1⟩; have hP := hP.up hb1; have hB := Below.then hB hb1)
      | (go_at_call 12; refine (kc _).mono ?_; clear kc; rintro e w1 ⟨rfl, hb1⟩; have hP := hP.up hb1; have hB := Below.then hB hb1))
    go_ret
    exact ⟨rfl, hB⟩

theorem own : ownKnob Try.prog.godebug = none := by kernel_rfl
theorem laidOut : laidOutB Try.prog = true := by kernel_rfl

set_option maxRecDepth 100000 in
theorem lifted (os : Os) (started : os.Started) (H : Type) (enc : TypeId × Value → H) :
    ReturnsInHanded {} Try.checked os 3 .any (Rows.paramChecksSpec.pre6 enc Try.prog Try.f3 Rows.paramChecksRow.domain false) (Rows.paramChecksSpec.post enc Try.prog Try.f3 false true false false) := by
  refine returnsInHanded_of_change (C := Try.checked) own started (by kernel_rfl) Try.func3
    (ChangeSpec.witness6 (enc := enc) (C := Try.checked) false ⟨#[], #[.agg #[.int .u64 0, .int .u64 0, .int .u64 0, .int .u64 0, .int .u64 0, .int .u64 0, .int .u64 0, .int .u64 0, .int .u64 0, .int .u64 0, .int .u64 0, .int .u64 0, .int .u64 0, .int .u64 0, .int .i64 0, .int .i64 0, .int .i64 0, .int .i64 0, .int .i64 0, .int .i64 0, .int .i64 0, .int .i64 0, .int .i64 0, .int .i64 0]], []⟩ 8 (by kernel_rfl) (by kernel_rfl) (by kernel_rfl) (by kernel_rfl)) ?_
  intro W base args ds gs before hval0 hW hcnd _
  have hval : ∀ (j : Nat) t v, Try.f3.params[j]? = some t → args[j]? = some v → Value.okWide Try.prog W .any base t v := hval0
  have hW' := hW
  obtain ⟨p, q, hA0, hV, rfl, hfz, hnd⟩ := hW
  have hlt : ∀ x ∈ p ++ q, x.block < W.heap.size := fun x hx => hW'.lt x hx
  have hA : DataW.TrodAll enc Try.prog W 0 (fun _ => true) true Try.f3.params.toList args.toList ds p := hA0
  rw [Try.params3] at hA hval
  obtain ⟨v0, vs0, d0, ds0, p0, q0, hargs, rfl, rfl, h0, r0⟩ := trodAll_cons hA
  obtain ⟨rfl, rfl, rfl⟩ := trodAll_nil r0
  obtain rfl : args = #[v0] := by cases args; simp_all
  obtain ⟨rfl, rfl⟩ := trodVars_none hV
  obtain ⟨a0, rfl, f0⟩ := open_par (hval 0 24 v0 rfl rfl) h0
  clear hA0 hval0
  refine (walk a0 W f0).mono fun e W' ⟨he, hg⟩ => ?_
  subst he
  exact ⟨_, rfl, law_post laidOut (by kernel_rfl) rfl rfl Try.underlying4 rfl hW' hg⟩

theorem over : Rows.paramChecksRow.holds Try.pinned (OpenSpec.ofChange Rows.paramChecksSpec) :=
  OpenClaim.holds_of_wide 3 Try.f3 rfl rfl rfl rfl rfl rfl rfl ⟨rfl, rfl, rfl, rfl, rfl⟩ rfl rfl rfl rfl rfl (by kernel_rfl) Try.func3 (by kernel_rfl)
    (of_decide_eq_true (by kernel_rfl)) (by unfold Func.isWrapper; first | (rw [if_pos (by decide +kernel)]; kernel_rfl) | (rw [if_neg (by decide +kernel)]; exact ⟨rfl, rfl⟩))
    (fun os started H enc _ => lifted os started H enc)

/-- The statement. -/
theorem proved : Rows.ParamChecksSaid := over
#print axioms proved

end Go.Proofs.Ytfdinnengniidaa.ParamChecks
