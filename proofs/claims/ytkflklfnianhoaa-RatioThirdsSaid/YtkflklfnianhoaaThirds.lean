/- RatioThirds: for every two numbers of 64 bits the law of layer 2 on two thirds returns true, and changes nothing. No condition. -/
import Derived.Test.YtkflklfnianhoaaRows
import Derived.Test.YtkflklfnianhoaaLaw
import Derived.Test.YtkflklfnianhoaaAwake2
namespace Go.Proofs.Ytkflklfnianhoaa.RatioThirds
open Go.ChangeShapes Go.WideShapes Go.ChangeAt Go.RowKit
set_option linter.unusedVariables false

theorem walk (p a : Nat) (w : World) (hp : p < 18446744073709551616) (ha : a < 18446744073709551616) :
    Calls Try.prog 6 #[.int .u64 p, .int .u64 a] w fun e w' => e = .returned (.bool true) ∧ Below w.heap.size w w' := by
  by_cases h1 : 4611686018427387904 < a
  · go_enter Try.func6, Try.ntmps6
    go_wp2_with (go_at_call 7; refine (ratio_awake _).mono ?_; rintro e w1 ⟨rfl, hb1⟩)
    go_ret
    exact ⟨rfl, hb1⟩
  · by_cases h2 : a < p
    · go_enter Try.func6, Try.ntmps6
      go_wp2_with (go_at_call 7; refine (ratio_awake _).mono ?_; rintro e w1 ⟨rfl, hb1⟩)
      go_ret
      exact ⟨rfl, hb1⟩
    · -- no product of these comes round
      rcases Nat.eq_zero_or_pos a with rfl | h0
      · obtain rfl : p = 0 := by omega
        have k1 : ∀ w, Calls Try.prog 16 #[.int .u64 0, .int .u64 0] w fun e w' => e = .returned (.bool false) ∧ Below w.heap.size w w' :=
          fun w => ratio_two 0 0 w (by omega) (by omega)
        go_enter Try.func6, Try.ntmps6
        go_wp2_with (first
          | (go_at_call 7; refine (ratio_awake _).mono ?_; rintro e w1 ⟨rfl, hb1⟩)
          | (go_at_call 16; refine (k1 _).mono ?_; rintro e w2 ⟨rfl, hb2⟩; replace hb1 := Below.then hb1 hb2; clear hb2))
        go_ret
        exact ⟨rfl, hb1⟩
      · have b1 : 0 < (a : Int) := by omega
        have k1 : ∀ w, Calls Try.prog 16 #[.int .u64 a, .int .u64 a] w fun e w' => e = .returned (.bool true) ∧ Below w.heap.size w w' :=
          fun w => by have := ratio_two a a w ha ha; rwa [decide_eq_true (by omega)] at this
        have k2 : ∀ w, Calls Try.prog 16 #[.int .u64 0, .int .u64 a] w fun e w' => e = .returned (.bool false) ∧ Below w.heap.size w w' :=
          fun w => by have := ratio_two 0 a w (by omega) ha; rwa [decide_eq_false (by omega)] at this
        by_cases h3 : 2 * a < 3 * p
        · have k3 : ∀ w, Calls Try.prog 16 #[.int .u64 p, .int .u64 a] w fun e w' => e = .returned (.bool true) ∧ Below w.heap.size w w' :=
            fun w => by have := ratio_two p a w hp ha; rwa [decide_eq_true (by omega)] at this
          by_cases h4 : a = 1
          · subst h4
            obtain rfl : p = 1 := by omega
            go_enter Try.func6, Try.ntmps6
            go_wp2_with (first
              | (go_at_call 7; refine (ratio_awake _).mono ?_; rintro e w1 ⟨rfl, hb1⟩)
              | (go_at_call 16; refine (k3 _).mono ?_; clear k3; rintro e w2 ⟨rfl, hb2⟩; replace hb1 := Below.then hb1 hb2; clear hb2)
              | (go_at_call 16; refine (k1 _).mono ?_; clear k1; rintro e w2 ⟨rfl, hb2⟩; replace hb1 := Below.then hb1 hb2; clear hb2)
              | (go_at_call 16; refine (k2 _).mono ?_; clear k2; rintro e w2 ⟨rfl, hb2⟩; replace hb1 := Below.then hb1 hb2; clear hb2))
            go_ret
            exact ⟨rfl, hb1⟩
          · have k4 : ∀ w, Calls Try.prog 16 #[.int .u64 p, .int .u64 ((a : Int) - 1)] w fun e w' => e = .returned (.bool true) ∧ Below w.heap.size w w' :=
              fun w => by have := ratio_two p (a - 1) w hp (by omega); rwa [decide_eq_true (by omega), show ((a - 1 : Nat) : Int) = (a : Int) - 1 by omega] at this
            have z : ((a : Int) == 1) = false := by simp; omega
            go_enter Try.func6, Try.ntmps6
            go_wp2_with (first
              | (go_at_call 7; refine (ratio_awake _).mono ?_; rintro e w1 ⟨rfl, hb1⟩)
              | (go_at_call 16; refine (k3 _).mono ?_; clear k3; rintro e w2 ⟨rfl, hb2⟩; replace hb1 := Below.then hb1 hb2; clear hb2)
              | (go_at_call 16; refine (k1 _).mono ?_; clear k1; rintro e w2 ⟨rfl, hb2⟩; replace hb1 := Below.then hb1 hb2; clear hb2)
              | (go_at_call 16; refine (k2 _).mono ?_; clear k2; rintro e w2 ⟨rfl, hb2⟩; replace hb1 := Below.then hb1 hb2; clear hb2)
              | (go_at_call 16; refine (k4 _).mono ?_; clear k4; rintro e w2 ⟨rfl, hb2⟩; replace hb1 := Below.then hb1 hb2; clear hb2))
            go_ret
            exact ⟨rfl, hb1⟩
        · have k3 : ∀ w, Calls Try.prog 16 #[.int .u64 p, .int .u64 a] w fun e w' => e = .returned (.bool false) ∧ Below w.heap.size w w' :=
            fun w => by have := ratio_two p a w hp ha; rwa [decide_eq_false (by omega)] at this
          go_enter Try.func6, Try.ntmps6
          go_wp2_with (first
            | (go_at_call 7; refine (ratio_awake _).mono ?_; rintro e w1 ⟨rfl, hb1⟩)
            | (go_at_call 16; refine (k3 _).mono ?_; clear k3; rintro e w2 ⟨rfl, hb2⟩; replace hb1 := Below.then hb1 hb2; clear hb2)
            | (go_at_call 16; refine (k1 _).mono ?_; clear k1; rintro e w2 ⟨rfl, hb2⟩; replace hb1 := Below.then hb1 hb2; clear hb2)
            | (go_at_call 16; refine (k2 _).mono ?_; clear k2; rintro e w2 ⟨rfl, hb2⟩; replace hb1 := Below.then hb1 hb2; clear hb2))
          go_ret
          exact ⟨rfl, hb1⟩


theorem own : ownKnob Try.prog.godebug = none := by kernel_rfl
theorem laidOut : laidOutB Try.prog = true := by kernel_rfl

set_option maxRecDepth 100000 in
theorem lifted (os : Os) (started : os.Started) (H : Type) (enc : TypeId × Value → H) :
    ReturnsInHanded {} Try.checked os 6 .any (Rows.ratioThirdsSpec.pre6 enc Try.prog Try.f6 Rows.ratioThirdsRow.domain false) (Rows.ratioThirdsSpec.post enc Try.prog Try.f6 false true false false) := by
  refine returnsInHanded_of_change (C := Try.checked) own started (by kernel_rfl) Try.func6
    (ChangeSpec.witness6 (enc := enc) (C := Try.checked) false ⟨#[], #[.int .u64 0, .int .u64 0], []⟩ 8 (by kernel_rfl) (by kernel_rfl) (by kernel_rfl) (by kernel_rfl)) ?_
  intro W base args ds gs before hval0 hW hcnd _
  have hval : ∀ (j : Nat) t v, Try.f6.params[j]? = some t → args[j]? = some v → Value.okWide Try.prog W .any base t v := hval0
  have hW' := hW
  obtain ⟨p, q, hA0, hV, rfl, hfz, hnd⟩ := hW
  have hlt : ∀ x ∈ p ++ q, x.block < W.heap.size := fun x hx => hW'.lt x hx
  have hA : DataW.TrodAll enc Try.prog W 0 (fun _ => true) true Try.f6.params.toList args.toList ds p := hA0
  rw [Try.params6] at hA hval
  obtain ⟨v0, vs0, d0, ds0, p0, q0, hargs, rfl, rfl, h0, r0⟩ := trodAll_cons hA
  obtain ⟨v1, vs1, d1, ds1, p1, q1, rfl, rfl, rfl, h1, r1⟩ := trodAll_cons r0
  obtain ⟨rfl, rfl, rfl⟩ := trodAll_nil r1
  obtain rfl : args = #[v0, v1] := by cases args; simp_all
  obtain ⟨rfl, rfl⟩ := trodVars_none hV
  obtain ⟨a0, rfl, rfl, rfl, w0⟩ := open_int Try.underlying22 (hval 0 22 v0 rfl rfl) h0
  have b0 := u64_fits w0
  obtain ⟨n0, rfl⟩ := Int.eq_ofNat_of_zero_le b0.1
  obtain ⟨a1, rfl, rfl, rfl, w1⟩ := open_int Try.underlying22 (hval 1 22 v1 rfl rfl) h1
  have b1 := u64_fits w1
  obtain ⟨n1, rfl⟩ := Int.eq_ofNat_of_zero_le b1.1
  clear hA0 hval0
  refine (walk n0 n1 W (by have := b0.2; omega) (by have := b1.2; omega)).mono fun e W' ⟨he, hg⟩ => ?_
  subst he
  exact ⟨_, rfl, law_post laidOut (by kernel_rfl) rfl rfl Try.underlying4 rfl hW' hg⟩

theorem over : Rows.ratioThirdsRow.holds Try.pinned (OpenSpec.ofChange Rows.ratioThirdsSpec) :=
  OpenClaim.holds_of_wide 6 Try.f6 rfl rfl rfl rfl rfl rfl rfl ⟨rfl, rfl, rfl, rfl, rfl⟩ rfl rfl rfl rfl rfl (by kernel_rfl) Try.func6 (by kernel_rfl)
    (of_decide_eq_true (by kernel_rfl)) (by unfold Func.isWrapper; first | (rw [if_pos (by decide +kernel)]; kernel_rfl) | (rw [if_neg (by decide +kernel)]; exact ⟨rfl, rfl⟩))
    (fun os started H enc _ => lifted os started H enc)

/-- The statement. -/
theorem proved : Rows.RatioThirdsSaid := over
#print axioms proved
end Go.Proofs.Ytkflklfnianhoaa.RatioThirds
