/- RootBack: for every number of 32 bits the law of layer 3 on the roots of squares returns true, and changes nothing. No condition. -/
import Derived.Test.YtcofdpcngklblaaRows
import Derived.Test.YtcofdpcngklblaaLaw
import Derived.Test.YtcofdpcngklblaaNear
namespace Go.Proofs.Ytcofdpcngklblaa.RootBack
open Go.ChangeShapes Go.WideShapes Go.ChangeAt Go.RowKit
set_option linter.unusedVariables false

theorem walk (n : Nat) (w : World) (hn : n < 4294967296) :
    Calls Try.prog 4 #[.int .u32 n] w fun e w' => e = .returned (.bool true) ∧ Below w.heap.size w w' := by
  rcases Nat.eq_zero_or_pos n with rfl | h0
  · have k1 : ∀ w, Calls Try.prog 8 #[.int .u64 0] w fun e w' => e = .returned (.int .u64 0) ∧ w = w' :=
      fun w => root_is 0 0 w (by omega) (isRoot_mk 0 rfl (by omega))
    have k2 : ∀ w, Calls Try.prog 12 #[.int .u64 0] w fun e w' => e = .returned (.bool true) ∧ w = w' :=
      fun w => square_is 0 0 0 w (by omega) (isRoot_mk 0 rfl (by omega)) rfl
    go_enter Try.func4, Try.ntmps4
    go_wp2_with (first
      | (go_at_call 6; refine (root_awake _).mono ?_; rintro e w' ⟨rfl, rfl⟩)
      | (go_at_call 8; refine (k1 _).mono ?_; clear k1; rintro e w' ⟨rfl, rfl⟩)
      | (go_at_call 12; refine (k2 _).mono ?_; clear k2; rintro e w' ⟨rfl, rfl⟩))
    go_ret
    exact ⟨rfl, Below.refl _ _⟩
  · by_cases h1 : n = 1
    · subst h1
      have k1 : ∀ w, Calls Try.prog 8 #[.int .u64 1] w fun e w' => e = .returned (.int .u64 1) ∧ w = w' :=
        fun w => root_is 1 1 w (by omega) (isRoot_mk 0 rfl (by omega))
      have k2 : ∀ w, Calls Try.prog 12 #[.int .u64 1] w fun e w' => e = .returned (.bool true) ∧ w = w' :=
        fun w => square_is 1 1 0 w (by omega) (isRoot_mk 0 rfl (by omega)) rfl
      have k3 : ∀ w, Calls Try.prog 8 #[.int .u64 2] w fun e w' => e = .returned (.int .u64 1) ∧ w = w' :=
        fun w => root_is 2 1 w (by omega) (isRoot_mk 1 rfl (by omega))
      have k4 : ∀ w, Calls Try.prog 8 #[.int .u64 0] w fun e w' => e = .returned (.int .u64 0) ∧ w = w' :=
        fun w => root_is 0 0 w (by omega) (isRoot_mk 0 rfl (by omega))
      go_enter Try.func4, Try.ntmps4
      go_wp2_with (first
        | (go_at_call 6; refine (root_awake _).mono ?_; rintro e w' ⟨rfl, rfl⟩)
        | (go_at_call 8; refine (k1 _).mono ?_; clear k1; rintro e w' ⟨rfl, rfl⟩)
        | (go_at_call 12; refine (k2 _).mono ?_; clear k2; rintro e w' ⟨rfl, rfl⟩)
        | (go_at_call 8; refine (k3 _).mono ?_; clear k3; rintro e w' ⟨rfl, rfl⟩)
        | (go_at_call 8; refine (k4 _).mono ?_; clear k4; rintro e w' ⟨rfl, rfl⟩))
      go_ret
      exact ⟨rfl, Below.refl _ _⟩
    · obtain ⟨M, HM, eM, hM⟩ := sq_name n (by omega)
      have hM2 : n * n + 0 = M := HM.out
      have hge : 2 * n ≤ M := by rw [← HM.out]; exact Nat.mul_le_mul_right n (by omega)
      have hlt : M + 1 < 18446744073709551616 := by
        have := Nat.mul_le_mul (show n ≤ 4294967295 by omega) (show n ≤ 4294967295 by omega)
        have := HM.out; omega
      have i1 : IsRoot M n := isRoot_mk 0 (by have := HM.out; omega) (by omega)
      have i2 : IsRoot (M + 1) n := isRoot_mk 1 (by have := HM.out; omega) (by omega)
      obtain ⟨p, hp⟩ : ∃ p, n = p + 1 := ⟨n - 1, by omega⟩
      have hsq : M = p * p + 2 * p + 1 := by rw [← HM.out, hp, Nat.add_mul, Nat.mul_add]; omega
      have i3 : IsRoot (M - 1) p := isRoot_mk (2 * p) (by omega) (by omega)
      have j1 : Hid (n * n + 0 = M) := Lib.hid hM2
      have j2 : Hid (n * n + 1 = M + 1) := Lib.hid (by omega)
      have q1 := Lib.hid i1
      have q2 := Lib.hid i2
      have q3 := Lib.hid i3
      have k1 : ∀ w, Calls Try.prog 8 #[.int .u64 (M : Int)] w fun e w' => e = .returned (.int .u64 (n : Int)) ∧ w = w' :=
        fun w => root_is M n w hM q1
      have k2 : ∀ w, Calls Try.prog 12 #[.int .u64 (M : Int)] w fun e w' => e = .returned (.bool true) ∧ w = w' :=
        fun w => square_is M n 0 w hM q1 j1
      have k3 : ∀ w, Calls Try.prog 8 #[.int .u64 ((M : Int) + 1)] w fun e w' => e = .returned (.int .u64 (n : Int)) ∧ w = w' :=
        fun w => by have := root_is (M + 1) n w hlt q2; rwa [show ((M + 1 : Nat) : Int) = (M : Int) + 1 by omega] at this
      have k4 : ∀ w, Calls Try.prog 8 #[.int .u64 ((M : Int) - 1)] w fun e w' => e = .returned (.int .u64 ((n : Int) - 1)) ∧ w = w' :=
        fun w => by have := root_is (M - 1) p w (by omega) q3; rwa [show ((M - 1 : Nat) : Int) = (M : Int) - 1 by omega, show ((p : Nat) : Int) = (n : Int) - 1 by omega] at this
      have k5 : ∀ w, Calls Try.prog 12 #[.int .u64 ((M : Int) + 1)] w fun e w' => e = .returned (.bool false) ∧ w = w' :=
        fun w => by have := square_is (M + 1) n 1 w hlt q2 j2; rwa [show ((M + 1 : Nat) : Int) = (M : Int) + 1 by omega] at this
      have z1 : ((n : Int) == 0) = false := by simp; omega
      have z2 : ((n : Int) == 1) = false := by simp; omega
      have b1 : 1 ≤ (n : Int) := by omega
      have b2 : 1 ≤ (M : Int) := by omega
      have b3 : (M : Int) + 1 ≤ 18446744073709551615 := by omega
      clear hM2 i1 i2 i3 hsq hp hge hlt
      go_enter Try.func4, Try.ntmps4
      go_wp2_with (first
        | (go_at_call 6; refine (root_awake _).mono ?_; rintro e w' ⟨rfl, rfl⟩)
        | (go_at_call 8; refine (k1 _).mono ?_; clear k1; rintro e w' ⟨rfl, rfl⟩)
        | (go_at_call 12; refine (k2 _).mono ?_; clear k2; rintro e w' ⟨rfl, rfl⟩)
        | (go_at_call 8; refine (k3 _).mono ?_; clear k3; rintro e w' ⟨rfl, rfl⟩)
        | (go_at_call 8; refine (k4 _).mono ?_; clear k4; rintro e w' ⟨rfl, rfl⟩)
        | (go_at_call 12; refine (k5 _).mono ?_; clear k5; rintro e w' ⟨rfl, rfl⟩))
      go_ret
      exact ⟨rfl, Below.refl _ _⟩

theorem own : ownKnob Try.prog.godebug = none := by kernel_rfl
theorem laidOut : laidOutB Try.prog = true := by kernel_rfl

set_option maxRecDepth 100000 in
theorem lifted (os : Os) (started : os.Started) (H : Type) (enc : TypeId × Value → H) :
    ReturnsInHanded {} Try.checked os 4 .any (Rows.rootBackSpec.pre6 enc Try.prog Try.f4 Rows.rootBackRow.domain false) (Rows.rootBackSpec.post enc Try.prog Try.f4 false true false false) := by
  refine returnsInHanded_of_change (C := Try.checked) own started (by kernel_rfl) Try.func4
    (ChangeSpec.witness6 (enc := enc) (C := Try.checked) false ⟨#[], #[.int .u32 0], []⟩ 8 (by kernel_rfl) (by kernel_rfl) (by kernel_rfl) (by kernel_rfl)) ?_
  intro W base args ds gs before hval0 hW hcnd _
  have hval : ∀ (j : Nat) t v, Try.f4.params[j]? = some t → args[j]? = some v → Value.okWide Try.prog W .any base t v := hval0
  have hW' := hW
  obtain ⟨p, q, hA0, hV, rfl, hfz, hnd⟩ := hW
  have hlt : ∀ x ∈ p ++ q, x.block < W.heap.size := fun x hx => hW'.lt x hx
  have hA : DataW.TrodAll enc Try.prog W 0 (fun _ => true) true Try.f4.params.toList args.toList ds p := hA0
  rw [Try.params4] at hA hval
  obtain ⟨v0, vs0, d0, ds0, p0, q0, hargs, rfl, rfl, h0, r0⟩ := trodAll_cons hA
  obtain ⟨rfl, rfl, rfl⟩ := trodAll_nil r0
  obtain rfl : args = #[v0] := by cases args; simp_all
  obtain ⟨rfl, rfl⟩ := trodVars_none hV
  obtain ⟨a0, rfl, rfl, rfl, w0⟩ := open_int Try.underlying28 (hval 0 28 v0 rfl rfl) h0
  have b0 := u32_fits w0
  obtain ⟨n0, rfl⟩ := Int.eq_ofNat_of_zero_le b0.1
  clear hA0 hval0
  refine (walk n0 W (by have := b0.2; omega)).mono fun e W' ⟨he, hg⟩ => ?_
  subst he
  exact ⟨_, rfl, law_post laidOut (by kernel_rfl) rfl rfl Try.underlying4 rfl hW' hg⟩

theorem over : Rows.rootBackRow.holds Try.pinned (OpenSpec.ofChange Rows.rootBackSpec) :=
  OpenClaim.holds_of_wide 4 Try.f4 rfl rfl rfl rfl rfl rfl rfl ⟨rfl, rfl, rfl, rfl, rfl⟩ rfl rfl rfl rfl rfl (by kernel_rfl) Try.func4 (by kernel_rfl)
    (of_decide_eq_true (by kernel_rfl)) (by unfold Func.isWrapper; first | (rw [if_pos (by decide +kernel)]; kernel_rfl) | (rw [if_neg (by decide +kernel)]; exact ⟨rfl, rfl⟩))
    (fun os started H enc _ => lifted os started H enc)

/-- The statement. -/
theorem proved : Rows.RootBackSaid := over
#print axioms proved
end Go.Proofs.Ytcofdpcngklblaa.RootBack
