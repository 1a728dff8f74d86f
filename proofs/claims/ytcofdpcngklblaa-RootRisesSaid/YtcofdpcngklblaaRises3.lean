/- RootRises: for every two numbers of 64 bits the law of layer 3 on rising roots returns true, and changes nothing. No condition. -/
import Derived.Test.YtcofdpcngklblaaRows
import Derived.Test.YtcofdpcngklblaaLaw
import Derived.Test.YtcofdpcngklblaaNear
namespace Go.Proofs.Ytcofdpcngklblaa.RootRises
open Go.ChangeShapes Go.WideShapes Go.ChangeAt Go.RowKit
set_option linter.unusedVariables false

set_option maxRecDepth 100000 in
theorem walk (n m : Nat) (w : World) (hn : n < 18446744073709551616) (hm : m < 18446744073709551616) :
    Calls Try.prog 5 #[.int .u64 n, .int .u64 m] w fun e w' => e = .returned (.bool true) ∧ Below w.heap.size w w' := by
  obtain ⟨r, hr⟩ := root_ex n
  obtain ⟨s, hs⟩ := root_ex m
  have r1 := hr.word hn
  have s1 := hs.word hm
  obtain ⟨R, HR, eR, hR⟩ := sq_name r (by omega)
  have hRn : R ≤ n := by rw [← HR.out]; exact hr.low
  have hrs : n ≤ m → r ≤ s := hr.rises hs
  have hnext : r < 4294967295 → ∃ S : Nat, n < S ∧ S < 18446744073709551616 ∧ ((r : Int) + 1) * ((r : Int) + 1) = (S : Int) := by
    intro h
    obtain ⟨S, HS, eS, hS⟩ := sq_name (r + 1) (by omega)
    exact ⟨S, by rw [← HS.out]; exact hr.high, hS, by rw [← eS]; simp⟩
  have y3 : IntKind.u64.wrap (R : Int) = (R : Int) := IntWalk.u64_in _ (by omega)
  have c1 : ((4294967295 : Int) < (r : Int)) = False := eq_false (by omega)
  have c2 : decide ((4294967295 : Int) < (r : Int)) = false := decide_eq_false (by omega)
  have c3 : decide (n < R) = false := decide_eq_false (by omega)
  have c4 : (n < R) = False := eq_false (by omega)
  have k1 := fun w => root_is n r w hn (Lib.hid hr)
  have k2 := fun w => root_is m s w hm (Lib.hid hs)
  clear hr hs
  have R1 := Lib.hid r1
  have S1 := Lib.hid s1
  clear r1 s1
  rcases Nat.lt_or_ge m n with hmn | hmn
  · clear hrs k2
    by_cases hl : r < 4294967295
    · obtain ⟨S, hS1, hS2, eS⟩ := hnext hl
      have y1 : IntKind.u64.wrap ((r : Int) + 1) = (r : Int) + 1 := IntWalk.u64_in _ (by have := R1.out; omega)
      have y2 : IntKind.u64.wrap (S : Int) = (S : Int) := IntWalk.u64_in _ (by omega)
      have d1 : ((r : Int) < 4294967295) = True := eq_true (by omega)
      have d2 : decide ((r : Int) < 4294967295) = true := decide_eq_true (by omega)
      have d3 : decide (S ≤ n) = false := decide_eq_false (by omega)
      have d4 : (S ≤ n) = False := eq_false (by omega)
      have HL := Lib.hid hl
      clear hnext hl
      go_enter Try.func5, Try.ntmps5
      go_wp2_with (first
        | (go_at_call 6; refine (root_awake _).mono ?_; rintro e w' ⟨rfl, rfl⟩)
        | (go_at_call 8; refine (k1 _).mono ?_; clear k1; rintro e w' ⟨rfl, rfl⟩))
      go_ret
      exact ⟨rfl, Below.refl _ _⟩
    · obtain rfl : r = 4294967295 := by have := R1.out; omega
      have hRl : R = 18446744065119617025 := by have := HR.out; omega
      have e1 : ((n : Int) < 18446744065119617025) = False := eq_false (by omega)
      have e2 : decide ((n : Int) < 18446744065119617025) = false := decide_eq_false (by omega)
      clear hnext eR c1 c2 hRl c3 c4 y3 HR hR hRn
      go_enter Try.func5, Try.ntmps5
      go_wp2_with (first
        | (go_at_call 6; refine (root_awake _).mono ?_; rintro e w' ⟨rfl, rfl⟩)
        | (go_at_call 8; refine (k1 _).mono ?_; clear k1; rintro e w' ⟨rfl, rfl⟩))
      go_ret
      exact ⟨rfl, Below.refl _ _⟩
  · have hle := hrs hmn
    clear hrs
    by_cases hl : r < 4294967295
    · obtain ⟨S, hS1, hS2, eS⟩ := hnext hl
      have y1 : IntKind.u64.wrap ((r : Int) + 1) = (r : Int) + 1 := IntWalk.u64_in _ (by have := R1.out; omega)
      have y2 : IntKind.u64.wrap (S : Int) = (S : Int) := IntWalk.u64_in _ (by omega)
      have d1 : ((r : Int) < 4294967295) = True := eq_true (by omega)
      have d2 : decide ((r : Int) < 4294967295) = true := decide_eq_true (by omega)
      have d3 : decide (S ≤ n) = false := decide_eq_false (by omega)
      have d4 : (S ≤ n) = False := eq_false (by omega)
      have HL := Lib.hid hl
      clear hnext hl
      go_enter Try.func5, Try.ntmps5
      go_wp2_with (first
        | (go_at_call 6; refine (root_awake _).mono ?_; rintro e w' ⟨rfl, rfl⟩)
        | (go_at_call 8; refine (k1 _).mono ?_; clear k1; rintro e w' ⟨rfl, rfl⟩)
        | (go_at_call 8; refine (k2 _).mono ?_; clear k2; rintro e w' ⟨rfl, rfl⟩))
      go_ret
      exact ⟨rfl, Below.refl _ _⟩
    · obtain rfl : r = 4294967295 := by have := R1.out; omega
      have hRl : R = 18446744065119617025 := by have := HR.out; omega
      have e1 : ((n : Int) < 18446744065119617025) = False := eq_false (by omega)
      have e2 : decide ((n : Int) < 18446744065119617025) = false := decide_eq_false (by omega)
      have g1 : decide ((4294967295 : Int) ≤ (s : Int)) = true := decide_eq_true (by omega)
      clear hnext eR c1 c2 hRl c3 c4 y3 HR hR hRn
      go_enter Try.func5, Try.ntmps5
      go_wp2_with (first
        | (go_at_call 6; refine (root_awake _).mono ?_; rintro e w' ⟨rfl, rfl⟩)
        | (go_at_call 8; refine (k1 _).mono ?_; clear k1; rintro e w' ⟨rfl, rfl⟩)
        | (go_at_call 8; refine (k2 _).mono ?_; clear k2; rintro e w' ⟨rfl, rfl⟩))
      go_ret
      exact ⟨rfl, Below.refl _ _⟩

theorem own : ownKnob Try.prog.godebug = none := by kernel_rfl
theorem laidOut : laidOutB Try.prog = true := by kernel_rfl

set_option maxRecDepth 100000 in
theorem lifted (os : Os) (started : os.Started) (H : Type) (enc : TypeId × Value → H) :
    ReturnsInHanded {} Try.checked os 5 .any (Rows.rootRisesSpec.pre6 enc Try.prog Try.f5 Rows.rootRisesRow.domain false) (Rows.rootRisesSpec.post enc Try.prog Try.f5 false true false false) := by
  refine returnsInHanded_of_change (C := Try.checked) own started (by kernel_rfl) Try.func5
    (ChangeSpec.witness6 (enc := enc) (C := Try.checked) false ⟨#[], #[.int .u64 0, .int .u64 0], []⟩ 8 (by kernel_rfl) (by kernel_rfl) (by kernel_rfl) (by kernel_rfl)) ?_
  intro W base args ds gs before hval0 hW hcnd _
  have hval : ∀ (j : Nat) t v, Try.f5.params[j]? = some t → args[j]? = some v → Value.okWide Try.prog W .any base t v := hval0
  have hW' := hW
  obtain ⟨p, q, hA0, hV, rfl, hfz, hnd⟩ := hW
  have hlt : ∀ x ∈ p ++ q, x.block < W.heap.size := fun x hx => hW'.lt x hx
  have hA : DataW.TrodAll enc Try.prog W 0 (fun _ => true) true Try.f5.params.toList args.toList ds p := hA0
  rw [Try.params5] at hA hval
  obtain ⟨v0, vs0, d0, ds0, p0, q0, hargs, rfl, rfl, h0, r0⟩ := trodAll_cons hA
  obtain ⟨v1, vs1, d1, ds1, p1, q1, rfl, rfl, rfl, h1, r1⟩ := trodAll_cons r0
  obtain ⟨rfl, rfl, rfl⟩ := trodAll_nil r1
  obtain rfl : args = #[v0, v1] := by cases args; simp_all
  obtain ⟨rfl, rfl⟩ := trodVars_none hV
  obtain ⟨a0, rfl, rfl, rfl, w0⟩ := open_int Try.underlying22 (hval 0 22 v0 rfl rfl) h0
  have b0 := u64_fits w0
  obtain ⟨n0, rfl⟩ := Int.eq_ofNat_of_zero_le b0.1
  obtain ⟨a1, rfl, rfl, rfl, w1⟩ := open_int Try.underlying22 (hval 1 22 v1 rfl rfl) h1
  have b1 := u64_fits w1
  obtain ⟨n1, rfl⟩ := Int.eq_ofNat_of_zero_le b1.1
  clear hA0 hval0
  refine (walk n0 n1 W (by have := b0.2; omega) (by have := b1.2; omega)).mono fun e W' ⟨he, hg⟩ => ?_
  subst he
  exact ⟨_, rfl, law_post laidOut (by kernel_rfl) rfl rfl Try.underlying4 rfl hW' hg⟩

theorem over : Rows.rootRisesRow.holds Try.pinned (OpenSpec.ofChange Rows.rootRisesSpec) :=
  OpenClaim.holds_of_wide 5 Try.f5 rfl rfl rfl rfl rfl rfl rfl ⟨rfl, rfl, rfl, rfl, rfl⟩ rfl rfl rfl rfl rfl (by kernel_rfl) Try.func5 (by kernel_rfl)
    (of_decide_eq_true (by kernel_rfl)) (by unfold Func.isWrapper; first | (rw [if_pos (by decide +kernel)]; kernel_rfl) | (rw [if_neg (by decide +kernel)]; exact ⟨rfl, rfl⟩))
    (fun os started H enc _ => lifted os started H enc)

/-- The statement. -/
theorem proved : Rows.RootRisesSaid := over
#print axioms proved
end Go.Proofs.Ytcofdpcngklblaa.RootRises
