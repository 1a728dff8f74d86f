/- RootOf: for every number of 64 bits the law of layer 3 on roots and the squares around returns true, and changes nothing. No condition. -/
import Derived.Test.YtcofdpcngklblaaRows
import Derived.Test.YtcofdpcngklblaaLaw
import Derived.Test.YtcofdpcngklblaaNear
import Derived.Test.YtcofdpcngklblaaRef3B
namespace Go.Proofs.Ytcofdpcngklblaa.RootOf
open Go.ChangeShapes Go.WideShapes Go.ChangeAt Go.RowKit
set_option linter.unusedVariables false

set_option maxRecDepth 100000 in
theorem walk (n : Nat) (w : World) (hn : n < 18446744073709551616) :
    Calls Try.prog 3 #[.int .u64 n] w fun e w' => e = .returned (.bool true) ∧ Below w.heap.size w w' := by
  obtain ⟨r, hr0⟩ := root_ex n
  have hr := Lib.hid hr0
  obtain ⟨b, hb⟩ : ∃ b : Nat, Hid (r * r + b = n) := ⟨n - r * r, Lib.hid (by have := hr0.low; omega)⟩
  obtain ⟨a, ha, k4⟩ : ∃ a : Nat, Hid (if r = 4294967295 then a = 0 else n + a = (r + 1) * (r + 1)) ∧
      ∀ w, Calls Try.prog 11 #[.int .u64 n] w fun e w' => e = .returned (.int .u64 a) ∧ Below w.heap.size w w' := by
    by_cases hl : r = 4294967295
    · subst hl
      exact ⟨0, by show ite _ _ _; rw [if_pos rfl], fun w => ref_above_none n w hn hr⟩
    · have h1 : n + ((r + 1) * (r + 1) - n) = (r + 1) * (r + 1) := by have := hr0.high; omega
      exact ⟨(r + 1) * (r + 1) - n, by show ite _ _ _; rw [if_neg hl]; exact h1, fun w => ref_above_some n r _ w hn hr (by have := hr0.word hn; omega) (Lib.hid h1)⟩
  clear hr0
  have k1 := fun w => near_is n r b a w hn hr hb ha
  have k2 := fun w => root_is n r w hn hr
  have k3 := fun w => ref_root n r w hn hr
  have k5 := fun w => ref_below n r b w hn hr hb
  have k6 := fun w => square_is n r b w hn hr hb
  go_enter Try.func3, Try.ntmps3
  go_wp2_with (first
    | (go_at_call 6; refine (root_awake _).mono ?_; rintro e w' ⟨rfl, rfl⟩)
    | (go_at_call 7; refine (k1 _).mono ?_; rintro e w' ⟨rfl, rfl⟩)
    | (go_at_call 8; refine (k2 _).mono ?_; rintro e w' ⟨rfl, rfl⟩)
    | (go_at_call 9; refine (k3 _).mono ?_; rintro e w1 ⟨rfl, hb1⟩)
    | (go_at_call 10; refine (k5 _).mono ?_; rintro e w2 ⟨rfl, hb2⟩; replace hb1 := Below.then hb1 hb2; clear hb2)
    | (go_at_call 11; refine (k4 _).mono ?_; rintro e w2 ⟨rfl, hb2⟩; replace hb1 := Below.then hb1 hb2; clear hb2)
    | (go_at_call 12; refine (k6 _).mono ?_; rintro e w' ⟨rfl, rfl⟩))
  go_ret
  exact ⟨rfl, hb1⟩

theorem own : ownKnob Try.prog.godebug = none := by kernel_rfl
theorem laidOut : laidOutB Try.prog = true := by kernel_rfl

set_option maxRecDepth 100000 in
theorem lifted (os : Os) (started : os.Started) (H : Type) (enc : TypeId × Value → H) :
    ReturnsInHanded {} Try.checked os 3 .any (Rows.rootOfSpec.pre6 enc Try.prog Try.f3 Rows.rootOfRow.domain false) (Rows.rootOfSpec.post enc Try.prog Try.f3 false true false false) := by
  refine returnsInHanded_of_change (C := Try.checked) own started (by kernel_rfl) Try.func3
    (ChangeSpec.witness6 (enc := enc) (C := Try.checked) false ⟨#[], #[.int .u64 0], []⟩ 8 (by kernel_rfl) (by kernel_rfl) (by kernel_rfl) (by kernel_rfl)) ?_
  intro W base args ds gs before hval0 hW hcnd _
  have hval : ∀ (j : Nat) t v, Try.f3.params[j]? = some t → args[j]? = some v → Value.okWide Try.prog W .any base t v := hval0
  have hW' := hW
  obtain ⟨p, q, hA0, hV, rfl, hfz, hnd⟩ := hW
  have hlt : ∀ x ∈ p ++ q, x.block < W.heap.size := fun x hx => hW'.lt x hx
  have hA : DataW.TrodAll enc Try.prog W 0 (fun _ => true) true Try.f3.params.toList args.toList ds p := hA0
  rw [Try.params3] at hA hval
  obtain ⟨v0, vs0, d0, ds0, p0, q0, hargs, rfl, rfl, h0, r0⟩ := trodAll_cons hA
  obtain ⟨rfl, rfl, rfl⟩ := trodAll_nil r0
  obtain rfl : args = #[v0] := by cases args; simp_all
  obtain ⟨rfl, rfl⟩ := trodVars_none hV
  obtain ⟨a0, rfl, rfl, rfl, w0⟩ := open_int Try.underlying22 (hval 0 22 v0 rfl rfl) h0
  have b0 := u64_fits w0
  obtain ⟨n0, rfl⟩ := Int.eq_ofNat_of_zero_le b0.1
  clear hA0 hval0
  refine (walk n0 W (by have := b0.2; omega)).mono fun e W' ⟨he, hg⟩ => ?_
  subst he
  exact ⟨_, rfl, law_post laidOut (by kernel_rfl) rfl rfl Try.underlying4 rfl hW' hg⟩

theorem over : Rows.rootOfRow.holds Try.pinned (OpenSpec.ofChange Rows.rootOfSpec) :=
  OpenClaim.holds_of_wide 3 Try.f3 rfl rfl rfl rfl rfl rfl rfl ⟨rfl, rfl, rfl, rfl, rfl⟩ rfl rfl rfl rfl rfl (by kernel_rfl) Try.func3 (by kernel_rfl)
    (of_decide_eq_true (by kernel_rfl)) (by unfold Func.isWrapper; first | (rw [if_pos (by decide +kernel)]; kernel_rfl) | (rw [if_neg (by decide +kernel)]; exact ⟨rfl, rfl⟩))
    (fun os started H enc _ => lifted os started H enc)

/-- The statement. -/
theorem proved : Rows.RootOfSaid := over
#print axioms proved
end Go.Proofs.Ytcofdpcngklblaa.RootOf
