/- MoneyTotals: for every list of numbers of 64 bits the law of layer 1 on the sum of a list returns true, and leaves the list as it was. No condition. -/
import Derived.Test.YtchlhpjnocibjaaRows
import Derived.Test.YtchlhpjnocibjaaLaw
import Derived.Test.YtchlhpjnocibjaaTold
namespace Go.Proofs.Ytchlhpjnocibjaa.MoneyTotals
open Go.ChangeShapes Go.WideShapes Go.ChangeAt Go.RowKit
set_option linter.unusedVariables false

theorem walk (ns : List Nat) (A : Option Addr) (c : Nat) (w : World) (hn : ∀ x ∈ ns, x ≤ 18446744073709551615) (hc : ns.length ≤ c) (hm : c ≤ maxLen) (hr : Row w w.heap.size A (u64s ns)) :
    Calls Try.prog 4 #[.slice A ns.length c] w fun e w' => e = .returned (.bool true) ∧ Below w.heap.size w w' := by
  have hl := Nat.le_trans hc hm
  have hl' := hl
  unfold maxLen at hl'
  have HN := Lib.hid hn
  clear hn
  by_cases h200 : 200 < ns.length
  · go_enter Try.func4, Try.ntmps4
    go_wp2_with (go_at_call 7; refine (money_awake _).mono ?_; rintro e w' ⟨rfl, rfl⟩)
    go_ret
    exact ⟨rfl, Below.refl _ _⟩
  · go_enter Try.func4, Try.ntmps4
    go_wp2_with (first
      | (go_at_call 7; refine (money_awake _).mono ?_; rintro e w' ⟨rfl, rfl⟩)
      | (go_at_call 18; refine (sum_told ns A c _ _ hr hl HN.out).mono ?_; rintro e w' ⟨rfl, rfl⟩)
      | (go_at_call 19; refine (sum_nat ns A c _ w hr (Nat.le_refl _) (by omega) HN.out).mono ?_; rintro e w1 ⟨v1, rfl, hv1, hf1, hb1⟩)
      | (go_at_call 10; refine (told_num (tot ns) _ w1.heap.size w1 hv1 (Nat.le_refl _)).mono ?_; rintro e w2 ⟨rfl, hb2⟩)
      | (go_at_call 15; refine (told_same _ _ _).mono ?_; rintro e w' ⟨rfl, rfl⟩))
    go_ret
    exact ⟨rfl, hb1.trans (hb2.mono hb1.size)⟩

theorem own : ownKnob Try.prog.godebug = none := by kernel_rfl
theorem laidOut : laidOutB Try.prog = true := by kernel_rfl

set_option maxRecDepth 100000 in
theorem lifted (os : Os) (started : os.Started) (H : Type) (enc : TypeId × Value → H) :
    ReturnsInHanded {} Try.checked os 4 .any (Rows.moneyTotalsSpec.pre6 enc Try.prog Try.f4 Rows.moneyTotalsRow.domain false) (Rows.moneyTotalsSpec.post enc Try.prog Try.f4 false true false false) := by
  refine returnsInHanded_of_change (C := Try.checked) own started (by kernel_rfl) Try.func4
    (ChangeSpec.witness6 (enc := enc) (C := Try.checked) false ⟨#[], #[.slice none 0 0], []⟩ 8 (by kernel_rfl) (by kernel_rfl) (by kernel_rfl) (by kernel_rfl)) ?_
  intro W base args ds gs before hval0 hW hcnd _
  have hval : ∀ (j : Nat) t v, Try.f4.params[j]? = some t → args[j]? = some v → Value.okWide Try.prog W .any base t v := hval0
  have hW' := hW
  obtain ⟨p, q, hA0, hV, rfl, hfz, hnd⟩ := hW
  have hlt : ∀ x ∈ p ++ q, x.block < W.heap.size := fun x hx => hW'.lt x hx
  have hA : DataW.TrodAll enc Try.prog W 0 (fun _ => true) true Try.f4.params.toList args.toList ds p := hA0
  rw [Try.params4] at hA hval
  obtain ⟨v0, vs0, d0, ds0, p0, q0, hargs, rfl, rfl, h0, r0⟩ := trodAll_cons hA
  obtain ⟨rfl, rfl, rfl⟩ := trodAll_nil r0
  obtain rfl : args = #[v0] := by cases args; simp_all
  obtain ⟨rfl, rfl⟩ := trodVars_none hV
  obtain ⟨A0, n0, c0, rfl⟩ := okWide_slice Try.underlying38 (hval 0 38 v0 rfl rfl)
  obtain ⟨ns0, hl0, hn0, hc0, hm0, hr0⟩ := open_u64s Try.underlying38 Try.underlying22 (by kernel_rfl) h0
  subst hl0
  clear hA0 hval0
  refine (walk ns0 A0 c0 W hn0 hc0 hm0 hr0).mono fun e W' ⟨he, hg⟩ => ?_
  subst he
  exact ⟨_, rfl, law_post laidOut (by kernel_rfl) rfl rfl Try.underlying4 rfl hW' hg⟩

theorem over : Rows.moneyTotalsRow.holds Try.pinned (OpenSpec.ofChange Rows.moneyTotalsSpec) :=
  OpenClaim.holds_of_wide 4 Try.f4 rfl rfl rfl rfl rfl rfl rfl ⟨rfl, rfl, rfl, rfl, rfl⟩ rfl rfl rfl rfl rfl (by kernel_rfl) Try.func4 (by kernel_rfl)
    (of_decide_eq_true (by kernel_rfl)) (by unfold Func.isWrapper; first | (rw [if_pos (by decide +kernel)]; kernel_rfl) | (rw [if_neg (by decide +kernel)]; exact ⟨rfl, rfl⟩))
    (fun os started H enc _ => lifted os started H enc)

/-- The statement. -/
theorem proved : Rows.MoneyTotalsSaid := over
#print axioms proved
end Go.Proofs.Ytchlhpjnocibjaa.MoneyTotals
