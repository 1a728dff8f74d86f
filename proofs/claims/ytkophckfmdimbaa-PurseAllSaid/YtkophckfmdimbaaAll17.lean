/- Law PurseAll (P17.2): what any purses have together is exact, or refused. No condition. -/
import Derived.Test.YtkophckfmdimbaaRows
import Derived.Test.YtkophckfmdimbaaPurC
import Derived.Test.YtkophckfmdimbaaTold
namespace Go.Proofs.Ytkophckfmdimbaa.PurseAll
open Go.ChangeShapes Go.WideShapes Go.ChangeAt Go.RowKit
set_option linter.unusedVariables false

theorem all_told (ns : List Nat) (A : Option Addr) (c B : Nat) (w : World) (hr : Row w B A (u64s ns)) (hlen : ns.length ≤ maxLen) (hn : ∀ n ∈ ns, n ≤ 18446744073709551615) :
    Calls Try.prog 16 #[.slice A ns.length c] w fun e w' => e = .returned (.tuple #[.int .u64 (tx (tot ns) : Nat), .int .i64 (te (tot ns) : Nat)]) ∧ w = w' := by
  have k := sum_told ns A c B w hr hlen hn
  clear hn
  go_enter Try.func16, Try.ntmps16
  go_wp2_with (go_at_call 23; refine k.mono ?_; clear k; rintro e w' ⟨rfl, rfl⟩)
  go_ret2
  exact ⟨rfl, rfl⟩

set_option maxRecDepth 100000 in
theorem walk (ns : List Nat) (A : Option Addr) (c : Nat) (w : World) (hr : Row w w.heap.size A (u64s ns)) (hn : ∀ x ∈ ns, x ≤ 18446744073709551615) (hc : ns.length ≤ c) (hm : c ≤ maxLen) (hz : A = none → c = 0) :
    Calls Try.prog 4 #[.slice A ns.length c] w fun e w' => e = .returned (.bool true) ∧ Below w.heap.size w w' := by
  have hl := Nat.le_trans hc hm
  have hl' := hl
  unfold maxLen at hl'
  have HN := Lib.hid hn
  clear hn
  by_cases h200 : 200 < ns.length
  · go_enter Try.func4, Try.ntmps4
    go_wp2_with (go_at_call 6; refine (purse_awake _).mono ?_; rintro e w0 ⟨rfl, hb0⟩)
    go_ret
    exact ⟨rfl, hb0⟩
  · have h200' : ns.length ≤ 200 := by omega
    have HL := Lib.hid hl
    clear hl hl' hc hm hz
    go_enter Try.func4, Try.ntmps4
    go_wp2_with (first
      | (go_at_call 6; refine (purse_awake _).mono ?_; rintro e w0 ⟨rfl, hb0⟩; have hr0 := (hr.below hb0).up hb0.size)
      | (go_at_call 16; refine (all_told ns A c _ w0 hr0 HL.out HN.out).mono ?_; rintro e w' ⟨rfl, rfl⟩)
      | (go_at_call 18; refine (sum_nat ns A c _ w0 hr0 (Nat.le_refl _) (by omega) HN.out).mono ?_; rintro e w1 ⟨v1, rfl, hv1, hf1, hb1⟩)
      | (go_at_call 17; refine (told_num (tot ns) _ w1.heap.size w1 hv1 (Nat.le_refl _)).mono ?_; rintro e w2 ⟨rfl, hb2⟩))
    go_ret
    exact ⟨rfl, Below.then (Below.then hb0 hb1) hb2⟩

theorem own : ownKnob Try.prog.godebug = none := by kernel_rfl
theorem laidOut : laidOutB Try.prog = true := by kernel_rfl

set_option maxRecDepth 100000 in
theorem lifted (os : Os) (started : os.Started) (H : Type) (enc : TypeId × Value → H) :
    ReturnsInHanded {} Try.checked os 4 .any (Rows.purseAllSpec.pre6 enc Try.prog Try.f4 Rows.purseAllRow.domain false) (Rows.purseAllSpec.post enc Try.prog Try.f4 false true false false) := by
  refine returnsInHanded_of_change (C := Try.checked) own started (by kernel_rfl) Try.func4
    (ChangeSpec.witness6 (enc := enc) (C := Try.checked) false ⟨#[], #[.slice none 0 0], []⟩ 8 (by kernel_rfl) (by kernel_rfl) (by kernel_rfl) (by kernel_rfl)) ?_
  intro W base args ds gs before hval0 hW hcnd _
  have hval : ∀ (j : Nat) t v, Try.f4.params[j]? = some t → args[j]? = some v → Value.okWide Try.prog W .any base t v := hval0
  have hW' := hW
  obtain ⟨p, q, hA0, hV, rfl, hfz, hnd⟩ := hW
  have hlt : ∀ x ∈ p ++ q, x.block < W.heap.size := fun x hx => hW'.lt x hx
  have hA : DataW.TrodAll enc Try.prog W 0 (fun _ => true) true Try.f4.params.toList args.toList ds p := hA0
  rw [Try.params4] at hA hval
  obtain ⟨v0, vs0, d0, ds0, p0, q0, hargs, rfl, rfl, h0, r0⟩ := trodAll_cons hA
  obtain ⟨rfl, rfl, rfl⟩ := trodAll_nil r0
  obtain rfl : args = #[v0] := by cases args; simp_all
  obtain ⟨rfl, rfl⟩ := trodVars_none hV
  obtain ⟨A0, n0, c0, rfl⟩ := okWide_slice Try.underlying22 (hval 0 22 v0 rfl rfl)
  obtain ⟨l0, hl0, hf0, hc0, hm0, hz0, hr0⟩ := open_words Try.underlying22 Try.underlying23 (by kernel_rfl) h0
  subst hl0
  clear hA0 hval0
  refine (walk l0 A0 c0 W hr0 hf0 hc0 hm0 hz0).mono fun e W' ⟨he, hg⟩ => ?_
  subst he
  exact ⟨_, rfl, law_post laidOut (by kernel_rfl) rfl rfl Try.underlying4 rfl hW' hg⟩

theorem over : Rows.purseAllRow.holds Try.pinned (OpenSpec.ofChange Rows.purseAllSpec) :=
  OpenClaim.holds_of_wide 4 Try.f4 rfl rfl rfl rfl rfl rfl rfl ⟨rfl, rfl, rfl, rfl, rfl⟩ rfl rfl rfl rfl rfl (by kernel_rfl) Try.func4 (by kernel_rfl)
    (of_decide_eq_true (by kernel_rfl)) (by unfold Func.isWrapper; first | (rw [if_pos (by decide +kernel)]; kernel_rfl) | (rw [if_neg (by decide +kernel)]; exact ⟨rfl, rfl⟩))
    (fun os started H enc _ => lifted os started H enc)

/-- The statement. -/
theorem proved : Rows.PurseAllSaid := over
#print axioms proved
end Go.Proofs.Ytkophckfmdimbaa.PurseAll
