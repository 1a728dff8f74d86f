/- ShareCuts: for every sum and every rate the law of layer 4 on a part in ten thousandths returns true, and changes nothing. No condition. -/
import Derived.Test.YtcmfoioljnkcbaaRows
import Derived.Test.YtcmfoioljnkcbaaLaw
import Derived.Test.YtcmfoioljnkcbaaAwake4
import Derived.Test.YtcmfoioljnkcbaaCut
namespace Go.Proofs.Ytcmfoioljnkcbaa.ShareCuts
open Go.ChangeShapes Go.WideShapes Go.ChangeAt Go.RowKit
set_option linter.unusedVariables false


set_option maxHeartbeats 1000000 in
theorem walk (T : Nat) (m : Int) (w : World) (hT : T < 18446744073709551616) :
    Calls Try.prog 5 #[.int .u64 T, .int .i64 m] w fun e w' => e = .returned (.bool true) ∧ Below w.heap.size w w' := by
  rcases Int.lt_or_le m 0 with h0 | h0
  · have k1 := fun v => share_cut_low T m v h0
    go_enter Try.func5, Try.ntmps5
    go_wp2_with (first
      | (go_at_call 8; refine (share_awake _).mono ?_; rintro e w1 ⟨rfl, hb1⟩)
      | (go_at_call 16; refine (k1 _).mono ?_; clear k1; rintro e w2 ⟨rfl, hb2⟩))
    go_ret
    exact ⟨rfl, Below.then hb1 hb2⟩
  · rcases Int.lt_or_le 10000 m with h1 | h1
    · have k1 := fun v => share_cut_high T m v h1
      have h0' : ¬ m < 0 := by omega
      go_enter Try.func5, Try.ntmps5
      go_wp2_with (first
      | (go_at_call 8; refine (share_awake _).mono ?_; rintro e w1 ⟨rfl, hb1⟩)
      | (go_at_call 16; refine (k1 _).mono ?_; clear k1; rintro e w2 ⟨rfl, hb2⟩))
      go_ret
      exact ⟨rfl, Below.then hb1 hb2⟩
    · obtain ⟨r, rfl⟩ := Int.eq_ofNat_of_zero_le h0
      have hr : r ≤ 10000 := by omega
      obtain ⟨n, hn⟩ : ∃ n, Hid (prt T 10000 r = n) := ⟨_, rfl⟩
      have hnT : n ≤ T := by rw [← hn.out]; exact prt_le hr
      have k1 := fun v => share_cut_ok T r n v hT hr hn
      have k2 := fun v => ref_prt T r 10000 n v hT hr (by omega) (by omega) hn
      have h2 : (0 : Int) ≤ (n : Int) := by omega
      have h3 : (n : Int) ≤ (T : Int) := by omega
      have h4 : (T : Int) ≤ 18446744073709551615 := by omega
      clear hnT
      go_enter Try.func5, Try.ntmps5
      go_wp2_with (first
      | (go_at_call 8; refine (share_awake _).mono ?_; rintro e w1 ⟨rfl, hb1⟩)
      | (go_at_call 16; refine (k1 _).mono ?_; clear k1; rintro e w2 ⟨rfl, hb2⟩)
      | (go_at_call 17; refine (k2 _).mono ?_; clear k2; rintro e w3 ⟨rfl, hb3⟩))
      go_ret
      exact ⟨by simp, Below.then (Below.then hb1 hb2) hb3⟩

theorem own : ownKnob Try.prog.godebug = none := by kernel_rfl
theorem laidOut : laidOutB Try.prog = true := by kernel_rfl

set_option maxRecDepth 100000 in
theorem lifted (os : Os) (started : os.Started) (H : Type) (enc : TypeId × Value → H) :
    ReturnsInHanded {} Try.checked os 5 .any (Rows.shareCutsSpec.pre6 enc Try.prog Try.f5 Rows.shareCutsRow.domain false) (Rows.shareCutsSpec.post enc Try.prog Try.f5 false true false false) := by
  refine returnsInHanded_of_change (C := Try.checked) own started (by kernel_rfl) Try.func5
    (ChangeSpec.witness6 (enc := enc) (C := Try.checked) false ⟨#[], #[.int .u64 0, .int .i64 0], []⟩ 8 (by kernel_rfl) (by kernel_rfl) (by kernel_rfl) (by kernel_rfl)) ?_
  intro W base args ds gs before hval0 hW hcnd _
  have hval : ∀ (j : Nat) t v, Try.f5.params[j]? = some t → args[j]? = some v → Value.okWide Try.prog W .any base t v := hval0
  have hW' := hW
  obtain ⟨p, q, hA0, hV, rfl, hfz, hnd⟩ := hW
  have hlt : ∀ x ∈ p ++ q, x.block < W.heap.size := fun x hx => hW'.lt x hx
  have hA : DataW.TrodAll enc Try.prog W 0 (fun _ => true) true Try.f5.params.toList args.toList ds p := hA0
  rw [Try.params5] at hA hval
  obtain ⟨v0, vs0, d0, ds0, p0, q0, hargs, rfl, rfl, h0, r0⟩ := trodAll_cons hA
  obtain ⟨v1, vs1, d1, ds1, p1, q1, rfl, rfl, rfl, h1, r1⟩ := trodAll_cons r0
  obtain ⟨rfl, rfl, rfl⟩ := trodAll_nil r1
  obtain rfl : args = #[v0, v1] := by cases args; simp_all
  obtain ⟨rfl, rfl⟩ := trodVars_none hV
  obtain ⟨a0, rfl, rfl, rfl, w0⟩ := open_int Try.underlying22 (hval 0 22 v0 rfl rfl) h0
  have b0 := u64_fits w0
  obtain ⟨n0, rfl⟩ := Int.eq_ofNat_of_zero_le b0.1
  obtain ⟨a1, rfl, rfl, rfl, w1⟩ := open_int Try.underlying3 (hval 1 3 v1 rfl rfl) h1
  clear hA0 hval0
  refine (walk n0 a1 W (by have := b0.2; omega)).mono fun e W' ⟨he, hg⟩ => ?_
  subst he
  exact ⟨_, rfl, law_post laidOut (by kernel_rfl) rfl rfl Try.underlying4 rfl hW' hg⟩

theorem over : Rows.shareCutsRow.holds Try.pinned (OpenSpec.ofChange Rows.shareCutsSpec) :=
  OpenClaim.holds_of_wide 5 Try.f5 rfl rfl rfl rfl rfl rfl rfl ⟨rfl, rfl, rfl, rfl, rfl⟩ rfl rfl rfl rfl rfl (by kernel_rfl) Try.func5 (by kernel_rfl)
    (of_decide_eq_true (by kernel_rfl)) (by unfold Func.isWrapper; first | (rw [if_pos (by decide +kernel)]; kernel_rfl) | (rw [if_neg (by decide +kernel)]; exact ⟨rfl, rfl⟩))
    (fun os started H enc _ => lifted os started H enc)

/-- The statement. -/
theorem proved : Rows.ShareCutsSaid := over
#print axioms proved

end Go.Proofs.Ytcmfoioljnkcbaa.ShareCuts
