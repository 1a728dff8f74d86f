/- ShareSpreads: for every sum and every list of weights the law of layer 4 on a sum that is shared out without a rest returns true, and leaves the list as it was. No condition. -/
import Derived.Test.YtcmfoioljnkcbaaRows
import Derived.Test.YtcmfoioljnkcbaaLaw
import Derived.Test.YtcmfoioljnkcbaaAwake4
import Derived.Test.YtcmfoioljnkcbaaRef4B
namespace Go.Proofs.Ytcmfoioljnkcbaa.ShareSpreads
open Go.ChangeShapes Go.WideShapes Go.ChangeAt Go.RowKit
set_option linter.unusedVariables false


set_option maxHeartbeats 2000000 in
theorem walk (T : Nat) (ns : List Nat) (A : Option Addr) (c : Nat) (w : World) (hT : T < 18446744073709551616) (hn : ∀ x ∈ ns, x ≤ 18446744073709551615) (hc : ns.length ≤ c) (hm : c ≤ maxLen) (hr : Row w w.heap.size A (u64s ns)) :
    Calls Try.prog 4 #[.int .u64 T, .slice A ns.length c] w fun e w' => e = .returned (.bool true) ∧ Below w.heap.size w w' := by
  have hl := Nat.le_trans hc hm
  have hl' := hl
  unfold maxLen at hl'
  by_cases h400 : 400 < ns.length
  · have HN := Lib.hid hn
    clear hn
    go_enter Try.func4, Try.ntmps4
    go_wp2_with (go_at_call 8; refine (share_awake _).mono ?_; rintro e w1 ⟨rfl, hb1⟩)
    go_ret
    exact ⟨rfl, hb1⟩
  · by_cases hf : Fits ns
    · rcases Nat.eq_zero_or_pos (tot ns) with h0 | h0
      · have k3 : ∀ v, Below w.heap.size w v → Calls Try.prog 14 #[.int .u64 T, .slice A ns.length c] v fun e w' => e = .returned (.tuple #[.slice none 0 0, .int .i64 20]) ∧ Below v.heap.size v w' :=
          fun v hv => share_spread_zero T ns A c v ((hr.below hv).up hv.size) hf h0
        have k4 : ∀ v, Below w.heap.size w v → Calls Try.prog 15 #[.int .u64 T, .slice A ns.length c] v fun e w' => e = .returned (.tuple #[.slice none 0 0, .int .i64 20]) ∧ Below v.heap.size v w' :=
          fun v hv => ref_spread_zero T ns A c v hT ((hr.below hv).up hv.size) hf h0
        have k5 : ∀ v, Calls Try.prog 13 #[.slice none 0 0, .slice none 0 0] v fun e w' => e = .returned (.bool true) ∧ Below v.heap.size v w' :=
          fun v => same_true [] none none 0 0 v (Row.nil _ _ _) (Row.nil _ _ _) (by simp)
        have HN := Lib.hid hn
        have HF := Lib.hid hf
        clear hn hf
        have H0 := Lib.hid h0
        clear h0
        go_enter Try.func4, Try.ntmps4
        go_wp2_with (first
          | (go_at_call 8; refine (share_awake _).mono ?_; rintro e w1 ⟨rfl, hb1⟩)
          | (go_at_call 14; refine (k3 _ hb1).mono ?_; clear k3; rintro e w3 ⟨rfl, hb2⟩; replace hb1 := Below.then hb1 hb2; clear hb2)
          | (go_at_call 15; refine (k4 _ hb1).mono ?_; clear k4; rintro e w4 ⟨rfl, hb2⟩; replace hb1 := Below.then hb1 hb2; clear hb2)
          | (go_at_call 13; refine (k5 _).mono ?_; clear k5; rintro e w5 ⟨rfl, hb2⟩; replace hb1 := Below.then hb1 hb2; clear hb2))
        go_ret
        exact ⟨by simp, hb1⟩
      · have k3 : ∀ v, Below w.heap.size w v → Calls Try.prog 14 #[.int .u64 T, .slice A ns.length c] v fun e w' => ∃ A' c', e = .returned (.tuple #[.slice A' ns.length c', .int .i64 0]) ∧ Row w' w'.heap.size A' (u64s (spr T (tot ns) (T - tot (ns.map (prt T (tot ns)))) ns)) ∧ Below v.heap.size v w' := by
          intro v hv
          refine (share_spread_ok T ns A c v hT ((hr.below hv).up hv.size) hf h0).mono ?_
          rintro e w' ⟨u, rfl, hown, hb⟩
          obtain ⟨A', c', rfl, _, _, hrow⟩ := Row.of_own hown
          exact ⟨A', c', rfl, hrow, hb⟩
        have k4 : ∀ v, Below w.heap.size w v → Calls Try.prog 15 #[.int .u64 T, .slice A ns.length c] v fun e w' => ∃ A' c', e = .returned (.tuple #[.slice A' ns.length c', .int .i64 0]) ∧ Row w' w'.heap.size A' (u64s (spr T (tot ns) (T - tot (ns.map (prt T (tot ns)))) ns)) ∧ Below v.heap.size v w' := by
          intro v hv
          refine (ref_spread_ok T ns A c v hT ((hr.below hv).up hv.size) hf h0).mono ?_
          rintro e w' ⟨u, rfl, hown, hb⟩
          obtain ⟨A', c', rfl, _, _, hrow⟩ := Row.of_own hown
          exact ⟨A', c', rfl, hrow, hb⟩
        have k5 : ∀ (A1 A2 : Option Addr) (c1 c2 : Nat) (v : World), Row v v.heap.size A1 (u64s (spr T (tot ns) (T - tot (ns.map (prt T (tot ns)))) ns)) → Row v v.heap.size A2 (u64s (spr T (tot ns) (T - tot (ns.map (prt T (tot ns)))) ns)) → Calls Try.prog 13 #[.slice A1 ns.length c1, .slice A2 ns.length c2] v fun e w' => e = .returned (.bool true) ∧ Below v.heap.size v w' := by
          intro A1 A2 c1 c2 v h1 h2
          have h := same_true _ A1 A2 c1 c2 v h1 h2 (by rw [spr_len]; exact hl)
          rwa [spr_len] at h
        obtain ⟨L, hL⟩ : ∃ L, Hid (spr T (tot ns) (T - tot (ns.map (prt T (tot ns)))) ns = L) := ⟨_, rfl⟩
        rw [hL.out] at k3 k4 k5
        have HN := Lib.hid hn
        have HF := Lib.hid hf
        clear hn hf
        go_enter Try.func4, Try.ntmps4
        go_wp2_with (first
          | (go_at_call 8; refine (share_awake _).mono ?_; rintro e w1 ⟨rfl, hb1⟩)
          | (go_at_call 14; refine (k3 _ hb1).mono ?_; clear k3; rintro e w3 ⟨A1, c1, rfl, hr1, hb2⟩; replace hb1 := Below.then hb1 hb2; clear hb2)
          | (go_at_call 15; refine (k4 _ hb1).mono ?_; clear k4; rintro e w4 ⟨A2, c2, rfl, hr2, hb2⟩; replace hb1 := Below.then hb1 hb2; replace hr1 := (hr1.below hb2).up hb2.size; clear hb2)
          | (go_at_call 13; refine (k5 A1 A2 c1 c2 _ hr1 hr2).mono ?_; clear k5; rintro e w5 ⟨rfl, hb2⟩; replace hb1 := Below.then hb1 hb2; clear hb2))
        go_ret
        exact ⟨by simp, hb1⟩
    · have k3 : ∀ v, Below w.heap.size w v → Calls Try.prog 14 #[.int .u64 T, .slice A ns.length c] v fun e w' => e = .returned (.tuple #[.slice none 0 0, .int .i64 40]) ∧ Below v.heap.size v w' :=
        fun v hv => share_spread_not T ns A c v ((hr.below hv).up hv.size) hl hn hf
      have k4 : ∀ v, Below w.heap.size w v → Calls Try.prog 15 #[.int .u64 T, .slice A ns.length c] v fun e w' => e = .returned (.tuple #[.slice none 0 0, .int .i64 40]) ∧ Below v.heap.size v w' :=
        fun v hv => ref_spread_not T ns A c v ((hr.below hv).up hv.size) hl hn hf
      have k5 : ∀ v, Calls Try.prog 13 #[.slice none 0 0, .slice none 0 0] v fun e w' => e = .returned (.bool true) ∧ Below v.heap.size v w' :=
        fun v => same_true [] none none 0 0 v (Row.nil _ _ _) (Row.nil _ _ _) (by simp)
      have HN := Lib.hid hn
      have HF := Lib.hid hf
      clear hn hf
      go_enter Try.func4, Try.ntmps4
      go_wp2_with (first
        | (go_at_call 8; refine (share_awake _).mono ?_; rintro e w1 ⟨rfl, hb1⟩)
        | (go_at_call 14; refine (k3 _ hb1).mono ?_; clear k3; rintro e w3 ⟨rfl, hb2⟩; replace hb1 := Below.then hb1 hb2; clear hb2)
        | (go_at_call 15; refine (k4 _ hb1).mono ?_; clear k4; rintro e w4 ⟨rfl, hb2⟩; replace hb1 := Below.then hb1 hb2; clear hb2)
        | (go_at_call 13; refine (k5 _).mono ?_; clear k5; rintro e w5 ⟨rfl, hb2⟩; replace hb1 := Below.then hb1 hb2; clear hb2))
      go_ret
      exact ⟨by simp, hb1⟩

theorem own : ownKnob Try.prog.godebug = none := by kernel_rfl
theorem laidOut : laidOutB Try.prog = true := by kernel_rfl

set_option maxRecDepth 100000 in
theorem lifted (os : Os) (started : os.Started) (H : Type) (enc : TypeId × Value → H) :
    ReturnsInHanded {} Try.checked os 4 .any (Rows.shareSpreadsSpec.pre6 enc Try.prog Try.f4 Rows.shareSpreadsRow.domain false) (Rows.shareSpreadsSpec.post enc Try.prog Try.f4 false true false false) := by
  refine returnsInHanded_of_change (C := Try.checked) own started (by kernel_rfl) Try.func4
    (ChangeSpec.witness6 (enc := enc) (C := Try.checked) false ⟨#[], #[.int .u64 0, .slice none 0 0], []⟩ 8 (by kernel_rfl) (by kernel_rfl) (by kernel_rfl) (by kernel_rfl)) ?_
  intro W base args ds gs before hval0 hW hcnd _
  have hval : ∀ (j : Nat) t v, Try.f4.params[j]? = some t → args[j]? = some v → Value.okWide Try.prog W .any base t v := hval0
  have hW' := hW
  obtain ⟨p, q, hA0, hV, rfl, hfz, hnd⟩ := hW
  have hlt : ∀ x ∈ p ++ q, x.block < W.heap.size := fun x hx => hW'.lt x hx
  have hA : DataW.TrodAll enc Try.prog W 0 (fun _ => true) true Try.f4.params.toList args.toList ds p := hA0
  rw [Try.params4] at hA hval
  obtain ⟨v0, vs0, d0, ds0, p0, q0, hargs, rfl, rfl, h0, r0⟩ := trodAll_cons hA
  obtain ⟨v1, vs1, d1, ds1, p1, q1, rfl, rfl, rfl, h1, r1⟩ := trodAll_cons r0
  obtain ⟨rfl, rfl, rfl⟩ := trodAll_nil r1
  obtain rfl : args = #[v0, v1] := by cases args; simp_all
  obtain ⟨rfl, rfl⟩ := trodVars_none hV
  obtain ⟨a0, rfl, rfl, rfl, w0⟩ := open_int Try.underlying22 (hval 0 22 v0 rfl rfl) h0
  have b0 := u64_fits w0
  obtain ⟨n0, rfl⟩ := Int.eq_ofNat_of_zero_le b0.1
  obtain ⟨A1, n1, c1, rfl⟩ := okWide_slice Try.underlying23 (hval 1 23 v1 rfl rfl)
  obtain ⟨ns1, hl1, hn1, hc1, hm1, hr1⟩ := open_u64s Try.underlying23 Try.underlying22 (by kernel_rfl) h1
  subst hl1
  clear hA0 hval0
  refine (walk n0 ns1 A1 c1 W (by have := b0.2; omega) hn1 hc1 hm1 hr1).mono fun e W' ⟨he, hg⟩ => ?_
  subst he
  exact ⟨_, rfl, law_post laidOut (by kernel_rfl) rfl rfl Try.underlying4 rfl hW' hg⟩

theorem over : Rows.shareSpreadsRow.holds Try.pinned (OpenSpec.ofChange Rows.shareSpreadsSpec) :=
  OpenClaim.holds_of_wide 4 Try.f4 rfl rfl rfl rfl rfl rfl rfl ⟨rfl, rfl, rfl, rfl, rfl⟩ rfl rfl rfl rfl rfl (by kernel_rfl) Try.func4 (by kernel_rfl)
    (of_decide_eq_true (by kernel_rfl)) (by unfold Func.isWrapper; first | (rw [if_pos (by decide +kernel)]; kernel_rfl) | (rw [if_neg (by decide +kernel)]; exact ⟨rfl, rfl⟩))
    (fun os started H enc _ => lifted os started H enc)

/-- The statement. -/
theorem proved : Rows.ShareSpreadsSaid := over
#print axioms proved

end Go.Proofs.Ytcmfoioljnkcbaa.ShareSpreads
