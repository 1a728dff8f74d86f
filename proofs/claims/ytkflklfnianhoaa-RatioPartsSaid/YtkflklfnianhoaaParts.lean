/- RatioParts: for every three numbers of 64 bits the law of layer 2 on a product's parts returns true, and changes nothing. No condition. -/
import Derived.Test.YtkflklfnianhoaaRows
import Derived.Test.YtkflklfnianhoaaLaw
import Derived.Test.YtkflklfnianhoaaAwake2
import Derived.Test.YtkflklfnianhoaaRef2B
namespace Go.Proofs.Ytkflklfnianhoaa.RatioParts
open Go.ChangeShapes Go.WideShapes Go.ChangeAt Go.RowKit
set_option linter.unusedVariables false

/-- Any product by a number above 0, down and left over. -/
theorem parts (p c : Nat) (h : 0 < c) : ∃ n r : Nat, Hid (p = n * c + r) ∧ r < c := ⟨p / c, p % c, (Nat.div_add_mod' _ _).symm, Nat.mod_lt _ h⟩

set_option maxHeartbeats 1000000 in
theorem walk (a b c : Nat) (w : World) (ha : a < 18446744073709551616) (hb : b < 18446744073709551616) (hc : c < 18446744073709551616) :
    Calls Try.prog 3 #[.int .u64 a, .int .u64 b, .int .u64 c] w fun e w' => e = .returned (.bool true) ∧ Below w.heap.size w w' := by
  rcases Nat.eq_zero_or_pos c with rfl | h0
  · have k1 := fun w => ratio_down_zero a b w ha hb
    have k2 := fun w => ratio_up_zero a b w ha hb
    have k3 := fun w => ratio_over_zero a b w ha hb
    have k4 := fun w => ref_down_zero a b w
    have k5 := fun w => ref_up_zero a b w
    go_enter Try.func3, Try.ntmps3
    go_wp2_with (first
      | (go_at_call 7; refine (ratio_awake _).mono ?_; rintro e w1 ⟨rfl, hb1⟩)
      | (go_at_call 8; refine (k1 _).mono ?_; clear k1; rintro e w2 ⟨rfl, hb2⟩; replace hb1 := Below.then hb1 hb2; clear hb2)
      | (go_at_call 9; refine (k2 _).mono ?_; clear k2; rintro e w2 ⟨rfl, hb2⟩; replace hb1 := Below.then hb1 hb2; clear hb2)
      | (go_at_call 10; refine (k3 _).mono ?_; clear k3; rintro e w2 ⟨rfl, hb2⟩; replace hb1 := Below.then hb1 hb2; clear hb2)
      | (go_at_call 11; refine (k4 _).mono ?_; clear k4; rintro e w2 ⟨rfl, hb2⟩; replace hb1 := Below.then hb1 hb2; clear hb2)
      | (go_at_call 12; refine (k5 _).mono ?_; clear k5; rintro e w2 ⟨rfl, hb2⟩; replace hb1 := Below.then hb1 hb2; clear hb2))
    go_ret
    exact ⟨rfl, hb1⟩
  · obtain ⟨n, r, h, hr⟩ := parts (a * b) c h0
    have c0 : 0 < (c : Int) := by omega
    have z0 : ((c : Int) == 0) = false := by simp; omega
    rcases Nat.lt_or_ge n 18446744073709551616 with hn | hn
    · have k1 := fun w => ratio_down_ok a b c n r w ha hb hc h hr hn
      have k3 := fun w => ratio_over_ok a b c n r w ha hb hc h hr hn
      have k6 := fun w => ref_rest a b c n r w ha hb hc h hr
      have k4 : ∀ w, Calls Try.prog 11 #[.int .u64 a, .int .u64 b, .int .u64 c] w fun e w' => e = .returned (.tuple #[.int .u64 n, .int .i64 0]) ∧ Below w.heap.size w w' := fun w => by have q := ref_down a b c n r w ha hb hc h hr; rw [tx_in (by omega), te_in (by omega)] at q; exact q
      rcases Nat.eq_zero_or_pos r with hz | hz
      · have k2 := fun w => ratio_up_whole a b c n w ha hb hc (by rw [hz] at h; exact h) h0 hn
        have k5 : ∀ w, Calls Try.prog 12 #[.int .u64 a, .int .u64 b, .int .u64 c] w fun e w' => e = .returned (.tuple #[.int .u64 n, .int .i64 0]) ∧ Below w.heap.size w w' := fun w => by have q := ref_up_whole a b c n w ha hb hc (by rw [hz] at h; exact h) h0; rw [tx_in (by omega), te_in (by omega)] at q; exact q
        clear hz
        go_enter Try.func3, Try.ntmps3
        go_wp2_with (first
          | (go_at_call 7; refine (ratio_awake _).mono ?_; rintro e w1 ⟨rfl, hb1⟩)
          | (go_at_call 8; refine (k1 _).mono ?_; clear k1; rintro e w2 ⟨rfl, hb2⟩; replace hb1 := Below.then hb1 hb2; clear hb2)
          | (go_at_call 9; refine (k2 _).mono ?_; clear k2; rintro e w2 ⟨rfl, hb2⟩; replace hb1 := Below.then hb1 hb2; clear hb2)
          | (go_at_call 10; refine (k3 _).mono ?_; clear k3; rintro e w2 ⟨rfl, hb2⟩; replace hb1 := Below.then hb1 hb2; clear hb2)
          | (go_at_call 11; refine (k4 _).mono ?_; clear k4; rintro e w2 ⟨rfl, hb2⟩; replace hb1 := Below.then hb1 hb2; clear hb2)
          | (go_at_call 12; refine (k5 _).mono ?_; clear k5; rintro e w2 ⟨rfl, hb2⟩; replace hb1 := Below.then hb1 hb2; clear hb2)
          | (go_at_call 13; refine (k6 _).mono ?_; clear k6; rintro e w2 ⟨rfl, hb2⟩; replace hb1 := Below.then hb1 hb2; clear hb2))
        go_ret
        exact ⟨rfl, hb1⟩
      · rcases Nat.lt_or_ge n 18446744073709551615 with hq | hq
        · have k2 := fun w => ratio_up_next a b c n r w ha hb hc h hr hz hq
          have k5 : ∀ w, Calls Try.prog 12 #[.int .u64 a, .int .u64 b, .int .u64 c] w fun e w' => e = .returned (.tuple #[.int .u64 ((n : Int) + 1), .int .i64 0]) ∧ Below w.heap.size w w' := fun w => by have q := ref_up_next a b c n r w ha hb hc h hr hz; rw [tx_in (by omega), te_in (by omega)] at q; exact q
          go_enter Try.func3, Try.ntmps3
          go_wp2_with (first
            | (go_at_call 7; refine (ratio_awake _).mono ?_; rintro e w1 ⟨rfl, hb1⟩)
            | (go_at_call 8; refine (k1 _).mono ?_; clear k1; rintro e w2 ⟨rfl, hb2⟩; replace hb1 := Below.then hb1 hb2; clear hb2)
            | (go_at_call 9; refine (k2 _).mono ?_; clear k2; rintro e w2 ⟨rfl, hb2⟩; replace hb1 := Below.then hb1 hb2; clear hb2)
            | (go_at_call 10; refine (k3 _).mono ?_; clear k3; rintro e w2 ⟨rfl, hb2⟩; replace hb1 := Below.then hb1 hb2; clear hb2)
            | (go_at_call 11; refine (k4 _).mono ?_; clear k4; rintro e w2 ⟨rfl, hb2⟩; replace hb1 := Below.then hb1 hb2; clear hb2)
            | (go_at_call 12; refine (k5 _).mono ?_; clear k5; rintro e w2 ⟨rfl, hb2⟩; replace hb1 := Below.then hb1 hb2; clear hb2)
            | (go_at_call 13; refine (k6 _).mono ?_; clear k6; rintro e w2 ⟨rfl, hb2⟩; replace hb1 := Below.then hb1 hb2; clear hb2))
          go_ret
          exact ⟨rfl, hb1⟩
        · obtain rfl : n = 18446744073709551615 := by omega
          have k2 := fun w => ratio_up_top a b c r w ha hb hc h hr hz
          have k5 : ∀ w, Calls Try.prog 12 #[.int .u64 a, .int .u64 b, .int .u64 c] w fun e w' => e = .returned (.tuple #[.int .u64 0, .int .i64 10]) ∧ Below w.heap.size w w' := fun w => by have q := ref_up_next a b c _ r w ha hb hc h hr hz; rw [tx_out (by omega), te_out (by omega)] at q; exact q
          go_enter Try.func3, Try.ntmps3
          go_wp2_with (first
            | (go_at_call 7; refine (ratio_awake _).mono ?_; rintro e w1 ⟨rfl, hb1⟩)
            | (go_at_call 8; refine (k1 _).mono ?_; clear k1; rintro e w2 ⟨rfl, hb2⟩; replace hb1 := Below.then hb1 hb2; clear hb2)
            | (go_at_call 9; refine (k2 _).mono ?_; clear k2; rintro e w2 ⟨rfl, hb2⟩; replace hb1 := Below.then hb1 hb2; clear hb2)
            | (go_at_call 10; refine (k3 _).mono ?_; clear k3; rintro e w2 ⟨rfl, hb2⟩; replace hb1 := Below.then hb1 hb2; clear hb2)
            | (go_at_call 11; refine (k4 _).mono ?_; clear k4; rintro e w2 ⟨rfl, hb2⟩; replace hb1 := Below.then hb1 hb2; clear hb2)
            | (go_at_call 12; refine (k5 _).mono ?_; clear k5; rintro e w2 ⟨rfl, hb2⟩; replace hb1 := Below.then hb1 hb2; clear hb2)
            | (go_at_call 13; refine (k6 _).mono ?_; clear k6; rintro e w2 ⟨rfl, hb2⟩; replace hb1 := Below.then hb1 hb2; clear hb2))
          go_ret
          exact ⟨rfl, hb1⟩
    · have k1 := fun w => ratio_down_over a b c n r w ha hb h hr hn
      have k2 := fun w => ratio_up_over a b c n r w ha hb h hr hn
      have k3 := fun w => ratio_over_over a b c n r w ha hb h hr hn
      have k4 : ∀ w, Calls Try.prog 11 #[.int .u64 a, .int .u64 b, .int .u64 c] w fun e w' => e = .returned (.tuple #[.int .u64 0, .int .i64 10]) ∧ Below w.heap.size w w' := fun w => by have q := ref_down a b c n r w ha hb hc h hr; rw [tx_out (by omega), te_out (by omega)] at q; exact q
      have k5 : ∀ w, Calls Try.prog 12 #[.int .u64 a, .int .u64 b, .int .u64 c] w fun e w' => e = .returned (.tuple #[.int .u64 0, .int .i64 10]) ∧ Below w.heap.size w w' := fun w => by 
        rcases Nat.eq_zero_or_pos r with hz | hz
        · have q := ref_up_whole a b c n w ha hb hc (by rw [hz] at h; exact h) h0
          rw [tx_out (by omega), te_out (by omega)] at q
          exact q
        · have q := ref_up_next a b c n r w ha hb hc h hr hz
          rw [tx_out (by omega), te_out (by omega)] at q
          exact q
      go_enter Try.func3, Try.ntmps3
      go_wp2_with (first
        | (go_at_call 7; refine (ratio_awake _).mono ?_; rintro e w1 ⟨rfl, hb1⟩)
        | (go_at_call 8; refine (k1 _).mono ?_; clear k1; rintro e w2 ⟨rfl, hb2⟩; replace hb1 := Below.then hb1 hb2; clear hb2)
        | (go_at_call 9; refine (k2 _).mono ?_; clear k2; rintro e w2 ⟨rfl, hb2⟩; replace hb1 := Below.then hb1 hb2; clear hb2)
        | (go_at_call 10; refine (k3 _).mono ?_; clear k3; rintro e w2 ⟨rfl, hb2⟩; replace hb1 := Below.then hb1 hb2; clear hb2)
        | (go_at_call 11; refine (k4 _).mono ?_; clear k4; rintro e w2 ⟨rfl, hb2⟩; replace hb1 := Below.then hb1 hb2; clear hb2)
        | (go_at_call 12; refine (k5 _).mono ?_; clear k5; rintro e w2 ⟨rfl, hb2⟩; replace hb1 := Below.then hb1 hb2; clear hb2))
      go_ret
      exact ⟨rfl, hb1⟩

theorem own : ownKnob Try.prog.godebug = none := by kernel_rfl
theorem laidOut : laidOutB Try.prog = true := by kernel_rfl

set_option maxRecDepth 100000 in
theorem lifted (os : Os) (started : os.Started) (H : Type) (enc : TypeId × Value → H) :
    ReturnsInHanded {} Try.checked os 3 .any (Rows.ratioPartsSpec.pre6 enc Try.prog Try.f3 Rows.ratioPartsRow.domain false) (Rows.ratioPartsSpec.post enc Try.prog Try.f3 false true false false) := by
  refine returnsInHanded_of_change (C := Try.checked) own started (by kernel_rfl) Try.func3
    (ChangeSpec.witness6 (enc := enc) (C := Try.checked) false ⟨#[], #[.int .u64 0, .int .u64 0, .int .u64 0], []⟩ 8 (by kernel_rfl) (by kernel_rfl) (by kernel_rfl) (by kernel_rfl)) ?_
  intro W base args ds gs before hval0 hW hcnd _
  have hval : ∀ (j : Nat) t v, Try.f3.params[j]? = some t → args[j]? = some v → Value.okWide Try.prog W .any base t v := hval0
  have hW' := hW
  obtain ⟨p, q, hA0, hV, rfl, hfz, hnd⟩ := hW
  have hlt : ∀ x ∈ p ++ q, x.block < W.heap.size := fun x hx => hW'.lt x hx
  have hA : DataW.TrodAll enc Try.prog W 0 (fun _ => true) true Try.f3.params.toList args.toList ds p := hA0
  rw [Try.params3] at hA hval
  obtain ⟨v0, vs0, d0, ds0, p0, q0, hargs, rfl, rfl, h0, r0⟩ := trodAll_cons hA
  obtain ⟨v1, vs1, d1, ds1, p1, q1, rfl, rfl, rfl, h1, r1⟩ := trodAll_cons r0
  obtain ⟨v2, vs2, d2, ds2, p2, q2, rfl, rfl, rfl, h2, r2⟩ := trodAll_cons r1
  obtain ⟨rfl, rfl, rfl⟩ := trodAll_nil r2
  obtain rfl : args = #[v0, v1, v2] := by cases args; simp_all
  obtain ⟨rfl, rfl⟩ := trodVars_none hV
  obtain ⟨a0, rfl, rfl, rfl, w0⟩ := open_int Try.underlying22 (hval 0 22 v0 rfl rfl) h0
  have b0 := u64_fits w0
  obtain ⟨n0, rfl⟩ := Int.eq_ofNat_of_zero_le b0.1
  obtain ⟨a1, rfl, rfl, rfl, w1⟩ := open_int Try.underlying22 (hval 1 22 v1 rfl rfl) h1
  have b1 := u64_fits w1
  obtain ⟨n1, rfl⟩ := Int.eq_ofNat_of_zero_le b1.1
  obtain ⟨a2, rfl, rfl, rfl, w2⟩ := open_int Try.underlying22 (hval 2 22 v2 rfl rfl) h2
  have b2 := u64_fits w2
  obtain ⟨n2, rfl⟩ := Int.eq_ofNat_of_zero_le b2.1
  clear hA0 hval0
  refine (walk n0 n1 n2 W (by have := b0.2; omega) (by have := b1.2; omega) (by have := b2.2; omega)).mono fun e W' ⟨he, hg⟩ => ?_
  subst he
  exact ⟨_, rfl, law_post laidOut (by kernel_rfl) rfl rfl Try.underlying4 rfl hW' hg⟩

theorem over : Rows.ratioPartsRow.holds Try.pinned (OpenSpec.ofChange Rows.ratioPartsSpec) :=
  OpenClaim.holds_of_wide 3 Try.f3 rfl rfl rfl rfl rfl rfl rfl ⟨rfl, rfl, rfl, rfl, rfl⟩ rfl rfl rfl rfl rfl (by kernel_rfl) Try.func3 (by kernel_rfl)
    (of_decide_eq_true (by kernel_rfl)) (by unfold Func.isWrapper; first | (rw [if_pos (by decide +kernel)]; kernel_rfl) | (rw [if_neg (by decide +kernel)]; exact ⟨rfl, rfl⟩))
    (fun os started H enc _ => lifted os started H enc)

/-- The statement. -/
theorem proved : Rows.RatioPartsSaid := over
#print axioms proved
end Go.Proofs.Ytkflklfnianhoaa.RatioParts
