/- MoneyStops: for every three numbers of 64 bits the law of layer 1 on what stops at an end returns true, and changes nothing. No condition. -/
import Derived.Test.YtchlhpjnocibjaaRows
import Derived.Test.YtchlhpjnocibjaaLaw
import Derived.Test.YtchlhpjnocibjaaTold
namespace Go.Proofs.Ytchlhpjnocibjaa.MoneyStops
open Go.ChangeShapes Go.WideShapes Go.ChangeAt Go.RowKit
set_option linter.unusedVariables false

theorem cmp_least (a b : Nat) (va vb : Value) (B : Nat) (w : World) (ha : NatV w B va a) (hb : NatV w B vb b) (hB : B ≤ w.heap.size) (h : b ≤ a) :
    Calls Try.prog 20 #[va, vb] w fun e w' => ∃ z : Int, 0 ≤ z ∧ e = .returned (.int .i64 z) ∧ Below w.heap.size w w' := by
  refine (cmp_any a b va vb B w ha hb hB).mono ?_
  rintro e w' ⟨rfl, hb⟩
  refine ⟨_, ?_, rfl, hb⟩
  unfold cmpZ
  rw [if_neg (by omega)]
  split <;> omega

theorem rise_less (a b m : Nat) (w : World) (ha : a ≤ 18446744073709551615) (hb : b ≤ 18446744073709551615) (hm : m ≤ 18446744073709551615) (h : a + b < m) :
    Calls Try.prog 21 #[.int .u64 (a : Int), .int .u64 (b : Int), .int .u64 (m : Int)] w fun e w' => e = .returned (.int .u64 ((a + b : Nat) : Int)) ∧ w = w' :=
  money_rise_to a b m w (by omega) (by omega) (by omega) (by omega)
theorem rise_stop (a b m : Nat) (w : World) (ha : a ≤ 18446744073709551615) (hb : b ≤ 18446744073709551615) (hm : m ≤ 18446744073709551615) (h : m ≤ a + b) :
    Calls Try.prog 21 #[.int .u64 (a : Int), .int .u64 (b : Int), .int .u64 (m : Int)] w fun e w' => e = .returned (.int .u64 (m : Int)) ∧ w = w' := by
  by_cases ho : a + b ≤ 18446744073709551615
  · by_cases he : m = a + b
    · subst he
      exact money_rise_to a b ((a + b : Nat) : Int) w (by omega) (by omega) (by omega) (by omega)
    · exact money_rise_most a b m w (by omega) (by omega) (by omega) (by omega)
  · exact money_rise_over a b m w (by omega) (by omega) (by omega) (by omega) (by omega)
theorem fall_some (a b : Nat) (w : World) (ha : a ≤ 18446744073709551615) (h : b < a) :
    Calls Try.prog 22 #[.int .u64 (a : Int), .int .u64 (b : Int)] w fun e w' => e = .returned (.int .u64 ((a - b : Nat) : Int)) ∧ w = w' := by
  have h1 := money_fall_le (a : Int) (b : Int) w (by omega) (by omega) (by omega) (by omega)
  rwa [show (a : Int) - b = ((a - b : Nat) : Int) by omega] at h1
theorem fall_none (a b : Nat) (w : World) (ha : a ≤ 18446744073709551615) (hb : b ≤ 18446744073709551615) (h : a ≤ b) :
    Calls Try.prog 22 #[.int .u64 (a : Int), .int .u64 (b : Int)] w fun e w' => e = .returned (.int .u64 0) ∧ w = w' := by
  by_cases he : a = b
  · subst he
    have h1 := money_fall_le (a : Int) (a : Int) w (by omega) (by omega) (by omega) (by omega)
    rwa [show (a : Int) - a = 0 by omega] at h1
  · exact money_fall_gt a b w (by omega) (by omega) (by omega)


set_option maxHeartbeats 2000000 in
theorem walkN (a b m : Nat) (w : World) (ha : a ≤ 18446744073709551615) (hb : b ≤ 18446744073709551615) (hm : m ≤ 18446744073709551615) :
    Calls Try.prog 5 #[.int .u64 (a : Int), .int .u64 (b : Int), .int .u64 (m : Int)] w fun e w' => e = .returned (.bool true) ∧ Below w.heap.size w w' := by
  have hla : (digs a).length ≤ 1000 := Nat.le_trans (digs_len (k := 20) (by omega)) (by omega)
  have hlb : (digs b).length ≤ 1000 := Nat.le_trans (digs_len (k := 20) (by omega)) (by omega)
  go_enter Try.func5, Try.ntmps5
  go_wp2_with (go_at_call 7; refine (money_awake _).mono ?_; rintro e w' ⟨rfl, rfl⟩)
  refine (of_any a _ ha).mono ?_
  rintro e w1 ⟨v1, rfl, hv1, hf1, hb1⟩
  go_wp2_with fail
  refine (of_any b _ hb).mono ?_
  rintro e w2 ⟨v2, rfl, hv2, hf2, hb2⟩
  go_wp2_with fail
  refine (add_nat a b _ _ w2.heap.size w2 ((hv1.below hb2).up hb2.size) hv2 (Nat.le_refl _) (by omega) (by omega)).mono ?_
  rintro e w3 ⟨v3, rfl, hv3, hf3, hb3⟩
  obtain ⟨A3, c3, rfl, _⟩ := id hv3
  have hb03 := hb1.trans ((hb2.mono hb1.size).trans (hb3.mono (Nat.le_trans hb1.size hb2.size)))
  clear hv1 hf1 hb1 hv2 hf2 hb2 hb3
  by_cases h1 : a + b < m
  · go_wp2_with fail
    go_region_held3 (fun w' => w'.cell? ⟨w3.heap.size, 0, none⟩ = some (.slice A3 (digs (a + b)).length c3) ∧ Below (w3.heap.size + 1) (w3.alloc (.cells #[.slice A3 (digs (a + b)).length c3] 26)) w')
      (first | exact keep0 | exact keep1 (by assumption) hb5 | exact keep1 (by assumption) hb4)
      (first
        | (go_at_call 8; refine (of_any m _ hm).mono ?_; rintro e w4 ⟨v4, rfl, hv4, hf4, hb4⟩)
        | (go_at_call 20; refine (cmp_less (a + b) m _ _ w4.heap.size w4 (keep_nat hv3 (Nat.le_refl _) (by assumption)) hv4 (Nat.le_refl _) h1).mono ?_; rintro e w5 ⟨rfl, hb5⟩))
    have hheld : w5.cell? ⟨w3.heap.size, 0, none⟩ = some (.slice A3 (digs (a + b)).length c3) ∧ Below (w3.heap.size + 1) (w3.alloc (.cells #[.slice A3 (digs (a + b)).length c3] 26)) w5 := by assumption
    have hs5 := keep_nat hv3 (Nat.le_refl _) hheld
    have hb05 := hb03.trans ((keep_old hheld).mono hb03.size)
    have hcs := hheld.1
    clear hheld hv4 hf4 hb4 hb5 hv3 hf3 hb03
    go_wp2_with fail
    refine (uint_fits (a + b) _ w5.heap.size w5 hs5 (Nat.le_refl _) (by omega)).mono ?_
    rintro e w6 ⟨rfl, hb6⟩
    have hb06 := hb05.trans (hb6.mono hb05.size)
    clear hb05 hb6 hcs hs5
    by_cases h2 : b < a
    · go_wp2_with fail
      refine (of_any a _ ha).mono ?_
      rintro e w7 ⟨v7, rfl, hv7, hf7, hb7⟩
      go_wp2_with fail
      refine (of_any b _ hb).mono ?_
      rintro e w8 ⟨v8, rfl, hv8, hf8, hb8⟩
      go_wp2_with fail
      refine (cmp_more a b _ _ w8.heap.size w8 ((hv7.below hb8).up hb8.size) hv8 (Nat.le_refl _) h2).mono ?_
      rintro e w9 ⟨rfl, hb9⟩
      have hb09 := hb06.trans (((hb7.mono hb06.size).trans (hb8.mono (Nat.le_trans hb06.size hb7.size))).trans (hb9.mono (Nat.le_trans hb06.size (Nat.le_trans hb7.size hb8.size))))
      clear hv7 hf7 hb7 hv8 hf8 hb8 hb9 hb06
      go_wp2_with fail
      refine (of_any a _ ha).mono ?_
      rintro e w10 ⟨v10, rfl, hv10, hf10, hb10⟩
      go_wp2_with fail
      refine (of_any b _ hb).mono ?_
      rintro e w11 ⟨v11, rfl, hv11, hf11, hb11⟩
      go_wp2_with fail
      refine (sub_nat a b _ _ w11.heap.size w11 ((hv10.below hb11).up hb11.size) hv11 (Nat.le_refl _) (by omega) (by omega)).mono ?_
      rintro e w12 ⟨v12, rfl, hv12, hf12, hb12⟩
      go_wp2_with fail
      refine (uint_fits (a - b) _ w12.heap.size w12 hv12 (Nat.le_refl _) (by omega)).mono ?_
      rintro e w13 ⟨rfl, hb13⟩
      have hb013 : Below w.heap.size w w13 := by
        have s1 := hb09.size
        have s2 := hb10.size
        have s3 := hb11.size
        have s4 := hb12.size
        exact hb09.trans ((((hb10.mono (by omega)).trans (hb11.mono (by omega))).trans (hb12.mono (by omega))).trans (hb13.mono (by omega)))
      clear hv10 hf10 hb10 hv11 hf11 hb11 hv12 hf12 hb12 hb13 hb09
      go_wp2_with (first
        | (go_at_call 21; refine (rise_less _ _ _ _ ha hb hm h1).mono ?_; rintro e w' ⟨rfl, rfl⟩)
        | (go_at_call 22; refine (fall_some _ _ _ ha h2).mono ?_; rintro e w' ⟨rfl, rfl⟩))
      go_ret
      exact ⟨rfl, hb013⟩
    · go_wp2_with fail
      refine (of_any a _ ha).mono ?_
      rintro e w7 ⟨v7, rfl, hv7, hf7, hb7⟩
      go_wp2_with fail
      refine (of_any b _ hb).mono ?_
      rintro e w8 ⟨v8, rfl, hv8, hf8, hb8⟩
      go_wp2_with fail
      refine (cmp_upto a b _ _ w8.heap.size w8 ((hv7.below hb8).up hb8.size) hv8 (Nat.le_refl _) (by omega)).mono ?_
      rintro e w9 ⟨z9, hz9, rfl, hb9⟩
      have hb09 := hb06.trans (((hb7.mono hb06.size).trans (hb8.mono (Nat.le_trans hb06.size hb7.size))).trans (hb9.mono (Nat.le_trans hb06.size (Nat.le_trans hb7.size hb8.size))))
      clear hv7 hf7 hb7 hv8 hf8 hb8 hb9 hb06
      go_wp2_with (first
        | (go_at_call 21; refine (rise_less _ _ _ _ ha hb hm h1).mono ?_; rintro e w' ⟨rfl, rfl⟩)
        | (go_at_call 22; refine (fall_none _ _ _ ha hb (by omega)).mono ?_; rintro e w' ⟨rfl, rfl⟩))
      go_ret
      exact ⟨rfl, hb09⟩
  · go_wp2_with fail
    go_region_held3 (fun w' => w'.cell? ⟨w3.heap.size, 0, none⟩ = some (.slice A3 (digs (a + b)).length c3) ∧ Below (w3.heap.size + 1) (w3.alloc (.cells #[.slice A3 (digs (a + b)).length c3] 26)) w')
      (first | exact keep0 | exact keep1 (by assumption) hb5 | exact keep1 (by assumption) hb4)
      (first
        | (go_at_call 8; refine (of_any m _ hm).mono ?_; rintro e w4 ⟨v4, rfl, hv4, hf4, hb4⟩)
        | (go_at_call 20; refine (cmp_least (a + b) m _ _ w4.heap.size w4 (keep_nat hv3 (Nat.le_refl _) (by assumption)) hv4 (Nat.le_refl _) (by omega)).mono ?_; rintro e w5 ⟨z, hz, rfl, hb5⟩))
    have hheld : w5.cell? ⟨w3.heap.size, 0, none⟩ = some (.slice A3 (digs (a + b)).length c3) ∧ Below (w3.heap.size + 1) (w3.alloc (.cells #[.slice A3 (digs (a + b)).length c3] 26)) w5 := by assumption
    have hs5 := keep_nat hv3 (Nat.le_refl _) hheld
    have hb05 := hb03.trans ((keep_old hheld).mono hb03.size)
    have hcs := hheld.1
    clear hheld hv4 hf4 hb4 hb5 hv3 hf3 hb03
    obtain ⟨w6, rfl⟩ : ∃ w6 : World, w6 = w5 := ⟨_, rfl⟩
    have hb06 := hb05
    clear hb05 hcs hs5
    by_cases h2 : b < a
    · go_wp2_with fail
      refine (of_any a _ ha).mono ?_
      rintro e w7 ⟨v7, rfl, hv7, hf7, hb7⟩
      go_wp2_with fail
      refine (of_any b _ hb).mono ?_
      rintro e w8 ⟨v8, rfl, hv8, hf8, hb8⟩
      go_wp2_with fail
      refine (cmp_more a b _ _ w8.heap.size w8 ((hv7.below hb8).up hb8.size) hv8 (Nat.le_refl _) h2).mono ?_
      rintro e w9 ⟨rfl, hb9⟩
      have hb09 := hb06.trans (((hb7.mono hb06.size).trans (hb8.mono (Nat.le_trans hb06.size hb7.size))).trans (hb9.mono (Nat.le_trans hb06.size (Nat.le_trans hb7.size hb8.size))))
      clear hv7 hf7 hb7 hv8 hf8 hb8 hb9 hb06
      go_wp2_with fail
      refine (of_any a _ ha).mono ?_
      rintro e w10 ⟨v10, rfl, hv10, hf10, hb10⟩
      go_wp2_with fail
      refine (of_any b _ hb).mono ?_
      rintro e w11 ⟨v11, rfl, hv11, hf11, hb11⟩
      go_wp2_with fail
      refine (sub_nat a b _ _ w11.heap.size w11 ((hv10.below hb11).up hb11.size) hv11 (Nat.le_refl _) (by omega) (by omega)).mono ?_
      rintro e w12 ⟨v12, rfl, hv12, hf12, hb12⟩
      go_wp2_with fail
      refine (uint_fits (a - b) _ w12.heap.size w12 hv12 (Nat.le_refl _) (by omega)).mono ?_
      rintro e w13 ⟨rfl, hb13⟩
      have hb013 : Below w.heap.size w w13 := by
        have s1 := hb09.size
        have s2 := hb10.size
        have s3 := hb11.size
        have s4 := hb12.size
        exact hb09.trans ((((hb10.mono (by omega)).trans (hb11.mono (by omega))).trans (hb12.mono (by omega))).trans (hb13.mono (by omega)))
      clear hv10 hf10 hb10 hv11 hf11 hb11 hv12 hf12 hb12 hb13 hb09
      go_wp2_with (first
        | (go_at_call 21; refine (rise_stop _ _ _ _ ha hb hm (by omega)).mono ?_; rintro e w' ⟨rfl, rfl⟩)
        | (go_at_call 22; refine (fall_some _ _ _ ha h2).mono ?_; rintro e w' ⟨rfl, rfl⟩))
      go_ret
      exact ⟨rfl, hb013⟩
    · go_wp2_with fail
      refine (of_any a _ ha).mono ?_
      rintro e w7 ⟨v7, rfl, hv7, hf7, hb7⟩
      go_wp2_with fail
      refine (of_any b _ hb).mono ?_
      rintro e w8 ⟨v8, rfl, hv8, hf8, hb8⟩
      go_wp2_with fail
      refine (cmp_upto a b _ _ w8.heap.size w8 ((hv7.below hb8).up hb8.size) hv8 (Nat.le_refl _) (by omega)).mono ?_
      rintro e w9 ⟨z9, hz9, rfl, hb9⟩
      have hb09 := hb06.trans (((hb7.mono hb06.size).trans (hb8.mono (Nat.le_trans hb06.size hb7.size))).trans (hb9.mono (Nat.le_trans hb06.size (Nat.le_trans hb7.size hb8.size))))
      clear hv7 hf7 hb7 hv8 hf8 hb8 hb9 hb06
      go_wp2_with (first
        | (go_at_call 21; refine (rise_stop _ _ _ _ ha hb hm (by omega)).mono ?_; rintro e w' ⟨rfl, rfl⟩)
        | (go_at_call 22; refine (fall_none _ _ _ ha hb (by omega)).mono ?_; rintro e w' ⟨rfl, rfl⟩))
      go_ret
      exact ⟨rfl, hb09⟩

theorem walk (a b m : Int) (w : World) (ha : 0 ≤ a) (ha' : a ≤ 18446744073709551615) (hb : 0 ≤ b) (hb' : b ≤ 18446744073709551615) (hm : 0 ≤ m) (hm' : m ≤ 18446744073709551615) :
    Calls Try.prog 5 #[.int .u64 a, .int .u64 b, .int .u64 m] w fun e w' => e = .returned (.bool true) ∧ Below w.heap.size w w' := by
  obtain ⟨x, rfl⟩ := Int.eq_ofNat_of_zero_le ha
  obtain ⟨y, rfl⟩ := Int.eq_ofNat_of_zero_le hb
  obtain ⟨z, rfl⟩ := Int.eq_ofNat_of_zero_le hm
  exact walkN x y z w (by omega) (by omega) (by omega)

theorem own : ownKnob Try.prog.godebug = none := by kernel_rfl
theorem laidOut : laidOutB Try.prog = true := by kernel_rfl

set_option maxRecDepth 100000 in
theorem lifted (os : Os) (started : os.Started) (H : Type) (enc : TypeId × Value → H) :
    ReturnsInHanded {} Try.checked os 5 .any (Rows.moneyStopsSpec.pre6 enc Try.prog Try.f5 Rows.moneyStopsRow.domain false) (Rows.moneyStopsSpec.post enc Try.prog Try.f5 false true false false) := by
  refine returnsInHanded_of_change (C := Try.checked) own started (by kernel_rfl) Try.func5
    (ChangeSpec.witness6 (enc := enc) (C := Try.checked) false ⟨#[], #[.int .u64 0, .int .u64 0, .int .u64 0], []⟩ 8 (by kernel_rfl) (by kernel_rfl) (by kernel_rfl) (by kernel_rfl)) ?_
  intro W base args ds gs before hval0 hW hcnd _
  have hval : ∀ (j : Nat) t v, Try.f5.params[j]? = some t → args[j]? = some v → Value.okWide Try.prog W .any base t v := hval0
  have hW' := hW
  obtain ⟨p, q, hA0, hV, rfl, hfz, hnd⟩ := hW
  have hlt : ∀ x ∈ p ++ q, x.block < W.heap.size := fun x hx => hW'.lt x hx
  have hA : DataW.TrodAll enc Try.prog W 0 (fun _ => true) true Try.f5.params.toList args.toList ds p := hA0
  rw [Try.params5] at hA hval
  obtain ⟨v0, vs0, d0, ds0, p0, q0, hargs, rfl, rfl, h0, r0⟩ := trodAll_cons hA
  obtain ⟨v1, vs1, d1, ds1, p1, q1, rfl, rfl, rfl, h1, r1⟩ := trodAll_cons r0
  obtain ⟨v2, vs2, d2, ds2, p2, q2, rfl, rfl, rfl, h2, r2⟩ := trodAll_cons r1
  obtain ⟨rfl, rfl, rfl⟩ := trodAll_nil r2
  obtain rfl : args = #[v0, v1, v2] := by cases args; simp_all
  obtain ⟨rfl, rfl⟩ := trodVars_none hV
  obtain ⟨a0, rfl, rfl, rfl, w0⟩ := open_int Try.underlying22 (hval 0 22 v0 rfl rfl) h0
  have b0 := u64_fits w0
  obtain ⟨a1, rfl, rfl, rfl, w1⟩ := open_int Try.underlying22 (hval 1 22 v1 rfl rfl) h1
  have b1 := u64_fits w1
  obtain ⟨a2, rfl, rfl, rfl, w2⟩ := open_int Try.underlying22 (hval 2 22 v2 rfl rfl) h2
  have b2 := u64_fits w2
  clear hA0 hval0
  refine (walk a0 a1 a2 W b0.1 b0.2 b1.1 b1.2 b2.1 b2.2).mono fun e W' ⟨he, hg⟩ => ?_
  subst he
  exact ⟨_, rfl, law_post laidOut (by kernel_rfl) rfl rfl Try.underlying4 rfl hW' hg⟩

theorem over : Rows.moneyStopsRow.holds Try.pinned (OpenSpec.ofChange Rows.moneyStopsSpec) :=
  OpenClaim.holds_of_wide 5 Try.f5 rfl rfl rfl rfl rfl rfl rfl ⟨rfl, rfl, rfl, rfl, rfl⟩ rfl rfl rfl rfl rfl (by kernel_rfl) Try.func5 (by kernel_rfl)
    (of_decide_eq_true (by kernel_rfl)) (by unfold Func.isWrapper; first | (rw [if_pos (by decide +kernel)]; kernel_rfl) | (rw [if_neg (by decide +kernel)]; exact ⟨rfl, rfl⟩))
    (fun os started H enc _ => lifted os started H enc)

/-- The statement. -/
theorem proved : Rows.MoneyStopsSaid := over
#print axioms proved
end Go.Proofs.Ytchlhpjnocibjaa.MoneyStops
