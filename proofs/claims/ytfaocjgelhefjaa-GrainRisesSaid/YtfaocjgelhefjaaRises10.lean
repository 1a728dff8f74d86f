/- Law GrainRises (P10.3): as a balance rises what fits never falls, and it never is far above the balance. No condition. -/
import Derived.Test.YtfaocjgelhefjaaAwake10
import Derived.Test.YtfaocjgelhefjaaGraL
import Derived.Test.YtfaocjgelhefjaaLawP
import Derived.Test.YtfaocjgelhefjaaRows
namespace Go.Proofs.Ytfaocjgelhefjaa.GrainRises
open Go.RowKit Go.ChangeShapes Go.WideShapes Go.ChangeAt
set_option linter.unusedVariables false
set_option linter.unusedSimpArgs false


set_option maxRecDepth 100000 in
set_option maxHeartbeats 2000000 in
theorem walk (p : Par) (e xa xb : Nat) (w : World) (hf : p.Fits) (he : e < 18446744073709551616) (ha : xa < 18446744073709551616) (hb : xb < 18446744073709551616) :
    Calls Try.prog 5 #[.agg p.vals, .int .u64 (e : Int), .agg #[.int .u64 (xa : Int), .int .u64 (xb : Int)]] w fun ev w' => ev = .returned (.bool true) ∧ Below w.heap.size w w' := by
  have hP0 := ParAt.new w p 24
  have hP := hP0.up ((Below.refl _ _).alloc (Nat.le_refl _) (.cells #[.int .u64 (xa : Int), .int .u64 (xb : Int)] 38))
  have hX : TwoAt ((w.alloc (.cells p.vals 24)).alloc (.cells #[.int .u64 (xa : Int), .int .u64 (xb : Int)] 38)) (w.heap.size + 1) xa xb 38 := TwoAt.new _ _ _ _ (by simp)
  have hB : Below w.heap.size w ((w.alloc (.cells p.vals 24)).alloc (.cells #[.int .u64 (xa : Int), .int .u64 (xb : Int)] 38)) := ((Below.refl _ _).alloc (Nat.le_refl _) _).alloc (by simp) _
  clear hP0
  have v1 := p.v1
  have v2 := p.v2
  have v5 := p.v5
  by_cases hR : ∃ N, Par.Right p N
  · obtain ⟨N, hN⟩ := hR
    have hc : CheckIs p 0 := fun w => check_ok p N w hN
    have s := hN.spans
    have i0 := s.inc0
    cases hF : p.fit e xa with
    | false =>
      have kf := fun w => gfits_ok p e xa false w hc i0 he ha (Lib.hid hF)
      clear hF hN hf s hc i0 he ha hb
      go_enter Try.func5, Try.ntmps5
      go_wp2_with (first
        | (refine load_par _ rfl rfl _ p _ rfl (by assumption) ?_)
        | (go_at_call 6; refine (grain_awake _).mono ?_; rintro e w1 ⟨rfl, hb1⟩; have hP := hP.up hb1; have hX := hX.up hb1; have hB := Below.then hB hb1; have x0 := hX.c0; have x1 := hX.c1; have p1 := (hP.cell 1).trans v1; have p2 := (hP.cell 2).trans v2; have p5 := (hP.cell 5).trans v5; clear hb1)
        | (go_at_call 12; refine (kf _).mono ?_; clear kf; rintro e w1 ⟨rfl, hb1⟩; have hP := hP.up hb1; have hX := hX.up hb1; have hB := Below.then hB hb1; have x0 := hX.c0; have x1 := hX.c1; have p1 := (hP.cell 1).trans v1; have p2 := (hP.cell 2).trans v2; have p5 := (hP.cell 5).trans v5; clear hb1)
        )
      go_ret
      exact ⟨by first | rfl | simp, hB⟩
    | true =>
      have kf := fun w => gfits_ok p e xa true w hc i0 he ha (Lib.hid hF)
      rcases Nat.lt_or_ge xb xa with hlt | hge
      · have d1 : decide ((xb : Int) < (xa : Int)) = true := by simp; omega
        have d2 : decide (xb < xa) = true := by simp; omega
        clear hF hN hf s hc i0 he ha hb hlt
        go_enter Try.func5, Try.ntmps5
        go_wp2_with (first
          | (refine load_par _ rfl rfl _ p _ rfl (by assumption) ?_)
          | (go_at_call 6; refine (grain_awake _).mono ?_; rintro e w1 ⟨rfl, hb1⟩; have hP := hP.up hb1; have hX := hX.up hb1; have hB := Below.then hB hb1; have x0 := hX.c0; have x1 := hX.c1; have p1 := (hP.cell 1).trans v1; have p2 := (hP.cell 2).trans v2; have p5 := (hP.cell 5).trans v5; clear hb1)
          | (go_at_call 12; refine (kf _).mono ?_; clear kf; rintro e w1 ⟨rfl, hb1⟩; have hP := hP.up hb1; have hX := hX.up hb1; have hB := Below.then hB hb1; have x0 := hX.c0; have x1 := hX.c1; have p1 := (hP.cell 1).trans v1; have p2 := (hP.cell 2).trans v2; have p5 := (hP.cell 5).trans v5; clear hb1)
          )
        go_ret
        exact ⟨by first | rfl | simp, hB⟩
      · have d1 : decide ((xb : Int) < (xa : Int)) = false := by simp; omega
        have d2 : decide (xb < xa) = false := by simp; omega
        have kn := fun w => gnext_ok p e xb _ w hc i0 he hb (Lib.hid rfl)
        obtain ⟨q1, q2, q3⟩ := Par.rises s hF hge
        generalize p.next e xb = n at *
        have d3 : decide ((e : Int) ≤ (n : Int)) = true := by simp; omega
        have d4 : decide (e ≤ n) = true := by simp; omega
        have d5 : decide ((n : Int) ≤ (p.maxEff : Int)) = true := by simp; omega
        have d6 : decide (n ≤ p.maxEff) = true := by simp; omega
        by_cases h7 : e ≤ xa
        · have d7 : decide ((e : Int) ≤ (xa : Int)) = true := by simp; omega
          have d8 : decide (e ≤ xa) = true := by simp; omega
          clear hF hN hf s hc i0 he ha hb hge q1 q2 q3 h7
          go_enter Try.func5, Try.ntmps5
          go_wp2_with (first
            | (refine load_par _ rfl rfl _ p _ rfl (by assumption) ?_)
            | (go_at_call 6; refine (grain_awake _).mono ?_; rintro e w1 ⟨rfl, hb1⟩; have hP := hP.up hb1; have hX := hX.up hb1; have hB := Below.then hB hb1; have x0 := hX.c0; have x1 := hX.c1; have p1 := (hP.cell 1).trans v1; have p2 := (hP.cell 2).trans v2; have p5 := (hP.cell 5).trans v5; clear hb1)
            | (go_at_call 12; refine (kf _).mono ?_; clear kf; rintro e w1 ⟨rfl, hb1⟩; have hP := hP.up hb1; have hX := hX.up hb1; have hB := Below.then hB hb1; have x0 := hX.c0; have x1 := hX.c1; have p1 := (hP.cell 1).trans v1; have p2 := (hP.cell 2).trans v2; have p5 := (hP.cell 5).trans v5; clear hb1)
            | (go_at_call 11; refine (kn _).mono ?_; clear kn; rintro e w1 ⟨rfl, hb1⟩; have hP := hP.up hb1; have hX := hX.up hb1; have hB := Below.then hB hb1; have x0 := hX.c0; have x1 := hX.c1; have p1 := (hP.cell 1).trans v1; have p2 := (hP.cell 2).trans v2; have p5 := (hP.cell 5).trans v5; clear hb1)
            )
          go_ret
          exact ⟨by first | rfl | simp, hB⟩
        · have d7 : decide ((e : Int) ≤ (xa : Int)) = false := by simp; omega
          have d8 : decide (e ≤ xa) = false := by simp; omega
          have q4 : e - xa ≤ p.down := by omega
          have e1 : IntKind.u64.wrap ((e : Int) - (xa : Int)) = ((e - xa : Nat) : Int) := by rw [show ((e - xa : Nat) : Int) = (e : Int) - (xa : Int) by omega]; exact IntWalk.u64_in _ (by omega)
          have e2 : (e : Int) - (xa : Int) = ((e - xa : Nat) : Int) := by omega
          have e3 : IntKind.u64.wrap ((e - xa : Nat) : Int) = ((e - xa : Nat) : Int) := IntWalk.u64_in _ (by omega)
          generalize e - xa = m at *
          have d9 : decide ((m : Int) ≤ (p.down : Int)) = true := by simp; omega
          have d10 : decide (m ≤ p.down) = true := by simp; omega
          clear hF hN hf s hc i0 he ha hb hge q1 q2 q3 h7 q4
          go_enter Try.func5, Try.ntmps5
          go_wp2_with (first
            | (refine load_par _ rfl rfl _ p _ rfl (by assumption) ?_)
            | (go_at_call 6; refine (grain_awake _).mono ?_; rintro e w1 ⟨rfl, hb1⟩; have hP := hP.up hb1; have hX := hX.up hb1; have hB := Below.then hB hb1; have x0 := hX.c0; have x1 := hX.c1; have p1 := (hP.cell 1).trans v1; have p2 := (hP.cell 2).trans v2; have p5 := (hP.cell 5).trans v5; clear hb1)
            | (go_at_call 12; refine (kf _).mono ?_; clear kf; rintro e w1 ⟨rfl, hb1⟩; have hP := hP.up hb1; have hX := hX.up hb1; have hB := Below.then hB hb1; have x0 := hX.c0; have x1 := hX.c1; have p1 := (hP.cell 1).trans v1; have p2 := (hP.cell 2).trans v2; have p5 := (hP.cell 5).trans v5; clear hb1)
            | (go_at_call 11; refine (kn _).mono ?_; clear kn; rintro e w1 ⟨rfl, hb1⟩; have hP := hP.up hb1; have hX := hX.up hb1; have hB := Below.then hB hb1; have x0 := hX.c0; have x1 := hX.c1; have p1 := (hP.cell 1).trans v1; have p2 := (hP.cell 2).trans v2; have p5 := (hP.cell 5).trans v5; clear hb1)
            )
          go_ret
          exact ⟨by first | rfl | simp [d9, d10, e3], hB⟩
  · have kf := fun w => gfits_no p e xa w (fun w => check_no p w hf hR)
    clear hf hR he ha hb
    go_enter Try.func5, Try.ntmps5
    go_wp2_with (first
      | (refine load_par _ rfl rfl _ p _ rfl (by assumption) ?_)
      | (go_at_call 6; refine (grain_awake _).mono ?_; rintro e w1 ⟨rfl, hb1⟩; have hP := hP.up hb1; have hX := hX.up hb1; have hB := Below.then hB hb1; have x0 := hX.c0; have x1 := hX.c1; have p1 := (hP.cell 1).trans v1; have p2 := (hP.cell 2).trans v2; have p5 := (hP.cell 5).trans v5; clear hb1)
      | (go_at_call 12; refine (kf _).mono ?_; clear kf; rintro e w1 ⟨rfl, hb1⟩; have hP := hP.up hb1; have hX := hX.up hb1; have hB := Below.then hB hb1; have x0 := hX.c0; have x1 := hX.c1; have p1 := (hP.cell 1).trans v1; have p2 := (hP.cell 2).trans v2; have p5 := (hP.cell 5).trans v5; clear hb1)
      )
    go_ret
    exact ⟨by first | rfl | simp, hB⟩


theorem own : ownKnob Try.prog.godebug = none := by kernel_rfl
theorem laidOut : laidOutB Try.prog = true := by kernel_rfl

set_option maxRecDepth 100000 in
theorem lifted (os : Os) (started : os.Started) (H : Type) (enc : TypeId × Value → H) :
    ReturnsInHanded {} Try.checked os 5 .any (Rows.grainRisesSpec.pre6 enc Try.prog Try.f5 Rows.grainRisesRow.domain false) (Rows.grainRisesSpec.post enc Try.prog Try.f5 false true false false) := by
  refine returnsInHanded_of_change (C := Try.checked) own started (by kernel_rfl) Try.func5
    (ChangeSpec.witness6 (enc := enc) (C := Try.checked) false ⟨#[], #[.agg #[.int .u64 0, .int .u64 0, .int .u64 0, .int .u64 0, .int .u64 0, .int .u64 0, .int .u64 0, .int .u64 0, .int .u64 0, .int .u64 0, .int .u64 0, .int .u64 0, .int .u64 0, .int .u64 0, .int .i64 0, .int .i64 0, .int .i64 0, .int .i64 0, .int .i64 0, .int .i64 0, .int .i64 0, .int .i64 0, .int .i64 0, .int .i64 0], .int .u64 0, .agg #[.int .u64 0, .int .u64 0]], []⟩ 8 (by kernel_rfl) (by kernel_rfl) (by kernel_rfl) (by kernel_rfl)) ?_
  intro W base args ds gs before hval0 hW hcnd _
  have hval : ∀ (j : Nat) t v, Try.f5.params[j]? = some t → args[j]? = some v → Value.okWide Try.prog W .any base t v := hval0
  have hW' := hW
  obtain ⟨p, q, hA0, hV, rfl, hfz, hnd⟩ := hW
  have hlt : ∀ x ∈ p ++ q, x.block < W.heap.size := fun x hx => hW'.lt x hx
  have hA : DataW.TrodAll enc Try.prog W 0 (fun _ => true) true Try.f5.params.toList args.toList ds p := hA0
  rw [Try.params5] at hA hval
  obtain ⟨v0, vs0, d0, ds0, p0, q0, hargs, rfl, rfl, h0, r0⟩ := trodAll_cons hA
  obtain ⟨v1, vs1, d1, ds1, p1, q1, rfl, rfl, rfl, h1, r1⟩ := trodAll_cons r0
  obtain ⟨v2, vs2, d2, ds2, p2, q2, rfl, rfl, rfl, h2, r2⟩ := trodAll_cons r1
  obtain ⟨rfl, rfl, rfl⟩ := trodAll_nil r2
  obtain rfl : args = #[v0, v1, v2] := by cases args; simp_all
  obtain ⟨rfl, rfl⟩ := trodVars_none hV
  obtain ⟨a0, rfl, f0⟩ := open_par (hval 0 24 v0 rfl rfl) h0
  obtain ⟨a1, rfl, rfl, rfl, w1⟩ := open_int Try.underlying22 (hval 1 22 v1 rfl rfl) h1
  have b1 := u64_fits w1
  obtain ⟨n1, rfl⟩ := Int.eq_ofNat_of_zero_le b1.1
  obtain ⟨x20, x21, y20, y21, m2, rfl, rfl, rfl, hy20, hy21⟩ := Joins.open_agg2 Try.underlying38 (by kernel_rfl) (by kernel_rfl) (hval 2 38 v2 rfl rfl) h2
  obtain ⟨a20, e20, rfl, u20⟩ := DataW.trod_int Try.underlying22 hy20
  simp at e20
  subst e20
  have b20 := u64_fits u20
  obtain ⟨n20, rfl⟩ := Int.eq_ofNat_of_zero_le b20.1
  obtain ⟨a21, e21, rfl, u21⟩ := DataW.trod_int Try.underlying22 hy21
  simp at e21
  subst e21
  have b21 := u64_fits u21
  obtain ⟨n21, rfl⟩ := Int.eq_ofNat_of_zero_le b21.1
  clear hA0 hval0
  refine (walk a0 n1 n20 n21 W f0 (by have := b1.2; omega) (by have := b20.2; omega) (by have := b21.2; omega)).mono fun e W' ⟨he, hg⟩ => ?_
  subst he
  exact ⟨_, rfl, law_post laidOut (by kernel_rfl) rfl rfl Try.underlying4 rfl hW' hg⟩

theorem over : Rows.grainRisesRow.holds Try.pinned (OpenSpec.ofChange Rows.grainRisesSpec) :=
  OpenClaim.holds_of_wide 5 Try.f5 rfl rfl rfl rfl rfl rfl rfl ⟨rfl, rfl, rfl, rfl, rfl⟩ rfl rfl rfl rfl rfl (by kernel_rfl) Try.func5 (by kernel_rfl)
    (of_decide_eq_true (by kernel_rfl)) (by unfold Func.isWrapper; first | (rw [if_pos (by decide +kernel)]; kernel_rfl) | (rw [if_neg (by decide +kernel)]; exact ⟨rfl, rfl⟩))
    (fun os started H enc _ => lifted os started H enc)

/-- The statement. -/
theorem proved : Rows.GrainRisesSaid := over
#print axioms proved

end Go.Proofs.Ytfaocjgelhefjaa.GrainRises
