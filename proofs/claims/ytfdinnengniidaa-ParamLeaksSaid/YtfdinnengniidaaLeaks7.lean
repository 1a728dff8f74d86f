/- Law ParamLeaks (P7.4): who is absent in each tick of a leak loses at least what leads from the most to the floor, with a score that never comes to its end ahead of that. No condition. -/
import Derived.Test.YtfdinnengniidaaAwake7
import Derived.Test.YtfdinnengniidaaLawP
import Derived.Test.YtfdinnengniidaaRows
namespace Go.Proofs.Ytfdinnengniidaa.ParamLeaks
open Go.RowKit Go.ChangeShapes Go.WideShapes Go.ChangeAt
set_option linter.unusedVariables false

theorem leak_is (p : Par) (N : Nat) (w : World) (h : Par.Right p N) :
    Calls Try.prog 9 #[.agg p.vals] w fun e w' => e = .returned (.tuple #[.int .i64 (N : Int), .int .i64 0]) ∧ Below w.heap.size w w' := by
  obtain ⟨m, rfl⟩ : ∃ m, N = m + 1 := ⟨N - 1, by have := h.halt.pos; omega⟩
  rw [Int.natCast_add]
  exact leak_ok p m w h

/-- A most for what one tick takes. -/
theorem cap_of {p : Par} {N : Nat} (h : Par.Right p N) (h3 : N ≤ 3000) : ∃ C, (∀ k, k ≤ N → p.inc * (p.bias * k) ≤ C * p.quot) ∧ N * C ≤ 9223372036854775808 := by
  have s := h.spans
  have hA : p.inc * p.bias ≤ 9223372036854775808 := Nat.le_trans (Nat.mul_le_mul s.inc1 s.bias1) (by omega)
  rcases Nat.lt_or_ge N 2 with h2 | h2
  · refine ⟨9223372036854775808, fun k hk => Par.each_le h hk, ?_⟩
    have := Nat.mul_le_mul_right 9223372036854775808 (show N ≤ 1 by omega)
    omega
  · refine ⟨2199023255552, fun k hk => ?_, ?_⟩
    · have hn := h.halt.no
      unfold Par.lim at hn
      have hD : p.cap - p.floor ≤ 1099511627776 := by have := s.cap1; omega
      have h4 : p.inc * (p.bias * k) ≤ p.inc * p.bias * ((N - 1) * (N - 1 + 1)) := by
        rw [← Nat.mul_assoc]
        refine Nat.mul_le_mul_left _ ?_
        have : N - 1 + 1 = N := by omega
        rw [this]
        calc k ≤ 1 * N := by omega
          _ ≤ (N - 1) * N := Nat.mul_le_mul_right _ (by omega)
      have h5 : 2 * p.quot * (p.cap - p.floor) ≤ 2 * p.quot * 1099511627776 := Nat.mul_le_mul_left _ hD
      omega
    · have := Nat.mul_le_mul_right 2199023255552 h3
      omega

/-- What has been lost behind k ticks. -/
structure Lost (p : Par) (C k L S : Nat) : Prop where
  score : S = p.bias * k
  most : L ≤ k * C
  least : p.inc * p.bias * (k * (k + 1)) ≤ 2 * p.quot * L
theorem Lost.next {p : Par} {C k L S n : Nat} (h : Lost p C k L S) (hn : Ceil (p.inc * (S + p.bias)) p.quot n) (hC : p.inc * (p.bias * (k + 1)) ≤ C * p.quot) : Lost p C (k + 1) (L + n) (S + p.bias) where
  score := by rw [h.score, Nat.mul_add, Nat.mul_one]
  most := by
    have e : S + p.bias = p.bias * (k + 1) := by rw [h.score, Nat.mul_add, Nat.mul_one]
    have := hn.le (by rw [e]; exact hC)
    have := h.most
    rw [Nat.add_mul]; omega
  least := by
    have e : S + p.bias = p.bias * (k + 1) := by rw [h.score, Nat.mul_add, Nat.mul_one]
    have h1 := hn.enough
    rw [e, ← Nat.mul_assoc] at h1
    have h2 := h.least
    have e1 : p.inc * p.bias * ((k + 1) * (k + 1 + 1)) = p.inc * p.bias * (k * (k + 1)) + 2 * (p.inc * p.bias * (k + 1)) := by
      rw [← Nat.mul_assoc 2, Nat.mul_comm 2, Nat.mul_assoc _ 2, ← Nat.mul_add]
      congr 1
      rw [Nat.mul_comm (k + 1) (k + 1 + 1), show k + 1 + 1 = k + 2 by omega, Nat.add_mul]
    have e2 : 2 * p.quot * (L + n) = 2 * p.quot * L + 2 * (n * p.quot) := by
      rw [Nat.mul_add, Nat.mul_assoc 2 p.quot n, Nat.mul_comm p.quot n]
    omega
theorem Lost.all {p : Par} {C N L S : Nat} (h : Lost p C N L S) (hR : Par.Right p N) : p.cap - p.floor ≤ L := by
  have hl := hR.lim
  unfold Par.lim at hl
  exact Nat.le_of_mul_le_mul_left (Nat.le_trans hl h.least) (by have := hR.spans.quot0; omega)

set_option maxRecDepth 100000 in
set_option maxHeartbeats 4000000 in
theorem walk (p : Par) (w : World) (hf : p.Fits) :
    Calls Try.prog 6 #[.agg p.vals] w fun e w' => e = .returned (.bool true) ∧ Below w.heap.size w w' := by
  have hP := ParAt.new w p 24
  have hB : Below w.heap.size w (w.alloc (.cells p.vals 24)) := (Below.refl _ _).alloc (Nat.le_refl _) _
  by_cases hR : ∃ N, Par.Right p N
  · obtain ⟨N, hN⟩ := hR
    have kl := fun w => leak_is p N w hN
    by_cases h3 : N ≤ 3000
    · obtain ⟨C, hC, hCN⟩ := cap_of hN h3
      have s := hN.spans
      have i1 := s.inc1
      have b1 := s.bias1
      have q0 := s.quot0
      have q1 := s.quot1
      have c1 := s.cap1
      have ov := s.over
      have sc1 := s.score1
      have hsc := hN.score
      have HC := Lib.hid hC
      have HN := Lib.hid hN
      have HCN := Lib.hid hCN
      have HSC := Lib.hid hsc
      have d3 : decide ((3000 : Int) < (N : Int)) = false := by simp; omega
      have v0 := p.v0
      have v2 := p.v2
      have v3 := p.v3
      have v6 := p.v6
      have v7 := p.v7
      have v11 := p.v11
      clear hC hN hCN hsc s
      go_enter Try.func6, Try.ntmps6
      go_wp2_with (first
        | (refine load_par _ rfl rfl _ p _ rfl (by assumption) ?_)
        | (go_at_call 8; refine (param_awake _).mono ?_; rintro e w1 ⟨rfl, hb1⟩; have hP := hP.up hb1; have hB := Below.then hB hb1)
        | (go_at_call 9; refine (kl _).mono ?_; clear kl; rintro e w2 ⟨rfl, hb2⟩; have hP2 := hP.up hb2; have hB2 := Below.then hB hb2))
      have hbw : w.heap.size < w2.heap.size := hP2.lt
      go_loopw [5, 6, 23] (fun s5 s6 s23 wr => ∃ k L S : Nat, s5 = .int .u64 (L : Int) ∧ s6 = .int .u64 (S : Int) ∧ s23 = .int .i64 (k : Int) ∧ k ≤ N ∧ Hid (Lost p C k L S) ∧ Below w2.heap.size w2 wr) (fun _ _ s23 _ => N - (intOf s23).toNat)
      case atStart => exact ⟨0, 0, 0, rfl, rfl, rfl, Nat.zero_le _, ⟨by simp, by simp, by simp⟩, Below.refl _ _⟩
      case round =>
        obtain ⟨k, L, S, rfl, rfl, rfl, hk, HL, hBr⟩ := hrel
        have hPr := hP2.up hBr
        have c0 := (hPr.cell 0).trans v0
        have c2 := (hPr.cell 2).trans v2
        have c3 := (hPr.cell 3).trans v3
        have c6 := (hPr.cell 6).trans v6
        have c7 := (hPr.cell 7).trans v7
        have c11 := (hPr.cell 11).trans v11
        by_cases hlt : k < N
        · have hSb : S + p.bias ≤ p.scoreCap := by
            have h1 := HL.out.score
            have h2 : p.bias * (k + 1) ≤ p.bias * N := Nat.mul_le_mul_left _ hlt
            have := HSC.out
            rw [Nat.mul_add] at h2
            omega
          obtain ⟨n, hn⟩ := ceil_is (p.inc * (S + p.bias)) p.quot q0
          have hnew := HL.out.next hn (HC.out (k + 1) hlt)
          have hLb : L + n ≤ 9223372036854775808 := Nat.le_trans hnew.most (Nat.le_trans (Nat.mul_le_mul_right _ hlt) HCN.out)
          have ku := fun w => up_is p.inc (S + p.bias) p.quot n w (by omega) (by omega) (by omega) q0 hn (by omega)
          rw [Int.natCast_add] at ku
          have HNEW := Lib.hid hnew
          have dS : decide ((p.scoreCap : Int) < (S : Int) + (p.bias : Int)) = false := by simp; omega
          clear hn hnew
          go_wp2_with (go_at_call 25; refine (ku _).mono ?_; clear ku; rintro e w3 ⟨rfl, hb3⟩; have c11 := ((hPr.up hb3).cell 11).trans v11)
          go_roundw
          case rel => exact ⟨k + 1, L + n, S + p.bias, by rw [Int.natCast_add], by rw [Int.natCast_add], by go_num, hlt, HNEW, Below.then hBr hb3⟩
          case measure => simp [intOf]; omega
        · obtain rfl : k = N := by omega
          have hend := HL.out.all HN.out
          have dE : decide ((p.cap : Int) - (p.floor : Int) ≤ (L : Int)) = true := by simp; omega
          go_wp2
          go_ret
          exact ⟨by simp [dE], Below.then hB2 hBr⟩
    · have d3 : decide ((3000 : Int) < (N : Int)) = true := by simp; omega
      clear h3 hN
      go_enter Try.func6, Try.ntmps6
      go_wp2_with (first
        | (refine load_par _ rfl rfl _ p _ rfl (by assumption) ?_)
        | (go_at_call 8; refine (param_awake _).mono ?_; rintro e w1 ⟨rfl, hb1⟩; have hP := hP.up hb1; have hB := Below.then hB hb1)
        | (go_at_call 9; refine (kl _).mono ?_; clear kl; rintro e w2 ⟨rfl, hb2⟩; have hB2 := Below.then hB hb2))
      go_ret
      exact ⟨rfl, hB2⟩
  · have kl := fun w => leak_no p w hf hR
    clear hR hf
    go_enter Try.func6, Try.ntmps6
    go_wp2_with (first
      | (refine load_par _ rfl rfl _ p _ rfl (by assumption) ?_)
      | (go_at_call 8; refine (param_awake _).mono ?_; rintro e w1 ⟨rfl, hb1⟩; have hP := hP.up hb1; have hB := Below.then hB hb1)
      | (go_at_call 9; refine (kl _).mono ?_; clear kl; rintro e w2 ⟨rfl, hb2⟩; have hB2 := Below.then hB hb2))
    go_ret
    exact ⟨rfl, hB2⟩

theorem own : ownKnob Try.prog.godebug = none := by kernel_rfl
theorem laidOut : laidOutB Try.prog = true := by kernel_rfl

set_option maxRecDepth 100000 in
theorem lifted (os : Os) (started : os.Started) (H : Type) (enc : TypeId × Value → H) :
    ReturnsInHanded {} Try.checked os 6 .any (Rows.paramLeaksSpec.pre6 enc Try.prog Try.f6 Rows.paramLeaksRow.domain false) (Rows.paramLeaksSpec.post enc Try.prog Try.f6 false true false false) := by
  refine returnsInHanded_of_change (C := Try.checked) own started (by kernel_rfl) Try.func6
    (ChangeSpec.witness6 (enc := enc) (C := Try.checked) false ⟨#[], #[.agg #[.int .u64 0, .int .u64 0, .int .u64 0, .int .u64 0, .int .u64 0, .int .u64 0, .int .u64 0, .int .u64 0, .int .u64 0, .int .u64 0, .int .u64 0, .int .u64 0, .int .u64 0, .int .u64 0, .int .i64 0, .int .i64 0, .int .i64 0, .int .i64 0, .int .i64 0, .int .i64 0, .int .i64 0, .int .i64 0, .int .i64 0, .int .i64 0]], []⟩ 8 (by kernel_rfl) (by kernel_rfl) (by kernel_rfl) (by kernel_rfl)) ?_
  intro W base args ds gs before hval0 hW hcnd _
  have hval : ∀ (j : Nat) t v, Try.f6.params[j]? = some t → args[j]? = some v → Value.okWide Try.prog W .any base t v := hval0
  have hW' := hW
  obtain ⟨p, q, hA0, hV, rfl, hfz, hnd⟩ := hW
  have hlt : ∀ x ∈ p ++ q, x.block < W.heap.size := fun x hx => hW'.lt x hx
  have hA : DataW.TrodAll enc Try.prog W 0 (fun _ => true) true Try.f6.params.toList args.toList ds p := hA0
  rw [Try.params6] at hA hval
  obtain ⟨v0, vs0, d0, ds0, p0, q0, hargs, rfl, rfl, h0, r0⟩ := trodAll_cons hA
  obtain ⟨rfl, rfl, rfl⟩ := trodAll_nil r0
  obtain rfl : args = #[v0] := by cases args; simp_all
  obtain ⟨rfl, rfl⟩ := trodVars_none hV
  obtain ⟨a0, rfl, f0⟩ := open_par (hval 0 24 v0 rfl rfl) h0
  clear hA0 hval0
  refine (walk a0 W f0).mono fun e W' ⟨he, hg⟩ => ?_
  subst he
  exact ⟨_, rfl, law_post laidOut (by kernel_rfl) rfl rfl Try.underlying4 rfl hW' hg⟩

theorem over : Rows.paramLeaksRow.holds Try.pinned (OpenSpec.ofChange Rows.paramLeaksSpec) :=
  OpenClaim.holds_of_wide 6 Try.f6 rfl rfl rfl rfl rfl rfl rfl ⟨rfl, rfl, rfl, rfl, rfl⟩ rfl rfl rfl rfl rfl (by kernel_rfl) Try.func6 (by kernel_rfl)
    (of_decide_eq_true (by kernel_rfl)) (by unfold Func.isWrapper; first | (rw [if_pos (by decide +kernel)]; kernel_rfl) | (rw [if_neg (by decide +kernel)]; exact ⟨rfl, rfl⟩))
    (fun os started H enc _ => lifted os started H enc)

/-- The statement. -/
theorem proved : Rows.ParamLeaksSaid := over
#print axioms proved

end Go.Proofs.Ytfdinnengniidaa.ParamLeaks
