/- Law ScoreMounts (P11.3): in a leak who is away again and again has a score that rises by the bias at least each time, until it has come to its end; and what it owns stays. No condition. -/
import Derived.Test.YtfdjpaaahekkbaaAwake11
import Derived.Test.YtfdjpaaahekkbaaLawS
import Derived.Test.YtfdjpaaahekkbaaParP
import Derived.Test.YtfdjpaaahekkbaaParSb
import Derived.Test.YtfdjpaaahekkbaaParD
import Derived.Test.YtfdjpaaahekkbaaRows
namespace Go.Proofs.Ytfdjpaaahekkbaa.ScoreMounts
open Go.RowKit Go.ChangeShapes Go.WideShapes Go.ChangeAt
set_option linter.unusedVariables false
set_option linter.unusedSimpArgs false


/-- Behind k ticks away in a leak. -/
structure Up (p : Par) (s : Std) (k : Nat) (a : Std) : Prop where
  fits : a.Fits
  bal : a.bal = s.bal
  eff : a.eff = s.eff
  least : min p.scoreCap (p.bias * k) ≤ a.score
theorem Up.next {p : Par} {s a : Std} {k : Nat} {m : Int} (hp : Par.Spans p) (h : Up p s k a) (hm : Std.leaky m = true) :
    ∃ q, Std.after p (false, m) a = ⟨s.bal, s.eff, q, 0⟩ ∧ Up p s (k + 1) ⟨s.bal, s.eff, q, 0⟩ ∧ q ≤ p.scoreCap ∧ min a.score p.scoreCap ≤ q := by
  obtain ⟨h1, h2, h3⟩ := Std.away_mounts hp hm h.least
  have hf := Std.fits_after (false, m) hp h.fits
  have e : Std.after p (false, m) a = ⟨s.bal, s.eff, (Std.away p m a).score, 0⟩ := by
    rw [← h.bal, ← h.eff]; rfl
  rw [e] at hf
  exact ⟨_, e, ⟨hf, rfl, rfl, h1⟩, h3, h2⟩


set_option maxRecDepth 100000 in
set_option maxHeartbeats 2000000 in
theorem walk (p : Par) (s : Std) (n : Int) (w : World) (hf : p.Fits) (hs : s.Fits) :
    Calls Try.prog 4 #[.agg p.vals, .agg s.vals, .int .i64 n] w fun e w' => e = .returned (.bool true) ∧ Below w.heap.size w w' := by
  have v6 := p.v6
  have v11 := p.v11
  by_cases hR : ∃ N, Par.Right p N
  · obtain ⟨N, hN⟩ := hR
    have hc : CheckIs p 0 := fun w => check_ok p N w hN
    have kr := fun w => refright_ok p N w hN
    have sp := hN.spans
    clear hN
    by_cases h0 : n < 0
    · have d0 : decide (n < 0) = true := by simpa using h0
      clear h0 hc sp hf hs
      go_enter Try.func4, Try.ntmps4
      go_upto_region 1 with fail
      generalize hw0 : World.alloc _ _ = w0
      have hP : ParAt w0 w.heap.size p 24 := by rw [← hw0]; exact (ParAt.new w p _).up ((Below.refl _ _).alloc (Nat.le_refl _) _)
      have hS : StdAt w0 (w.heap.size + 1) s 26 := by rw [← hw0]; exact StdAt.new _ s _ (by simp)
      have hB : Below w.heap.size w w0 := by rw [← hw0]; exact ((Below.refl _ _).alloc (Nat.le_refl _) _).alloc (by simp) _
      clear hw0
      go_wp2_with (first
        | (refine load_par _ rfl rfl _ p _ rfl (by assumption) ?_)
        | (refine load_std _ rfl rfl _ s _ rfl (by assumption) ?_)
        | (go_at_call 6; refine (score_awake _).mono ?_; rintro e w1 ⟨rfl, hb1⟩; have hP := hP.up hb1; have hS := hS.up hb1; have hB := Below.then hB hb1; clear hb1)
        | (go_at_call 11; refine (plain_is p _).mono ?_; rintro e w1 ⟨rfl, hb1⟩; have hP := hP.up hb1; have hS := hS.up hb1; have hB := Below.then hB hb1; clear hb1)
        | (go_at_call 12; refine (kr _).mono ?_; clear kr; rintro e w1 ⟨rfl, hb1⟩; have hP := hP.up hb1; have hS := hS.up hb1; have hB := Below.then hB hb1; clear hb1))
      go_ret
      exact ⟨rfl, hB⟩
    · have d0 : decide (n < 0) = false := by simpa using h0
      by_cases h1 : 100 < n
      · have d1 : decide (100 < n) = true := by simpa using h1
        clear h0 h1 hc sp hf hs
        go_enter Try.func4, Try.ntmps4
        go_upto_region 1 with fail
        generalize hw0 : World.alloc _ _ = w0
        have hP : ParAt w0 w.heap.size p 24 := by rw [← hw0]; exact (ParAt.new w p _).up ((Below.refl _ _).alloc (Nat.le_refl _) _)
        have hS : StdAt w0 (w.heap.size + 1) s 26 := by rw [← hw0]; exact StdAt.new _ s _ (by simp)
        have hB : Below w.heap.size w w0 := by rw [← hw0]; exact ((Below.refl _ _).alloc (Nat.le_refl _) _).alloc (by simp) _
        clear hw0
        go_wp2_with (first
          | (refine load_par _ rfl rfl _ p _ rfl (by assumption) ?_)
          | (refine load_std _ rfl rfl _ s _ rfl (by assumption) ?_)
          | (go_at_call 6; refine (score_awake _).mono ?_; rintro e w1 ⟨rfl, hb1⟩; have hP := hP.up hb1; have hS := hS.up hb1; have hB := Below.then hB hb1; clear hb1)
          | (go_at_call 11; refine (plain_is p _).mono ?_; rintro e w1 ⟨rfl, hb1⟩; have hP := hP.up hb1; have hS := hS.up hb1; have hB := Below.then hB hb1; clear hb1)
          | (go_at_call 12; refine (kr _).mono ?_; clear kr; rintro e w1 ⟨rfl, hb1⟩; have hP := hP.up hb1; have hS := hS.up hb1; have hB := Below.then hB hb1; clear hb1))
        go_ret
        exact ⟨rfl, hB⟩
      · obtain ⟨m, rfl⟩ := Int.eq_ofNat_of_zero_le (by omega : 0 ≤ n)
        have d1 : decide ((100 : Int) < (m : Int)) = false := by simpa using h1
        have hm : m ≤ 100 := by omega
        have HS := Lib.hid sp
        have HC := Lib.hid hc
        have HF := Lib.hid hs
        clear h0 h1 hf hs hc sp hm
        go_enter Try.func4, Try.ntmps4
        go_upto_region 1 with fail
        generalize hw0 : World.alloc _ _ = w0
        have hP : ParAt w0 w.heap.size p 24 := by rw [← hw0]; exact (ParAt.new w p _).up ((Below.refl _ _).alloc (Nat.le_refl _) _)
        have hS : StdAt w0 (w.heap.size + 1) s 26 := by rw [← hw0]; exact StdAt.new _ s _ (by simp)
        have hB : Below w.heap.size w w0 := by rw [← hw0]; exact ((Below.refl _ _).alloc (Nat.le_refl _) _).alloc (by simp) _
        clear hw0
        go_wp2_with (first
          | (refine load_par _ rfl rfl _ p _ rfl (by assumption) ?_)
          | (refine load_std _ rfl rfl _ s _ rfl (by assumption) ?_)
          | (go_at_call 6; refine (score_awake _).mono ?_; rintro e w1 ⟨rfl, hb1⟩; have hP := hP.up hb1; have hS := hS.up hb1; have hB := Below.then hB hb1; clear hb1)
          | (go_at_call 11; refine (plain_is p _).mono ?_; rintro e w1 ⟨rfl, hb1⟩; have hP := hP.up hb1; have hS := hS.up hb1; have hB := Below.then hB hb1; clear hb1)
          | (go_at_call 12; refine (kr _).mono ?_; clear kr; rintro e w1 ⟨rfl, hb1⟩; have hP := hP.up hb1; have hS := hS.up hb1; have hB := Below.then hB hb1; clear hb1)
          | (refine store_std _ _ rfl rfl _ s Std.none 26 rfl rfl (StdAt.new _ Std.none _ rfl) ?_; intro w2 hA hb2; have hpl := hP.lt; have hsl := hS.lt; have hP := hP.up (below_made (Below.refl _ _) hb2); have hS := hS.up (below_made (Below.refl _ _) hb2); have hB := below_made hB hb2; clear hb2))
        have hm : m ≤ 100 := by simp at d1; omega
        go_loopw [27] (fun jv wr => ∃ (k : Nat) (a : Std), k ≤ m ∧ jv = .int .i64 (k : Int) ∧ Hid (Up p s k a) ∧ StdAt wr w1.heap.size a 26 ∧ Below w1.heap.size w2 wr) (fun jv _ => m - (intOf jv).toNat)
        case atStart => exact ⟨0, s, Nat.zero_le _, rfl, ⟨HF.out, rfl, rfl, by simp⟩, hA, Below.refl _ _⟩
        case round =>
          obtain ⟨k, a, hk, rfl, HU, hA, hBr⟩ := hrel
          have hP := hP.below hBr hpl
          have hS := hS.below hBr hsl
          by_cases hlt : k < m
          · have hc := HC.out
            have sp := HS.out
            have d5 : decide ((k : Int) < (m : Int)) = true := by simp; omega
            clear d0 d1
            rcases (by omega : k % 3 = 0 ∨ k % 3 = 1 ∨ k % 3 = 2) with h3 | h3 | h3
            · have htm : (k : Int).tmod 3 = 0 := by rw [Int.tmod_eq_emod_of_nonneg (by omega)]; omega
              obtain ⟨q, hq, hU, g1, g2⟩ := HU.out.next (m := 3) sp rfl
              have ka := fun w => after_ok a p false 3 w hc sp HU.out.fits
              rw [hq] at ka
              have HN := Lib.hid hU
              have G1 := Lib.hid g1
              have hl : min p.scoreCap (p.bias * (k + 1)) ≤ q := hU.least
              obtain ⟨M, hM⟩ : ∃ M, M = p.bias * (k + 1) := ⟨_, rfl⟩
              rw [← hM] at hl
              have hMb : M ≤ 4294967296 * 100 := by rw [hM]; exact Nat.mul_le_mul sp.bias1 (by omega)
              have e0 : IntKind.i64.wrap (k : Int) = (k : Int) := IntWalk.i64_in _ (by omega)
              have e1 : IntKind.i64.wrap ((k : Int) + 1) = (k : Int) + 1 := IntWalk.i64_in _ (by omega)
              have e2 : IntKind.u64.wrap ((k : Int) + 1) = (k : Int) + 1 := IntWalk.u64_in _ (by omega)
              have e3 : (p.bias : Int) * ((k : Int) + 1) = (M : Int) := by rw [hM, Int.natCast_mul, Int.natCast_add]; rfl
              have e4 : IntKind.u64.wrap (M : Int) = (M : Int) := IntWalk.u64_in _ (by omega)
              have d1 : decide ((p.scoreCap : Int) < (q : Int)) = false := by simp; omega
              have d2 : decide ((q : Int) < min (p.scoreCap : Int) (M : Int)) = false := by simp; omega
              have d3 : decide ((q : Int) < min (a.score : Int) (p.scoreCap : Int)) = false := by simp; omega
              have HC := Lib.hid hc
              have HS := Lib.hid sp
              clear hq hU hl hM hMb g1 g2 hc sp h3 hm
              go_upto_region 13 with (first
                | (refine load_par _ rfl rfl _ p _ rfl (by assumption) ?_)
                | (refine load_std _ rfl rfl _ a _ rfl (by assumption) ?_)
                | (go_at_call 7; refine (ka _).mono ?_; clear ka; rintro e w3 ⟨rfl, hb3⟩; have hBr := hBr.trans (hb3.mono (Nat.le_of_lt hA.lt)); have hP := hP.up hb3; have hS := hS.up hb3; have hA := hA.up hb3; clear hb3)
                | (refine store_std _ _ rfl rfl _ ⟨s.bal, s.eff, q, 0⟩ Std.none 26 rfl rfl (StdAt.new _ Std.none _ rfl) ?_; intro w4 hN hb4; have hm4 := below_made (Below.refl _ _) hb4; have hBr := hBr.trans (hm4.mono (Nat.le_of_lt hA.lt)); have hP := hP.up hm4; have hS := hS.up hm4; have hA := hA.up hm4; clear hb4 hm4; have n0 := hN.c0; have n1 := hN.c1; have n2 := hN.c2; have n3 := hN.c3; have s0 := hS.c0; have s1 := hS.c1; have a2 := hA.c2; have p6 := (hP.cell 6).trans v6; have p11 := (hP.cell 11).trans v11; simp only at n0 n1 n2 n3))
              go_upto_region 15 with fail
              go_wp2_with (first
                | (refine load_std _ rfl rfl _ ⟨s.bal, s.eff, q, 0⟩ _ rfl (by assumption) ?_)
                | (refine store_std _ _ rfl rfl _ ⟨s.bal, s.eff, q, 0⟩ a 26 rfl rfl hA ?_; intro w5 hA hb5; have hBr := hBr.trans hb5; clear hb5))
              go_roundw
              case rel => exact ⟨k + 1, ⟨s.bal, s.eff, q, 0⟩, hlt, by go_num, HN, hA, hBr⟩
              case measure => simp [intOf]; omega
            · have htm : (k : Int).tmod 3 = 1 := by rw [Int.tmod_eq_emod_of_nonneg (by omega)]; omega
              obtain ⟨q, hq, hU, g1, g2⟩ := HU.out.next (m := 3) sp rfl
              have ka := fun w => after_ok a p false 3 w hc sp HU.out.fits
              rw [hq] at ka
              have HN := Lib.hid hU
              have G1 := Lib.hid g1
              have hl : min p.scoreCap (p.bias * (k + 1)) ≤ q := hU.least
              obtain ⟨M, hM⟩ : ∃ M, M = p.bias * (k + 1) := ⟨_, rfl⟩
              rw [← hM] at hl
              have hMb : M ≤ 4294967296 * 100 := by rw [hM]; exact Nat.mul_le_mul sp.bias1 (by omega)
              have e0 : IntKind.i64.wrap (k : Int) = (k : Int) := IntWalk.i64_in _ (by omega)
              have e1 : IntKind.i64.wrap ((k : Int) + 1) = (k : Int) + 1 := IntWalk.i64_in _ (by omega)
              have e2 : IntKind.u64.wrap ((k : Int) + 1) = (k : Int) + 1 := IntWalk.u64_in _ (by omega)
              have e3 : (p.bias : Int) * ((k : Int) + 1) = (M : Int) := by rw [hM, Int.natCast_mul, Int.natCast_add]; rfl
              have e4 : IntKind.u64.wrap (M : Int) = (M : Int) := IntWalk.u64_in _ (by omega)
              have d1 : decide ((p.scoreCap : Int) < (q : Int)) = false := by simp; omega
              have d2 : decide ((q : Int) < min (p.scoreCap : Int) (M : Int)) = false := by simp; omega
              have d3 : decide ((q : Int) < min (a.score : Int) (p.scoreCap : Int)) = false := by simp; omega
              have HC := Lib.hid hc
              have HS := Lib.hid sp
              clear hq hU hl hM hMb g1 g2 hc sp h3 hm
              go_upto_region 13 with (first
                | (refine load_par _ rfl rfl _ p _ rfl (by assumption) ?_)
                | (refine load_std _ rfl rfl _ a _ rfl (by assumption) ?_)
                | (go_at_call 7; refine (ka _).mono ?_; clear ka; rintro e w3 ⟨rfl, hb3⟩; have hBr := hBr.trans (hb3.mono (Nat.le_of_lt hA.lt)); have hP := hP.up hb3; have hS := hS.up hb3; have hA := hA.up hb3; clear hb3)
                | (refine store_std _ _ rfl rfl _ ⟨s.bal, s.eff, q, 0⟩ Std.none 26 rfl rfl (StdAt.new _ Std.none _ rfl) ?_; intro w4 hN hb4; have hm4 := below_made (Below.refl _ _) hb4; have hBr := hBr.trans (hm4.mono (Nat.le_of_lt hA.lt)); have hP := hP.up hm4; have hS := hS.up hm4; have hA := hA.up hm4; clear hb4 hm4; have n0 := hN.c0; have n1 := hN.c1; have n2 := hN.c2; have n3 := hN.c3; have s0 := hS.c0; have s1 := hS.c1; have a2 := hA.c2; have p6 := (hP.cell 6).trans v6; have p11 := (hP.cell 11).trans v11; simp only at n0 n1 n2 n3))
              go_upto_region 15 with fail
              go_wp2_with (first
                | (refine load_std _ rfl rfl _ ⟨s.bal, s.eff, q, 0⟩ _ rfl (by assumption) ?_)
                | (refine store_std _ _ rfl rfl _ ⟨s.bal, s.eff, q, 0⟩ a 26 rfl rfl hA ?_; intro w5 hA hb5; have hBr := hBr.trans hb5; clear hb5))
              go_roundw
              case rel => exact ⟨k + 1, ⟨s.bal, s.eff, q, 0⟩, hlt, by go_num, HN, hA, hBr⟩
              case measure => simp [intOf]; omega
            · have htm : (k : Int).tmod 3 = 2 := by rw [Int.tmod_eq_emod_of_nonneg (by omega)]; omega
              obtain ⟨q, hq, hU, g1, g2⟩ := HU.out.next (m := 4) sp rfl
              have ka := fun w => after_ok a p false 4 w hc sp HU.out.fits
              rw [hq] at ka
              have HN := Lib.hid hU
              have G1 := Lib.hid g1
              have hl : min p.scoreCap (p.bias * (k + 1)) ≤ q := hU.least
              obtain ⟨M, hM⟩ : ∃ M, M = p.bias * (k + 1) := ⟨_, rfl⟩
              rw [← hM] at hl
              have hMb : M ≤ 4294967296 * 100 := by rw [hM]; exact Nat.mul_le_mul sp.bias1 (by omega)
              have e0 : IntKind.i64.wrap (k : Int) = (k : Int) := IntWalk.i64_in _ (by omega)
              have e1 : IntKind.i64.wrap ((k : Int) + 1) = (k : Int) + 1 := IntWalk.i64_in _ (by omega)
              have e2 : IntKind.u64.wrap ((k : Int) + 1) = (k : Int) + 1 := IntWalk.u64_in _ (by omega)
              have e3 : (p.bias : Int) * ((k : Int) + 1) = (M : Int) := by rw [hM, Int.natCast_mul, Int.natCast_add]; rfl
              have e4 : IntKind.u64.wrap (M : Int) = (M : Int) := IntWalk.u64_in _ (by omega)
              have d1 : decide ((p.scoreCap : Int) < (q : Int)) = false := by simp; omega
              have d2 : decide ((q : Int) < min (p.scoreCap : Int) (M : Int)) = false := by simp; omega
              have d3 : decide ((q : Int) < min (a.score : Int) (p.scoreCap : Int)) = false := by simp; omega
              have HC := Lib.hid hc
              have HS := Lib.hid sp
              clear hq hU hl hM hMb g1 g2 hc sp h3 hm
              go_upto_region 13 with (first
                | (refine load_par _ rfl rfl _ p _ rfl (by assumption) ?_)
                | (refine load_std _ rfl rfl _ a _ rfl (by assumption) ?_)
                | (go_at_call 7; refine (ka _).mono ?_; clear ka; rintro e w3 ⟨rfl, hb3⟩; have hBr := hBr.trans (hb3.mono (Nat.le_of_lt hA.lt)); have hP := hP.up hb3; have hS := hS.up hb3; have hA := hA.up hb3; clear hb3)
                | (refine store_std _ _ rfl rfl _ ⟨s.bal, s.eff, q, 0⟩ Std.none 26 rfl rfl (StdAt.new _ Std.none _ rfl) ?_; intro w4 hN hb4; have hm4 := below_made (Below.refl _ _) hb4; have hBr := hBr.trans (hm4.mono (Nat.le_of_lt hA.lt)); have hP := hP.up hm4; have hS := hS.up hm4; have hA := hA.up hm4; clear hb4 hm4; have n0 := hN.c0; have n1 := hN.c1; have n2 := hN.c2; have n3 := hN.c3; have s0 := hS.c0; have s1 := hS.c1; have a2 := hA.c2; have p6 := (hP.cell 6).trans v6; have p11 := (hP.cell 11).trans v11; simp only at n0 n1 n2 n3))
              go_upto_region 15 with fail
              go_wp2_with (first
                | (refine load_std _ rfl rfl _ ⟨s.bal, s.eff, q, 0⟩ _ rfl (by assumption) ?_)
                | (refine store_std _ _ rfl rfl _ ⟨s.bal, s.eff, q, 0⟩ a 26 rfl rfl hA ?_; intro w5 hA hb5; have hBr := hBr.trans hb5; clear hb5))
              go_roundw
              case rel => exact ⟨k + 1, ⟨s.bal, s.eff, q, 0⟩, hlt, by go_num, HN, hA, hBr⟩
              case measure => simp [intOf]; omega
          · obtain rfl : k = m := by omega
            have d5 : decide ((k : Int) < (k : Int)) = false := by simp
            clear d0 d1 hm
            go_wp2
            go_ret
            exact ⟨rfl, hB.trans (hBr.mono (by omega))⟩
  · have kr := fun w => refright_no p w hR
    clear hR hf hs
    go_enter Try.func4, Try.ntmps4
    go_upto_region 1 with fail
    generalize hw0 : World.alloc _ _ = w0
    have hP : ParAt w0 w.heap.size p 24 := by rw [← hw0]; exact (ParAt.new w p _).up ((Below.refl _ _).alloc (Nat.le_refl _) _)
    have hS : StdAt w0 (w.heap.size + 1) s 26 := by rw [← hw0]; exact StdAt.new _ s _ (by simp)
    have hB : Below w.heap.size w w0 := by rw [← hw0]; exact ((Below.refl _ _).alloc (Nat.le_refl _) _).alloc (by simp) _
    clear hw0
    go_wp2_with (first
      | (refine load_par _ rfl rfl _ p _ rfl (by assumption) ?_)
      | (refine load_std _ rfl rfl _ s _ rfl (by assumption) ?_)
      | (go_at_call 6; refine (score_awake _).mono ?_; rintro e w1 ⟨rfl, hb1⟩; have hP := hP.up hb1; have hS := hS.up hb1; have hB := Below.then hB hb1; clear hb1)
      | (go_at_call 11; refine (plain_is p _).mono ?_; rintro e w1 ⟨rfl, hb1⟩; have hP := hP.up hb1; have hS := hS.up hb1; have hB := Below.then hB hb1; clear hb1)
      | (go_at_call 12; refine (kr _).mono ?_; clear kr; rintro e w1 ⟨rfl, hb1⟩; have hP := hP.up hb1; have hS := hS.up hb1; have hB := Below.then hB hb1; clear hb1))
    go_ret
    exact ⟨rfl, hB⟩


theorem own : ownKnob Try.prog.godebug = none := by kernel_rfl
theorem laidOut : laidOutB Try.prog = true := by kernel_rfl

set_option maxRecDepth 100000 in
theorem lifted (os : Os) (started : os.Started) (H : Type) (enc : TypeId × Value → H) :
    ReturnsInHanded {} Try.checked os 4 .any (Rows.scoreMountsSpec.pre6 enc Try.prog Try.f4 Rows.scoreMountsRow.domain false) (Rows.scoreMountsSpec.post enc Try.prog Try.f4 false true false false) := by
  refine returnsInHanded_of_change (C := Try.checked) own started (by kernel_rfl) Try.func4
    (ChangeSpec.witness6 (enc := enc) (C := Try.checked) false ⟨#[], #[.agg #[.int .u64 0, .int .u64 0, .int .u64 0, .int .u64 0, .int .u64 0, .int .u64 0, .int .u64 0, .int .u64 0, .int .u64 0, .int .u64 0, .int .u64 0, .int .u64 0, .int .u64 0, .int .u64 0, .int .i64 0, .int .i64 0, .int .i64 0, .int .i64 0, .int .i64 0, .int .i64 0, .int .i64 0, .int .i64 0, .int .i64 0, .int .i64 0], .agg #[.int .u64 0, .int .u64 0, .int .u64 0, .int .i64 0], .int .i64 0], []⟩ 8 (by kernel_rfl) (by kernel_rfl) (by kernel_rfl) (by kernel_rfl)) ?_
  intro W base args ds gs before hval0 hW hcnd _
  have hval : ∀ (j : Nat) t v, Try.f4.params[j]? = some t → args[j]? = some v → Value.okWide Try.prog W .any base t v := hval0
  have hW' := hW
  obtain ⟨p, q, hA0, hV, rfl, hfz, hnd⟩ := hW
  have hlt : ∀ x ∈ p ++ q, x.block < W.heap.size := fun x hx => hW'.lt x hx
  have hA : DataW.TrodAll enc Try.prog W 0 (fun _ => true) true Try.f4.params.toList args.toList ds p := hA0
  rw [Try.params4] at hA hval
  obtain ⟨v0, vs0, d0, ds0, p0, q0, hargs, rfl, rfl, h0, r0⟩ := trodAll_cons hA
  obtain ⟨v1, vs1, d1, ds1, p1, q1, rfl, rfl, rfl, h1, r1⟩ := trodAll_cons r0
  obtain ⟨v2, vs2, d2, ds2, p2, q2, rfl, rfl, rfl, h2, r2⟩ := trodAll_cons r1
  obtain ⟨rfl, rfl, rfl⟩ := trodAll_nil r2
  obtain rfl : args = #[v0, v1, v2] := by cases args; simp_all
  obtain ⟨rfl, rfl⟩ := trodVars_none hV
  obtain ⟨a0, rfl, f0⟩ := open_par (hval 0 24 v0 rfl rfl) h0
  obtain ⟨a1, rfl, f1⟩ := open_std (hval 1 26 v1 rfl rfl) h1
  obtain ⟨a2, rfl, rfl, rfl, w2⟩ := open_int Try.underlying3 (hval 2 3 v2 rfl rfl) h2
  clear hA0 hval0
  refine (walk a0 a1 a2 W f0 f1).mono fun e W' ⟨he, hg⟩ => ?_
  subst he
  exact ⟨_, rfl, law_post laidOut (by kernel_rfl) rfl rfl Try.underlying4 rfl hW' hg⟩

theorem over : Rows.scoreMountsRow.holds Try.pinned (OpenSpec.ofChange Rows.scoreMountsSpec) :=
  OpenClaim.holds_of_wide 4 Try.f4 rfl rfl rfl rfl rfl rfl rfl ⟨rfl, rfl, rfl, rfl, rfl⟩ rfl rfl rfl rfl rfl (by kernel_rfl) Try.func4 (by kernel_rfl)
    (of_decide_eq_true (by kernel_rfl)) (by unfold Func.isWrapper; first | (rw [if_pos (by decide +kernel)]; kernel_rfl) | (rw [if_neg (by decide +kernel)]; exact ⟨rfl, rfl⟩))
    (fun os started H enc _ => lifted os started H enc)

/-- The statement. -/
theorem proved : Rows.ScoreMountsSaid := over
#print axioms proved

end Go.Proofs.Ytfdjpaaahekkbaa.ScoreMounts
