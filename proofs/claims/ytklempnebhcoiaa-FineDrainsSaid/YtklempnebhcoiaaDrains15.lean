/- Law FineDrains (P15.3): who is away in each tick of a leak, from the most on, with a score that rises by the bias each time and but one step at stake, is at the floor or below it behind as many ticks as the parameters' leak says. No condition. -/
import Derived.Test.YtklempnebhcoiaaAwake15
import Derived.Test.YtklempnebhcoiaaLawP
import Derived.Test.YtklempnebhcoiaaLawC
import Derived.Test.YtklempnebhcoiaaRows
namespace Go.Proofs.Ytklempnebhcoiaa.FineDrains
open Go.RowKit Go.ChangeShapes Go.WideShapes Go.ChangeAt
set_option linter.unusedVariables false
set_option linter.unusedSimpArgs false


set_option maxRecDepth 100000 in
set_option maxHeartbeats 2000000 in
theorem walk_no (p : Par) (l : List Bool) (A : Option Addr) (c : Nat) (w : World) (kl : ∀ w, Calls Try.prog 16 #[.agg p.vals] w fun e w' => e = .returned (.tuple #[.int .i64 0, .int .i64 70]) ∧ Below w.heap.size w w') : Calls Try.prog 6 #[.agg p.vals, .slice A l.length c] w fun ev w' => ev = .returned (.bool true) ∧ Below w.heap.size w w' := by
  have hP := ParAt.new w p 24
  have hB : Below w.heap.size w (w.alloc (.cells p.vals 24)) := (Below.refl _ _).alloc (Nat.le_refl _) _
  go_enter Try.func6, Try.ntmps6
  go_wp2_with (first
    | (refine load_par _ rfl rfl _ p _ rfl (by assumption) ?_)
    | (go_at_call 7; refine (fine_awake _).mono ?_; rintro e w1 ⟨rfl, hb1⟩; have hP := hP.up hb1; have hB := Below.then hB hb1; clear hb1)
    | (go_at_call 16; refine (kl _).mono ?_; clear kl; rintro e w1 ⟨rfl, hb1⟩; have hP := hP.up hb1; have hB := Below.then hB hb1; clear hb1)
    )
  go_ret
  exact ⟨by first | rfl | simp, hB⟩

set_option maxRecDepth 100000 in
set_option maxHeartbeats 2000000 in
theorem walk_long (p : Par) (l : List Bool) (A : Option Addr) (c N : Nat) (w : World) (kl : ∀ w, Calls Try.prog 16 #[.agg p.vals] w fun e w' => e = .returned (.tuple #[.int .i64 (N : Int), .int .i64 0]) ∧ Below w.heap.size w w') (h : 2000 < N) : Calls Try.prog 6 #[.agg p.vals, .slice A l.length c] w fun ev w' => ev = .returned (.bool true) ∧ Below w.heap.size w w' := by
  have hP := ParAt.new w p 24
  have hB : Below w.heap.size w (w.alloc (.cells p.vals 24)) := (Below.refl _ _).alloc (Nat.le_refl _) _
  have d1 : decide ((2000 : Int) < (N : Int)) = true := decide_eq_true (by omega)
  have d2 : decide (2000 < N) = true := decide_eq_true h
  clear h
  go_enter Try.func6, Try.ntmps6
  go_wp2_with (first
    | (refine load_par _ rfl rfl _ p _ rfl (by assumption) ?_)
    | (go_at_call 7; refine (fine_awake _).mono ?_; rintro e w1 ⟨rfl, hb1⟩; have hP := hP.up hb1; have hB := Below.then hB hb1; clear hb1)
    | (go_at_call 16; refine (kl _).mono ?_; clear kl; rintro e w1 ⟨rfl, hb1⟩; have hP := hP.up hb1; have hB := Below.then hB hb1; clear hb1)
    )
  go_ret
  exact ⟨by first | rfl | simp, hB⟩

set_option maxRecDepth 100000 in
set_option maxHeartbeats 2000000 in
theorem walk_on (p : Par) (l : List Bool) (A : Option Addr) (c N : Nat) (w : World) (kl : ∀ w, Calls Try.prog 16 #[.agg p.vals] w fun e w' => e = .returned (.tuple #[.int .i64 (N : Int), .int .i64 0]) ∧ Below w.heap.size w w') (hN : Par.Right p N) (h : N ≤ 2000) (kc : CheckIs p 0) (hr : Row w w.heap.size A (l.map Value.bool)) (hlm : l.length ≤ maxLen) : Calls Try.prog 6 #[.agg p.vals, .slice A l.length c] w fun ev w' => ev = .returned (.bool true) ∧ Below w.heap.size w w' := by
  have hP := ParAt.new w p 24
  have hB : Below w.heap.size w (w.alloc (.cells p.vals 24)) := (Below.refl _ _).alloc (Nat.le_refl _) _
  have d1 : decide ((2000 : Int) < (N : Int)) = false := decide_eq_false (by omega)
  have d2 : decide (2000 < N) = false := decide_eq_false (by omega)
  have v0 := p.v0
  have v2 := p.v2
  have v3 := p.v3
  have v6 := p.v6
  have sc1 := hN.spans.score1
  have cap1 := hN.spans.cap1
  have inc1 := hN.spans.inc1
  have HSC := Lib.hid hN.score
  have HN2 := Lib.hid h
  have HCS := Lib.hid sc1
  have HN := Lib.hid hN
  have HB0 : Hid (Drained p 0 ⟨p.cap, p.inc, 0, 0⟩) := Lib.hid ⟨rfl, by simp, Nat.le_refl _, .inr (by simp)⟩
  have HF0 : Hid (Std.Fits ⟨p.cap, p.inc, 0, 0⟩) := Lib.hid ⟨by show p.cap < 18446744073709551616; omega, by show p.inc < 18446744073709551616; omega, (by show 0 < 18446744073709551616; decide), (by show (-9223372036854775808 : Int) ≤ 0; decide), (by show (0 : Int) ≤ 9223372036854775807; decide)⟩
  have hr := Lib.hid hr
  have hlm := Lib.hid hlm
  have KC := Lib.hid kc
  clear hN h sc1 cap1 inc1 kc
  go_enter Try.func6, Try.ntmps6
  go_upto_region 8 with (first
    | (refine load_par _ rfl rfl _ p _ rfl (by assumption) ?_)
    | (go_at_call 7; refine (fine_awake _).mono ?_; rintro e w1 ⟨rfl, hb1⟩; have hP := hP.up hb1; have hB := Below.then hB hb1; clear hb1)
    | (go_at_call 16; refine (kl _).mono ?_; clear kl; rintro e w1 ⟨rfl, hb1⟩; have hP := hP.up hb1; have hB := Below.then hB hb1; clear hb1; have p0 := (hP.cell 0).trans v0; have p3 := (hP.cell 3).trans v3; have hbw := hP.lt)
    )
  go_wp2_with (first
    | (refine build_std _ rfl rfl (⟨p.cap, p.inc, 0, 0⟩ : Std) ?_ ?_; · kernel_rfl)
    | (refine store_std _ _ rfl rfl _ (⟨p.cap, p.inc, 0, 0⟩ : Std) Std.none 26 rfl rfl (std_zero_new _ _) ?_; intro w2 hR hb2; have hb1 := below_made (Below.refl _ _) hb2; clear hb2; have hP := hP.up hb1; have hB := Below.then hB hb1; clear hb1)
    )
  go_loopw [29] (fun jv wr => ∃ (k : Nat) (s : Std), k ≤ N ∧ jv = .int .i64 (k : Int) ∧ Hid (Drained p k s) ∧ Hid s.Fits ∧ StdAt wr w1.heap.size s 26 ∧ Below w1.heap.size w2 wr) (fun jv _ => N - (intOf jv).toNat)
  case atStart => exact ⟨0, _, Nat.zero_le _, rfl, HB0, HF0, hR, Below.refl _ _⟩
  case round =>
    obtain ⟨k, s, hk, rfl, HD, HFS, hSr, hBr⟩ := hrel
    have hPr := hP.below hBr hbw
    clear p0 p3
    by_cases hlt : k < N
    · have s2 := hSr.c2
      have p6 := (hPr.cell 6).trans v6
      obtain ⟨t, ht⟩ : ∃ t, s.score + p.bias = t := ⟨_, rfl⟩
      have htb : t < 18446744073709551616 := by
        have h1 := HD.out.score
        have h2 : p.bias * (k + 1) ≤ p.bias * N := Nat.mul_le_mul_left _ hlt
        have := HSC.out
        have := HCS.out
        rw [Nat.mul_add] at h2
        omega
      have HTE := Lib.hid ht
      have HT : Hid (Std.Fits ⟨s.bal, s.eff, t, s.streak⟩) := Lib.hid ⟨HFS.out.bal, HFS.out.eff, htb, HFS.out.lo, HFS.out.hi⟩
      have e1 : IntKind.u64.wrap ((s.score : Int) + (p.bias : Int)) = (t : Int) := by rw [show (s.score : Int) + (p.bias : Int) = (t : Int) by omega]; exact IntWalk.u64_in _ (by omega)
      have d3 : decide ((k : Int) < (N : Int)) = true := decide_eq_true (by omega)
      have d4 : decide (k < N) = true := decide_eq_true hlt
      have HL := Lib.hid hlt
      have e2 : IntKind.i64.wrap ((k : Int) + 1) = (k : Int) + 1 := IntWalk.i64_in _ (by have := HN2.out; omega)
      clear hlt hk ht htb
      by_cases hkl : k < l.length
      · obtain ⟨b, hb⟩ : ∃ b, l[k]? = some b := ⟨_, List.getElem?_eq_getElem hkl⟩
        obtain ⟨a3, e3, hlt3, hc3⟩ := hr.out k (.bool b) (by rw [List.getElem?_map, hb]; rfl)
        have HC3 : Hid (a3.block < w.heap.size ∧ w.cell? (a3.add k) = some (.bool b)) := Lib.hid ⟨hlt3, hc3⟩
        cases e3
        have d5 : decide ((k : Int) < (l.length : Int)) = true := decide_eq_true (by omega)
        have d6 : decide (k < l.length) = true := decide_eq_true hkl
        have hkI : (k : Int) < (l.length : Int) := by omega
        have hk0 : (0 : Int) ≤ (k : Int) := by omega
        clear hb hlt3 hc3
        cases b with
        | true =>
          have kt := take_ok p ⟨s.bal, s.eff, t, s.streak⟩ 4 KC.out HN.out.spans HT.out
          obtain ⟨r, hr'⟩ : ∃ r, Std.less ⟨s.bal, s.eff, t, s.streak⟩ (Std.fine p 4 ⟨s.bal, s.eff, t, s.streak⟩) = r := ⟨_, rfl⟩
          have HR : Hid (Drained p (k + 1) r) := Lib.hid (by rw [← hr', ← HTE.out]; exact HD.out.next HN.out.spans (m := 4) rfl)
          have HF : Hid r.Fits := Lib.hid (by rw [← hr']; exact Std.less_fits HT.out _)
          rw [hr'] at kt
          obtain ⟨x, hx⟩ : ∃ x, burned p (Std.fine p 4 ⟨s.bal, s.eff, t, s.streak⟩) = x := ⟨_, rfl⟩
          rw [hx] at kt
          obtain ⟨y, hy⟩ : ∃ y, Std.fine p 4 ⟨s.bal, s.eff, t, s.streak⟩ - x = y := ⟨_, rfl⟩
          rw [hy] at kt
          unfold TakeIs at kt
          clear hr' hx hy
          go_wp2_with (first
            | (refine load_par _ rfl rfl _ p _ rfl (by assumption) ?_)
            | (refine load_std _ rfl rfl _ (⟨s.bal, s.eff, t, s.streak⟩ : Std) _ rfl (by assumption) ?_)
            | (refine store_score _ _ rfl rfl _ s 26 t rfl rfl (by assumption) ?_; intro w4 hS4 hb4 hz4 ho4; have hPr := hPr.below hb4 hbw; have hBr := hBr.trans hb4; have hSr := hS4; clear hS4 hb4 hz4 ho4; have x1 := ((hB.trans (hBr.mono (Nat.le_of_lt hbw))).cell (p := a3.add k) (by rw [addr_block]; exact HC3.out.1)).trans HC3.out.2)
            | (go_at_call 9; refine (kt _).mono ?_; clear kt; rintro e w4 ⟨rfl, hb4⟩; have hBr := hBr.trans (hb4.mono (Nat.le_of_lt hSr.lt)); have hPr := hPr.up hb4; have hSr := hSr.up hb4; clear hb4)
            | (refine store_std _ _ rfl rfl _ r (⟨s.bal, s.eff, t, s.streak⟩ : Std) 26 rfl rfl (by assumption) ?_; intro w4 hS4 hb4; have hBr := hBr.trans hb4; clear hb4))
          go_roundw
          case rel => exact ⟨k + 1, r, HL.out, by go_num, HR, HF, hS4, hBr⟩
          case measure => have hl := HL.out; simp [intOf]; omega
        | false =>
          have kt := take_ok p ⟨s.bal, s.eff, t, s.streak⟩ 3 KC.out HN.out.spans HT.out
          obtain ⟨r, hr'⟩ : ∃ r, Std.less ⟨s.bal, s.eff, t, s.streak⟩ (Std.fine p 3 ⟨s.bal, s.eff, t, s.streak⟩) = r := ⟨_, rfl⟩
          have HR : Hid (Drained p (k + 1) r) := Lib.hid (by rw [← hr', ← HTE.out]; exact HD.out.next HN.out.spans (m := 3) rfl)
          have HF : Hid r.Fits := Lib.hid (by rw [← hr']; exact Std.less_fits HT.out _)
          rw [hr'] at kt
          obtain ⟨x, hx⟩ : ∃ x, burned p (Std.fine p 3 ⟨s.bal, s.eff, t, s.streak⟩) = x := ⟨_, rfl⟩
          rw [hx] at kt
          obtain ⟨y, hy⟩ : ∃ y, Std.fine p 3 ⟨s.bal, s.eff, t, s.streak⟩ - x = y := ⟨_, rfl⟩
          rw [hy] at kt
          unfold TakeIs at kt
          clear hr' hx hy
          go_wp2_with (first
            | (refine load_par _ rfl rfl _ p _ rfl (by assumption) ?_)
            | (refine load_std _ rfl rfl _ (⟨s.bal, s.eff, t, s.streak⟩ : Std) _ rfl (by assumption) ?_)
            | (refine store_score _ _ rfl rfl _ s 26 t rfl rfl (by assumption) ?_; intro w4 hS4 hb4 hz4 ho4; have hPr := hPr.below hb4 hbw; have hBr := hBr.trans hb4; have hSr := hS4; clear hS4 hb4 hz4 ho4; have x1 := ((hB.trans (hBr.mono (Nat.le_of_lt hbw))).cell (p := a3.add k) (by rw [addr_block]; exact HC3.out.1)).trans HC3.out.2)
            | (go_at_call 9; refine (kt _).mono ?_; clear kt; rintro e w4 ⟨rfl, hb4⟩; have hBr := hBr.trans (hb4.mono (Nat.le_of_lt hSr.lt)); have hPr := hPr.up hb4; have hSr := hSr.up hb4; clear hb4)
            | (refine store_std _ _ rfl rfl _ r (⟨s.bal, s.eff, t, s.streak⟩ : Std) 26 rfl rfl (by assumption) ?_; intro w4 hS4 hb4; have hBr := hBr.trans hb4; clear hb4))
          go_roundw
          case rel => exact ⟨k + 1, r, HL.out, by go_num, HR, HF, hS4, hBr⟩
          case measure => have hl := HL.out; simp [intOf]; omega
      · have d5 : decide ((k : Int) < (l.length : Int)) = false := decide_eq_false (by omega)
        have d6 : decide (k < l.length) = false := decide_eq_false hkl
        clear hkl
        have kt := take_ok p ⟨s.bal, s.eff, t, s.streak⟩ 3 KC.out HN.out.spans HT.out
        obtain ⟨r, hr'⟩ : ∃ r, Std.less ⟨s.bal, s.eff, t, s.streak⟩ (Std.fine p 3 ⟨s.bal, s.eff, t, s.streak⟩) = r := ⟨_, rfl⟩
        have HR : Hid (Drained p (k + 1) r) := Lib.hid (by rw [← hr', ← HTE.out]; exact HD.out.next HN.out.spans (m := 3) rfl)
        have HF : Hid r.Fits := Lib.hid (by rw [← hr']; exact Std.less_fits HT.out _)
        rw [hr'] at kt
        obtain ⟨x, hx⟩ : ∃ x, burned p (Std.fine p 3 ⟨s.bal, s.eff, t, s.streak⟩) = x := ⟨_, rfl⟩
        rw [hx] at kt
        obtain ⟨y, hy⟩ : ∃ y, Std.fine p 3 ⟨s.bal, s.eff, t, s.streak⟩ - x = y := ⟨_, rfl⟩
        rw [hy] at kt
        unfold TakeIs at kt
        clear hr' hx hy
        go_wp2_with (first
          | (refine load_par _ rfl rfl _ p _ rfl (by assumption) ?_)
          | (refine load_std _ rfl rfl _ (⟨s.bal, s.eff, t, s.streak⟩ : Std) _ rfl (by assumption) ?_)
          | (refine store_score _ _ rfl rfl _ s 26 t rfl rfl (by assumption) ?_; intro w4 hS4 hb4 hz4 ho4; have hPr := hPr.below hb4 hbw; have hBr := hBr.trans hb4; have hSr := hS4; clear hS4 hb4 hz4 ho4)
          | (go_at_call 9; refine (kt _).mono ?_; clear kt; rintro e w4 ⟨rfl, hb4⟩; have hBr := hBr.trans (hb4.mono (Nat.le_of_lt hSr.lt)); have hPr := hPr.up hb4; have hSr := hSr.up hb4; clear hb4)
          | (refine store_std _ _ rfl rfl _ r (⟨s.bal, s.eff, t, s.streak⟩ : Std) 26 rfl rfl (by assumption) ?_; intro w4 hS4 hb4; have hBr := hBr.trans hb4; clear hb4))
        go_roundw
        case rel => exact ⟨k + 1, r, HL.out, by go_num, HR, HF, hS4, hBr⟩
        case measure => have hl := HL.out; simp [intOf]; omega
    · obtain rfl : k = N := by omega
      have hend := HD.out.all HN.out
      have s0 := hSr.c0
      have p2 := (hPr.cell 2).trans v2
      have dE : decide ((s.bal : Int) ≤ (p.floor : Int)) = true := decide_eq_true (by omega)
      have dF : decide (s.bal ≤ p.floor) = true := decide_eq_true hend
      go_wp2
      go_ret
      exact ⟨by first | rfl | simp [dE], hB.trans (hBr.mono (Nat.le_of_lt hbw))⟩
theorem walk (p : Par) (l : List Bool) (A : Option Addr) (c : Nat) (w : World) (hf : p.Fits) (hr : Row w w.heap.size A (l.map Value.bool)) (hc : l.length ≤ c) (hm : c ≤ maxLen) : Calls Try.prog 6 #[.agg p.vals, .slice A l.length c] w fun ev w' => ev = .returned (.bool true) ∧ Below w.heap.size w w' := by
  by_cases hR : ∃ N, Par.Right p N
  · obtain ⟨N, hN⟩ := hR
    have kl : ∀ w, Calls Try.prog 16 #[.agg p.vals] w fun e w' => e = .returned (.tuple #[.int .i64 (N : Int), .int .i64 0]) ∧ Below w.heap.size w w' := by
      intro w
      obtain ⟨m, rfl⟩ : ∃ m, N = m + 1 := ⟨N - 1, by have := hN.halt.pos; omega⟩
      rw [Int.natCast_add]
      exact leak_ok p m w hN
    rcases Nat.lt_or_ge 2000 N with h | h
    · exact walk_long p l A c N w kl h
    · exact walk_on p l A c N w kl hN h (fun w => check_ok p N w hN) hr (Nat.le_trans hc hm)
  · exact walk_no p l A c w (fun w => leak_no p w hf hR)


theorem own : ownKnob Try.prog.godebug = none := by kernel_rfl
theorem laidOut : laidOutB Try.prog = true := by kernel_rfl

set_option maxRecDepth 100000 in
theorem lifted (os : Os) (started : os.Started) (H : Type) (enc : TypeId × Value → H) :
    ReturnsInHanded {} Try.checked os 6 .any (Rows.fineDrainsSpec.pre6 enc Try.prog Try.f6 Rows.fineDrainsRow.domain false) (Rows.fineDrainsSpec.post enc Try.prog Try.f6 false true false false) := by
  refine returnsInHanded_of_change (C := Try.checked) own started (by kernel_rfl) Try.func6
    (ChangeSpec.witness6 (enc := enc) (C := Try.checked) false ⟨#[], #[.agg #[.int .u64 0, .int .u64 0, .int .u64 0, .int .u64 0, .int .u64 0, .int .u64 0, .int .u64 0, .int .u64 0, .int .u64 0, .int .u64 0, .int .u64 0, .int .u64 0, .int .u64 0, .int .u64 0, .int .i64 0, .int .i64 0, .int .i64 0, .int .i64 0, .int .i64 0, .int .i64 0, .int .i64 0, .int .i64 0, .int .i64 0, .int .i64 0], .slice none 0 0], []⟩ 8 (by kernel_rfl) (by kernel_rfl) (by kernel_rfl) (by kernel_rfl)) ?_
  intro W base args ds gs before hval0 hW hcnd _
  have hval : ∀ (j : Nat) t v, Try.f6.params[j]? = some t → args[j]? = some v → Value.okWide Try.prog W .any base t v := hval0
  have hW' := hW
  obtain ⟨p, q, hA0, hV, rfl, hfz, hnd⟩ := hW
  have hlt : ∀ x ∈ p ++ q, x.block < W.heap.size := fun x hx => hW'.lt x hx
  have hA : DataW.TrodAll enc Try.prog W 0 (fun _ => true) true Try.f6.params.toList args.toList ds p := hA0
  rw [Try.params6] at hA hval
  obtain ⟨v0, vs0, d0, ds0, p0, q0, hargs, rfl, rfl, h0, r0⟩ := trodAll_cons hA
  obtain ⟨v1, vs1, d1, ds1, p1, q1, rfl, rfl, rfl, h1, r1⟩ := trodAll_cons r0
  obtain ⟨rfl, rfl, rfl⟩ := trodAll_nil r1
  obtain rfl : args = #[v0, v1] := by cases args; simp_all
  obtain ⟨rfl, rfl⟩ := trodVars_none hV
  obtain ⟨a0, rfl, f0⟩ := open_par (hval 0 24 v0 rfl rfl) h0
  obtain ⟨A1, n1, c1, rfl⟩ := okWide_slice Try.underlying44 (hval 1 44 v1 rfl rfl)
  obtain ⟨ns1, hl1, hc1, hm1, hr1⟩ := open_bls Try.underlying44 Try.underlying4 (by kernel_rfl) h1
  subst hl1
  clear hA0 hval0
  refine (walk a0 ns1 A1 c1 W f0 hr1 hc1 hm1).mono fun e W' ⟨he, hg⟩ => ?_
  subst he
  exact ⟨_, rfl, law_post laidOut (by kernel_rfl) rfl rfl Try.underlying4 rfl hW' hg⟩

theorem over : Rows.fineDrainsRow.holds Try.pinned (OpenSpec.ofChange Rows.fineDrainsSpec) :=
  OpenClaim.holds_of_wide 6 Try.f6 rfl rfl rfl rfl rfl rfl rfl ⟨rfl, rfl, rfl, rfl, rfl⟩ rfl rfl rfl rfl rfl (by kernel_rfl) Try.func6 (by kernel_rfl)
    (of_decide_eq_true (by kernel_rfl)) (by unfold Func.isWrapper; first | (rw [if_pos (by decide +kernel)]; kernel_rfl) | (rw [if_neg (by decide +kernel)]; exact ⟨rfl, rfl⟩))
    (fun os started H enc _ => lifted os started H enc)

/-- The statement. -/
theorem proved : Rows.FineDrainsSaid := over
#print axioms proved

end Go.Proofs.Ytklempnebhcoiaa.FineDrains
