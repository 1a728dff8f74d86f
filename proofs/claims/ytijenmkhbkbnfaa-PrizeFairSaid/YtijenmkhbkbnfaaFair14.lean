/- Law PrizeFair (P14.3): prizes and what is left are together the budget; of two with the same stake the one with the longer streak gets no less; who has nothing at stake gets nothing. No condition. -/
import Derived.Test.YtijenmkhbkbnfaaAwake14
import Derived.Test.YtijenmkhbkbnfaaParSb
import Derived.Test.YtijenmkhbkbnfaaLawP
import Derived.Test.YtijenmkhbkbnfaaStdL
import Derived.Test.YtijenmkhbkbnfaaRows
namespace Go.Proofs.Ytijenmkhbkbnfaa.PrizeFair
open Go.RowKit Go.ChangeShapes Go.WideShapes Go.ChangeAt
set_option linter.unusedVariables false
set_option linter.unusedSimpArgs false


set_option maxRecDepth 100000 in
set_option maxHeartbeats 2000000 in
theorem walk_err (p : Par) (T : Nat) (l : List Std) (A : Option Addr) (c : Nat) (w : World) (x : Int) (hx : ¬ x = 0) (kz : ∀ w, Calls Try.prog 8 #[.agg p.vals, .int .u64 (T : Int), .slice A l.length c] w fun e w' => e = .returned (.tuple #[.slice none 0 0, .int .u64 0, .int .i64 x]) ∧ Below w.heap.size w w') :
    Calls Try.prog 5 #[.agg p.vals, .int .u64 (T : Int), .slice A l.length c] w fun ev w' => ev = .returned (.bool true) ∧ Below w.heap.size w w' := by
  have hP := ParAt.new w p 24
  have hB : Below w.heap.size w (w.alloc (.cells p.vals 24)) := (Below.refl _ _).alloc (Nat.le_refl _) _
  have z1 : (x == 0) = false := by simpa using hx
  go_enter Try.func5, Try.ntmps5
  go_wp2_with (first
    | (refine load_par _ rfl rfl _ p _ rfl (by assumption) ?_)
    | (go_at_call 7; refine (prize_awake _).mono ?_; rintro e w1 ⟨rfl, hb1⟩; have hP := hP.up hb1; have hB := Below.then hB hb1; clear hb1)
    | (go_at_call 8; refine (kz _).mono ?_; clear kz; rintro e w1 ⟨rfl, hb1⟩; have hP := hP.up hb1; have hB := Below.then hB hb1; clear hb1)
    )
  go_ret
  exact ⟨by first | rfl | simp, hB⟩
theorem at_eff {w : World} {a : Addr} {s : Std} (h : Std.At w a s) : w.cell? ⟨a.block, a.off + 1, none⟩ = some (.int .u64 (s.eff : Int)) := h 1 _ rfl
theorem at_streak {w : World} {a : Addr} {s : Std} (h : Std.At w a s) : w.cell? ⟨a.block, a.off + 3, none⟩ = some (.int .i64 s.streak) := h 3 _ rfl
/-- What is asked of the parts. -/
structure Fair (l : List Std) (P : List Nat) (T : Nat) : Prop where
  len : P.length = l.length
  sum : tot P ≤ T
  none : ∀ (i : Nat) (s : Std) (n : Nat), l[i]? = some s → P[i]? = some n → s.eff = 0 → n = 0
  more : ∀ (i k : Nat) (a b : Std) (n m : Nat), l[i]? = some a → l[k]? = some b → P[i]? = some n → P[k]? = some m → b.eff = a.eff → a.streak < b.streak → n ≤ m
theorem prt_rises {T W x y : Nat} (h : x ≤ y) : prt T W x ≤ prt T W y := Nat.div_le_div_right (Nat.mul_le_mul_left _ h)
theorem fair_is {p : Par} (hp : Par.Spans p) (T : Nat) (l : List Std) : Fair l (prizesOf p T l) T := by
  refine ⟨prizes_len p T l, tot_parts T _, fun i s n hs hn he => ?_, fun i k a b n m ha hb hn hm he hst => ?_⟩
  · simp only [prizesOf, List.getElem?_map, hs, Option.map_some, Option.some.injEq] at hn
    rw [← hn, Std.weight_none p he]
    unfold prt
    simp
  · simp only [prizesOf, List.getElem?_map, ha, hb, Option.map_some, Option.some.injEq] at hn hm
    rw [← hn, ← hm]
    exact prt_rises (Std.weight_rises hp he (by omega))

set_option maxRecDepth 100000 in
set_option maxHeartbeats 2000000 in
theorem walk_ok (p : Par) (T : Nat) (l : List Std) (P : List Nat) (A : Option Addr) (c r : Nat) (w : World) (hT : T < 18446744073709551616) (hl : l.length ≤ 128) (hr : Row w w.heap.size A (sflat l)) (hF : Fair l P T) (hrr : T - tot P = r)
    (kz : ∀ w', Below w.heap.size w w' → Calls Try.prog 8 #[.agg p.vals, .int .u64 (T : Int), .slice A l.length c] w' fun e w2 => ∃ A' c', e = .returned (.tuple #[.slice A' l.length c', .int .u64 (r : Int), .int .i64 0]) ∧ Row w2 w2.heap.size A' (u64s P) ∧ Below w'.heap.size w' w2) :
    Calls Try.prog 5 #[.agg p.vals, .int .u64 (T : Int), .slice A l.length c] w fun ev w' => ev = .returned (.bool true) ∧ Below w.heap.size w w' := by
  have hP := ParAt.new w p 24
  have hB : Below w.heap.size w (w.alloc (.cells p.vals 24)) := (Below.refl _ _).alloc (Nat.le_refl _) _
  have HF := Lib.hid hF
  have HPN := Lib.hid hF.len
  have HT := Lib.hid hT
  have HRR := Lib.hid hrr
  clear hF hT hrr
  go_enter Try.func5, Try.ntmps5
  go_wp2_with (first
    | (refine load_par _ rfl rfl _ p _ rfl (by assumption) ?_)
    | (go_at_call 7; refine (prize_awake _).mono ?_; rintro e w1 ⟨rfl, hb1⟩; have hP := hP.up hb1; have hB := Below.then hB hb1; clear hb1)
    | (go_at_call 8; refine (kz _ hB).mono ?_; clear kz; rintro e w2 ⟨A2, c2, rfl, hr2, hb2⟩; have hB := Below.then hB hb2; have hr := hr.below hB; clear hb2 hP))
  go_loopw [10, 42] (fun lv iv wr => ∃ i lf : Nat, i ≤ l.length ∧ iv = .int .i64 (i : Int) ∧ lv = .int .u64 (lf : Int) ∧ Hid (lf + tot (P.take i) = T) ∧ Below w2.heap.size w2 wr) (fun _ iv _ => l.length - (intOf iv).toNat)
  case atStart => exact ⟨0, T, Nat.zero_le _, rfl, rfl, by show _ = _; simp [tot], Below.refl _ _⟩
  case round =>
    obtain ⟨i, lf, hi, rfl, rfl, HL, hBr⟩ := hrel
    by_cases hlt : i < l.length
    · obtain ⟨s, hs⟩ : ∃ s, l[i]? = some s := ⟨_, List.getElem?_eq_getElem hlt⟩
      obtain ⟨n, hn⟩ : ∃ n, P[i]? = some n := ⟨_, List.getElem?_eq_getElem (by rw [HPN.out]; exact hlt)⟩
      obtain ⟨a1, e1, hab, hat⟩ := std_row (hr.below (hBr.mono hB.size)) hs
      obtain ⟨a2, e2, hab2, hca⟩ := (hr2.below hBr) i (.int .u64 (n : Int)) (by simp [u64s, hn])
      subst e1 e2
      have HS := Lib.hid hs
      have HN := Lib.hid hn
      have hsucc : tot (P.take (i + 1)) = tot (P.take i) + n := by
        rw [List.take_add_one, hn]
        simp [tot_append, tot]
      have htk := tot_take_le P (i + 1)
      have hsm := HF.out.sum
      have hnl : n ≤ lf := by have := HL.out; omega
      have hlT : lf ≤ T := by have := HL.out; omega
      have h64 := HT.out
      have HL2 : Hid (lf - n + tot (P.take (i + 1)) = T) := by show _ = _; have := HL.out; omega
      have m1 : IntKind.u64.wrap ((lf : Int) - (n : Int)) = ((lf - n : Nat) : Int) := by rw [show (lf : Int) - (n : Int) = ((lf - n : Nat) : Int) by omega]; exact IntWalk.u64_in _ (by omega)
      have m0 : IntKind.u64.wrap (lf : Int) = (lf : Int) := IntWalk.u64_in _ (by omega)
      have d1 : decide ((lf : Int) < (n : Int)) = false := decide_eq_false (by omega)
      have d2 : decide (lf < n) = false := decide_eq_false (by omega)
      have hiI : (i : Int) < (l.length : Int) := by omega
      have hi0 : (0 : Int) ≤ (i : Int) := by omega
      have x1 := at_eff hat
      have hz := HF.out.none i s n hs hn
      clear hs hn hsucc htk hsm hnl hlT h64 hat
      rcases Nat.eq_zero_or_pos s.eff with h0 | h0
      · obtain rfl : n = 0 := hz h0
        have z1 : ((s.eff : Int) == 0) = true := by simp; omega
        have z2 : (s.eff == 0) = true := by simp; omega
        clear hz h0
        go_wp2
        go_loopw [67] (fun kv wr => ∃ k : Nat, k ≤ l.length ∧ kv = .int .i64 (k : Int) ∧ Below w2.heap.size w2 wr) (fun kv _ => l.length - (intOf kv).toNat)
        case atStart => exact ⟨0, Nat.zero_le _, rfl, hBr⟩
        case round =>
          clear x1 hca m1 d1 d2
          obtain ⟨k, hk, rfl, hBk⟩ := hrel
          by_cases hkt : k < l.length
          · obtain ⟨b, hb⟩ : ∃ b, l[k]? = some b := ⟨_, List.getElem?_eq_getElem hkt⟩
            obtain ⟨m, hm⟩ : ∃ m, P[k]? = some m := ⟨_, List.getElem?_eq_getElem (by rw [HPN.out]; exact hkt)⟩
            obtain ⟨a3, e3, -, hat3⟩ := std_row (hr.below (hBk.mono hB.size)) HS.out
            cases e3
            obtain ⟨a3, e3, -, hat4⟩ := std_row (hr.below (hBk.mono hB.size)) hb
            cases e3
            obtain ⟨a3, e3, -, hck⟩ := (hr2.below hBk) k (.int .u64 (m : Int)) (by simp [u64s, hm])
            cases e3
            have x1 := at_eff hat3
            have x3 := at_streak hat3
            have y1 := at_eff hat4
            have y3 := at_streak hat4
            have hmore := HF.out.more i k s b _ m HS.out hb HN.out hm
            have hkI : (k : Int) < (l.length : Int) := by omega
            have hk0 : (0 : Int) ≤ (k : Int) := by omega
            clear hb hm hat3 hat4
            by_cases g1 : b.eff = s.eff
            · rw [g1] at y1
              by_cases g2 : s.streak < b.streak
              · have q2 : decide (s.streak < b.streak) = true := decide_eq_true g2
                have hnm := hmore g1 g2
                have q3 : decide ((m : Int) < (0 : Int)) = false := decide_eq_false (by omega)
                have q4 : decide (m < 0) = false := decide_eq_false (by omega)
                clear hmore hnm g1
                go_wp2
                go_quiet (fail)
                go_wp2
                go_roundw
                case rel => exact ⟨k + 1, by omega, by go_num, below_drewN hBk _⟩
                case measure => simp [intOf]; omega
              · have q2 : decide (s.streak < b.streak) = false := decide_eq_false g2
                clear hmore g1
                go_wp2
                go_quiet (fail)
                go_wp2
                go_roundw
                case rel => exact ⟨k + 1, by omega, by go_num, below_drewN hBk _⟩
                case measure => simp [intOf]; omega
            · have q1 : ((b.eff : Int) == (s.eff : Int)) = false := by simp; omega
              have q2 : (b.eff == s.eff) = false := by simp; omega
              clear hmore
              go_wp2
              go_quiet (fail)
              go_wp2
              go_roundw
              case rel => exact ⟨k + 1, by omega, by go_num, below_drewN hBk _⟩
              case measure => simp [intOf]; omega
          · obtain rfl : k = l.length := by omega
            go_wp2
            go_roundw
            case rel => exact ⟨i + 1, lf - 0, by omega, by go_num, rfl, HL2, hBk⟩
            case measure => simp [intOf]; omega

      · have z1 : ((s.eff : Int) == 0) = false := by simp; omega
        have z2 : (s.eff == 0) = false := by simp; omega
        have z3 : ¬ s.eff = 0 := by omega
        clear hz h0
        go_wp2
        go_loopw [67] (fun kv wr => ∃ k : Nat, k ≤ l.length ∧ kv = .int .i64 (k : Int) ∧ Below w2.heap.size w2 wr) (fun kv _ => l.length - (intOf kv).toNat)
        case atStart => exact ⟨0, Nat.zero_le _, rfl, hBr⟩
        case round =>
          clear x1 hca m1 d1 d2
          obtain ⟨k, hk, rfl, hBk⟩ := hrel
          by_cases hkt : k < l.length
          · obtain ⟨b, hb⟩ : ∃ b, l[k]? = some b := ⟨_, List.getElem?_eq_getElem hkt⟩
            obtain ⟨m, hm⟩ : ∃ m, P[k]? = some m := ⟨_, List.getElem?_eq_getElem (by rw [HPN.out]; exact hkt)⟩
            obtain ⟨a3, e3, -, hat3⟩ := std_row (hr.below (hBk.mono hB.size)) HS.out
            cases e3
            obtain ⟨a3, e3, -, hat4⟩ := std_row (hr.below (hBk.mono hB.size)) hb
            cases e3
            obtain ⟨a3, e3, -, hck⟩ := (hr2.below hBk) k (.int .u64 (m : Int)) (by simp [u64s, hm])
            cases e3
            have x1 := at_eff hat3
            have x3 := at_streak hat3
            have y1 := at_eff hat4
            have y3 := at_streak hat4
            have hmore := HF.out.more i k s b _ m HS.out hb HN.out hm
            have hkI : (k : Int) < (l.length : Int) := by omega
            have hk0 : (0 : Int) ≤ (k : Int) := by omega
            clear hb hm hat3 hat4
            by_cases g1 : b.eff = s.eff
            · rw [g1] at y1
              by_cases g2 : s.streak < b.streak
              · have q2 : decide (s.streak < b.streak) = true := decide_eq_true g2
                have hnm := hmore g1 g2
                have q3 : decide ((m : Int) < (n : Int)) = false := decide_eq_false (by omega)
                have q4 : decide (m < n) = false := decide_eq_false (by omega)
                clear hmore hnm g1
                go_wp2
                go_quiet (fail)
                go_wp2
                go_roundw
                case rel => exact ⟨k + 1, by omega, by go_num, below_drewN hBk _⟩
                case measure => simp [intOf]; omega
              · have q2 : decide (s.streak < b.streak) = false := decide_eq_false g2
                clear hmore g1
                go_wp2
                go_quiet (fail)
                go_wp2
                go_roundw
                case rel => exact ⟨k + 1, by omega, by go_num, below_drewN hBk _⟩
                case measure => simp [intOf]; omega
            · have q1 : ((b.eff : Int) == (s.eff : Int)) = false := by simp; omega
              have q2 : (b.eff == s.eff) = false := by simp; omega
              clear hmore
              go_wp2
              go_quiet (fail)
              go_wp2
              go_roundw
              case rel => exact ⟨k + 1, by omega, by go_num, below_drewN hBk _⟩
              case measure => simp [intOf]; omega
          · obtain rfl : k = l.length := by omega
            go_wp2
            go_roundw
            case rel => exact ⟨i + 1, lf - n, by omega, by go_num, rfl, HL2, hBk⟩
            case measure => simp [intOf]; omega

    · obtain rfl : i = l.length := by omega
      have hfin : T - tot P = lf := by
        have h := HL.out
        rw [← HPN.out, List.take_length] at h
        omega
      rw [HRR.out] at hfin
      subst hfin
      go_wp2
      go_ret
      exact ⟨by first | rfl | simp, hB.trans (hBr.mono hB.size)⟩

theorem walk (p : Par) (T : Nat) (l : List Std) (A : Option Addr) (c : Nat) (w : World) (hf : p.Fits) (hT : T < 18446744073709551616) (hl : ∀ s ∈ l, s.Fits) (hr : Row w w.heap.size A (sflat l)) (hc : l.length ≤ c) (hm : c ≤ maxLen) : Calls Try.prog 5 #[.agg p.vals, .int .u64 (T : Int), .slice A l.length c] w fun ev w' => ev = .returned (.bool true) ∧ Below w.heap.size w w' := by
  by_cases hR : ∃ N, Par.Right p N
  · obtain ⟨N, hN⟩ := hR
    have kc : CheckIs p 0 := fun w => check_ok p N w hN
    by_cases h : l.length ≤ 128
    · refine walk_ok p T l (prizesOf p T l) A c _ w hT h hr (fair_is hN.spans T l) rfl fun w' hw' => ?_
      refine (prizes_ok p T l A c w' kc hN.spans hT ((hr.below hw').up hw'.size) h).mono ?_
      rintro e w2 ⟨v, rfl, hown, hb⟩
      obtain ⟨A', c', rfl, -, -, hrow⟩ := Row.of_own hown
      exact ⟨A', c', rfl, hrow, hb⟩
    · exact walk_err p T l A c w 3 (by decide) (fun w => prizes_big p T l A c w kc (by omega) (by omega))
  · exact walk_err p T l A c w 70 (by decide) (fun w => prizes_no p T l A c w (fun w => check_no p w hf hR))


theorem own : ownKnob Try.prog.godebug = none := by kernel_rfl
theorem laidOut : laidOutB Try.prog = true := by kernel_rfl

set_option maxRecDepth 100000 in
theorem lifted (os : Os) (started : os.Started) (H : Type) (enc : TypeId × Value → H) :
    ReturnsInHanded {} Try.checked os 5 .any (Rows.prizeFairSpec.pre6 enc Try.prog Try.f5 Rows.prizeFairRow.domain false) (Rows.prizeFairSpec.post enc Try.prog Try.f5 false true false false) := by
  refine returnsInHanded_of_change (C := Try.checked) own started (by kernel_rfl) Try.func5
    (ChangeSpec.witness6 (enc := enc) (C := Try.checked) false ⟨#[], #[.agg #[.int .u64 0, .int .u64 0, .int .u64 0, .int .u64 0, .int .u64 0, .int .u64 0, .int .u64 0, .int .u64 0, .int .u64 0, .int .u64 0, .int .u64 0, .int .u64 0, .int .u64 0, .int .u64 0, .int .i64 0, .int .i64 0, .int .i64 0, .int .i64 0, .int .i64 0, .int .i64 0, .int .i64 0, .int .i64 0, .int .i64 0, .int .i64 0], .int .u64 0, .slice none 0 0], []⟩ 8 (by kernel_rfl) (by kernel_rfl) (by kernel_rfl) (by kernel_rfl)) ?_
  intro W base args ds gs before hval0 hW hcnd _
  have hval : ∀ (j : Nat) t v, Try.f5.params[j]? = some t → args[j]? = some v → Value.okWide Try.prog W .any base t v := hval0
  have hW' := hW
  obtain ⟨p, q, hA0, hV, rfl, hfz, hnd⟩ := hW
  have hlt : ∀ x ∈ p ++ q, x.block < W.heap.size := fun x hx => hW'.lt x hx
  have hA : DataW.TrodAll enc Try.prog W 0 (fun _ => true) true Try.f5.params.toList args.toList ds p := hA0
  rw [Try.params5] at hA hval
  obtain ⟨v0, vs0, d0, ds0, p0, q0, hargs, rfl, rfl, h0, r0⟩ := trodAll_cons hA
  obtain ⟨v1, vs1, d1, ds1, p1, q1, rfl, rfl, rfl, h1, r1⟩ := trodAll_cons r0
  obtain ⟨v2, vs2, d2, ds2, p2, q2, rfl, rfl, rfl, h2, r2⟩ := trodAll_cons r1
  obtain ⟨rfl, rfl, rfl⟩ := trodAll_nil r2
  obtain rfl : args = #[v0, v1, v2] := by cases args; simp_all
  obtain ⟨rfl, rfl⟩ := trodVars_none hV
  obtain ⟨a0, rfl, f0⟩ := open_par (hval 0 24 v0 rfl rfl) h0
  obtain ⟨a1, rfl, rfl, rfl, w1⟩ := open_int Try.underlying22 (hval 1 22 v1 rfl rfl) h1
  have b1 := u64_fits w1
  obtain ⟨n1, rfl⟩ := Int.eq_ofNat_of_zero_le b1.1
  obtain ⟨A2, n2, c2, rfl⟩ := okWide_slice Try.underlying25 (hval 2 25 v2 rfl rfl)
  obtain ⟨l2, hl2, hf2, hc2, hm2, hr2⟩ := open_stds h2
  subst hl2
  clear hA0 hval0
  refine (walk a0 n1 l2 A2 c2 W f0 (by have := b1.2; omega) hf2 hr2 hc2 hm2).mono fun e W' ⟨he, hg⟩ => ?_
  subst he
  exact ⟨_, rfl, law_post laidOut (by kernel_rfl) rfl rfl Try.underlying4 rfl hW' hg⟩

theorem over : Rows.prizeFairRow.holds Try.pinned (OpenSpec.ofChange Rows.prizeFairSpec) :=
  OpenClaim.holds_of_wide 5 Try.f5 rfl rfl rfl rfl rfl rfl rfl ⟨rfl, rfl, rfl, rfl, rfl⟩ rfl rfl rfl rfl rfl (by kernel_rfl) Try.func5 (by kernel_rfl)
    (of_decide_eq_true (by kernel_rfl)) (by unfold Func.isWrapper; first | (rw [if_pos (by decide +kernel)]; kernel_rfl) | (rw [if_neg (by decide +kernel)]; exact ⟨rfl, rfl⟩))
    (fun os started H enc _ => lifted os started H enc)

/-- The statement. -/
theorem proved : Rows.PrizeFairSaid := over
#print axioms proved

end Go.Proofs.Ytijenmkhbkbnfaa.PrizeFair
