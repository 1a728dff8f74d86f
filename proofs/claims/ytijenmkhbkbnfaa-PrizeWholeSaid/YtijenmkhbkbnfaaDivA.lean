/- math/bits.Div64: a product in two words, divided. Over the library's own text. -/
import Derived.Test.YtijenmkhbkbnfaaBits
import Derived.Test.YtijenmkhbkbnfaaMathC
import Derived.Deep.CutBlock
import Derived.Lib.Hide
import Derived.Test.YtijenmkhbkbnfaaCore
namespace Go.Proofs.Ytijenmkhbkbnfaa
open Go.RowKit
set_option linter.unusedVariables false

/-- A digit and what is left behind it, under names. -/
structure Digit (U C Y Q V : Nat) : Prop where
  q : (U * 4294967296 + C) / Y = Q
  v : (U * 4294967296 + C) % Y = V
theorem digit (U C Y : Nat) (hY : 0 < Y) (hY' : Y < 18446744073709551616) (hU : U < Y) (hC : C < 4294967296) :
    ∃ Q V : Nat, Digit U C Y Q V ∧ Q < 4294967296 ∧ V < Y ∧ IntKind.u64.wrap (IntKind.u64.wrap (IntKind.u64.wrap ((U : Int) * 4294967296) + (C : Int)) - IntKind.u64.wrap ((Q : Int) * (Y : Int))) = (V : Int) := by
  refine ⟨_, _, ⟨rfl, rfl⟩, ?_, Nat.mod_lt _ hY, left_word hY hY'⟩
  refine Nat.div_lt_of_lt_mul ?_
  have := Nat.mul_le_mul_right 4294967296 (Nat.succ_le_of_lt hU)
  omega
/-- A product of half words, under a name. -/
theorem half_prod (a b : Nat) (ha : a < 4294967296) (hb : b < 4294967296) : ∃ p : Nat, Hid (a * b = p) ∧ (a : Int) * (b : Int) = (p : Int) ∧ p < 18446744073709551616 := by
  refine ⟨_, rfl, (Int.natCast_mul a b).symm, ?_⟩
  exact Nat.lt_of_lt_of_le (Nat.mul_lt_mul'' ha hb) (by omega)
theorem one_less (a : Nat) (h : 0 < a) : ∃ a' : Nat, a' + 1 = a ∧ (a : Int) - 1 = (a' : Int) := ⟨a - 1, by omega, by omega⟩
/-- One less of the guess is the upper half more of what is left. -/
theorem guess_down {a a' b D U : Nat} (h : a' + 1 = a) (e : a * D + b = U) : a' * D + (b + D) = U := by
  subst h
  rw [Nat.succ_mul] at e
  omega

theorem same_slot {a b : Nat} (h : a = b) : Value.int .u64 (a : Int) = Value.int .u64 (b : Int) := by rw [h]

set_option maxHeartbeats 1000000 in
set_option maxRecDepth 100000 in
theorem div64_high (h l y : Nat) (w : World) (hy : h < y) (hh : 0 < h) (hy1 : y < 18446744073709551616) (hl : l < 18446744073709551616) :
    Calls Try.prog 69 #[.int .u64 h, .int .u64 l, .int .u64 y] w fun e w' =>
      e = .returned (.tuple #[.int .u64 (((h * 18446744073709551616 + l) / y : Nat) : Int), .int .u64 (((h * 18446744073709551616 + l) % y : Nat) : Int)]) ∧ w = w' := by
  go_enter Try.func69, Try.ntmps69
  go_upto_block 0 with (go_at_call 70; refine (zeros64 _ _ (by omega) (by omega)).mono ?_; rintro e w' ⟨⟨s, hs, hs1, hs2, rfl⟩, rfl⟩; obtain ⟨Y, D, E, A, B, U, L, C, F, k⟩ := shape h l y s hs hs1 hs2 hy hl; obtain ⟨q0, r0, e0, ⟨hr0, hrK⟩, hq0, eq, er, es⟩ := guess_first U D k.hD k.hD' k.less; have k1 := k.eY; have k2 := k.eD; have k3 := k.eE; have k4 := k.eA; have k5 := k.eB; have k6 := k.eU; have k7 := k.eL; have k8 := k.eC; have k9 := k.eF; have kD := k.hD; have kD0 : (D : Int) ≠ 0 := by omega)
  have hD := k.hD
  have hD' := k.hD'
  have hE := k.hE
  have hC := k.hC
  have hF := k.hF
  have hU := k.hU
  have hU1 := k.hU
  rw [k.hY] at hU1
  have hY' := k.hY'
  have hY0 : 0 < Y := by omega
  obtain ⟨Q, V, hd, hQ, hV, eV⟩ := digit U C Y hY0 hY' hU hC
  have hQle := hd.q
  rw [k.hY] at hQle
  have HQ := Lib.hid hQle
  have Hd := Lib.hid hd
  have hid_k := Lib.hid k
  clear hQle hs1 hs2 hU hd k
  go_cut [15, 16] from 67 to 85 (fun q r wx => q = .int .u64 (Q : Int) ∧ wx = w)
  case first =>
    clear k1 k2 k3 k4 k5 k6 k7 k8 k9 eV eq er es
    go_wp2_with fail
    go_loopw [15, 16] (fun q r wr => ∃ a b : Nat, Hid (a * D + b = U) ∧ Q ≤ a ∧ b < 4294967296 ∧ a < 18446744073709551616 ∧ q = .int .u64 (a : Int) ∧ r = .int .u64 (b : Int) ∧ wr = w) (fun q _ _ => (intOf q).toNat)
    case atStart => exact ⟨q0, r0, Lib.hid e0, HQ.out ▸ guess_least hC e0 hr0, hrK, hq0, rfl, rfl, rfl⟩
    case round =>
      obtain ⟨a, b, he, hle, hb, ha, rfl, rfl, rfl⟩ := hrel
      clear e0 hr0 hrK hq0
      have d1 := Lib.hid hU1
      clear hU1
      by_cases c1 : 4294967296 ≤ a
      · obtain ⟨a', ha', ea'⟩ := one_less a (by omega)
        have ha1 := Lib.hid ha'
        have n1 : Q < a := HQ.out ▸ guess_high (r := b) d1.out hC c1
        have n2 : Q ≤ a' := by omega
        have n3 : a' < 18446744073709551616 := by omega
        have n4 : (a' : Int).toNat < (a : Int).toNat := by omega
        have m1 := Lib.hid n2
        have m2 := Lib.hid n3
        have m3 := Lib.hid n4
        have m4 := Lib.hid hle
        have c4 : 4294967296 ≤ (a : Int) := by omega
        clear c1 n1 n2 n3 n4 ha' hle
        by_cases c3 : 4294967296 ≤ b + D
        · have d3 := Lib.hid c3
          have c5 : 4294967296 ≤ (b : Int) + (D : Int) := by omega
          clear c3
          go_wp2_with fail
          go_meet
          exact ⟨same_slot (Nat.le_antisymm (HQ.out ▸ guess_far (by omega) hE d1.out (guess_down ha1.out he.out) d3.out) m1.out), rfl⟩
        · have d3 := Lib.hid (Nat.lt_of_not_le c3)
          have c5 : ((4294967296 : Int) ≤ (b : Int) + (D : Int)) = False := eq_false (by omega)
          have c7 : decide ((4294967296 : Int) ≤ (b : Int) + (D : Int)) = false := decide_eq_false (by omega)
          clear c3
          go_wp2_with fail
          go_roundw
          case rel => exact ⟨a', b + D, Lib.hid (guess_down ha1.out he.out), m1.out, d3.out, m2.out, rfl, rfl, by first | rfl | trivial⟩
          case measure => exact m3.out
      · obtain ⟨p, hp, ep, hp1⟩ := half_prod a E (by omega) hE
        have c4 : ((4294967296 : Int) ≤ (a : Int)) = False := eq_false (by omega)
        have c8 : decide ((4294967296 : Int) ≤ (a : Int)) = false := decide_eq_false (by omega)
        have a4 : a < 4294967296 := by omega
        have d2 := Lib.hid (Nat.lt_of_not_le c1)
        clear c1
        by_cases c2 : 4294967296 * b + C < p
        · have n1 : Q < a := HQ.out ▸ guess_more he.out (by rw [hp.out]; exact c2)
          obtain ⟨a', ha', ea'⟩ := one_less a (by omega)
          have ha1 := Lib.hid ha'
          have n2 : Q ≤ a' := by omega
          have n3 : a' < 18446744073709551616 := by omega
          have n4 : (a' : Int).toNat < (a : Int).toNat := by omega
          have n5 : 1 ≤ (a : Int) := by omega
          have m1 := Lib.hid n2
          have m2 := Lib.hid n3
          have m3 := Lib.hid n4
          have m4 := Lib.hid hle
          have c5 : 4294967296 * (b : Int) + (C : Int) < (p : Int) := by omega
          clear c2 n1 n2 n3 n4 ha' hle
          by_cases c3 : 4294967296 ≤ b + D
          · have d3 := Lib.hid c3
            have c6 : 4294967296 ≤ (b : Int) + (D : Int) := by omega
            clear c3
            go_wp2_with fail
            go_meet
            exact ⟨same_slot (Nat.le_antisymm (HQ.out ▸ guess_far (by omega) hE d1.out (guess_down ha1.out he.out) d3.out) m1.out), rfl⟩
          · have d3 := Lib.hid (Nat.lt_of_not_le c3)
            have c6 : ((4294967296 : Int) ≤ (b : Int) + (D : Int)) = False := eq_false (by omega)
            have c7 : decide ((4294967296 : Int) ≤ (b : Int) + (D : Int)) = false := decide_eq_false (by omega)
            clear c3
            go_wp2_with fail
            go_roundw
            case rel => exact ⟨a', b + D, Lib.hid (guess_down ha1.out he.out), m1.out, d3.out, m2.out, rfl, rfl, by first | rfl | trivial⟩
            case measure => exact m3.out
        · have c5 : (4294967296 * (b : Int) + (C : Int) < (p : Int)) = False := eq_false (by omega)
          have c7 : decide (4294967296 * (b : Int) + (C : Int) < (p : Int)) = false := decide_eq_false (by omega)
          have m1 := Lib.hid (Nat.le_antisymm (HQ.out ▸ guess_is (D := D) (E := E) (by omega) he.out (by rw [hp.out]; omega)) hle)
          have m4 := Lib.hid hle
          clear c2 hle
          go_wp2_with fail
          go_meet
          exact ⟨same_slot m1.out, rfl⟩
  case rest =>
    obtain ⟨rfl, hw⟩ := hcut
    subst hw
    clear k1 k2 k3 k4 k5 k6 k7 k8 k9 eq er es e0 hr0 hrK hq0 hU1 HQ
    obtain ⟨q1, r1, e1, ⟨hr1, hrK1⟩, hq1, eq1, er1, es1⟩ := guess_first V D hD hD' (Nat.lt_trans hV hY')
    obtain ⟨Q0, R, hd0, hQ0, hR, eR⟩ := digit V F Y hY0 hY' hV hF
    have hU2 := hV
    rw [hid_k.out.hY] at hU2
    have hQ2 := hd0.q
    rw [hid_k.out.hY] at hQ2
    have HQ0 := Lib.hid hQ2
    have Hd0 := Lib.hid hd0
    clear hQ2 hd0
    go_upto_block 2 with fail
    go_cut [18, 16] from 102 to 120 (fun q r wx => q = .int .u64 (Q0 : Int) ∧ wx = wc)
    case first =>
      clear eR eq1 er1 es1 eV
      go_wp2_with fail
      go_loopw [18, 16] (fun q r wr => ∃ a b : Nat, Hid (a * D + b = V) ∧ Q0 ≤ a ∧ b < 4294967296 ∧ a < 18446744073709551616 ∧ q = .int .u64 (a : Int) ∧ r = .int .u64 (b : Int) ∧ wr = wc) (fun q _ _ => (intOf q).toNat)
      case atStart => exact ⟨q1, r1, Lib.hid e1, HQ0.out ▸ guess_least hF e1 hr1, hrK1, hq1, rfl, rfl, rfl⟩
      case round =>
        obtain ⟨a, b, he, hle, hb, ha, rfl, rfl, rfl⟩ := hrel
        clear e1 hr1 hrK1 hq1
        have d1 := Lib.hid hU2
        clear hU2
        by_cases c1 : 4294967296 ≤ a
        · obtain ⟨a', ha', ea'⟩ := one_less a (by omega)
          have ha1 := Lib.hid ha'
          have n1 : Q0 < a := HQ0.out ▸ guess_high (r := b) d1.out hF c1
          have n2 : Q0 ≤ a' := by omega
          have n3 : a' < 18446744073709551616 := by omega
          have n4 : (a' : Int).toNat < (a : Int).toNat := by omega
          have m1 := Lib.hid n2
          have m2 := Lib.hid n3
          have m3 := Lib.hid n4
          have m4 := Lib.hid hle
          have c4 : 4294967296 ≤ (a : Int) := by omega
          clear c1 n1 n2 n3 n4 ha' hle
          by_cases c3 : 4294967296 ≤ b + D
          · have d3 := Lib.hid c3
            have c5 : 4294967296 ≤ (b : Int) + (D : Int) := by omega
            clear c3
            go_wp2_with fail
            go_meet
            exact ⟨same_slot (Nat.le_antisymm (HQ0.out ▸ guess_far (by omega) hE d1.out (guess_down ha1.out he.out) d3.out) m1.out), rfl⟩
          · have d3 := Lib.hid (Nat.lt_of_not_le c3)
            have c5 : ((4294967296 : Int) ≤ (b : Int) + (D : Int)) = False := eq_false (by omega)
            have c7 : decide ((4294967296 : Int) ≤ (b : Int) + (D : Int)) = false := decide_eq_false (by omega)
            clear c3
            go_wp2_with fail
            go_roundw
            case rel => exact ⟨a', b + D, Lib.hid (guess_down ha1.out he.out), m1.out, d3.out, m2.out, rfl, rfl, by first | rfl | trivial⟩
            case measure => exact m3.out
        · obtain ⟨p, hp, ep, hp1⟩ := half_prod a E (by omega) hE
          have c4 : ((4294967296 : Int) ≤ (a : Int)) = False := eq_false (by omega)
          have c8 : decide ((4294967296 : Int) ≤ (a : Int)) = false := decide_eq_false (by omega)
          have a4 : a < 4294967296 := by omega
          have d2 := Lib.hid (Nat.lt_of_not_le c1)
          clear c1
          by_cases c2 : 4294967296 * b + F < p
          · have n1 : Q0 < a := HQ0.out ▸ guess_more he.out (by rw [hp.out]; exact c2)
            obtain ⟨a', ha', ea'⟩ := one_less a (by omega)
            have ha1 := Lib.hid ha'
            have n2 : Q0 ≤ a' := by omega
            have n3 : a' < 18446744073709551616 := by omega
            have n4 : (a' : Int).toNat < (a : Int).toNat := by omega
            have n5 : 1 ≤ (a : Int) := by omega
            have m1 := Lib.hid n2
            have m2 := Lib.hid n3
            have m3 := Lib.hid n4
            have m4 := Lib.hid hle
            have c5 : 4294967296 * (b : Int) + (F : Int) < (p : Int) := by omega
            clear c2 n1 n2 n3 n4 ha' hle
            by_cases c3 : 4294967296 ≤ b + D
            · have d3 := Lib.hid c3
              have c6 : 4294967296 ≤ (b : Int) + (D : Int) := by omega
              clear c3
              go_wp2_with fail
              go_meet
              exact ⟨same_slot (Nat.le_antisymm (HQ0.out ▸ guess_far (by omega) hE d1.out (guess_down ha1.out he.out) d3.out) m1.out), rfl⟩
            · have d3 := Lib.hid (Nat.lt_of_not_le c3)
              have c6 : ((4294967296 : Int) ≤ (b : Int) + (D : Int)) = False := eq_false (by omega)
              have c7 : decide ((4294967296 : Int) ≤ (b : Int) + (D : Int)) = false := decide_eq_false (by omega)
              clear c3
              go_wp2_with fail
              go_roundw
              case rel => exact ⟨a', b + D, Lib.hid (guess_down ha1.out he.out), m1.out, d3.out, m2.out, rfl, rfl, by first | rfl | trivial⟩
              case measure => exact m3.out
          · have c5 : (4294967296 * (b : Int) + (F : Int) < (p : Int)) = False := eq_false (by omega)
            have c7 : decide (4294967296 * (b : Int) + (F : Int) < (p : Int)) = false := decide_eq_false (by omega)
            have m1 := Lib.hid (Nat.le_antisymm (HQ0.out ▸ guess_is (D := D) (E := E) (by omega) he.out (by rw [hp.out]; omega)) hle)
            have m4 := Lib.hid hle
            clear c2 hle
            go_wp2_with fail
            go_meet
            exact ⟨same_slot m1.out, rfl⟩
    case rest =>
      obtain ⟨rfl, rfl⟩ := hcut
      clear eq1 er1 es1 e1 hr1 hrK1 hq1 hU2 HQ0 eV
      obtain ⟨f1, f2⟩ := shape_end hid_k.out
      rw [Hd.out.q, Hd.out.v, Hd0.out.q] at f1
      rw [Hd.out.v, Hd0.out.v] at f2
      have g1 := Lib.hid f1
      have g2 := Lib.hid f2
      clear f1 f2
      have g3 : (R : Int) / 2 ^ s = ((R / 2 ^ s : Nat) : Int) := by rw [Int.natCast_ediv, Int.natCast_pow]; rfl
      have G3 := Lib.hid g3
      clear g3
      go_wp2_with fail
      rw [G3.out, g2.out, show (Q : Int) * 4294967296 + (Q0 : Int) = (((h * 18446744073709551616 + l) / y : Nat) : Int) by rw [← g1.out]; rfl]
      go_ret2
      exact ⟨rfl, rfl⟩

theorem div64_low (l y : Nat) (w : World) (hy : 0 < y) (hy1 : y < 18446744073709551616) (hl : l < 18446744073709551616) :
    Calls Try.prog 69 #[.int .u64 (0 : Nat), .int .u64 l, .int .u64 y] w fun e w' =>
      e = .returned (.tuple #[.int .u64 ((l / y : Nat) : Int), .int .u64 ((l % y : Nat) : Int)]) ∧ ∃ m, w' = w.drewN m := by
  have h0 : ((y : Int) == 0) = false := by simp; omega
  have h1 : (y : Int) ≠ 0 := by omega
  have h2 : (l : Int).tdiv (y : Int) = ((l / y : Nat) : Int) := (Int.ofNat_tdiv l y).symm
  have h3 : (l : Int).tmod (y : Int) = ((l % y : Nat) : Int) := (Int.ofNat_tmod l y).symm
  have h4 : l / y < 18446744073709551616 := Nat.lt_of_le_of_lt (Nat.div_le_self _ _) hl
  have h5 : l % y < 18446744073709551616 := Nat.lt_of_le_of_lt (Nat.mod_le _ _) hl
  go_enter Try.func69, Try.ntmps69
  go_wp2_with fail
  go_quiet (fail)
  go_wp2_with fail
  rw [show (l : Int) / (y : Int) = ((l / y : Nat) : Int) from (Int.natCast_ediv l y).symm, show (l : Int) % (y : Int) = ((l % y : Nat) : Int) from (Int.natCast_emod l y).symm, word_nat _ h4]
  go_ret2
  exact ⟨rfl, _, rfl⟩

theorem div64_any (h l y : Nat) (w : World) (hy : h < y) (hy1 : y < 18446744073709551616) (hl : l < 18446744073709551616) :
    Calls Try.prog 69 #[.int .u64 h, .int .u64 l, .int .u64 y] w fun e w' =>
      e = .returned (.tuple #[.int .u64 (((h * 18446744073709551616 + l) / y : Nat) : Int), .int .u64 (((h * 18446744073709551616 + l) % y : Nat) : Int)]) ∧ ∃ m, w' = w.drewN m := by
  rcases Nat.eq_zero_or_pos h with rfl | h0
  · refine (div64_low l y w hy hy1 hl).mono ?_
    rintro e w' ⟨rfl, k⟩
    rw [Nat.zero_mul, Nat.zero_add]
    exact ⟨rfl, k⟩
  · exact (div64_high h l y w hy h0 hy1 hl).mono fun e w' ⟨a, b⟩ => ⟨a, 0, b.symm⟩
end Go.Proofs.Ytijenmkhbkbnfaa
