/- Law BitsJoins (P6.3, P6.4): joined, each bit is in one or the other; what is no field is refused. -/
import Derived.Test.YtpeafahajpfcbaaAwake6
import Derived.Test.YtpeafahajpfcbaaLawC
import Derived.Test.YtpeafahajpfcbaaRows
namespace Go.Proofs.Ytpeafahajpfcbaa.BitsJoins
open Go.RowKit Go.ChangeShapes Go.WideShapes Go.ChangeAt
set_option linter.unusedVariables false
set_option linter.unusedSimpArgs false

theorem right_yes {xs : List Nat} {S : Nat → Prop} {A : Option Addr} {c : Nat} {n : Int} {w : World} (hx : Lies w S A xs) (hb : ∀ x ∈ xs, x < 256) (hl : xs.length ≤ 100000) (h : FieldI xs n) :
    Calls Try.prog 14 #[.slice A xs.length c, .int .i64 n] w fun e w' => e = .returned (.bool true) ∧ w = w' :=
  (right_ok xs S A c n w hx hb hl).mono fun e w' ⟨⟨r, he, hr⟩, hq⟩ => ⟨by rw [he, hr.2 h], hq⟩
theorem right_no {xs : List Nat} {S : Nat → Prop} {A : Option Addr} {c : Nat} {n : Int} {w : World} (hx : Lies w S A xs) (hb : ∀ x ∈ xs, x < 256) (hl : xs.length ≤ 100000) (h : ¬ FieldI xs n) :
    Calls Try.prog 14 #[.slice A xs.length c, .int .i64 n] w fun e w' => e = .returned (.bool false) ∧ w = w' :=
  (right_ok xs S A c n w hx hb hl).mono fun e w' ⟨⟨r, he, hr⟩, hq⟩ => ⟨by
    cases r with
    | true => exact absurd (hr.1 rfl) h
    | false => exact he, hq⟩

set_option maxRecDepth 100000 in
set_option maxHeartbeats 6000000 in
theorem walk_neg (xs ys : List Nat) (A A' : Option Addr) (c c' : Nat) (n : Int) (w : World) (hx : Lies w (· < w.heap.size) A xs) (hxb : ∀ x ∈ xs, x < 256) (hy : Lies w (· < w.heap.size) A' ys) (hyb : ∀ x ∈ ys, x < 256) (hxl : xs.length ≤ 100) (hyl : ys.length ≤ 100) (hno : ¬ (FieldI xs n ∧ FieldI ys n)) (h0 : n < 0) :
    Calls Try.prog 6 #[.slice A xs.length c, .slice A' ys.length c', .int .i64 n] w fun e w' => e = .returned (.bool true) ∧ Below w.heap.size w w' := by
  have hxI : (xs.length : Int) ≤ 100 := by omega
  have hyI : (ys.length : Int) ≤ 100 := by omega
  have HXB := Lib.hid hxb
  have HYB := Lib.hid hyb
  have kj := fun W (h : Lies W (· < w.heap.size) A xs) (h' : Lies W (· < w.heap.size) A' ys) => join_no xs ys _ _ A A' c c' n W h hxb h' hyb hno
  clear hxb hyb hno
  go_enter Try.func6, Try.ntmps6
  go_wp2_with (first
    | (go_at_call 8; refine (bits_awake _).mono ?_; rintro e w1 ⟨rfl, hb1⟩; have kk := kj w1 (hx.hold (fun p hp => hb1.cell hp)) (hy.hold (fun p hp => hb1.cell hp)); clear kj)
    | (go_at_call 22; refine kk.mono ?_; clear kk; rintro e w2 ⟨rfl, hb2⟩; have hB2 : Below w.heap.size w w2 := hb1.trans (hb2.mono hb1.size)))
  go_ret
  exact ⟨rfl, hB2⟩

set_option maxRecDepth 100000 in
set_option maxHeartbeats 6000000 in
theorem walk_big (xs ys : List Nat) (A A' : Option Addr) (c c' : Nat) (n : Int) (w : World) (hx : Lies w (· < w.heap.size) A xs) (hxb : ∀ x ∈ xs, x < 256) (hy : Lies w (· < w.heap.size) A' ys) (hyb : ∀ x ∈ ys, x < 256) (hxl : xs.length ≤ 100) (hyl : ys.length ≤ 100) (hno : ¬ (FieldI xs n ∧ FieldI ys n)) (h0 : 256 < n) :
    Calls Try.prog 6 #[.slice A xs.length c, .slice A' ys.length c', .int .i64 n] w fun e w' => e = .returned (.bool true) ∧ Below w.heap.size w w' := by
  have hxI : (xs.length : Int) ≤ 100 := by omega
  have hyI : (ys.length : Int) ≤ 100 := by omega
  have h0I : 0 ≤ n := by omega
  have HXB := Lib.hid hxb
  have HYB := Lib.hid hyb
  have kj := fun W (h : Lies W (· < w.heap.size) A xs) (h' : Lies W (· < w.heap.size) A' ys) => join_no xs ys _ _ A A' c c' n W h hxb h' hyb hno
  clear hxb hyb hno
  go_enter Try.func6, Try.ntmps6
  go_wp2_with (first
    | (go_at_call 8; refine (bits_awake _).mono ?_; rintro e w1 ⟨rfl, hb1⟩; have kk := kj w1 (hx.hold (fun p hp => hb1.cell hp)) (hy.hold (fun p hp => hb1.cell hp)); clear kj)
    | (go_at_call 22; refine kk.mono ?_; clear kk; rintro e w2 ⟨rfl, hb2⟩; have hB2 : Below w.heap.size w w2 := hb1.trans (hb2.mono hb1.size)))
  go_ret
  exact ⟨rfl, hB2⟩

set_option maxRecDepth 100000 in
set_option maxHeartbeats 6000000 in
theorem walk_left (xs ys : List Nat) (A A' : Option Addr) (c c' : Nat) (n : Int) (w : World) (hx : Lies w (· < w.heap.size) A xs) (hxb : ∀ x ∈ xs, x < 256) (hy : Lies w (· < w.heap.size) A' ys) (hyb : ∀ x ∈ ys, x < 256) (hxl : xs.length ≤ 100) (hyl : ys.length ≤ 100) (hno : ¬ (FieldI xs n ∧ FieldI ys n)) (h0 : 0 ≤ n) (h1 : n ≤ 256) (hf : ¬ FieldI xs n) :
    Calls Try.prog 6 #[.slice A xs.length c, .slice A' ys.length c', .int .i64 n] w fun e w' => e = .returned (.bool true) ∧ Below w.heap.size w w' := by
  have hxI : (xs.length : Int) ≤ 100 := by omega
  have hyI : (ys.length : Int) ≤ 100 := by omega
  have H1 := Lib.hid hf
  clear hf
  have HXB := Lib.hid hxb
  have HYB := Lib.hid hyb
  have kj := fun W (h : Lies W (· < w.heap.size) A xs) (h' : Lies W (· < w.heap.size) A' ys) => join_no xs ys _ _ A A' c c' n W h hxb h' hyb hno
  clear hxb hyb hno
  go_enter Try.func6, Try.ntmps6
  go_wp2_with (first
    | (go_at_call 8; refine (bits_awake _).mono ?_; rintro e w1 ⟨rfl, hb1⟩; have kk := kj w1 (hx.hold (fun p hp => hb1.cell hp)) (hy.hold (fun p hp => hb1.cell hp)); clear kj)
    | (go_at_call 22; refine kk.mono ?_; clear kk; rintro e w2 ⟨rfl, hb2⟩; have hB2 : Below w.heap.size w w2 := hb1.trans (hb2.mono hb1.size); have r1 := right_no (c := c) (n := n) (hx.hold (w' := w2) (fun p hp => hB2.cell hp)) HXB.out (by omega) H1.out)
    | (go_at_call 14; refine r1.mono ?_; clear r1; rintro e w' ⟨rfl, rfl⟩))
  go_ret
  exact ⟨rfl, hB2⟩

set_option maxRecDepth 100000 in
set_option maxHeartbeats 6000000 in
theorem walk_right (xs ys : List Nat) (A A' : Option Addr) (c c' : Nat) (n : Int) (w : World) (hx : Lies w (· < w.heap.size) A xs) (hxb : ∀ x ∈ xs, x < 256) (hy : Lies w (· < w.heap.size) A' ys) (hyb : ∀ x ∈ ys, x < 256) (hxl : xs.length ≤ 100) (hyl : ys.length ≤ 100) (hno : ¬ (FieldI xs n ∧ FieldI ys n)) (h0 : 0 ≤ n) (h1 : n ≤ 256) (hf : FieldI xs n) (hf2 : ¬ FieldI ys n) :
    Calls Try.prog 6 #[.slice A xs.length c, .slice A' ys.length c', .int .i64 n] w fun e w' => e = .returned (.bool true) ∧ Below w.heap.size w w' := by
  have hxI : (xs.length : Int) ≤ 100 := by omega
  have hyI : (ys.length : Int) ≤ 100 := by omega
  have H1 := Lib.hid hf
  have H2 := Lib.hid hf2
  clear hf hf2
  have HXB := Lib.hid hxb
  have HYB := Lib.hid hyb
  have kj := fun W (h : Lies W (· < w.heap.size) A xs) (h' : Lies W (· < w.heap.size) A' ys) => join_no xs ys _ _ A A' c c' n W h hxb h' hyb hno
  clear hxb hyb hno
  go_enter Try.func6, Try.ntmps6
  go_wp2_with (first
    | (go_at_call 8; refine (bits_awake _).mono ?_; rintro e w1 ⟨rfl, hb1⟩; have kk := kj w1 (hx.hold (fun p hp => hb1.cell hp)) (hy.hold (fun p hp => hb1.cell hp)); clear kj)
    | (go_at_call 22; refine kk.mono ?_; clear kk; rintro e w2 ⟨rfl, hb2⟩; have hB2 : Below w.heap.size w w2 := hb1.trans (hb2.mono hb1.size); have r1 := right_yes (c := c) (n := n) (hx.hold (w' := w2) (fun p hp => hB2.cell hp)) HXB.out (by omega) H1.out; have r2 := right_no (c := c') (n := n) (hy.hold (w' := w2) (fun p hp => hB2.cell hp)) HYB.out (by omega) H2.out)
    | (go_at_call 14; refine r1.mono ?_; clear r1; rintro e w' ⟨rfl, rfl⟩)
    | (go_at_call 14; refine r2.mono ?_; clear r2; rintro e w' ⟨rfl, rfl⟩))
  go_ret
  exact ⟨rfl, hB2⟩

set_option maxRecDepth 100000 in
set_option maxHeartbeats 6000000 in
theorem walk_yes (xs ys : List Nat) (A A' : Option Addr) (c c' : Nat) (m : Nat) (w : World) (hx : Lies w (· < w.heap.size) A xs) (hxb : ∀ x ∈ xs, x < 256) (hy : Lies w (· < w.heap.size) A' ys) (hyb : ∀ x ∈ ys, x < 256) (hxl : xs.length ≤ 100) (hyl : ys.length ≤ 100) (hf : FieldI xs (m : Int)) (hf2 : FieldI ys (m : Int)) :
    Calls Try.prog 6 #[.slice A xs.length c, .slice A' ys.length c', .int .i64 (m : Int)] w fun e w' => e = .returned (.bool true) ∧ Below w.heap.size w w' := by
  have hxI : (xs.length : Int) ≤ 100 := by omega
  have hyI : (ys.length : Int) ≤ 100 := by omega
  have hm : m ≤ 256 := by have := hf.2.1; simpa using this
  have hmI : (m : Int) ≤ 256 := by omega
  have hm0 : (0 : Int) ≤ (m : Int) := by omega
  have hfx : IsField xs m := by simpa using hf.2
  have hfy : IsField ys m := by simpa using hf2.2
  have hlen : xs.length = ys.length := by rw [hfx.2.1, hfy.2.1]
  have hzl := joined_len xs ys
  have hza : ∀ x ∈ joined xs ys, x < 256 := joinN_all hxb hyb _
  have hzb := joined_at hlen
  have hzf : FieldI (joined xs ys) (m : Int) := ⟨by omega, by simpa using joined_field hfx hfy⟩
  have kj := fun W (h : Lies W (· < w.heap.size) A xs) (h' : Lies W (· < w.heap.size) A' ys) => join_ok xs ys _ _ A A' c c' (m : Int) W h hxb h' hyb ⟨hf, hf2⟩
  obtain ⟨zs, hzs⟩ : ∃ zs, joined xs ys = zs := ⟨_, rfl⟩
  rw [hzs] at hzl hza hzb hzf kj
  have HXB := Lib.hid hxb
  have HYB := Lib.hid hyb
  have H1 := Lib.hid hf
  have H2 := Lib.hid hf2
  have HZL := Lib.hid hzl
  have HZA := Lib.hid hza
  have HZB := Lib.hid hzb
  have HZF := Lib.hid hzf
  clear hxb hyb hf hf2 hfx hfy hlen hzl hza hzb hzf hzs
  go_enter Try.func6, Try.ntmps6
  go_wp2_with (first
    | (go_at_call 8; refine (bits_awake _).mono ?_; rintro e w1 ⟨rfl, hb1⟩; have kk := kj w1 (hx.hold (fun p hp => hb1.cell hp)) (hy.hold (fun p hp => hb1.cell hp)); clear kj)
    | (go_at_call 22; refine kk.mono ?_; clear kk; rintro e w2 ⟨v2, rfl, hown2, hb2⟩; have hB2 : Below w.heap.size w w2 := hb1.trans (hb2.mono hb1.size); have hx2 := hx.hold (w' := w2) (fun p hp => hB2.cell hp); have hy2 := hy.hold (w' := w2) (fun p hp => hB2.cell hp); obtain ⟨A2, c2, rfl, hl2, hc2, hn2, hL2⟩ := Lies.own hown2; clear hl2 hn2 hown2; have r1 := right_yes (c := c) (n := (m : Int)) hx2 HXB.out (by omega) H1.out; have r2 := right_yes (c := c') (n := (m : Int)) hy2 HYB.out (by omega) H2.out; have r3 := right_yes (c := c2) (n := (m : Int)) hL2 HZA.out (by rw [HZL.out]; omega) HZF.out; rw [HZL.out] at r3)
    | (go_at_call 14; refine r1.mono ?_; clear r1; rintro e w' ⟨rfl, rfl⟩)
    | (go_at_call 14; refine r2.mono ?_; clear r2; rintro e w' ⟨rfl, rfl⟩)
    | (go_at_call 14; refine r3.mono ?_; clear r3; rintro e w' ⟨rfl, rfl⟩))
  clear hb2
  go_loopw [61] (fun iv wr => ∃ k : Nat, k ≤ m ∧ iv = .int .i64 (k : Int) ∧ w2 = wr) (fun iv _ => m - (intOf iv).toNat)
  case atStart => exact ⟨0, Nat.zero_le _, rfl, rfl⟩
  case round =>
    obtain ⟨k, hk, rfl, rfl⟩ := hrel
    by_cases hlt : k < m
    · have k1 := rget_ok zs _ A2 c2 (k : Int) w2 hL2 HZA.out (by omega)
      have k2 := rget_ok xs _ A c (k : Int) w2 hx2 HXB.out (by omega)
      have k3 := rget_ok ys _ A' c' (k : Int) w2 hy2 HYB.out (by omega)
      rw [bitI_nat] at k1 k2 k3
      rw [HZL.out] at k1
      have hb := HZB.out k
      have hkI : (k : Int) < (m : Int) := by omega
      obtain ⟨b1, h1⟩ : ∃ b, bitAt zs k = b := ⟨_, rfl⟩
      obtain ⟨b2, h2⟩ : ∃ b, bitAt xs k = b := ⟨_, rfl⟩
      obtain ⟨b3, h3⟩ : ∃ b, bitAt ys k = b := ⟨_, rfl⟩
      rw [h1, h2, h3] at hb
      rw [h1] at k1
      rw [h2] at k2
      rw [h3] at k3
      clear h1 h2 h3
      subst hb
      cases b2 <;> cases b3
      all_goals
        simp only [Bool.or_true, Bool.or_false, Bool.true_or, Bool.false_or] at k1
        go_wp2_with (first
          | (go_at_call 16; refine k1.mono ?_; clear k1; rintro e w' ⟨rfl, rfl⟩)
          | (go_at_call 16; refine k2.mono ?_; clear k2; rintro e w' ⟨rfl, rfl⟩)
          | (go_at_call 16; refine k3.mono ?_; clear k3; rintro e w' ⟨rfl, rfl⟩))
        go_roundw
        case rel => exact ⟨k + 1, by omega, by go_num, trivial⟩
        case measure => simp [intOf]; omega
    · obtain rfl : k = m := by omega
      go_wp2
      go_ret
      exact ⟨rfl, hB2⟩

set_option maxRecDepth 100000 in
set_option maxHeartbeats 6000000 in
theorem walk (xs : List Nat) (A : Option Addr) (c : Nat) (ys : List Nat) (A' : Option Addr) (c' : Nat) (n : Int) (w : World) (hx : Lies w (· < w.heap.size) A xs) (hxb : ∀ x ∈ xs, x < 256) (hxc : xs.length ≤ c) (hcm : c ≤ maxLen) (hA : A = none → c = 0) (hy : Lies w (· < w.heap.size) A' ys) (hyb : ∀ x ∈ ys, x < 256) (hyc : ys.length ≤ c') (hcm' : c' ≤ maxLen) (hA' : A' = none → c' = 0) (hi0 : -9223372036854775808 ≤ n) (hi1 : n ≤ 9223372036854775807) :
    Calls Try.prog 6 #[.slice A xs.length c, .slice A' ys.length c', .int .i64 n] w fun e w' => e = .returned (.bool true) ∧ Below w.heap.size w w' := by
  by_cases hxl : xs.length ≤ 100
  · by_cases hyl : ys.length ≤ 100
    · by_cases hF : FieldI xs n ∧ FieldI ys n
      · obtain ⟨m, rfl⟩ := Int.eq_ofNat_of_zero_le hF.1.1
        exact walk_yes xs ys A A' c c' m w hx hxb hy hyb hxl hyl hF.1 hF.2
      · by_cases h0 : n < 0
        · exact walk_neg xs ys A A' c c' n w hx hxb hy hyb hxl hyl hF h0
        · by_cases h1 : 256 < n
          · exact walk_big xs ys A A' c c' n w hx hxb hy hyb hxl hyl hF h1
          · by_cases h2 : FieldI xs n
            · exact walk_right xs ys A A' c c' n w hx hxb hy hyb hxl hyl hF (by omega) (by omega) h2 (fun h => hF ⟨h2, h⟩)
            · exact walk_left xs ys A A' c c' n w hx hxb hy hyb hxl hyl hF (by omega) (by omega) h2
    · have hxI : (xs.length : Int) ≤ 100 := by omega
      have hyI : (100 : Int) < (ys.length : Int) := by omega
      clear hxl hyl hxb hyb hA hA' hi0 hi1
      go_enter Try.func6, Try.ntmps6
      go_wp2_with (go_at_call 8; refine (bits_awake _).mono ?_; rintro e w1 ⟨rfl, hb1⟩)
      go_ret
      exact ⟨rfl, hb1⟩
  · have hxI : (100 : Int) < (xs.length : Int) := by omega
    clear hxl hxb hyb hA hA' hi0 hi1
    go_enter Try.func6, Try.ntmps6
    go_wp2_with (go_at_call 8; refine (bits_awake _).mono ?_; rintro e w1 ⟨rfl, hb1⟩)
    go_ret
    exact ⟨rfl, hb1⟩


theorem own : ownKnob Try.prog.godebug = none := by kernel_rfl
theorem laidOut : laidOutB Try.prog = true := by kernel_rfl

set_option maxRecDepth 100000 in
theorem lifted (os : Os) (started : os.Started) (H : Type) (enc : TypeId × Value → H) :
    ReturnsInHanded {} Try.checked os 6 .any (Rows.bitsJoinsSpec.pre6 enc Try.prog Try.f6 Rows.bitsJoinsRow.domain false) (Rows.bitsJoinsSpec.post enc Try.prog Try.f6 false true false false) := by
  refine returnsInHanded_of_change (C := Try.checked) own started (by kernel_rfl) Try.func6
    (ChangeSpec.witness6 (enc := enc) (C := Try.checked) false ⟨#[], #[.slice none 0 0, .slice none 0 0, .int .i64 0], []⟩ 8 (by kernel_rfl) (by kernel_rfl) (by kernel_rfl) (by kernel_rfl)) ?_
  intro W base args ds gs before hval0 hW hcnd _
  have hval : ∀ (j : Nat) t v, Try.f6.params[j]? = some t → args[j]? = some v → Value.okWide Try.prog W .any base t v := hval0
  have hW' := hW
  obtain ⟨p, q, hA0, hV, rfl, hfz, hnd⟩ := hW
  have hlt : ∀ x ∈ p ++ q, x.block < W.heap.size := fun x hx => hW'.lt x hx
  have hA : DataW.TrodAll enc Try.prog W 0 (fun _ => true) true Try.f6.params.toList args.toList ds p := hA0
  rw [Try.params6] at hA hval
  obtain ⟨v0, vs0, d0, ds0, p0, q0, hargs, rfl, rfl, h0, r0⟩ := trodAll_cons hA
  obtain ⟨v1, vs1, d1, ds1, p1, q1, rfl, rfl, rfl, h1, r1⟩ := trodAll_cons r0
  obtain ⟨v2, vs2, d2, ds2, p2, q2, rfl, rfl, rfl, h2, r2⟩ := trodAll_cons r1
  obtain ⟨rfl, rfl, rfl⟩ := trodAll_nil r2
  obtain rfl : args = #[v0, v1, v2] := by cases args; simp_all
  obtain ⟨rfl, rfl⟩ := trodVars_none hV
  obtain ⟨A0, n0, c0, rfl⟩ := okWide_slice Try.underlying24 (hval 0 24 v0 rfl rfl)
  obtain ⟨ns0, hl0, hn0, hc0, hm0, hr0, hA0⟩ := open_u8s Try.underlying24 Try.underlying5 (by kernel_rfl) h0
  subst hl0
  obtain ⟨A1, n1, c1, rfl⟩ := okWide_slice Try.underlying24 (hval 1 24 v1 rfl rfl)
  obtain ⟨ns1, hl1, hn1, hc1, hm1, hr1, hA1⟩ := open_u8s Try.underlying24 Try.underlying5 (by kernel_rfl) h1
  subst hl1
  obtain ⟨a2, rfl, rfl, rfl, w2⟩ := open_int Try.underlying3 (hval 2 3 v2 rfl rfl) h2
  have b2 := i64_fits w2
  clear hA0 hval0
  refine (walk ns0 A0 c0 ns1 A1 c1 a2 W (Lies.ofRow hr0) hn0 hc0 hm0 hA0 (Lies.ofRow hr1) hn1 hc1 hm1 hA1 b2.1 b2.2).mono fun e W' ⟨he, hg⟩ => ?_
  subst he
  exact ⟨_, rfl, law_post laidOut (by kernel_rfl) rfl rfl Try.underlying4 rfl hW' hg⟩

theorem over : Rows.bitsJoinsRow.holds Try.pinned (OpenSpec.ofChange Rows.bitsJoinsSpec) :=
  OpenClaim.holds_of_wide 6 Try.f6 rfl rfl rfl rfl rfl rfl rfl ⟨rfl, rfl, rfl, rfl, rfl⟩ rfl rfl rfl rfl rfl (by kernel_rfl) Try.func6 (by kernel_rfl)
    (of_decide_eq_true (by kernel_rfl)) (by unfold Func.isWrapper; first | (rw [if_pos (by decide +kernel)]; kernel_rfl) | (rw [if_neg (by decide +kernel)]; exact ⟨rfl, rfl⟩))
    (fun os started H enc _ => lifted os started H enc)

/-- The statement. -/
theorem proved : Rows.BitsJoinsSaid := over
#print axioms proved

end Go.Proofs.Ytpeafahajpfcbaa.BitsJoins
