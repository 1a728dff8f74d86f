/- Law BitsReads (P6.1, P6.2): any bytes are a field of n bits just if the document says so; each bit is the document's. -/
import Derived.Test.YtpeafahajpfcbaaAwake6
import Derived.Test.YtpeafahajpfcbaaLawC
import Derived.Test.YtpeafahajpfcbaaRows
namespace Go.Proofs.Ytpeafahajpfcbaa.BitsReads
open Go.RowKit Go.ChangeShapes Go.WideShapes Go.ChangeAt
set_option linter.unusedVariables false
set_option linter.unusedSimpArgs false

theorem right_yes {xs : List Nat} {S : Nat → Prop} {A : Option Addr} {c : Nat} {n : Int} {w : World} (hx : Lies w S A xs) (hb : ∀ x ∈ xs, x < 256) (hl : xs.length ≤ 100000) (h : FieldI xs n) :
    Calls Try.prog 14 #[.slice A xs.length c, .int .i64 n] w fun e w' => e = .returned (.bool true) ∧ w = w' :=
  (right_ok xs S A c n w hx hb hl).mono fun e w' ⟨⟨r, he, hr⟩, hq⟩ => ⟨by rw [he, hr.2 h], hq⟩
theorem right_no {xs : List Nat} {S : Nat → Prop} {A : Option Addr} {c : Nat} {n : Int} {w : World} (hx : Lies w S A xs) (hb : ∀ x ∈ xs, x < 256) (hl : xs.length ≤ 100000) (h : ¬ FieldI xs n) :
    Calls Try.prog 14 #[.slice A xs.length c, .int .i64 n] w fun e w' => e = .returned (.bool false) ∧ w = w' :=
  (right_ok xs S A c n w hx hb hl).mono fun e w' ⟨⟨r, he, hr⟩, hq⟩ => ⟨by
    cases r with
    | true => exact absurd (hr.1 rfl) h
    | false => exact he, hq⟩

set_option maxRecDepth 100000 in
set_option maxHeartbeats 6000000 in
theorem walk_yes (xs : List Nat) (A : Option Addr) (c : Nat) (m : Nat) (hf : FieldI xs (m : Int)) (i : Int) (w : World) (hx : Lies w (· < w.heap.size) A xs) (hxb : ∀ x ∈ xs, x < 256) (hxl : xs.length ≤ 100) (hi1 : i ≤ 9223372036854775807) :
    Calls Try.prog 4 #[.slice A xs.length c, .int .i64 (m : Int), .int .i64 i] w fun e w' => e = .returned (.bool true) ∧ Below w.heap.size w w' := by
  have hxI : (xs.length : Int) ≤ 100 := by omega
  have hm : m ≤ 256 := by have := hf.2.1; simpa using this
  have hmI : (m : Int) ≤ 256 := by omega
  have hm3 : (m : Int) < 300 := by omega
  have hm4 : ¬ (m : Int) < -1 := by omega
  have hfx : IsField xs m := by simpa using hf.2
  have HFX := Lib.hid hfx
  have HR := Lib.hid hf
  have ku := fun W (h : Lies W (· < w.heap.size) A xs) => unpack_yes xs _ A c m W h hxb hfx
  have kc := fun W (h : Lies W (· < w.heap.size) A xs) => check_yes xs _ A c (m : Int) W h hxb hf
  have kr := fun W (h : Lies W (· < w.heap.size) A xs) => right_yes (c := c) (n := (m : Int)) h hxb (by omega) HR.out
  have HXB := Lib.hid hxb
  clear hxb hf hfx
  go_enter Try.func4, Try.ntmps4
  go_wp2_with (first
    | (go_at_call 8; refine (bits_awake _).mono ?_; rintro e w1 ⟨rfl, hb1⟩; have k1 := ku w1 (hx.hold (fun p hp => hb1.cell hp)); clear ku)
    | (go_at_call 13; refine k1.mono ?_; clear k1; rintro e w2 ⟨v2, rfl, hown2, hb2⟩; have hB2 : Below w.heap.size w w2 := hb1.trans (hb2.mono hb1.size); obtain ⟨A2, c2, rfl, hl2, hc2, hR2⟩ := Row.of_own hown2; clear hl2 hown2; have k2 := kr w2 (hx.hold (fun p hp => hB2.cell hp)); clear kr)
    | (go_at_call 14; refine k2.mono ?_; clear k2; rintro e w' ⟨rfl, rfl⟩; have k3 := kc w2 (hx.hold (fun p hp => hB2.cell hp)); clear kc)
    | (go_at_call 15; refine k3.mono ?_; clear k3; rintro e w3 ⟨rfl, hb3⟩; have hB3 : Below w.heap.size w w3 := hB2.trans (hb3.mono hB2.size)))
  have hx3 : Lies w3 (· < w.heap.size) A xs := hx.hold (fun p hp => hB3.cell hp)
  go_loopw [10, 56] (fun sv iv wr => ∃ k s : Nat, k ≤ 8 * xs.length ∧ iv = .int .i64 (k : Int) ∧ sv = .int .i64 (s : Int) ∧ Hid (s = ones xs k) ∧ s ≤ k ∧ w3 = wr) (fun _ iv _ => 8 * xs.length - (intOf iv).toNat)
  case atStart => exact ⟨0, 0, Nat.zero_le _, rfl, rfl, by show _ = _; rfl, Nat.zero_le _, rfl⟩
  case round =>
    obtain ⟨k, s, hk, rfl, rfl, HS, hs, rfl⟩ := hrel
    by_cases hlt : k < 8 * xs.length
    · have k4 := rget_ok xs _ A c (k : Int) w3 hx3 HXB.out (by omega)
      rw [bitI_nat] at k4
      have hkI : (k : Int) < 8 * (xs.length : Int) := by omega
      have hos := ones_succ xs k
      rw [← HS.out] at hos
      generalize bitAt xs k = b at k4 hos
      have HOS := Lib.hid hos
      clear hos
      cases b
      · go_wp2_with (go_at_call 16; refine k4.mono ?_; clear k4; rintro e w' ⟨rfl, rfl⟩)
        go_roundw
        case rel => exact ⟨k + 1, s, by omega, by go_num, rfl, by show _ = _; rw [HOS.out]; rfl, by omega, trivial⟩
        case measure => simp [intOf]; omega
      · go_wp2_with (go_at_call 16; refine k4.mono ?_; clear k4; rintro e w' ⟨rfl, rfl⟩)
        go_roundw
        case rel => exact ⟨k + 1, s + 1, by omega, by go_num, by go_num, by show _ = _; rw [HOS.out]; rfl, by omega, trivial⟩
        case measure => simp [intOf]; omega
    · obtain rfl : k = 8 * xs.length := by omega
      have hkI : ¬ (((8 * xs.length : Nat) : Int) < 8 * (xs.length : Int)) := by omega
      have k5 := get_ok xs _ A c i w3 hx3 HXB.out hi1
      have k6 := fun q => rget_ok xs _ A c i (w3.drewN q) (hx3.drewN q) HXB.out hi1
      have k7 := fun q => count_ok xs _ A c (w3.drewN q) (hx3.drewN q) HXB.out (by omega)
      rw [← HS.out] at k7
      generalize bitI xs i = bi at k5 k6
      have k8 := fun q => runpack_ok xs _ A c m (w3.drewN q) (hx3.drewN q) HXB.out hm
      go_wp2_with (first
        | (go_at_call 17; refine k5.mono ?_; clear k5; rintro e w' ⟨rfl, q, rfl⟩)
        | (go_at_call 16; refine (k6 _).mono ?_; clear k6; rintro e w' ⟨rfl, rfl⟩)
        | (go_at_call 18; refine (k7 _).mono ?_; clear k7; rintro e w' ⟨rfl, rfl⟩)
        | (go_at_call 20; refine (k8 _).mono ?_; clear k8; rintro e w5 ⟨v5, rfl, hown5, hb5⟩; have hb5' : Below w3.heap.size w3 w5 := (below_drewN (Below.refl _ w3) _).trans hb5; obtain ⟨A5, c5, rfl, hl5, hc5, hR5⟩ := Row.of_own hown5; clear hl5 hown5 hb5; have hR25 : Row w5 w5.heap.size A2 (bools (bitsOf xs m)) := ((hR2.below hb3).below (hb5'.mono hb3.size)).up (Nat.le_trans hb3.size hb5'.size); have kS := bsame_true (bitsOf xs m) A2 A5 c2 c5 w5.heap.size w5 hR25 hR5 (by rw [bitsOf_len]; unfold maxLen; omega); rw [bitsOf_len] at kS)
        | (go_at_call 19; refine kS.mono ?_; clear kS; rintro e w6 ⟨rfl, hb6⟩))
      go_ret
      have hB5 : Below w.heap.size w w5 := hB3.trans (hb5'.mono hB3.size)
      exact ⟨by simp, hB5.trans (hb6.mono hB5.size)⟩

set_option maxRecDepth 100000 in
set_option maxHeartbeats 6000000 in
theorem walk_mid (xs : List Nat) (A : Option Addr) (c : Nat) (n : Int) (hf : ¬ FieldI xs n) (h0 : -1 ≤ n) (h1 : n ≤ 300) (i : Int) (w : World) (hx : Lies w (· < w.heap.size) A xs) (hxb : ∀ x ∈ xs, x < 256) (hxl : xs.length ≤ 100) (hi1 : i ≤ 9223372036854775807) :
    Calls Try.prog 4 #[.slice A xs.length c, .int .i64 n, .int .i64 i] w fun e w' => e = .returned (.bool true) ∧ Below w.heap.size w w' := by
  have hxI : (xs.length : Int) ≤ 100 := by omega
  have HR := Lib.hid hf
  have ku := fun W (h : Lies W (· < w.heap.size) A xs) => unpack_no xs _ A c n W h hxb hf
  have kc := fun W (h : Lies W (· < w.heap.size) A xs) => check_no xs _ A c n W h hxb hf
  have kr := fun W (h : Lies W (· < w.heap.size) A xs) => right_no (c := c) (n := n) h hxb (by omega) HR.out
  have HXB := Lib.hid hxb
  clear hxb hf
  go_enter Try.func4, Try.ntmps4
  go_wp2_with (first
    | (go_at_call 8; refine (bits_awake _).mono ?_; rintro e w1 ⟨rfl, hb1⟩; have k1 := ku w1 (hx.hold (fun p hp => hb1.cell hp)); clear ku)
    | (go_at_call 13; refine k1.mono ?_; clear k1; rintro e w2 ⟨rfl, hb2⟩; have hB2 : Below w.heap.size w w2 := hb1.trans (hb2.mono hb1.size); have k2 := kr w2 (hx.hold (fun p hp => hB2.cell hp)); clear kr)
    | (go_at_call 14; refine k2.mono ?_; clear k2; rintro e w' ⟨rfl, rfl⟩; have k3 := kc w2 (hx.hold (fun p hp => hB2.cell hp)); clear kc)
    | (go_at_call 15; refine k3.mono ?_; clear k3; rintro e w3 ⟨rfl, hb3⟩; have hB3 : Below w.heap.size w w3 := hB2.trans (hb3.mono hB2.size)))
  have hx3 : Lies w3 (· < w.heap.size) A xs := hx.hold (fun p hp => hB3.cell hp)
  go_loopw [10, 56] (fun sv iv wr => ∃ k s : Nat, k ≤ 8 * xs.length ∧ iv = .int .i64 (k : Int) ∧ sv = .int .i64 (s : Int) ∧ Hid (s = ones xs k) ∧ s ≤ k ∧ w3 = wr) (fun _ iv _ => 8 * xs.length - (intOf iv).toNat)
  case atStart => exact ⟨0, 0, Nat.zero_le _, rfl, rfl, by show _ = _; rfl, Nat.zero_le _, rfl⟩
  case round =>
    obtain ⟨k, s, hk, rfl, rfl, HS, hs, rfl⟩ := hrel
    by_cases hlt : k < 8 * xs.length
    · have k4 := rget_ok xs _ A c (k : Int) w3 hx3 HXB.out (by omega)
      rw [bitI_nat] at k4
      have hkI : (k : Int) < 8 * (xs.length : Int) := by omega
      have hos := ones_succ xs k
      rw [← HS.out] at hos
      generalize bitAt xs k = b at k4 hos
      have HOS := Lib.hid hos
      clear hos
      cases b
      · go_wp2_with (go_at_call 16; refine k4.mono ?_; clear k4; rintro e w' ⟨rfl, rfl⟩)
        go_roundw
        case rel => exact ⟨k + 1, s, by omega, by go_num, rfl, by show _ = _; rw [HOS.out]; rfl, by omega, trivial⟩
        case measure => simp [intOf]; omega
      · go_wp2_with (go_at_call 16; refine k4.mono ?_; clear k4; rintro e w' ⟨rfl, rfl⟩)
        go_roundw
        case rel => exact ⟨k + 1, s + 1, by omega, by go_num, by go_num, by show _ = _; rw [HOS.out]; rfl, by omega, trivial⟩
        case measure => simp [intOf]; omega
    · obtain rfl : k = 8 * xs.length := by omega
      have hkI : ¬ (((8 * xs.length : Nat) : Int) < 8 * (xs.length : Int)) := by omega
      have k5 := get_ok xs _ A c i w3 hx3 HXB.out hi1
      have k6 := fun q => rget_ok xs _ A c i (w3.drewN q) (hx3.drewN q) HXB.out hi1
      have k7 := fun q => count_ok xs _ A c (w3.drewN q) (hx3.drewN q) HXB.out (by omega)
      rw [← HS.out] at k7
      generalize bitI xs i = bi at k5 k6
      go_wp2_with (first
        | (go_at_call 17; refine k5.mono ?_; clear k5; rintro e w' ⟨rfl, q, rfl⟩)
        | (go_at_call 16; refine (k6 _).mono ?_; clear k6; rintro e w' ⟨rfl, rfl⟩)
        | (go_at_call 18; refine (k7 _).mono ?_; clear k7; rintro e w' ⟨rfl, rfl⟩))
      go_ret
      exact ⟨by simp, below_drewN hB3 _⟩

set_option maxRecDepth 100000 in
set_option maxHeartbeats 6000000 in
theorem walk_neg (xs : List Nat) (A : Option Addr) (c : Nat) (n : Int) (hf : ¬ FieldI xs n) (h0 : n < -1) (i : Int) (w : World) (hx : Lies w (· < w.heap.size) A xs) (hxb : ∀ x ∈ xs, x < 256) (hxl : xs.length ≤ 100) (hi1 : i ≤ 9223372036854775807) :
    Calls Try.prog 4 #[.slice A xs.length c, .int .i64 n, .int .i64 i] w fun e w' => e = .returned (.bool true) ∧ Below w.heap.size w w' := by
  have hxI : (xs.length : Int) ≤ 100 := by omega
  have h3 : n < 300 := by omega
  have HR : Hid (¬ FieldI xs (-1)) := Lib.hid (fun h => by have := h.1; omega)
  have ku := fun W (h : Lies W (· < w.heap.size) A xs) => unpack_no xs _ A c n W h hxb hf
  have kc := fun W (h : Lies W (· < w.heap.size) A xs) => check_no xs _ A c n W h hxb hf
  have kr := fun W (h : Lies W (· < w.heap.size) A xs) => right_no (c := c) (n := (-1)) h hxb (by omega) HR.out
  have HXB := Lib.hid hxb
  clear hxb hf
  go_enter Try.func4, Try.ntmps4
  go_wp2_with (first
    | (go_at_call 8; refine (bits_awake _).mono ?_; rintro e w1 ⟨rfl, hb1⟩; have k1 := ku w1 (hx.hold (fun p hp => hb1.cell hp)); clear ku)
    | (go_at_call 13; refine k1.mono ?_; clear k1; rintro e w2 ⟨rfl, hb2⟩; have hB2 : Below w.heap.size w w2 := hb1.trans (hb2.mono hb1.size); have k2 := kr w2 (hx.hold (fun p hp => hB2.cell hp)); clear kr)
    | (go_at_call 14; refine k2.mono ?_; clear k2; rintro e w' ⟨rfl, rfl⟩; have k3 := kc w2 (hx.hold (fun p hp => hB2.cell hp)); clear kc)
    | (go_at_call 15; refine k3.mono ?_; clear k3; rintro e w3 ⟨rfl, hb3⟩; have hB3 : Below w.heap.size w w3 := hB2.trans (hb3.mono hB2.size)))
  have hx3 : Lies w3 (· < w.heap.size) A xs := hx.hold (fun p hp => hB3.cell hp)
  go_loopw [10, 56] (fun sv iv wr => ∃ k s : Nat, k ≤ 8 * xs.length ∧ iv = .int .i64 (k : Int) ∧ sv = .int .i64 (s : Int) ∧ Hid (s = ones xs k) ∧ s ≤ k ∧ w3 = wr) (fun _ iv _ => 8 * xs.length - (intOf iv).toNat)
  case atStart => exact ⟨0, 0, Nat.zero_le _, rfl, rfl, by show _ = _; rfl, Nat.zero_le _, rfl⟩
  case round =>
    obtain ⟨k, s, hk, rfl, rfl, HS, hs, rfl⟩ := hrel
    by_cases hlt : k < 8 * xs.length
    · have k4 := rget_ok xs _ A c (k : Int) w3 hx3 HXB.out (by omega)
      rw [bitI_nat] at k4
      have hkI : (k : Int) < 8 * (xs.length : Int) := by omega
      have hos := ones_succ xs k
      rw [← HS.out] at hos
      generalize bitAt xs k = b at k4 hos
      have HOS := Lib.hid hos
      clear hos
      cases b
      · go_wp2_with (go_at_call 16; refine k4.mono ?_; clear k4; rintro e w' ⟨rfl, rfl⟩)
        go_roundw
        case rel => exact ⟨k + 1, s, by omega, by go_num, rfl, by show _ = _; rw [HOS.out]; rfl, by omega, trivial⟩
        case measure => simp [intOf]; omega
      · go_wp2_with (go_at_call 16; refine k4.mono ?_; clear k4; rintro e w' ⟨rfl, rfl⟩)
        go_roundw
        case rel => exact ⟨k + 1, s + 1, by omega, by go_num, by go_num, by show _ = _; rw [HOS.out]; rfl, by omega, trivial⟩
        case measure => simp [intOf]; omega
    · obtain rfl : k = 8 * xs.length := by omega
      have hkI : ¬ (((8 * xs.length : Nat) : Int) < 8 * (xs.length : Int)) := by omega
      have k5 := get_ok xs _ A c i w3 hx3 HXB.out hi1
      have k6 := fun q => rget_ok xs _ A c i (w3.drewN q) (hx3.drewN q) HXB.out hi1
      have k7 := fun q => count_ok xs _ A c (w3.drewN q) (hx3.drewN q) HXB.out (by omega)
      rw [← HS.out] at k7
      generalize bitI xs i = bi at k5 k6
      go_wp2_with (first
        | (go_at_call 17; refine k5.mono ?_; clear k5; rintro e w' ⟨rfl, q, rfl⟩)
        | (go_at_call 16; refine (k6 _).mono ?_; clear k6; rintro e w' ⟨rfl, rfl⟩)
        | (go_at_call 18; refine (k7 _).mono ?_; clear k7; rintro e w' ⟨rfl, rfl⟩))
      go_ret
      exact ⟨by simp, below_drewN hB3 _⟩

set_option maxRecDepth 100000 in
set_option maxHeartbeats 6000000 in
theorem walk_big (xs : List Nat) (A : Option Addr) (c : Nat) (n : Int) (hf : ¬ FieldI xs n) (h0 : 300 < n) (i : Int) (w : World) (hx : Lies w (· < w.heap.size) A xs) (hxb : ∀ x ∈ xs, x < 256) (hxl : xs.length ≤ 100) (hi1 : i ≤ 9223372036854775807) :
    Calls Try.prog 4 #[.slice A xs.length c, .int .i64 n, .int .i64 i] w fun e w' => e = .returned (.bool true) ∧ Below w.heap.size w w' := by
  have hxI : (xs.length : Int) ≤ 100 := by omega
  have h3 : ¬ n < -1 := by omega
  have HR : Hid (¬ FieldI xs 300) := Lib.hid (fun h => by have := h.2.1; omega)
  have ku := fun W (h : Lies W (· < w.heap.size) A xs) => unpack_no xs _ A c n W h hxb hf
  have kc := fun W (h : Lies W (· < w.heap.size) A xs) => check_no xs _ A c n W h hxb hf
  have kr := fun W (h : Lies W (· < w.heap.size) A xs) => right_no (c := c) (n := 300) h hxb (by omega) HR.out
  have HXB := Lib.hid hxb
  clear hxb hf
  go_enter Try.func4, Try.ntmps4
  go_wp2_with (first
    | (go_at_call 8; refine (bits_awake _).mono ?_; rintro e w1 ⟨rfl, hb1⟩; have k1 := ku w1 (hx.hold (fun p hp => hb1.cell hp)); clear ku)
    | (go_at_call 13; refine k1.mono ?_; clear k1; rintro e w2 ⟨rfl, hb2⟩; have hB2 : Below w.heap.size w w2 := hb1.trans (hb2.mono hb1.size); have k2 := kr w2 (hx.hold (fun p hp => hB2.cell hp)); clear kr)
    | (go_at_call 14; refine k2.mono ?_; clear k2; rintro e w' ⟨rfl, rfl⟩; have k3 := kc w2 (hx.hold (fun p hp => hB2.cell hp)); clear kc)
    | (go_at_call 15; refine k3.mono ?_; clear k3; rintro e w3 ⟨rfl, hb3⟩; have hB3 : Below w.heap.size w w3 := hB2.trans (hb3.mono hB2.size)))
  have hx3 : Lies w3 (· < w.heap.size) A xs := hx.hold (fun p hp => hB3.cell hp)
  go_loopw [10, 56] (fun sv iv wr => ∃ k s : Nat, k ≤ 8 * xs.length ∧ iv = .int .i64 (k : Int) ∧ sv = .int .i64 (s : Int) ∧ Hid (s = ones xs k) ∧ s ≤ k ∧ w3 = wr) (fun _ iv _ => 8 * xs.length - (intOf iv).toNat)
  case atStart => exact ⟨0, 0, Nat.zero_le _, rfl, rfl, by show _ = _; rfl, Nat.zero_le _, rfl⟩
  case round =>
    obtain ⟨k, s, hk, rfl, rfl, HS, hs, rfl⟩ := hrel
    by_cases hlt : k < 8 * xs.length
    · have k4 := rget_ok xs _ A c (k : Int) w3 hx3 HXB.out (by omega)
      rw [bitI_nat] at k4
      have hkI : (k : Int) < 8 * (xs.length : Int) := by omega
      have hos := ones_succ xs k
      rw [← HS.out] at hos
      generalize bitAt xs k = b at k4 hos
      have HOS := Lib.hid hos
      clear hos
      cases b
      · go_wp2_with (go_at_call 16; refine k4.mono ?_; clear k4; rintro e w' ⟨rfl, rfl⟩)
        go_roundw
        case rel => exact ⟨k + 1, s, by omega, by go_num, rfl, by show _ = _; rw [HOS.out]; rfl, by omega, trivial⟩
        case measure => simp [intOf]; omega
      · go_wp2_with (go_at_call 16; refine k4.mono ?_; clear k4; rintro e w' ⟨rfl, rfl⟩)
        go_roundw
        case rel => exact ⟨k + 1, s + 1, by omega, by go_num, by go_num, by show _ = _; rw [HOS.out]; rfl, by omega, trivial⟩
        case measure => simp [intOf]; omega
    · obtain rfl : k = 8 * xs.length := by omega
      have hkI : ¬ (((8 * xs.length : Nat) : Int) < 8 * (xs.length : Int)) := by omega
      have k5 := get_ok xs _ A c i w3 hx3 HXB.out hi1
      have k6 := fun q => rget_ok xs _ A c i (w3.drewN q) (hx3.drewN q) HXB.out hi1
      have k7 := fun q => count_ok xs _ A c (w3.drewN q) (hx3.drewN q) HXB.out (by omega)
      rw [← HS.out] at k7
      generalize bitI xs i = bi at k5 k6
      go_wp2_with (first
        | (go_at_call 17; refine k5.mono ?_; clear k5; rintro e w' ⟨rfl, q, rfl⟩)
        | (go_at_call 16; refine (k6 _).mono ?_; clear k6; rintro e w' ⟨rfl, rfl⟩)
        | (go_at_call 18; refine (k7 _).mono ?_; clear k7; rintro e w' ⟨rfl, rfl⟩))
      go_ret
      exact ⟨by simp, below_drewN hB3 _⟩

set_option maxRecDepth 100000 in
set_option maxHeartbeats 6000000 in
theorem walk (xs : List Nat) (A : Option Addr) (c : Nat) (n i : Int) (w : World) (hx : Lies w (· < w.heap.size) A xs) (hxb : ∀ x ∈ xs, x < 256) (hxc : xs.length ≤ c) (hcm : c ≤ maxLen) (hA : A = none → c = 0) (hn0 : -9223372036854775808 ≤ n) (hn1 : n ≤ 9223372036854775807) (hi0 : -9223372036854775808 ≤ i) (hi1 : i ≤ 9223372036854775807) :
    Calls Try.prog 4 #[.slice A xs.length c, .int .i64 n, .int .i64 i] w fun e w' => e = .returned (.bool true) ∧ Below w.heap.size w w' := by
  by_cases hxl : xs.length ≤ 100
  · by_cases hF : FieldI xs n
    · obtain ⟨m, rfl⟩ := Int.eq_ofNat_of_zero_le hF.1
      exact walk_yes xs A c m hF i w hx hxb hxl hi1
    · by_cases h0 : n < -1
      · exact walk_neg xs A c n hF h0 i w hx hxb hxl hi1
      · by_cases h1 : 300 < n
        · exact walk_big xs A c n hF h1 i w hx hxb hxl hi1
        · exact walk_mid xs A c n hF (by omega) (by omega) i w hx hxb hxl hi1
  · have hxI : (100 : Int) < (xs.length : Int) := by omega
    clear hxl hxb hA hn0 hn1 hi0 hi1
    go_enter Try.func4, Try.ntmps4
    go_wp2_with (go_at_call 8; refine (bits_awake _).mono ?_; rintro e w1 ⟨rfl, hb1⟩)
    go_ret
    exact ⟨rfl, hb1⟩


theorem own : ownKnob Try.prog.godebug = none := by kernel_rfl
theorem laidOut : laidOutB Try.prog = true := by kernel_rfl

set_option maxRecDepth 100000 in
theorem lifted (os : Os) (started : os.Started) (H : Type) (enc : TypeId × Value → H) :
    ReturnsInHanded {} Try.checked os 4 .any (Rows.bitsReadsSpec.pre6 enc Try.prog Try.f4 Rows.bitsReadsRow.domain false) (Rows.bitsReadsSpec.post enc Try.prog Try.f4 false true false false) := by
  refine returnsInHanded_of_change (C := Try.checked) own started (by kernel_rfl) Try.func4
    (ChangeSpec.witness6 (enc := enc) (C := Try.checked) false ⟨#[], #[.slice none 0 0, .int .i64 0, .int .i64 0], []⟩ 8 (by kernel_rfl) (by kernel_rfl) (by kernel_rfl) (by kernel_rfl)) ?_
  intro W base args ds gs before hval0 hW hcnd _
  have hval : ∀ (j : Nat) t v, Try.f4.params[j]? = some t → args[j]? = some v → Value.okWide Try.prog W .any base t v := hval0
  have hW' := hW
  obtain ⟨p, q, hA0, hV, rfl, hfz, hnd⟩ := hW
  have hlt : ∀ x ∈ p ++ q, x.block < W.heap.size := fun x hx => hW'.lt x hx
  have hA : DataW.TrodAll enc Try.prog W 0 (fun _ => true) true Try.f4.params.toList args.toList ds p := hA0
  rw [Try.params4] at hA hval
  obtain ⟨v0, vs0, d0, ds0, p0, q0, hargs, rfl, rfl, h0, r0⟩ := trodAll_cons hA
  obtain ⟨v1, vs1, d1, ds1, p1, q1, rfl, rfl, rfl, h1, r1⟩ := trodAll_cons r0
  obtain ⟨v2, vs2, d2, ds2, p2, q2, rfl, rfl, rfl, h2, r2⟩ := trodAll_cons r1
  obtain ⟨rfl, rfl, rfl⟩ := trodAll_nil r2
  obtain rfl : args = #[v0, v1, v2] := by cases args; simp_all
  obtain ⟨rfl, rfl⟩ := trodVars_none hV
  obtain ⟨A0, n0, c0, rfl⟩ := okWide_slice Try.underlying24 (hval 0 24 v0 rfl rfl)
  obtain ⟨ns0, hl0, hn0, hc0, hm0, hr0, hA0⟩ := open_u8s Try.underlying24 Try.underlying5 (by kernel_rfl) h0
  subst hl0
  obtain ⟨a1, rfl, rfl, rfl, w1⟩ := open_int Try.underlying3 (hval 1 3 v1 rfl rfl) h1
  have b1 := i64_fits w1
  obtain ⟨a2, rfl, rfl, rfl, w2⟩ := open_int Try.underlying3 (hval 2 3 v2 rfl rfl) h2
  have b2 := i64_fits w2
  clear hA0 hval0
  refine (walk ns0 A0 c0 a1 a2 W (Lies.ofRow hr0) hn0 hc0 hm0 hA0 b1.1 b1.2 b2.1 b2.2).mono fun e W' ⟨he, hg⟩ => ?_
  subst he
  exact ⟨_, rfl, law_post laidOut (by kernel_rfl) rfl rfl Try.underlying4 rfl hW' hg⟩

theorem over : Rows.bitsReadsRow.holds Try.pinned (OpenSpec.ofChange Rows.bitsReadsSpec) :=
  OpenClaim.holds_of_wide 4 Try.f4 rfl rfl rfl rfl rfl rfl rfl ⟨rfl, rfl, rfl, rfl, rfl⟩ rfl rfl rfl rfl rfl (by kernel_rfl) Try.func4 (by kernel_rfl)
    (of_decide_eq_true (by kernel_rfl)) (by unfold Func.isWrapper; first | (rw [if_pos (by decide +kernel)]; kernel_rfl) | (rw [if_neg (by decide +kernel)]; exact ⟨rfl, rfl⟩))
    (fun os started H enc _ => lifted os started H enc)

/-- The statement. -/
theorem proved : Rows.BitsReadsSaid := over
#print axioms proved

end Go.Proofs.Ytpeafahajpfcbaa.BitsReads
