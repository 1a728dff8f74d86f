/- Layer 6 (bits): a field's size, a bit's value, whether bytes have a bit, and whether it is 1. By contracts. · Layer 6 (bits): how many bits are 1; whether bytes are a field; a bit set. By contracts. · Layer 6 (bits): a field packed, unpacked, two joined. By contracts. -/
import Derived.Test.YtcaejanfhchacaaBytes
import Derived.Test.YtcaejanfhchacaaLawB
import Derived.Test.YtcaejanfhchacaaBitM
import Derived.Test.YtcaejanfhchacaaProg
import Derived.OwnWalk
import Derived.BigQuiet
import Derived.Lib.Tables
import Derived.Test.YtcaejanfhchacaaBytesV
import Derived.Lib.BitFns
import Derived.Deep.CutBlock
namespace Go.Proofs.Ytcaejanfhchacaa
open Go.RowKit
set_option linter.unusedVariables false
set_option linter.unusedSimpArgs false

theorem size_ok (n : Nat) (w : World) (hn : n ≤ 281474976710656) :
    Calls Try.prog 65 #[.int .i64 (n : Int)] w fun e w' => e = .returned (.int .i64 (((n + 7) / 8 : Nat) : Int)) ∧ w = w' := by
  by_cases h : n < 1
  · have hI : (n : Int) < 1 := by omega
    go_enter Try.func65, Try.ntmps65
    go_wp2
    go_ret
    refine ⟨?_, rfl⟩
    obtain rfl : n = 0 := by omega
    rfl
  · have hI : (1 : Int) ≤ n := by omega
    go_enter Try.func65, Try.ntmps65
    go_wp2
    go_ret
    refine ⟨congrArg Ending.returned (congrArg (Value.int IntKind.i64) ?_), rfl⟩
    omega

/-- A bit's value in its byte. -/
def pw (n : Nat) : Nat := 2 ^ (n % 8)
theorem pw_lt (n : Nat) : pw n < 256 := pow_lt8 (by omega)
theorem pw_shl (n : Nat) : (2 : Int) ^ (n % 8) % 256 = ((pw n : Nat) : Int) := by
  have h := pw_lt n
  have e : (2 : Int) ^ (n % 8) = ((pw n : Nat) : Int) := by unfold pw; simp
  rw [e]
  omega

set_option maxRecDepth 100000 in
theorem value_ok (n : Nat) (w : World) (hn : n ≤ 9223372036854775807) :
    Calls Try.prog 67 #[.int .i64 (n : Int)] w fun e w' => e = .returned (.int .u8 ((pw n : Nat) : Int)) ∧ w = w' := by
  have h0 : (0 : Int) ≤ (n : Int) := by omega
  go_enter Try.func67, Try.ntmps67
  go_wp2
  rw [pw_shl]
  generalize pw n = p
  go_ret
  exact ⟨rfl, rfl⟩

theorem has_no (xs : List Nat) (A : Option Addr) (c : Nat) (i : Int) (w : World) (h : ¬ (0 ≤ i ∧ i.toNat / 8 < xs.length)) (h1 : i ≤ 9223372036854775807) :
    Calls Try.prog 66 #[.slice A xs.length c, .int .i64 i] w fun e w' => e = .returned (.bool false) ∧ w = w' := by
  by_cases h0 : 0 ≤ i
  · obtain ⟨n, rfl⟩ := Int.eq_ofNat_of_zero_le h0
    have hI : (xs.length : Int) ≤ (n : Int) / 8 := by simp at h; omega
    have hD : decide ((n : Int) / 8 < (xs.length : Int)) = false := decide_eq_false (by omega)
    clear h
    go_enter Try.func66, Try.ntmps66
    go_wp2
    go_ret
    exact ⟨rfl, rfl⟩
  · have hI : i < 0 := by omega
    clear h h0
    go_enter Try.func66, Try.ntmps66
    go_wp2
    go_ret
    exact ⟨rfl, rfl⟩

theorem has_yes (xs : List Nat) (A : Option Addr) (c : Nat) (n : Nat) (w : World) (h : n / 8 < xs.length) (h1 : n ≤ 9223372036854775807) :
    Calls Try.prog 66 #[.slice A xs.length c, .int .i64 (n : Int)] w fun e w' => e = .returned (.bool true) ∧ w = w' := by
  have hI : (n : Int) / 8 < (xs.length : Int) := by omega
  have h0 : (0 : Int) ≤ (n : Int) := by omega
  have hD : decide ((n : Int) / 8 < (xs.length : Int)) = true := decide_eq_true hI
  clear h
  go_enter Try.func66, Try.ntmps66
  go_wp2
  go_ret
  exact ⟨rfl, rfl⟩

/-- The i-th bit, for any whole number. -/
def bitI (xs : List Nat) (i : Int) : Bool := decide (0 ≤ i) && bitAt xs i.toNat
theorem bitI_nat (xs : List Nat) (n : Nat) : bitI xs (n : Int) = bitAt xs n := by simp [bitI]
theorem bitI_out {xs : List Nat} {i : Int} (h : ¬ (0 ≤ i ∧ i.toNat / 8 < xs.length)) : bitI xs i = false := by
  unfold bitI
  by_cases h0 : 0 ≤ i
  · rw [bit_out (by omega)]; simp
  · simp [h0]
theorem bit_test (xs : List Nat) (n : Nat) : ((xs.getD (n / 8) 0 &&& pw n : Nat) : Int) ≠ 0 ↔ bitAt xs n = true := by
  unfold bitAt pw
  have h := and_pow_zero (xs.getD (n / 8) 0) (n % 8)
  constructor
  · intro h1
    cases e : (xs.getD (n / 8) 0).testBit (n % 8) with
    | true => rfl
    | false => exact absurd (by rw [h.2 e]; rfl) h1
  · intro h1 h2
    rw [h.1 (by omega)] at h1
    cases h1

set_option maxRecDepth 100000 in
theorem get_ok (xs : List Nat) (S : Nat → Prop) (A : Option Addr) (c : Nat) (i : Int) (w : World) (hx : Lies w S A xs) (hb : ∀ x ∈ xs, x < 256) (h1 : i ≤ 9223372036854775807) :
    Calls Try.prog 32 #[.slice A xs.length c, .int .i64 i] w fun e w' => e = .returned (.bool (bitI xs i)) ∧ ∃ q, w' = w.drewN q := by
  by_cases h : 0 ≤ i ∧ i.toNat / 8 < xs.length
  · obtain ⟨n, rfl⟩ := Int.eq_ofNat_of_zero_le h.1
    have hn : n / 8 < xs.length := by simpa using h.2
    clear h
    have kv := fun W => value_ok n W (by omega)
    have kh := fun W => has_yes xs A c n W hn (by omega)
    rw [bitI_nat]
    obtain ⟨a, rfl, hS, hc⟩ := hx.get hn
    have hxb := hb xs[n / 8] (List.getElem_mem hn)
    have hand := and_pow hxb (n % 8) (by omega)
    have htest := bit_test xs n
    have eg : xs.getD (n / 8) 0 = xs[n / 8] := by simp [hn]
    rw [eg] at htest
    obtain ⟨x, hxx⟩ : ∃ x, xs[n / 8] = x := ⟨_, rfl⟩
    rw [hxx] at hc htest hand hxb
    have hnI : (n : Int) / 8 < (xs.length : Int) := by omega
    have h0 : (0 : Int) ≤ (n : Int) := by omega
    have hq0 : (0 : Int) ≤ (n : Int) / 8 := by omega
    have hqn : ((n : Int) / 8).toNat = n / 8 := by omega
    have hand2 : bits .and .u8 (x : Int) ((pw n : Nat) : Int) = ((x &&& pw n : Nat) : Int) := hand
    obtain ⟨p, hp⟩ : ∃ p, pw n = p := ⟨_, rfl⟩
    rw [hp] at hand2 htest kv
    clear hand hxx hn eg
    obtain ⟨z, hz⟩ : ∃ z : Nat, x &&& p = z := ⟨_, rfl⟩
    rw [hz] at hand2 htest
    have HT := Lib.hid htest
    clear htest hz
    go_enter Try.func32, Try.ntmps32
    go_wp2
    go_quiet (first
      | (go_at_call 66; exact quiet_one (kh _))
      | (go_at_call 67; exact quiet_one (kv _)))
    go_wp2
    go_ret
    refine ⟨congrArg Ending.returned (congrArg Value.bool ?_), nq, rfl⟩
    have h := HT.out
    cases hb2 : bitAt xs n with
    | true => simpa using h.2 hb2
    | false =>
      rw [hb2] at h
      simpa using h
  · rw [bitI_out h]
    have kh := fun W => has_no xs A c i W h h1
    clear h
    go_enter Try.func32, Try.ntmps32
    go_wp2
    go_quiet (first
      | (go_at_call 66; exact quiet_one (kh _)))
    go_wp2
    go_ret
    exact ⟨rfl, _, rfl⟩

/-- Whether something stands behind the n-th bit. -/
def Beh (xs : List Nat) (n : Nat) : Prop := 0 < n % 8 ∧ pw n ≤ xs.getD (n / 8) 0

/-- An answer yes or no, to a question. -/
def Answers (p : Prop) (e : Ending) : Prop := ∃ r : Bool, e = .returned (.bool r) ∧ (r = true ↔ p)
theorem answer_yes {p : Prop} {e : Ending} (h : p) (he : e = .returned (.bool true)) : Answers p e := ⟨true, he, ⟨fun _ => h, fun _ => rfl⟩⟩
theorem answer_no {p : Prop} {e : Ending} (h : ¬ p) (he : e = .returned (.bool false)) : Answers p e := ⟨false, he, ⟨fun h => (by simp at h), fun h2 => (h h2).elim⟩⟩

set_option maxRecDepth 100000 in
theorem behind_ok (xs : List Nat) (S : Nat → Prop) (A : Option Addr) (c : Nat) (n : Nat) (w : World) (hx : Lies w S A xs) (hn : n ≤ 256) (hl : xs.length = (n + 7) / 8) :
    Calls Try.prog 99 #[.slice A xs.length c, .int .i64 (n : Int)] w fun e w' => Answers (Beh xs n) e ∧ ∃ q, w' = w.drewN q := by
  by_cases h : 0 < n % 8
  · have hnl : n / 8 < xs.length := by omega
    have kv := fun W => value_ok n W (by omega)
    obtain ⟨a, rfl, hS, hc⟩ := hx.get hnl
    have eg : xs.getD (n / 8) 0 = xs[n / 8] := by simp [hnl]
    have hB : Beh xs n ↔ pw n ≤ xs[n / 8] := by unfold Beh; rw [eg]; exact ⟨fun h => h.2, fun h2 => ⟨h, h2⟩⟩
    obtain ⟨x, hxx⟩ : ∃ x, xs[n / 8] = x := ⟨_, rfl⟩
    rw [hxx] at hc hB
    have hnI : (n : Int) / 8 < (xs.length : Int) := by omega
    have h0 : (0 : Int) ≤ (n : Int) := by omega
    have hq0 : (0 : Int) ≤ (n : Int) / 8 := by omega
    have hqn : ((n : Int) / 8).toNat = n / 8 := by omega
    have hr : (0 : Int) < (n : Int) % 8 := by omega
    have hD : decide ((0 : Int) < (n : Int) % 8) = true := decide_eq_true hr
    have ht : (n : Int).tmod 8 = (n : Int) % 8 := Int.tmod_eq_emod_of_nonneg h0
    have hD2 : decide ((0 : Int) < (n : Int).tmod 8) = true := by rw [ht]; exact hD
    obtain ⟨p, hp⟩ : ∃ p, pw n = p := ⟨_, rfl⟩
    rw [hp] at hB kv
    clear hxx eg h hl
    have HB := Lib.hid hB
    clear hB
    go_enter Try.func99, Try.ntmps99
    go_wp2
    go_quiet (first
      | (go_at_call 67; exact quiet_one (kv _)))
    go_wp2
    go_ret
    refine ⟨⟨decide (p ≤ x), rfl, ?_⟩, nq, rfl⟩
    rw [HB.out]
    simp
  · have hr : (n : Int) % 8 = 0 := by omega
    have hB : ¬ Beh xs n := fun hb => h hb.1
    have HB := Lib.hid hB
    have h0 : (0 : Int) ≤ (n : Int) := by omega
    have hD : decide ((0 : Int) < (n : Int) % 8) = false := decide_eq_false (by omega)
    clear h hB hl
    go_enter Try.func99, Try.ntmps99
    go_wp2
    go_quiet (fail)
    go_wp2
    go_ret
    exact ⟨answer_no HB.out rfl, nq, rfl⟩

/-- The bytes that are handed over lie in memory. -/
def Handed (w : World) (a : Addr) (all : List BV) : Prop :=
  ∀ k b, all[k]? = some b → w.cell? (a.add k) = some (.slice b.row b.bs.length b.cap) ∧ (∃ S, Lies w S b.row b.bs) ∧ ∀ x ∈ b.bs, x < 256

theorem Lies.drewN {w : World} {S : Nat → Prop} {A : Option Addr} {xs : List Nat} (h : Lies w S A xs) (q : Nat) : Lies (w.drewN q) S A xs := h

theorem field_iff {xs : List Nat} {n : Nat} (hn : n ≤ 256) (hb : ∀ x ∈ xs, x < 256) : IsField xs n ↔ (xs.length = (n + 7) / 8 ∧ ¬ Beh xs n) := by
  unfold IsField Beh pw
  constructor
  · rintro ⟨_, h1, h2⟩
    exact ⟨h1, (behind_iff h1 hb).1 h2⟩
  · rintro ⟨h1, h2⟩
    exact ⟨hn, h1, (behind_iff h1 hb).2 h2⟩

set_option maxRecDepth 100000 in
set_option maxHeartbeats 1000000 in
theorem fields_ok (all : List BV) (a : Addr) (c : Nat) (n : Int) (w : World) (ha : Handed w a all) (hl : all.length ≤ 100) :
    Calls Try.prog 72 #[.int .i64 n, .slice (some a) all.length c] w fun e w' => Answers (0 ≤ n ∧ n ≤ 256 ∧ ∀ b ∈ all, IsField b.bs n.toNat) e ∧ ∃ q, w' = w.drewN q := by
  by_cases h0 : n < 0
  · go_enter Try.func72, Try.ntmps72
    go_wp2
    go_ret
    exact ⟨answer_no (fun h => by omega) rfl, 0, rfl⟩
  · by_cases h1 : 256 < n
    · have h0I : 0 ≤ n := by omega
      go_enter Try.func72, Try.ntmps72
      go_wp2
      go_ret
      exact ⟨answer_no (fun h => by omega) rfl, 0, rfl⟩
    · obtain ⟨m, rfl⟩ := Int.eq_ofNat_of_zero_le (show 0 ≤ n by omega)
      have hm : m ≤ 256 := by omega
      have h1I : (m : Int) ≤ 256 := by omega
      clear h0 h1
      have HA := Lib.hid ha
      clear ha
      go_enter Try.func72, Try.ntmps72
      go_wp2
      go_loopw [15] (fun iv wr => ∃ k q : Nat, k ≤ all.length ∧ iv = .int .i64 (k : Int) ∧ wr = w.drewN q ∧ Hid (∀ b ∈ all.take k, IsField b.bs m)) (fun iv _ => all.length - (intOf iv).toNat)
      case atStart => exact ⟨0, 0, Nat.zero_le _, rfl, rfl, by intro b hb; simp at hb⟩
      case round =>
        obtain ⟨k, q, hk, rfl, rfl, HT⟩ := hrel
        by_cases hlt : k < all.length
        · obtain ⟨hc, ⟨S, hL⟩, hb⟩ := HA.out k _ (List.getElem?_eq_getElem hlt)
          have htk := List.take_succ_eq_append_getElem hlt
          have hmem := List.getElem_mem hlt
          obtain ⟨b, hbb⟩ : ∃ b, all[k] = b := ⟨_, rfl⟩
          rw [hbb] at hc hL hb htk hmem
          have hfi := field_iff hm hb
          have ks := fun W => size_ok m W (by omega)
          have hkI : (k : Int) < (all.length : Int) := by omega
          have HTK := Lib.hid htk
          have HM := Lib.hid hmem
          have HF := Lib.hid hfi
          clear htk hmem hfi hbb hb
          by_cases hsz : b.bs.length = (m + 7) / 8
          · have kb := fun q => behind_ok b.bs S b.row b.cap m (w.drewN q) (hL.drewN q) hm hsz
            rw [hsz] at hc kb
            have hsz2 := Lib.hid hsz
            clear hsz
            generalize hz : (m + 7) / 8 = z at hc ks kb
            clear hz
            go_wp2_with (first
              | (go_at_call 65; refine (ks _).mono ?_; rintro e w' ⟨rfl, rfl⟩)
              | (go_at_call 99; refine (kb _).mono ?_; rintro e w' ⟨⟨r, rfl, hr⟩, q2, rfl⟩; have HR := Lib.hid hr; clear hr; cases r))
            · go_roundw
              case rel =>
                refine ⟨k + 1, q + q2, by omega, by go_num, rfl, ?_⟩
                intro b' hb'
                rw [HTK.out] at hb'
                rcases List.mem_append.1 hb' with h1 | h1
                · exact HT.out b' h1
                · simp at h1; subst h1; exact HF.out.2 ⟨hsz2.out, fun h => by have := HR.out.2 h; cases this⟩
              case measure => simp [intOf]; omega
            · go_ret
              exact ⟨answer_no (fun h => (HF.out.1 (h.2.2 b HM.out)).2 (HR.out.1 (by simp))) rfl, _, rfl⟩
          · have hneI : ((b.bs.length : Int) != (((m + 7) / 8 : Nat) : Int)) = true := by simp; omega
            have HN := Lib.hid hsz
            clear hsz
            generalize hz : (m + 7) / 8 = z at hneI ks
            go_wp2_with (first
              | (go_at_call 65; refine (ks _).mono ?_; rintro e w' ⟨rfl, rfl⟩))
            go_ret
            exact ⟨answer_no (fun h => HN.out (HF.out.1 (h.2.2 b HM.out)).1) rfl, _, rfl⟩
        · obtain rfl : k = all.length := by omega
          go_wp2
          go_ret
          refine ⟨answer_yes ⟨by omega, h1I, fun b hb => ?_⟩ rfl, _, rfl⟩
          have := HT.out b (by rw [List.take_length]; exact hb)
          simpa using this
end Go.Proofs.Ytcaejanfhchacaa
namespace Go.Proofs.Ytcaejanfhchacaa
open Go.RowKit
set_option linter.unusedVariables false
set_option linter.unusedSimpArgs false

/-- A field of n bits, for any whole number n. -/
def FieldI (xs : List Nat) (n : Int) : Prop := 0 ≤ n ∧ IsField xs n.toNat

theorem first_cell (w : World) (C : Array Value) (t : TypeId) (v : Value) (h : C[0]? = some v) : (w.alloc (.cells C t)).cell? ((⟨w.heap.size, 0, none⟩ : Addr).add 0) = some v := new_row w C t 0 v h
theorem handed_one {w : World} {S : Nat → Prop} {A : Option Addr} {xs : List Nat} (c : Nat) (t : TypeId) (h : Lies w S A xs) (hb : ∀ x ∈ xs, x < 256) :
    Handed (w.alloc (.cells #[.slice A xs.length c] t)) ⟨w.heap.size, 0, none⟩ [⟨A, xs, c⟩] := by
  intro k b hk
  cases k with
  | zero =>
    simp at hk
    subst hk
    exact ⟨first_cell w #[.slice A xs.length c] t (.slice A xs.length c) rfl, ⟨S, h.grown (grown_alloc w _ none) (by simp)⟩, hb⟩
  | succ k => simp at hk
theorem one_field (xs : List Nat) (A : Option Addr) (c : Nat) (n : Int) : (0 ≤ n ∧ n ≤ 256 ∧ ∀ b ∈ [(⟨A, xs, c⟩ : BV)], IsField b.bs n.toNat) ↔ FieldI xs n := by
  unfold FieldI
  constructor
  · rintro ⟨h0, _, h⟩
    exact ⟨h0, h ⟨A, xs, c⟩ (by simp)⟩
  · rintro ⟨h0, h⟩
    refine ⟨h0, ?_, ?_⟩
    · have := h.1; omega
    · intro b hb; simp at hb; subst hb; exact h
theorem fields_yes {all : List BV} {a : Addr} {c : Nat} {n : Int} {w : World} (ha : Handed w a all) (hl : all.length ≤ 100) (h : 0 ≤ n ∧ n ≤ 256 ∧ ∀ b ∈ all, IsField b.bs n.toNat) :
    Calls Try.prog 72 #[.int .i64 n, .slice (some a) all.length c] w fun e w' => e = .returned (.bool true) ∧ ∃ q, w' = w.drewN q :=
  (fields_ok all a c n w ha hl).mono fun e w' ⟨⟨r, he, hr⟩, hq⟩ => ⟨by rw [he, hr.2 h], hq⟩
theorem fields_no {all : List BV} {a : Addr} {c : Nat} {n : Int} {w : World} (ha : Handed w a all) (hl : all.length ≤ 100) (h : ¬ (0 ≤ n ∧ n ≤ 256 ∧ ∀ b ∈ all, IsField b.bs n.toNat)) :
    Calls Try.prog 72 #[.int .i64 n, .slice (some a) all.length c] w fun e w' => e = .returned (.bool false) ∧ ∃ q, w' = w.drewN q :=
  (fields_ok all a c n w ha hl).mono fun e w' ⟨⟨r, he, hr⟩, hq⟩ => ⟨by
    cases r with
    | true => exact absurd (hr.1 rfl) h
    | false => exact he, hq⟩

theorem check_yes (xs : List Nat) (S : Nat → Prop) (A : Option Addr) (c : Nat) (n : Int) (w : World) (hx : Lies w S A xs) (hb : ∀ x ∈ xs, x < 256) (h : FieldI xs n) :
    Calls Try.prog 41 #[.slice A xs.length c, .int .i64 n] w fun e w' => e = .returned (.int .i64 0) ∧ Below w.heap.size w w' := by
  have kf := fields_yes (c := 1) (n := n) (handed_one c 38 hx hb) (by simp) ((one_field xs A c n).2 h)
  clear h hb
  go_enter Try.func41, Try.ntmps41
  go_wp2_with (go_at_call 72; refine kf.mono ?_; clear kf; rintro e w' ⟨rfl, q, rfl⟩)
  go_ret
  exact ⟨rfl, below_drewN ((Below.refl _ w).alloc (Nat.le_refl _) _) _⟩
theorem bcheck_no (xs : List Nat) (S : Nat → Prop) (A : Option Addr) (c : Nat) (n : Int) (w : World) (hx : Lies w S A xs) (hb : ∀ x ∈ xs, x < 256) (h : ¬ FieldI xs n) :
    Calls Try.prog 41 #[.slice A xs.length c, .int .i64 n] w fun e w' => e = .returned (.int .i64 60) ∧ Below w.heap.size w w' := by
  have kf := fields_no (c := 1) (n := n) (handed_one c 38 hx hb) (by simp) (fun hh => h ((one_field xs A c n).1 hh))
  clear h hb
  go_enter Try.func41, Try.ntmps41
  go_wp2_with (go_at_call 72; refine kf.mono ?_; clear kf; rintro e w' ⟨rfl, q, rfl⟩)
  go_ret
  exact ⟨rfl, below_drewN ((Below.refl _ w).alloc (Nat.le_refl _) _) _⟩

/-- Bytes with a bit 1. -/
def setBit (xs : List Nat) (i : Nat) : List Nat := xs.set (i / 8) (xs.getD (i / 8) 0 ||| pw i)
theorem setBit_at {xs : List Nat} {i : Nat} (h : i / 8 < xs.length) (k : Nat) : bitAt (setBit xs i) k = (bitAt xs k || decide (k = i)) := bit_set h k
theorem setBit_len (xs : List Nat) (i : Nat) : (setBit xs i).length = xs.length := by simp [setBit]
theorem set_all {xs : List Nat} {j v : Nat} (h : ∀ x ∈ xs, x < 256) (hv : v < 256) : ∀ x ∈ xs.set j v, x < 256 := fun x hx => by
  rcases List.mem_or_eq_of_mem_set hx with h1 | h1
  · exact h x h1
  · rw [h1]; exact hv
theorem setBit_all {xs : List Nat} {i : Nat} (h : ∀ x ∈ xs, x < 256) : ∀ x ∈ setBit xs i, x < 256 := set_all h (or_lt (getD_byte h _) (pw_lt i))
theorem u8s_set (xs : List Nat) (j v : Nat) : (u8s xs).set j (.int .u8 (v : Int)) = u8s (xs.set j v) := by unfold u8s; rw [List.map_set]

theorem own_cons {w : World} {base : Nat} {e : TypeId} {v : Value} {n : Nat} {xs : List Value} (h : w.ownsRow base e 1 v n xs) (h0 : 0 < n) :
    ∃ g c, v = .slice (some ⟨g, 0, none⟩) n c ∧ base ≤ g ∧ g < w.heap.size := by
  rcases h.2 with ⟨rfl, rfl⟩ | ⟨g, cap, cur, rfl, hg, hh, hnc, hcm, hs, ht⟩
  · omega
  · exact ⟨g, cap, rfl, hg, (h.lt g rfl).2⟩

theorem own_cell {w : World} {base g n c j : Nat} {e : TypeId} {xs : List Value} {v : Value} (h : w.ownsRow base e 1 (.slice (some ⟨g, 0, none⟩) n c) n xs) (hj : xs[j]? = some v) : w.cell? ⟨g, j, none⟩ = some v := by
  have := h.cells (g := g) rfl j v hj
  rwa [Addr.add_mid, Nat.zero_add] at this

set_option maxRecDepth 100000 in
set_option maxHeartbeats 1000000 in
theorem set_ok (xs : List Nat) (S : Nat → Prop) (A : Option Addr) (c : Nat) (n : Nat) (w : World) (hx : Lies w S A xs) (hb : ∀ x ∈ xs, x < 256) (hl : xs.length ≤ 140737488355328) (h1 : n ≤ 9223372036854775807) (h : n / 8 < xs.length) :
    Calls Try.prog 35 #[.slice A xs.length c, .int .i64 (n : Int)] w fun e w' => ∃ v, e = .returned (.tuple #[v, .bool true]) ∧ w'.ownsRow w.heap.size 5 1 v xs.length (u8s (setBit xs n)) ∧ Below w.heap.size w w' := by
  have k1 := clone_is xs S A c w hx hl
  have k2 := fun W => has_yes xs A c n W h h1
  have k3 := fun W => value_ok n W h1
  have eg : xs.getD (n / 8) 0 = xs[n / 8] := by simp [h]
  have hxb := hb xs[n / 8] (List.getElem_mem h)
  have hor := or_bytes hxb (pw_lt n)
  have hse : setBit xs n = xs.set (n / 8) (xs[n / 8] ||| pw n) := by unfold setBit; rw [eg]
  have hu := u8s_get h
  obtain ⟨x, hxx⟩ : ∃ x, xs[n / 8] = x := ⟨_, rfl⟩
  obtain ⟨p, hp⟩ : ∃ p, pw n = p := ⟨_, rfl⟩
  rw [hxx, hp] at hor hse
  rw [hxx] at hu
  rw [hp] at k3
  have HSE := Lib.hid hse
  have HU := Lib.hid hu
  have hnI : (n : Int) / 8 < (xs.length : Int) := by omega
  have h0 : (0 : Int) ≤ (n : Int) := by omega
  have hq0 : (0 : Int) ≤ (n : Int) / 8 := by omega
  have hqn : ((n : Int) / 8).toNat = n / 8 := by omega
  have hwq : IntKind.i64.wrap ((n : Int) / 8) = (n : Int) / 8 := IntWalk.i64_in _ (by omega)
  have htd : (n : Int).tdiv 8 = (n : Int) / 8 := Int.tdiv_eq_ediv_of_nonneg h0
  obtain ⟨z, hz⟩ : ∃ z : Nat, x ||| p = z := ⟨_, rfl⟩
  rw [hz] at hor
  have HZ := Lib.hid hz
  have hlen0 : 0 < xs.length := by omega
  clear hse hu hxx hp eg hb hxb hz
  go_enter Try.func35, Try.ntmps35
  go_wp2_with (first
    | (go_at_call 69; refine k1.mono ?_; clear k1; rintro e w1 ⟨v, rfl, hown, hb1⟩; obtain ⟨g, cv, rfl, hg, hgl⟩ := own_cons hown hlen0; have hcD : w1.cell? ⟨g, n / 8, none⟩ = some (.int .u8 (x : Int)) := own_cell hown HU.out; have hfD : w1.frozen? ⟨g, n / 8, none⟩ = false := hown.frozenAt (n / 8); have HOWN := Lib.hid hown; clear hown)
    | (go_at_call 66; refine (k2 _).mono ?_; clear k2; rintro e w' ⟨rfl, rfl⟩))
  go_region_with (go_at_call 67; refine (k3 _).mono ?_; rintro e w' ⟨rfl, rfl⟩)
  all_goals
    go_wp2
    refine bodyPost_ret (v := .tuple #[.slice (some ⟨g, 0, none⟩) xs.length cv, .bool true]) (by simp [results, Try.results35, go_sem]) rfl ⟨_, rfl, ?_, below_drewN (hb1.setCell hg _) 1⟩
    rw [HSE.out, HZ.out, ← u8s_set]
    exact own_drewN (World.ownsRow.stored HOWN.out (n / 8) _).1 1
end Go.Proofs.Ytcaejanfhchacaa
namespace Go.Proofs.Ytcaejanfhchacaa
open Go.RowKit
set_option linter.unusedVariables false
set_option linter.unusedSimpArgs false

/-- Whether each is on, as values. -/
def bools (l : List Bool) : List Value := l.map Value.bool
theorem bools_len (l : List Bool) : (bools l).length = l.length := by simp [bools]
theorem bools_snoc (l : List Bool) (b : Bool) : bools (l ++ [b]) = bools l ++ [.bool b] := by simp [bools]
theorem u8s_zero (n : Nat) : (madeCells #[Value.int .u8 0] n).toList = u8s (List.replicate n 0) := by
  rw [toList_madeCells_one]; simp [u8s]
theorem bool_info : (Try.prog.info? 4).map (fun i => (i.zero, i.size, i.bytes)) = some (some (.bool false), 1, 1) := by kernel_rfl

/-- A row of zeros, made just now. -/
theorem own_zeros {B : Nat} (w : World) (hB : B ≤ w.heap.size) (n : Nat) (hn : n ≤ maxLen) : (w.alloc (.cells (madeCells #[Value.int .u8 0] n) 5)).ownsRow B 5 1 (.slice (some ⟨w.heap.size, 0, none⟩) n n) n (u8s (List.replicate n 0)) := by
  rw [← u8s_zero]
  have h := World.ownsRow_lit w (madeCells #[Value.int .u8 0] n) (base := B) (e := 5) (size := 1) n hB hn (by rw [size_madeCells]; simp)
  simpa using h
/-- A field in the midst of being packed: the first k of the list are in. -/
def packN (l : List Bool) : Nat → List Nat
  | 0 => List.replicate ((l.length + 7) / 8) 0
  | k + 1 => if l.getD k false then setBit (packN l k) k else packN l k
/-- A list's field. -/
def packed (l : List Bool) : List Nat := packN l l.length
theorem packN_len (l : List Bool) (k : Nat) : (packN l k).length = (l.length + 7) / 8 := by
  induction k with
  | zero => simp [packN]
  | succ k ih => unfold packN; split <;> simp [setBit_len, ih]
theorem packN_all (l : List Bool) (k : Nat) : ∀ x ∈ packN l k, x < 256 := by
  induction k with
  | zero => intro x hx; rw [List.eq_of_mem_replicate hx]; omega
  | succ k ih => unfold packN; split; exact setBit_all ih; exact ih
theorem packN_at (l : List Bool) (k : Nat) (h : k ≤ l.length) (i : Nat) : bitAt (packN l k) i = (decide (i < k) && l.getD i false) := by
  induction k with
  | zero =>
    simp only [packN, bitAt]
    have e : (List.replicate ((l.length + 7) / 8) 0).getD (i / 8) 0 = 0 := by rw [List.getD_eq_getElem?_getD, List.getElem?_replicate]; split <;> rfl
    rw [e, Nat.zero_testBit]
    simp
  | succ k ih =>
    have ih := ih (by omega)
    unfold packN
    split
    · rename_i hb
      rw [setBit_at (by rw [packN_len]; omega), ih]
      by_cases e : i = k
      · subst e; rw [hb]; simp
      · have : (i < k + 1) ↔ i < k := by omega
        simp [this, e]
    · rename_i hb
      rw [ih]
      by_cases e : i = k
      · subst e
        have : l.getD i false = false := by simpa using hb
        rw [this]; simp
      · have : (i < k + 1) ↔ i < k := by omega
        simp [this]
theorem packed_len (l : List Bool) : (packed l).length = (l.length + 7) / 8 := packN_len l _
theorem packed_all (l : List Bool) : ∀ x ∈ packed l, x < 256 := packN_all l _
theorem packed_at (l : List Bool) (i : Nat) : bitAt (packed l) i = l.getD i false := by
  unfold packed
  rw [packN_at l _ (Nat.le_refl _)]
  by_cases h : i < l.length
  · simp [h]
  · rw [getD_past _ (by omega)]; simp
theorem packed_is {l : List Bool} {ys : List Nat} (hl : ys.length = (l.length + 7) / 8) (hb : ∀ x ∈ ys, x < 256) (h : ∀ k, bitAt ys k = l.getD k false) : ys = packed l :=
  bits_ext (by rw [hl, packed_len]) hb (packed_all l) fun k => by rw [h, packed_at]
/-- Bytes in the midst of being joined: the first m are. -/
def joinN (xs ys : List Nat) : Nat → List Nat
  | 0 => xs
  | m + 1 => (joinN xs ys m).set m ((joinN xs ys m).getD m 0 ||| ys.getD m 0)
def joined (xs ys : List Nat) : List Nat := joinN xs ys ys.length
end Go.Proofs.Ytcaejanfhchacaa
