/- Layer 6 (bits): a field's size, a bit's value, whether bytes have a bit, and whether it is 1. By contracts. -/
import Derived.Test.YtpeafahajpfcbaaBytes
import Derived.Test.YtpeafahajpfcbaaBitM
import Derived.Test.YtpeafahajpfcbaaProg
import Derived.OwnWalk
import Derived.BigQuiet
import Derived.Lib.Tables
namespace Go.Proofs.Ytpeafahajpfcbaa
open Go.RowKit
set_option linter.unusedVariables false
set_option linter.unusedSimpArgs false

theorem size_ok (n : Nat) (w : World) (hn : n ≤ 281474976710656) :
    Calls Try.prog 12 #[.int .i64 (n : Int)] w fun e w' => e = .returned (.int .i64 (((n + 7) / 8 : Nat) : Int)) ∧ w = w' := by
  by_cases h : n < 1
  · have hI : (n : Int) < 1 := by omega
    go_enter Try.func12, Try.ntmps12
    go_wp2
    go_ret
    refine ⟨?_, rfl⟩
    obtain rfl : n = 0 := by omega
    rfl
  · have hI : (1 : Int) ≤ n := by omega
    go_enter Try.func12, Try.ntmps12
    go_wp2
    go_ret
    refine ⟨congrArg Ending.returned (congrArg (Value.int IntKind.i64) ?_), rfl⟩
    omega

/-- A bit's value in its byte. -/
def pw (n : Nat) : Nat := 2 ^ (n % 8)
theorem pw_lt (n : Nat) : pw n < 256 := pow_lt8 (by omega)
theorem pw_shl (n : Nat) : (2 : Int) ^ (n % 8) % 256 = ((pw n : Nat) : Int) := by
  have h := pw_lt n
  have e : (2 : Int) ^ (n % 8) = ((pw n : Nat) : Int) := by unfold pw; simp
  rw [e]
  omega

set_option maxRecDepth 100000 in
theorem value_ok (n : Nat) (w : World) (hn : n ≤ 9223372036854775807) :
    Calls Try.prog 23 #[.int .i64 (n : Int)] w fun e w' => e = .returned (.int .u8 ((pw n : Nat) : Int)) ∧ w = w' := by
  have h0 : (0 : Int) ≤ (n : Int) := by omega
  go_enter Try.func23, Try.ntmps23
  go_wp2
  rw [pw_shl]
  generalize pw n = p
  go_ret
  exact ⟨rfl, rfl⟩

theorem has_no (xs : List Nat) (A : Option Addr) (c : Nat) (i : Int) (w : World) (h : ¬ (0 ≤ i ∧ i.toNat / 8 < xs.length)) (h1 : i ≤ 9223372036854775807) :
    Calls Try.prog 25 #[.slice A xs.length c, .int .i64 i] w fun e w' => e = .returned (.bool false) ∧ w = w' := by
  by_cases h0 : 0 ≤ i
  · obtain ⟨n, rfl⟩ := Int.eq_ofNat_of_zero_le h0
    have hI : (xs.length : Int) ≤ (n : Int) / 8 := by simp at h; omega
    have hD : decide ((n : Int) / 8 < (xs.length : Int)) = false := decide_eq_false (by omega)
    clear h
    go_enter Try.func25, Try.ntmps25
    go_wp2
    go_ret
    exact ⟨rfl, rfl⟩
  · have hI : i < 0 := by omega
    clear h h0
    go_enter Try.func25, Try.ntmps25
    go_wp2
    go_ret
    exact ⟨rfl, rfl⟩

theorem has_yes (xs : List Nat) (A : Option Addr) (c : Nat) (n : Nat) (w : World) (h : n / 8 < xs.length) (h1 : n ≤ 9223372036854775807) :
    Calls Try.prog 25 #[.slice A xs.length c, .int .i64 (n : Int)] w fun e w' => e = .returned (.bool true) ∧ w = w' := by
  have hI : (n : Int) / 8 < (xs.length : Int) := by omega
  have h0 : (0 : Int) ≤ (n : Int) := by omega
  have hD : decide ((n : Int) / 8 < (xs.length : Int)) = true := decide_eq_true hI
  clear h
  go_enter Try.func25, Try.ntmps25
  go_wp2
  go_ret
  exact ⟨rfl, rfl⟩

/-- The i-th bit, for any whole number. -/
def bitI (xs : List Nat) (i : Int) : Bool := decide (0 ≤ i) && bitAt xs i.toNat
theorem bitI_nat (xs : List Nat) (n : Nat) : bitI xs (n : Int) = bitAt xs n := by simp [bitI]
theorem bitI_out {xs : List Nat} {i : Int} (h : ¬ (0 ≤ i ∧ i.toNat / 8 < xs.length)) : bitI xs i = false := by
  unfold bitI
  by_cases h0 : 0 ≤ i
  · rw [bit_out (by omega)]; simp
  · simp [h0]
theorem bit_test (xs : List Nat) (n : Nat) : ((xs.getD (n / 8) 0 &&& pw n : Nat) : Int) ≠ 0 ↔ bitAt xs n = true := by
  unfold bitAt pw
  have h := and_pow_zero (xs.getD (n / 8) 0) (n % 8)
  constructor
  · intro h1
    cases e : (xs.getD (n / 8) 0).testBit (n % 8) with
    | true => rfl
    | false => exact absurd (by rw [h.2 e]; rfl) h1
  · intro h1 h2
    rw [h.1 (by omega)] at h1
    cases h1

set_option maxRecDepth 100000 in
theorem get_ok (xs : List Nat) (S : Nat → Prop) (A : Option Addr) (c : Nat) (i : Int) (w : World) (hx : Lies w S A xs) (hb : ∀ x ∈ xs, x < 256) (h1 : i ≤ 9223372036854775807) :
    Calls Try.prog 17 #[.slice A xs.length c, .int .i64 i] w fun e w' => e = .returned (.bool (bitI xs i)) ∧ ∃ q, w' = w.drewN q := by
  by_cases h : 0 ≤ i ∧ i.toNat / 8 < xs.length
  · obtain ⟨n, rfl⟩ := Int.eq_ofNat_of_zero_le h.1
    have hn : n / 8 < xs.length := by simpa using h.2
    clear h
    have kv := fun W => value_ok n W (by omega)
    have kh := fun W => has_yes xs A c n W hn (by omega)
    rw [bitI_nat]
    obtain ⟨a, rfl, hS, hc⟩ := hx.get hn
    have hxb := hb xs[n / 8] (List.getElem_mem hn)
    have hand := and_pow hxb (n % 8) (by omega)
    have htest := bit_test xs n
    have eg : xs.getD (n / 8) 0 = xs[n / 8] := by simp [hn]
    rw [eg] at htest
    obtain ⟨x, hxx⟩ : ∃ x, xs[n / 8] = x := ⟨_, rfl⟩
    rw [hxx] at hc htest hand hxb
    have hnI : (n : Int) / 8 < (xs.length : Int) := by omega
    have h0 : (0 : Int) ≤ (n : Int) := by omega
    have hq0 : (0 : Int) ≤ (n : Int) / 8 := by omega
    have hqn : ((n : Int) / 8).toNat = n / 8 := by omega
    have hand2 : bits .and .u8 (x : Int) ((pw n : Nat) : Int) = ((x &&& pw n : Nat) : Int) := hand
    obtain ⟨p, hp⟩ : ∃ p, pw n = p := ⟨_, rfl⟩
    rw [hp] at hand2 htest kv
    clear hand hxx hn eg
    obtain ⟨z, hz⟩ : ∃ z : Nat, x &&& p = z := ⟨_, rfl⟩
    rw [hz] at hand2 htest
    have HT := Lib.hid htest
    clear htest hz
    go_enter Try.func17, Try.ntmps17
    go_wp2
    go_quiet (first
      | (go_at_call 25; exact quiet_one (kh _))
      | (go_at_call 23; exact quiet_one (kv _)))
    go_wp2
    go_ret
    refine ⟨congrArg Ending.returned (congrArg Value.bool ?_), nq, rfl⟩
    have h := HT.out
    cases hb2 : bitAt xs n with
    | true => simpa using h.2 hb2
    | false =>
      rw [hb2] at h
      simpa using h
  · rw [bitI_out h]
    have kh := fun W => has_no xs A c i W h h1
    clear h
    go_enter Try.func17, Try.ntmps17
    go_wp2
    go_quiet (first
      | (go_at_call 25; exact quiet_one (kh _)))
    go_wp2
    go_ret
    exact ⟨rfl, _, rfl⟩

/-- Bytes that are handed over among others. -/
structure BV where
  row : Option Addr
  bs : List Nat
  cap : Nat

/-- Whether something stands behind the n-th bit. -/
def Beh (xs : List Nat) (n : Nat) : Prop := 0 < n % 8 ∧ pw n ≤ xs.getD (n / 8) 0

/-- An answer yes or no, to a question. -/
def Answers (p : Prop) (e : Ending) : Prop := ∃ r : Bool, e = .returned (.bool r) ∧ (r = true ↔ p)
theorem answer_yes {p : Prop} {e : Ending} (h : p) (he : e = .returned (.bool true)) : Answers p e := ⟨true, he, ⟨fun _ => h, fun _ => rfl⟩⟩
theorem answer_no {p : Prop} {e : Ending} (h : ¬ p) (he : e = .returned (.bool false)) : Answers p e := ⟨false, he, ⟨fun h => (by simp at h), fun h2 => (h h2).elim⟩⟩

set_option maxRecDepth 100000 in
theorem behind_ok (xs : List Nat) (S : Nat → Prop) (A : Option Addr) (c : Nat) (n : Nat) (w : World) (hx : Lies w S A xs) (hn : n ≤ 256) (hl : xs.length = (n + 7) / 8) :
    Calls Try.prog 28 #[.slice A xs.length c, .int .i64 (n : Int)] w fun e w' => Answers (Beh xs n) e ∧ ∃ q, w' = w.drewN q := by
  by_cases h : 0 < n % 8
  · have hnl : n / 8 < xs.length := by omega
    have kv := fun W => value_ok n W (by omega)
    obtain ⟨a, rfl, hS, hc⟩ := hx.get hnl
    have eg : xs.getD (n / 8) 0 = xs[n / 8] := by simp [hnl]
    have hB : Beh xs n ↔ pw n ≤ xs[n / 8] := by unfold Beh; rw [eg]; exact ⟨fun h => h.2, fun h2 => ⟨h, h2⟩⟩
    obtain ⟨x, hxx⟩ : ∃ x, xs[n / 8] = x := ⟨_, rfl⟩
    rw [hxx] at hc hB
    have hnI : (n : Int) / 8 < (xs.length : Int) := by omega
    have h0 : (0 : Int) ≤ (n : Int) := by omega
    have hq0 : (0 : Int) ≤ (n : Int) / 8 := by omega
    have hqn : ((n : Int) / 8).toNat = n / 8 := by omega
    have hr : (0 : Int) < (n : Int) % 8 := by omega
    have hD : decide ((0 : Int) < (n : Int) % 8) = true := decide_eq_true hr
    have ht : (n : Int).tmod 8 = (n : Int) % 8 := Int.tmod_eq_emod_of_nonneg h0
    have hD2 : decide ((0 : Int) < (n : Int).tmod 8) = true := by rw [ht]; exact hD
    obtain ⟨p, hp⟩ : ∃ p, pw n = p := ⟨_, rfl⟩
    rw [hp] at hB kv
    clear hxx eg h hl
    have HB := Lib.hid hB
    clear hB
    go_enter Try.func28, Try.ntmps28
    go_wp2
    go_quiet (first
      | (go_at_call 23; exact quiet_one (kv _)))
    go_wp2
    go_ret
    refine ⟨⟨decide (p ≤ x), rfl, ?_⟩, nq, rfl⟩
    rw [HB.out]
    simp
  · have hr : (n : Int) % 8 = 0 := by omega
    have hB : ¬ Beh xs n := fun hb => h hb.1
    have HB := Lib.hid hB
    have h0 : (0 : Int) ≤ (n : Int) := by omega
    have hD : decide ((0 : Int) < (n : Int) % 8) = false := decide_eq_false (by omega)
    clear h hB hl
    go_enter Try.func28, Try.ntmps28
    go_wp2
    go_quiet (fail)
    go_wp2
    go_ret
    exact ⟨answer_no HB.out rfl, nq, rfl⟩

/-- The bytes that are handed over lie in memory. -/
def Handed (w : World) (a : Addr) (all : List BV) : Prop :=
  ∀ k b, all[k]? = some b → w.cell? (a.add k) = some (.slice b.row b.bs.length b.cap) ∧ (∃ S, Lies w S b.row b.bs) ∧ ∀ x ∈ b.bs, x < 256

theorem Lies.drewN {w : World} {S : Nat → Prop} {A : Option Addr} {xs : List Nat} (h : Lies w S A xs) (q : Nat) : Lies (w.drewN q) S A xs := h

theorem field_iff {xs : List Nat} {n : Nat} (hn : n ≤ 256) (hb : ∀ x ∈ xs, x < 256) : IsField xs n ↔ (xs.length = (n + 7) / 8 ∧ ¬ Beh xs n) := by
  unfold IsField Beh pw
  constructor
  · rintro ⟨_, h1, h2⟩
    exact ⟨h1, (behind_iff h1 hb).1 h2⟩
  · rintro ⟨h1, h2⟩
    exact ⟨hn, h1, (behind_iff h1 hb).2 h2⟩

set_option maxRecDepth 100000 in
set_option maxHeartbeats 1000000 in
theorem fields_ok (all : List BV) (a : Addr) (c : Nat) (n : Int) (w : World) (ha : Handed w a all) (hl : all.length ≤ 100) :
    Calls Try.prog 24 #[.int .i64 n, .slice (some a) all.length c] w fun e w' => Answers (0 ≤ n ∧ n ≤ 256 ∧ ∀ b ∈ all, IsField b.bs n.toNat) e ∧ ∃ q, w' = w.drewN q := by
  by_cases h0 : n < 0
  · go_enter Try.func24, Try.ntmps24
    go_wp2
    go_ret
    exact ⟨answer_no (fun h => by omega) rfl, 0, rfl⟩
  · by_cases h1 : 256 < n
    · have h0I : 0 ≤ n := by omega
      go_enter Try.func24, Try.ntmps24
      go_wp2
      go_ret
      exact ⟨answer_no (fun h => by omega) rfl, 0, rfl⟩
    · obtain ⟨m, rfl⟩ := Int.eq_ofNat_of_zero_le (show 0 ≤ n by omega)
      have hm : m ≤ 256 := by omega
      have h1I : (m : Int) ≤ 256 := by omega
      clear h0 h1
      have HA := Lib.hid ha
      clear ha
      go_enter Try.func24, Try.ntmps24
      go_wp2
      go_loopw [15] (fun iv wr => ∃ k q : Nat, k ≤ all.length ∧ iv = .int .i64 (k : Int) ∧ wr = w.drewN q ∧ Hid (∀ b ∈ all.take k, IsField b.bs m)) (fun iv _ => all.length - (intOf iv).toNat)
      case atStart => exact ⟨0, 0, Nat.zero_le _, rfl, rfl, by intro b hb; simp at hb⟩
      case round =>
        obtain ⟨k, q, hk, rfl, rfl, HT⟩ := hrel
        by_cases hlt : k < all.length
        · obtain ⟨hc, ⟨S, hL⟩, hb⟩ := HA.out k _ (List.getElem?_eq_getElem hlt)
          have htk := List.take_succ_eq_append_getElem hlt
          have hmem := List.getElem_mem hlt
          obtain ⟨b, hbb⟩ : ∃ b, all[k] = b := ⟨_, rfl⟩
          rw [hbb] at hc hL hb htk hmem
          have hfi := field_iff hm hb
          have ks := fun W => size_ok m W (by omega)
          have hkI : (k : Int) < (all.length : Int) := by omega
          have HTK := Lib.hid htk
          have HM := Lib.hid hmem
          have HF := Lib.hid hfi
          clear htk hmem hfi hbb hb
          by_cases hsz : b.bs.length = (m + 7) / 8
          · have kb := fun q => behind_ok b.bs S b.row b.cap m (w.drewN q) (hL.drewN q) hm hsz
            rw [hsz] at hc kb
            have hsz2 := Lib.hid hsz
            clear hsz
            generalize hz : (m + 7) / 8 = z at hc ks kb
            clear hz
            go_wp2_with (first
              | (go_at_call 12; refine (ks _).mono ?_; rintro e w' ⟨rfl, rfl⟩)
              | (go_at_call 28; refine (kb _).mono ?_; rintro e w' ⟨⟨r, rfl, hr⟩, q2, rfl⟩; have HR := Lib.hid hr; clear hr; cases r))
            · go_roundw
              case rel =>
                refine ⟨k + 1, q + q2, by omega, by go_num, rfl, ?_⟩
                intro b' hb'
                rw [HTK.out] at hb'
                rcases List.mem_append.1 hb' with h1 | h1
                · exact HT.out b' h1
                · simp at h1; subst h1; exact HF.out.2 ⟨hsz2.out, fun h => by have := HR.out.2 h; cases this⟩
              case measure => simp [intOf]; omega
            · go_ret
              exact ⟨answer_no (fun h => (HF.out.1 (h.2.2 b HM.out)).2 (HR.out.1 (by simp))) rfl, _, rfl⟩
          · have hneI : ((b.bs.length : Int) != (((m + 7) / 8 : Nat) : Int)) = true := by simp; omega
            have HN := Lib.hid hsz
            clear hsz
            generalize hz : (m + 7) / 8 = z at hneI ks
            go_wp2_with (first
              | (go_at_call 12; refine (ks _).mono ?_; rintro e w' ⟨rfl, rfl⟩))
            go_ret
            exact ⟨answer_no (fun h => HN.out (HF.out.1 (h.2.2 b HM.out)).1) rfl, _, rfl⟩
        · obtain rfl : k = all.length := by omega
          go_wp2
          go_ret
          refine ⟨answer_yes ⟨by omega, h1I, fun b hb => ?_⟩ rfl, _, rfl⟩
          have := HT.out b (by rw [List.take_length]; exact hb)
          simpa using this
end Go.Proofs.Ytpeafahajpfcbaa
