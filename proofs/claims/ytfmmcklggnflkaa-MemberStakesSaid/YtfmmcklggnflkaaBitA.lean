/- Layer 6 (bits): a field's size, a bit's value, whether bytes have a bit, and whether it is 1. By contracts. -/
import Derived.Test.YtfmmcklggnflkaaBytes
import Derived.Test.YtfmmcklggnflkaaBitM
import Derived.Test.YtfmmcklggnflkaaProg
import Derived.OwnWalk
import Derived.BigQuiet
import Derived.Lib.Tables
namespace Go.Proofs.Ytfmmcklggnflkaa
open Go.RowKit
set_option linter.unusedVariables false
set_option linter.unusedSimpArgs false

/-- A bit's value in its byte. -/
def pw (n : Nat) : Nat := 2 ^ (n % 8)
theorem pw_lt (n : Nat) : pw n < 256 := pow_lt8 (by omega)
theorem pw_shl (n : Nat) : (2 : Int) ^ (n % 8) % 256 = ((pw n : Nat) : Int) := by
  have h := pw_lt n
  have e : (2 : Int) ^ (n % 8) = ((pw n : Nat) : Int) := by unfold pw; simp
  rw [e]
  omega

set_option maxRecDepth 100000 in
theorem value_ok (n : Nat) (w : World) (hn : n ≤ 9223372036854775807) :
    Calls Try.prog 36 #[.int .i64 (n : Int)] w fun e w' => e = .returned (.int .u8 ((pw n : Nat) : Int)) ∧ w = w' := by
  have h0 : (0 : Int) ≤ (n : Int) := by omega
  go_enter Try.func36, Try.ntmps36
  go_wp2
  rw [pw_shl]
  generalize pw n = p
  go_ret
  exact ⟨rfl, rfl⟩

theorem has_no (xs : List Nat) (A : Option Addr) (c : Nat) (i : Int) (w : World) (h : ¬ (0 ≤ i ∧ i.toNat / 8 < xs.length)) (h1 : i ≤ 9223372036854775807) :
    Calls Try.prog 35 #[.slice A xs.length c, .int .i64 i] w fun e w' => e = .returned (.bool false) ∧ w = w' := by
  by_cases h0 : 0 ≤ i
  · obtain ⟨n, rfl⟩ := Int.eq_ofNat_of_zero_le h0
    have hI : (xs.length : Int) ≤ (n : Int) / 8 := by simp at h; omega
    have hD : decide ((n : Int) / 8 < (xs.length : Int)) = false := decide_eq_false (by omega)
    clear h
    go_enter Try.func35, Try.ntmps35
    go_wp2
    go_ret
    exact ⟨rfl, rfl⟩
  · have hI : i < 0 := by omega
    clear h h0
    go_enter Try.func35, Try.ntmps35
    go_wp2
    go_ret
    exact ⟨rfl, rfl⟩

theorem has_yes (xs : List Nat) (A : Option Addr) (c : Nat) (n : Nat) (w : World) (h : n / 8 < xs.length) (h1 : n ≤ 9223372036854775807) :
    Calls Try.prog 35 #[.slice A xs.length c, .int .i64 (n : Int)] w fun e w' => e = .returned (.bool true) ∧ w = w' := by
  have hI : (n : Int) / 8 < (xs.length : Int) := by omega
  have h0 : (0 : Int) ≤ (n : Int) := by omega
  have hD : decide ((n : Int) / 8 < (xs.length : Int)) = true := decide_eq_true hI
  clear h
  go_enter Try.func35, Try.ntmps35
  go_wp2
  go_ret
  exact ⟨rfl, rfl⟩

/-- The i-th bit, for any whole number. -/
def bitI (xs : List Nat) (i : Int) : Bool := decide (0 ≤ i) && bitAt xs i.toNat
theorem bitI_nat (xs : List Nat) (n : Nat) : bitI xs (n : Int) = bitAt xs n := by simp [bitI]
theorem bitI_out {xs : List Nat} {i : Int} (h : ¬ (0 ≤ i ∧ i.toNat / 8 < xs.length)) : bitI xs i = false := by
  unfold bitI
  by_cases h0 : 0 ≤ i
  · rw [bit_out (by omega)]; simp
  · simp [h0]
theorem bit_test (xs : List Nat) (n : Nat) : ((xs.getD (n / 8) 0 &&& pw n : Nat) : Int) ≠ 0 ↔ bitAt xs n = true := by
  unfold bitAt pw
  have h := and_pow_zero (xs.getD (n / 8) 0) (n % 8)
  constructor
  · intro h1
    cases e : (xs.getD (n / 8) 0).testBit (n % 8) with
    | true => rfl
    | false => exact absurd (by rw [h.2 e]; rfl) h1
  · intro h1 h2
    rw [h.1 (by omega)] at h1
    cases h1

set_option maxRecDepth 100000 in
theorem get_ok (xs : List Nat) (S : Nat → Prop) (A : Option Addr) (c : Nat) (i : Int) (w : World) (hx : Lies w S A xs) (hb : ∀ x ∈ xs, x < 256) (h1 : i ≤ 9223372036854775807) :
    Calls Try.prog 18 #[.slice A xs.length c, .int .i64 i] w fun e w' => e = .returned (.bool (bitI xs i)) ∧ ∃ q, w' = w.drewN q := by
  by_cases h : 0 ≤ i ∧ i.toNat / 8 < xs.length
  · obtain ⟨n, rfl⟩ := Int.eq_ofNat_of_zero_le h.1
    have hn : n / 8 < xs.length := by simpa using h.2
    clear h
    have kv := fun W => value_ok n W (by omega)
    have kh := fun W => has_yes xs A c n W hn (by omega)
    rw [bitI_nat]
    obtain ⟨a, rfl, hS, hc⟩ := hx.get hn
    have hxb := hb xs[n / 8] (List.getElem_mem hn)
    have hand := and_pow hxb (n % 8) (by omega)
    have htest := bit_test xs n
    have eg : xs.getD (n / 8) 0 = xs[n / 8] := by simp [hn]
    rw [eg] at htest
    obtain ⟨x, hxx⟩ : ∃ x, xs[n / 8] = x := ⟨_, rfl⟩
    rw [hxx] at hc htest hand hxb
    have hnI : (n : Int) / 8 < (xs.length : Int) := by omega
    have h0 : (0 : Int) ≤ (n : Int) := by omega
    have hq0 : (0 : Int) ≤ (n : Int) / 8 := by omega
    have hqn : ((n : Int) / 8).toNat = n / 8 := by omega
    have hand2 : bits .and .u8 (x : Int) ((pw n : Nat) : Int) = ((x &&& pw n : Nat) : Int) := hand
    obtain ⟨p, hp⟩ : ∃ p, pw n = p := ⟨_, rfl⟩
    rw [hp] at hand2 htest kv
    clear hand hxx hn eg
    obtain ⟨z, hz⟩ : ∃ z : Nat, x &&& p = z := ⟨_, rfl⟩
    rw [hz] at hand2 htest
    have HT := Lib.hid htest
    clear htest hz
    go_enter Try.func18, Try.ntmps18
    go_wp2
    go_quiet (first
      | (go_at_call 35; exact quiet_one (kh _))
      | (go_at_call 36; exact quiet_one (kv _)))
    go_wp2
    go_ret
    refine ⟨congrArg Ending.returned (congrArg Value.bool ?_), nq, rfl⟩
    have h := HT.out
    cases hb2 : bitAt xs n with
    | true => simpa using h.2 hb2
    | false =>
      rw [hb2] at h
      simpa using h
  · rw [bitI_out h]
    have kh := fun W => has_no xs A c i W h h1
    clear h
    go_enter Try.func18, Try.ntmps18
    go_wp2
    go_quiet (first
      | (go_at_call 35; exact quiet_one (kh _)))
    go_wp2
    go_ret
    exact ⟨rfl, _, rfl⟩

/-- Bytes that are handed over among others. -/
structure BV where
  row : Option Addr
  bs : List Nat
  cap : Nat

/-- Whether something stands behind the n-th bit. -/
def Beh (xs : List Nat) (n : Nat) : Prop := 0 < n % 8 ∧ pw n ≤ xs.getD (n / 8) 0

/-- An answer yes or no, to a question. -/
def Answers (p : Prop) (e : Ending) : Prop := ∃ r : Bool, e = .returned (.bool r) ∧ (r = true ↔ p)
theorem answer_yes {p : Prop} {e : Ending} (h : p) (he : e = .returned (.bool true)) : Answers p e := ⟨true, he, ⟨fun _ => h, fun _ => rfl⟩⟩
theorem answer_no {p : Prop} {e : Ending} (h : ¬ p) (he : e = .returned (.bool false)) : Answers p e := ⟨false, he, ⟨fun h => (by simp at h), fun h2 => (h h2).elim⟩⟩

/-- The bytes that are handed over lie in memory. -/
def Handed (w : World) (a : Addr) (all : List BV) : Prop :=
  ∀ k b, all[k]? = some b → w.cell? (a.add k) = some (.slice b.row b.bs.length b.cap) ∧ (∃ S, Lies w S b.row b.bs) ∧ ∀ x ∈ b.bs, x < 256

theorem Lies.drewN {w : World} {S : Nat → Prop} {A : Option Addr} {xs : List Nat} (h : Lies w S A xs) (q : Nat) : Lies (w.drewN q) S A xs := h

theorem field_iff {xs : List Nat} {n : Nat} (hn : n ≤ 256) (hb : ∀ x ∈ xs, x < 256) : IsField xs n ↔ (xs.length = (n + 7) / 8 ∧ ¬ Beh xs n) := by
  unfold IsField Beh pw
  constructor
  · rintro ⟨_, h1, h2⟩
    exact ⟨h1, (behind_iff h1 hb).1 h2⟩
  · rintro ⟨h1, h2⟩
    exact ⟨hn, h1, (behind_iff h1 hb).2 h2⟩

end Go.Proofs.Ytfmmcklggnflkaa
