/- Layer 6 (bits): a field's size, a bit's value, whether bytes have a bit, and whether it is 1. By contracts. · Layer 6 (bits): how many bits are 1; whether bytes are a field; a bit set. By contracts. · Layer 6 (bits): a field packed, unpacked, two joined. By contracts. -/
import Derived.Test.YtcggcnegagogkaaBytes
import Derived.Test.YtcggcnegagogkaaBvM
import Derived.Test.YtcggcnegagogkaaBitM
import Derived.Test.YtcggcnegagogkaaProg
import Derived.OwnWalk
import Derived.BigQuiet
import Derived.Lib.Tables
import Derived.Test.YtcggcnegagogkaaBytesV
import Derived.Lib.BitFns
import Derived.Deep.CutBlock
namespace Go.Proofs.Ytcggcnegagogkaa
open Go.RowKit
set_option linter.unusedVariables false
set_option linter.unusedSimpArgs false

/-- A bit's value in its byte. -/
def pw (n : Nat) : Nat := 2 ^ (n % 8)
theorem pw_lt (n : Nat) : pw n < 256 := pow_lt8 (by omega)
theorem pw_shl (n : Nat) : (2 : Int) ^ (n % 8) % 256 = ((pw n : Nat) : Int) := by
  have h := pw_lt n
  have e : (2 : Int) ^ (n % 8) = ((pw n : Nat) : Int) := by unfold pw; simp
  rw [e]
  omega

set_option maxRecDepth 100000 in
theorem value_ok (n : Nat) (w : World) (hn : n ≤ 9223372036854775807) :
    Calls Try.prog 29 #[.int .i64 (n : Int)] w fun e w' => e = .returned (.int .u8 ((pw n : Nat) : Int)) ∧ w = w' := by
  have h0 : (0 : Int) ≤ (n : Int) := by omega
  go_enter Try.func29, Try.ntmps29
  go_wp2
  rw [pw_shl]
  generalize pw n = p
  go_ret
  exact ⟨rfl, rfl⟩

theorem has_no (xs : List Nat) (A : Option Addr) (c : Nat) (i : Int) (w : World) (h : ¬ (0 ≤ i ∧ i.toNat / 8 < xs.length)) (h1 : i ≤ 9223372036854775807) :
    Calls Try.prog 28 #[.slice A xs.length c, .int .i64 i] w fun e w' => e = .returned (.bool false) ∧ w = w' := by
  by_cases h0 : 0 ≤ i
  · obtain ⟨n, rfl⟩ := Int.eq_ofNat_of_zero_le h0
    have hI : (xs.length : Int) ≤ (n : Int) / 8 := by simp at h; omega
    have hD : decide ((n : Int) / 8 < (xs.length : Int)) = false := decide_eq_false (by omega)
    clear h
    go_enter Try.func28, Try.ntmps28
    go_wp2
    go_ret
    exact ⟨rfl, rfl⟩
  · have hI : i < 0 := by omega
    clear h h0
    go_enter Try.func28, Try.ntmps28
    go_wp2
    go_ret
    exact ⟨rfl, rfl⟩

theorem has_yes (xs : List Nat) (A : Option Addr) (c : Nat) (n : Nat) (w : World) (h : n / 8 < xs.length) (h1 : n ≤ 9223372036854775807) :
    Calls Try.prog 28 #[.slice A xs.length c, .int .i64 (n : Int)] w fun e w' => e = .returned (.bool true) ∧ w = w' := by
  have hI : (n : Int) / 8 < (xs.length : Int) := by omega
  have h0 : (0 : Int) ≤ (n : Int) := by omega
  have hD : decide ((n : Int) / 8 < (xs.length : Int)) = true := decide_eq_true hI
  clear h
  go_enter Try.func28, Try.ntmps28
  go_wp2
  go_ret
  exact ⟨rfl, rfl⟩

/-- The i-th bit, for any whole number. -/
def bitI (xs : List Nat) (i : Int) : Bool := decide (0 ≤ i) && bitAt xs i.toNat
theorem bitI_nat (xs : List Nat) (n : Nat) : bitI xs (n : Int) = bitAt xs n := by simp [bitI]
theorem bitI_out {xs : List Nat} {i : Int} (h : ¬ (0 ≤ i ∧ i.toNat / 8 < xs.length)) : bitI xs i = false := by
  unfold bitI
  by_cases h0 : 0 ≤ i
  · rw [bit_out (by omega)]; simp
  · simp [h0]
theorem bit_test (xs : List Nat) (n : Nat) : ((xs.getD (n / 8) 0 &&& pw n : Nat) : Int) ≠ 0 ↔ bitAt xs n = true := by
  unfold bitAt pw
  have h := and_pow_zero (xs.getD (n / 8) 0) (n % 8)
  constructor
  · intro h1
    cases e : (xs.getD (n / 8) 0).testBit (n % 8) with
    | true => rfl
    | false => exact absurd (by rw [h.2 e]; rfl) h1
  · intro h1 h2
    rw [h.1 (by omega)] at h1
    cases h1

set_option maxRecDepth 100000 in
theorem get_ok (xs : List Nat) (S : Nat → Prop) (A : Option Addr) (c : Nat) (i : Int) (w : World) (hx : Lies w S A xs) (hb : ∀ x ∈ xs, x < 256) (h1 : i ≤ 9223372036854775807) :
    Calls Try.prog 17 #[.slice A xs.length c, .int .i64 i] w fun e w' => e = .returned (.bool (bitI xs i)) ∧ ∃ q, w' = w.drewN q := by
  by_cases h : 0 ≤ i ∧ i.toNat / 8 < xs.length
  · obtain ⟨n, rfl⟩ := Int.eq_ofNat_of_zero_le h.1
    have hn : n / 8 < xs.length := by simpa using h.2
    clear h
    have kv := fun W => value_ok n W (by omega)
    have kh := fun W => has_yes xs A c n W hn (by omega)
    rw [bitI_nat]
    obtain ⟨a, rfl, hS, hc⟩ := hx.get hn
    have hxb := hb xs[n / 8] (List.getElem_mem hn)
    have hand := and_pow hxb (n % 8) (by omega)
    have htest := bit_test xs n
    have eg : xs.getD (n / 8) 0 = xs[n / 8] := by simp [hn]
    rw [eg] at htest
    obtain ⟨x, hxx⟩ : ∃ x, xs[n / 8] = x := ⟨_, rfl⟩
    rw [hxx] at hc htest hand hxb
    have hnI : (n : Int) / 8 < (xs.length : Int) := by omega
    have h0 : (0 : Int) ≤ (n : Int) := by omega
    have hq0 : (0 : Int) ≤ (n : Int) / 8 := by omega
    have hqn : ((n : Int) / 8).toNat = n / 8 := by omega
    have hand2 : bits .and .u8 (x : Int) ((pw n : Nat) : Int) = ((x &&& pw n : Nat) : Int) := hand
    obtain ⟨p, hp⟩ : ∃ p, pw n = p := ⟨_, rfl⟩
    rw [hp] at hand2 htest kv
    clear hand hxx hn eg
    obtain ⟨z, hz⟩ : ∃ z : Nat, x &&& p = z := ⟨_, rfl⟩
    rw [hz] at hand2 htest
    have HT := Lib.hid htest
    clear htest hz
    go_enter Try.func17, Try.ntmps17
    go_wp2
    go_quiet (first
      | (go_at_call 28; exact quiet_one (kh _))
      | (go_at_call 29; exact quiet_one (kv _)))
    go_wp2
    go_ret
    refine ⟨congrArg Ending.returned (congrArg Value.bool ?_), nq, rfl⟩
    have h := HT.out
    cases hb2 : bitAt xs n with
    | true => simpa using h.2 hb2
    | false =>
      rw [hb2] at h
      simpa using h
  · rw [bitI_out h]
    have kh := fun W => has_no xs A c i W h h1
    clear h
    go_enter Try.func17, Try.ntmps17
    go_wp2
    go_quiet (first
      | (go_at_call 28; exact quiet_one (kh _)))
    go_wp2
    go_ret
    exact ⟨rfl, _, rfl⟩

/-- Whether something stands behind the n-th bit. -/
def Beh (xs : List Nat) (n : Nat) : Prop := 0 < n % 8 ∧ pw n ≤ xs.getD (n / 8) 0

/-- An answer yes or no, to a question. -/
def Answers (p : Prop) (e : Ending) : Prop := ∃ r : Bool, e = .returned (.bool r) ∧ (r = true ↔ p)
theorem answer_yes {p : Prop} {e : Ending} (h : p) (he : e = .returned (.bool true)) : Answers p e := ⟨true, he, ⟨fun _ => h, fun _ => rfl⟩⟩
theorem answer_no {p : Prop} {e : Ending} (h : ¬ p) (he : e = .returned (.bool false)) : Answers p e := ⟨false, he, ⟨fun h => (by simp at h), fun h2 => (h h2).elim⟩⟩

/-- The bytes that are handed over lie in memory. -/
def Handed (w : World) (a : Addr) (all : List BV) : Prop :=
  ∀ k b, all[k]? = some b → w.cell? (a.add k) = some (.slice b.row b.bs.length b.cap) ∧ (∃ S, Lies w S b.row b.bs) ∧ ∀ x ∈ b.bs, x < 256

theorem Lies.drewN {w : World} {S : Nat → Prop} {A : Option Addr} {xs : List Nat} (h : Lies w S A xs) (q : Nat) : Lies (w.drewN q) S A xs := h

theorem field_iff {xs : List Nat} {n : Nat} (hn : n ≤ 256) (hb : ∀ x ∈ xs, x < 256) : IsField xs n ↔ (xs.length = (n + 7) / 8 ∧ ¬ Beh xs n) := by
  unfold IsField Beh pw
  constructor
  · rintro ⟨_, h1, h2⟩
    exact ⟨h1, (behind_iff h1 hb).1 h2⟩
  · rintro ⟨h1, h2⟩
    exact ⟨hn, h1, (behind_iff h1 hb).2 h2⟩

end Go.Proofs.Ytcggcnegagogkaa
namespace Go.Proofs.Ytcggcnegagogkaa
open Go.RowKit
set_option linter.unusedVariables false
set_option linter.unusedSimpArgs false

theorem pop_int (x : Nat) (h : x < 256) : IntKind.i64.wrap (Lib.pop8 (x : Int)) = (Lib.onesCount x : Int) := by
  have e := Lib.pop8_eq ⟨x, h⟩
  have l := Lib.onesCount_le8 ⟨x, h⟩
  simp only at e l
  rw [e]
  exact IntWalk.i64_in _ (by omega)

/-- A field of n bits, for any whole number n. -/
def FieldI (xs : List Nat) (n : Int) : Prop := 0 ≤ n ∧ IsField xs n.toNat

theorem first_cell (w : World) (C : Array Value) (t : TypeId) (v : Value) (h : C[0]? = some v) : (w.alloc (.cells C t)).cell? ((⟨w.heap.size, 0, none⟩ : Addr).add 0) = some v := new_row w C t 0 v h
theorem handed_one {w : World} {S : Nat → Prop} {A : Option Addr} {xs : List Nat} (c : Nat) (t : TypeId) (h : Lies w S A xs) (hb : ∀ x ∈ xs, x < 256) :
    Handed (w.alloc (.cells #[.slice A xs.length c] t)) ⟨w.heap.size, 0, none⟩ [⟨A, xs, c⟩] := by
  intro k b hk
  cases k with
  | zero =>
    simp at hk
    subst hk
    exact ⟨first_cell w #[.slice A xs.length c] t (.slice A xs.length c) rfl, ⟨S, h.grown (grown_alloc w _ none) (by simp)⟩, hb⟩
  | succ k => simp at hk
theorem handed_two {w : World} {S S' : Nat → Prop} {A A' : Option Addr} {xs ys : List Nat} (c c' : Nat) (t : TypeId) (h : Lies w S A xs) (hb : ∀ x ∈ xs, x < 256) (h' : Lies w S' A' ys) (hb' : ∀ x ∈ ys, x < 256) :
    Handed (w.alloc (.cells #[.slice A xs.length c, .slice A' ys.length c'] t)) ⟨w.heap.size, 0, none⟩ [⟨A, xs, c⟩, ⟨A', ys, c'⟩] := by
  intro k b hk
  cases k with
  | zero =>
    simp at hk
    subst hk
    exact ⟨first_cell w #[.slice A xs.length c, .slice A' ys.length c'] t (.slice A xs.length c) rfl, ⟨S, h.grown (grown_alloc w _ none) (by simp)⟩, hb⟩
  | succ k =>
    cases k with
    | zero =>
      simp at hk
      subst hk
      refine ⟨?_, ⟨S', h'.grown (grown_alloc w _ none) (by simp)⟩, hb'⟩
      rw [Addr.add_mid]
      exact new_row w #[.slice A xs.length c, .slice A' ys.length c'] t 1 (.slice A' ys.length c') rfl
    | succ k => simp at hk

theorem one_field (xs : List Nat) (A : Option Addr) (c : Nat) (n : Int) : (0 ≤ n ∧ n ≤ 256 ∧ ∀ b ∈ [(⟨A, xs, c⟩ : BV)], IsField b.bs n.toNat) ↔ FieldI xs n := by
  unfold FieldI
  constructor
  · rintro ⟨h0, _, h⟩
    exact ⟨h0, h ⟨A, xs, c⟩ (by simp)⟩
  · rintro ⟨h0, h⟩
    refine ⟨h0, ?_, ?_⟩
    · have := h.1; omega
    · intro b hb; simp at hb; subst hb; exact h
theorem two_field (xs ys : List Nat) (A A' : Option Addr) (c c' : Nat) (n : Int) : (0 ≤ n ∧ n ≤ 256 ∧ ∀ b ∈ [(⟨A, xs, c⟩ : BV), ⟨A', ys, c'⟩], IsField b.bs n.toNat) ↔ FieldI xs n ∧ FieldI ys n := by
  unfold FieldI
  constructor
  · rintro ⟨h0, _, h⟩
    exact ⟨⟨h0, h ⟨A, xs, c⟩ (by simp)⟩, h0, h ⟨A', ys, c'⟩ (by simp)⟩
  · rintro ⟨⟨h0, h⟩, _, h'⟩
    refine ⟨h0, ?_, ?_⟩
    · have := h.1; omega
    · intro b hb
      simp at hb
      rcases hb with rfl | rfl
      · exact h
      · exact h'

/-- Bytes with a bit 1. -/
def setBit (xs : List Nat) (i : Nat) : List Nat := xs.set (i / 8) (xs.getD (i / 8) 0 ||| pw i)
theorem setBit_at {xs : List Nat} {i : Nat} (h : i / 8 < xs.length) (k : Nat) : bitAt (setBit xs i) k = (bitAt xs k || decide (k = i)) := bit_set h k
theorem setBit_len (xs : List Nat) (i : Nat) : (setBit xs i).length = xs.length := by simp [setBit]
theorem set_all {xs : List Nat} {j v : Nat} (h : ∀ x ∈ xs, x < 256) (hv : v < 256) : ∀ x ∈ xs.set j v, x < 256 := fun x hx => by
  rcases List.mem_or_eq_of_mem_set hx with h1 | h1
  · exact h x h1
  · rw [h1]; exact hv
theorem setBit_all {xs : List Nat} {i : Nat} (h : ∀ x ∈ xs, x < 256) : ∀ x ∈ setBit xs i, x < 256 := set_all h (or_lt (getD_byte h _) (pw_lt i))
theorem u8s_set (xs : List Nat) (j v : Nat) : (u8s xs).set j (.int .u8 (v : Int)) = u8s (xs.set j v) := by unfold u8s; rw [List.map_set]

theorem own_cons {w : World} {base : Nat} {e : TypeId} {v : Value} {n : Nat} {xs : List Value} (h : w.ownsRow base e 1 v n xs) (h0 : 0 < n) :
    ∃ g c, v = .slice (some ⟨g, 0, none⟩) n c ∧ base ≤ g ∧ g < w.heap.size := by
  rcases h.2 with ⟨rfl, rfl⟩ | ⟨g, cap, cur, rfl, hg, hh, hnc, hcm, hs, ht⟩
  · omega
  · exact ⟨g, cap, rfl, hg, (h.lt g rfl).2⟩

theorem own_cell {w : World} {base g n c j : Nat} {e : TypeId} {xs : List Value} {v : Value} (h : w.ownsRow base e 1 (.slice (some ⟨g, 0, none⟩) n c) n xs) (hj : xs[j]? = some v) : w.cell? ⟨g, j, none⟩ = some v := by
  have := h.cells (g := g) rfl j v hj
  rwa [Addr.add_mid, Nat.zero_add] at this

end Go.Proofs.Ytcggcnegagogkaa
namespace Go.Proofs.Ytcggcnegagogkaa
open Go.RowKit
set_option linter.unusedVariables false
set_option linter.unusedSimpArgs false

/-- Whether each is on, as values. -/
def bools (l : List Bool) : List Value := l.map Value.bool
theorem bools_len (l : List Bool) : (bools l).length = l.length := by simp [bools]
theorem bools_get {l : List Bool} {k : Nat} (h : k < l.length) : (bools l)[k]? = some (.bool l[k]) := by simp [bools, h]
theorem bools_set (l : List Bool) (j : Nat) (b : Bool) : (bools l).set j (.bool b) = bools (l.set j b) := by unfold bools; rw [List.map_set]
theorem bools_snoc (l : List Bool) (b : Bool) : bools (l ++ [b]) = bools l ++ [.bool b] := by simp [bools]
theorem bools_zero (n : Nat) : (madeCells #[Value.bool false] n).toList = bools (List.replicate n false) := by
  rw [toList_madeCells_one]; simp [bools]
theorem u8s_zero (n : Nat) : (madeCells #[Value.int .u8 0] n).toList = u8s (List.replicate n 0) := by
  rw [toList_madeCells_one]; simp [u8s]
theorem bool_info : (Try.prog.info? 4).map (fun i => (i.zero, i.size, i.bytes)) = some (some (.bool false), 1, 1) := by kernel_rfl

/-- A row of zeros, made just now. -/
theorem own_zeros {B : Nat} (w : World) (hB : B ≤ w.heap.size) (n : Nat) (hn : n ≤ maxLen) : (w.alloc (.cells (madeCells #[Value.int .u8 0] n) 5)).ownsRow B 5 1 (.slice (some ⟨w.heap.size, 0, none⟩) n n) n (u8s (List.replicate n 0)) := by
  rw [← u8s_zero]
  have h := World.ownsRow_lit w (madeCells #[Value.int .u8 0] n) (base := B) (e := 5) (size := 1) n hB hn (by rw [size_madeCells]; simp)
  simpa using h
theorem own_falses {B : Nat} (w : World) (hB : B ≤ w.heap.size) (n : Nat) (hn : n ≤ maxLen) : (w.alloc (.cells (madeCells #[Value.bool false] n) 4)).ownsRow B 4 1 (.slice (some ⟨w.heap.size, 0, none⟩) n n) n (bools (List.replicate n false)) := by
  rw [← bools_zero]
  have h := World.ownsRow_lit w (madeCells #[Value.bool false] n) (base := B) (e := 4) (size := 1) n hB hn (by rw [size_madeCells]; simp)
  simpa using h

/-- The first k bits, and nothing behind them. -/
def upto (xs : List Nat) (m k : Nat) : List Bool := bitsOf xs k ++ List.replicate (m - k) false
theorem upto_zero (xs : List Nat) (m : Nat) : upto xs m 0 = List.replicate m false := by simp [upto, bitsOf]
theorem upto_full (xs : List Nat) (m : Nat) : upto xs m m = bitsOf xs m := by simp [upto]
theorem upto_succ (xs : List Nat) {m k : Nat} (h : k < m) : (upto xs m k).set k (bitAt xs k) = upto xs m (k + 1) := by
  unfold upto
  rw [List.set_append_right _ _ (by rw [bitsOf_len]; exact Nat.le_refl _), bitsOf_len, Nat.sub_self, bitsOf_succ, List.append_assoc]
  congr 1
  rw [show m - k = (m - (k + 1)) + 1 by omega, List.replicate_succ]
  rfl

/-- A field in the midst of being packed: the first k of the list are in. -/
def packN (l : List Bool) : Nat → List Nat
  | 0 => List.replicate ((l.length + 7) / 8) 0
  | k + 1 => if l.getD k false then setBit (packN l k) k else packN l k
/-- A list's field. -/
def packed (l : List Bool) : List Nat := packN l l.length
theorem packN_len (l : List Bool) (k : Nat) : (packN l k).length = (l.length + 7) / 8 := by
  induction k with
  | zero => simp [packN]
  | succ k ih => unfold packN; split <;> simp [setBit_len, ih]
theorem packN_all (l : List Bool) (k : Nat) : ∀ x ∈ packN l k, x < 256 := by
  induction k with
  | zero => intro x hx; rw [List.eq_of_mem_replicate hx]; omega
  | succ k ih => unfold packN; split; exact setBit_all ih; exact ih
theorem packN_at (l : List Bool) (k : Nat) (h : k ≤ l.length) (i : Nat) : bitAt (packN l k) i = (decide (i < k) && l.getD i false) := by
  induction k with
  | zero =>
    simp only [packN, bitAt]
    have e : (List.replicate ((l.length + 7) / 8) 0).getD (i / 8) 0 = 0 := by rw [List.getD_eq_getElem?_getD, List.getElem?_replicate]; split <;> rfl
    rw [e, Nat.zero_testBit]
    simp
  | succ k ih =>
    have ih := ih (by omega)
    unfold packN
    split
    · rename_i hb
      rw [setBit_at (by rw [packN_len]; omega), ih]
      by_cases e : i = k
      · subst e; rw [hb]; simp
      · have : (i < k + 1) ↔ i < k := by omega
        simp [this, e]
    · rename_i hb
      rw [ih]
      by_cases e : i = k
      · subst e
        have : l.getD i false = false := by simpa using hb
        rw [this]; simp
      · have : (i < k + 1) ↔ i < k := by omega
        simp [this]
theorem packed_len (l : List Bool) : (packed l).length = (l.length + 7) / 8 := packN_len l _
theorem packed_all (l : List Bool) : ∀ x ∈ packed l, x < 256 := packN_all l _
theorem packed_at (l : List Bool) (i : Nat) : bitAt (packed l) i = l.getD i false := by
  unfold packed
  rw [packN_at l _ (Nat.le_refl _)]
  by_cases h : i < l.length
  · simp [h]
  · rw [getD_past _ (by omega)]; simp
theorem packed_is {l : List Bool} {ys : List Nat} (hl : ys.length = (l.length + 7) / 8) (hb : ∀ x ∈ ys, x < 256) (h : ∀ k, bitAt ys k = l.getD k false) : ys = packed l :=
  bits_ext (by rw [hl, packed_len]) hb (packed_all l) fun k => by rw [h, packed_at]
theorem packed_field {l : List Bool} (h : l.length ≤ 256) : IsField (packed l) l.length := field_of h (packed_len l) (packed_at l)

theorem own_mono {w : World} {B B' : Nat} {e : TypeId} {z : Nat} {v : Value} {n : Nat} {xs : List Value} (h : w.ownsRow B e z v n xs) (hb : B' ≤ B) : w.ownsRow B' e z v n xs :=
  ⟨h.1, h.2.imp id fun ⟨g, cap, cur, h1, h2, h3⟩ => ⟨g, cap, cur, h1, Nat.le_trans hb h2, h3⟩⟩

/-- Bytes in the midst of being joined: the first m are. -/
def joinN (xs ys : List Nat) : Nat → List Nat
  | 0 => xs
  | m + 1 => (joinN xs ys m).set m ((joinN xs ys m).getD m 0 ||| ys.getD m 0)
def joined (xs ys : List Nat) : List Nat := joinN xs ys ys.length
theorem joinN_len (xs ys : List Nat) (m : Nat) : (joinN xs ys m).length = xs.length := by
  induction m with
  | zero => rfl
  | succ m ih => simp [joinN, ih]
theorem joinN_get (xs ys : List Nat) (m : Nat) (h : m ≤ xs.length) (j : Nat) : (joinN xs ys m).getD j 0 = if j < m then xs.getD j 0 ||| ys.getD j 0 else xs.getD j 0 := by
  induction m with
  | zero => simp [joinN]
  | succ m ih =>
    have ih := ih (by omega)
    unfold joinN
    rw [getD_set _ _ _ _ (by rw [joinN_len]; omega)]
    by_cases e : j = m
    · subst e
      rw [if_pos rfl, if_pos (by omega), ih, if_neg (by omega)]
    · rw [if_neg e, ih]
      have : j < m ↔ j < m + 1 := by omega
      simp [this]
theorem joinN_all {xs ys : List Nat} (hx : ∀ x ∈ xs, x < 256) (hy : ∀ x ∈ ys, x < 256) (m : Nat) : ∀ x ∈ joinN xs ys m, x < 256 := by
  induction m with
  | zero => exact hx
  | succ m ih => exact set_all ih (or_lt (getD_byte ih m) (getD_byte hy m))
theorem joined_len (xs ys : List Nat) : (joined xs ys).length = xs.length := joinN_len xs ys _
theorem joined_at {xs ys : List Nat} (hl : xs.length = ys.length) (k : Nat) : bitAt (joined xs ys) k = (bitAt xs k || bitAt ys k) := by
  unfold joined bitAt
  rw [joinN_get _ _ _ (by omega)]
  by_cases h : k / 8 < ys.length
  · rw [if_pos h, Nat.testBit_or]
  · rw [if_neg h, getD_past 0 (show ys.length ≤ k / 8 by omega), Nat.zero_testBit, Bool.or_false]
theorem joined_field {xs ys : List Nat} {n : Nat} (hx : IsField xs n) (hy : IsField ys n) : IsField (joined xs ys) n :=
  ⟨hx.1, by rw [joined_len]; exact hx.2.1, fun k hk => by rw [joined_at (by rw [hx.2.1, hy.2.1]), hx.2.2 k hk, hy.2.2 k hk]; rfl⟩

end Go.Proofs.Ytcggcnegagogkaa
