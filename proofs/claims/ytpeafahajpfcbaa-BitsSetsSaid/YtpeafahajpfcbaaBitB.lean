/- Layer 6 (bits): how many bits are 1; whether bytes are a field; a bit set. By contracts. -/
import Derived.Test.YtpeafahajpfcbaaBitA
import Derived.Test.YtpeafahajpfcbaaBytesV
import Derived.Lib.BitFns
namespace Go.Proofs.Ytpeafahajpfcbaa
open Go.RowKit
set_option linter.unusedVariables false
set_option linter.unusedSimpArgs false

theorem pop_int (x : Nat) (h : x < 256) : IntKind.i64.wrap (Lib.pop8 (x : Int)) = (Lib.onesCount x : Int) := by
  have e := Lib.pop8_eq ⟨x, h⟩
  have l := Lib.onesCount_le8 ⟨x, h⟩
  simp only at e l
  rw [e]
  exact IntWalk.i64_in _ (by omega)

set_option maxRecDepth 100000 in
theorem pop_ok (x : Nat) (w : World) (h : x < 256) :
    Calls Try.prog 26 #[.int .u8 (x : Int)] w fun e w' => e = .returned (.int .i64 (Lib.onesCount x : Int)) ∧ w = w' := by
  have hp := pop_int x h
  have h0 : (0 : Int) ≤ (x : Int) := by omega
  have h1 : (x : Int) ≤ 255 := by omega
  go_enter Try.func26, Try.ntmps26
  go_wp2
  generalize Lib.onesCount x = z
  go_ret
  exact ⟨rfl, rfl⟩

set_option maxRecDepth 100000 in
theorem count_ok (xs : List Nat) (S : Nat → Prop) (A : Option Addr) (c : Nat) (w : World) (hx : Lies w S A xs) (hb : ∀ x ∈ xs, x < 256) (hl : xs.length ≤ 100000) :
    Calls Try.prog 18 #[.slice A xs.length c] w fun e w' => e = .returned (.int .i64 (ones xs (8 * xs.length) : Int)) ∧ w = w' := by
  have HB := Lib.hid hb
  clear hb
  go_enter Try.func18, Try.ntmps18
  go_wp2
  go_loopw [3, 8] (fun sv iv wr => ∃ k s : Nat, k ≤ xs.length ∧ iv = .int .i64 (k : Int) ∧ sv = .int .i64 (s : Int) ∧ Hid (s = ones xs (8 * k)) ∧ s ≤ 8 * k ∧ wr = w) (fun _ iv _ => xs.length - (intOf iv).toNat)
  case atStart => exact ⟨0, 0, Nat.zero_le _, rfl, rfl, by show _ = _; rw [ones_zero], Nat.zero_le _, rfl⟩
  case round =>
    obtain ⟨k, s, hk, rfl, rfl, HS, hs, rfl⟩ := hrel
    by_cases hlt : k < xs.length
    · obtain ⟨a, rfl, hS, hc⟩ := hx.get hlt
      have hkI : (k : Int) < (xs.length : Int) := by omega
      have hxb := HB.out xs[k] (List.getElem_mem hlt)
      have hob := ones_byte HB.out k
      have eg : xs.getD k 0 = xs[k] := by simp [hlt]
      rw [eg] at hob
      obtain ⟨x, hxx⟩ : ∃ x, xs[k] = x := ⟨_, rfl⟩
      rw [hxx] at hc hxb hob
      have hle := Lib.onesCount_le8 ⟨x, hxb⟩
      simp only at hle
      have kp := fun W => pop_ok x W hxb
      obtain ⟨z, hz⟩ : ∃ z, Lib.onesCount x = z := ⟨_, rfl⟩
      rw [hz] at hob hle kp
      have HO := Lib.hid hob
      clear hob hxx eg
      go_wp2_with (go_at_call 26; refine (kp _).mono ?_; rintro e w' ⟨rfl, rfl⟩)
      go_roundw
      case rel => exact ⟨k + 1, s + z, by omega, by go_num, by go_num, by show _ = _; rw [HO.out, HS.out], by omega, trivial⟩
      case measure => simp [intOf]; omega
    · obtain rfl : k = xs.length := by omega
      go_wp2
      go_ret
      exact ⟨by rw [HS.out]; rfl, rfl⟩

/-- A field of n bits, for any whole number n. -/
def FieldI (xs : List Nat) (n : Int) : Prop := 0 ≤ n ∧ IsField xs n.toNat

theorem first_cell (w : World) (C : Array Value) (t : TypeId) (v : Value) (h : C[0]? = some v) : (w.alloc (.cells C t)).cell? ((⟨w.heap.size, 0, none⟩ : Addr).add 0) = some v := new_row w C t 0 v h
theorem handed_one {w : World} {S : Nat → Prop} {A : Option Addr} {xs : List Nat} (c : Nat) (t : TypeId) (h : Lies w S A xs) (hb : ∀ x ∈ xs, x < 256) :
    Handed (w.alloc (.cells #[.slice A xs.length c] t)) ⟨w.heap.size, 0, none⟩ [⟨A, xs, c⟩] := by
  intro k b hk
  cases k with
  | zero =>
    simp at hk
    subst hk
    exact ⟨first_cell w #[.slice A xs.length c] t (.slice A xs.length c) rfl, ⟨S, h.grown (grown_alloc w _ none) (by simp)⟩, hb⟩
  | succ k => simp at hk
theorem handed_two {w : World} {S S' : Nat → Prop} {A A' : Option Addr} {xs ys : List Nat} (c c' : Nat) (t : TypeId) (h : Lies w S A xs) (hb : ∀ x ∈ xs, x < 256) (h' : Lies w S' A' ys) (hb' : ∀ x ∈ ys, x < 256) :
    Handed (w.alloc (.cells #[.slice A xs.length c, .slice A' ys.length c'] t)) ⟨w.heap.size, 0, none⟩ [⟨A, xs, c⟩, ⟨A', ys, c'⟩] := by
  intro k b hk
  cases k with
  | zero =>
    simp at hk
    subst hk
    exact ⟨first_cell w #[.slice A xs.length c, .slice A' ys.length c'] t (.slice A xs.length c) rfl, ⟨S, h.grown (grown_alloc w _ none) (by simp)⟩, hb⟩
  | succ k =>
    cases k with
    | zero =>
      simp at hk
      subst hk
      refine ⟨?_, ⟨S', h'.grown (grown_alloc w _ none) (by simp)⟩, hb'⟩
      rw [Addr.add_mid]
      exact new_row w #[.slice A xs.length c, .slice A' ys.length c'] t 1 (.slice A' ys.length c') rfl
    | succ k => simp at hk

theorem one_field (xs : List Nat) (A : Option Addr) (c : Nat) (n : Int) : (0 ≤ n ∧ n ≤ 256 ∧ ∀ b ∈ [(⟨A, xs, c⟩ : BV)], IsField b.bs n.toNat) ↔ FieldI xs n := by
  unfold FieldI
  constructor
  · rintro ⟨h0, _, h⟩
    exact ⟨h0, h ⟨A, xs, c⟩ (by simp)⟩
  · rintro ⟨h0, h⟩
    refine ⟨h0, ?_, ?_⟩
    · have := h.1; omega
    · intro b hb; simp at hb; subst hb; exact h
theorem two_field (xs ys : List Nat) (A A' : Option Addr) (c c' : Nat) (n : Int) : (0 ≤ n ∧ n ≤ 256 ∧ ∀ b ∈ [(⟨A, xs, c⟩ : BV), ⟨A', ys, c'⟩], IsField b.bs n.toNat) ↔ FieldI xs n ∧ FieldI ys n := by
  unfold FieldI
  constructor
  · rintro ⟨h0, _, h⟩
    exact ⟨⟨h0, h ⟨A, xs, c⟩ (by simp)⟩, h0, h ⟨A', ys, c'⟩ (by simp)⟩
  · rintro ⟨⟨h0, h⟩, _, h'⟩
    refine ⟨h0, ?_, ?_⟩
    · have := h.1; omega
    · intro b hb
      simp at hb
      rcases hb with rfl | rfl
      · exact h
      · exact h'

theorem fields_yes {all : List BV} {a : Addr} {c : Nat} {n : Int} {w : World} (ha : Handed w a all) (hl : all.length ≤ 100) (h : 0 ≤ n ∧ n ≤ 256 ∧ ∀ b ∈ all, IsField b.bs n.toNat) :
    Calls Try.prog 24 #[.int .i64 n, .slice (some a) all.length c] w fun e w' => e = .returned (.bool true) ∧ ∃ q, w' = w.drewN q :=
  (fields_ok all a c n w ha hl).mono fun e w' ⟨⟨r, he, hr⟩, hq⟩ => ⟨by rw [he, hr.2 h], hq⟩
theorem fields_no {all : List BV} {a : Addr} {c : Nat} {n : Int} {w : World} (ha : Handed w a all) (hl : all.length ≤ 100) (h : ¬ (0 ≤ n ∧ n ≤ 256 ∧ ∀ b ∈ all, IsField b.bs n.toNat)) :
    Calls Try.prog 24 #[.int .i64 n, .slice (some a) all.length c] w fun e w' => e = .returned (.bool false) ∧ ∃ q, w' = w.drewN q :=
  (fields_ok all a c n w ha hl).mono fun e w' ⟨⟨r, he, hr⟩, hq⟩ => ⟨by
    cases r with
    | true => exact absurd (hr.1 rfl) h
    | false => exact he, hq⟩

theorem check_yes (xs : List Nat) (S : Nat → Prop) (A : Option Addr) (c : Nat) (n : Int) (w : World) (hx : Lies w S A xs) (hb : ∀ x ∈ xs, x < 256) (h : FieldI xs n) :
    Calls Try.prog 15 #[.slice A xs.length c, .int .i64 n] w fun e w' => e = .returned (.int .i64 0) ∧ Below w.heap.size w w' := by
  have kf := fields_yes (c := 1) (n := n) (handed_one c 24 hx hb) (by simp) ((one_field xs A c n).2 h)
  clear h hb
  go_enter Try.func15, Try.ntmps15
  go_wp2_with (go_at_call 24; refine kf.mono ?_; clear kf; rintro e w' ⟨rfl, q, rfl⟩)
  go_ret
  exact ⟨rfl, below_drewN ((Below.refl _ w).alloc (Nat.le_refl _) _) _⟩
theorem check_no (xs : List Nat) (S : Nat → Prop) (A : Option Addr) (c : Nat) (n : Int) (w : World) (hx : Lies w S A xs) (hb : ∀ x ∈ xs, x < 256) (h : ¬ FieldI xs n) :
    Calls Try.prog 15 #[.slice A xs.length c, .int .i64 n] w fun e w' => e = .returned (.int .i64 60) ∧ Below w.heap.size w w' := by
  have kf := fields_no (c := 1) (n := n) (handed_one c 24 hx hb) (by simp) (fun hh => h ((one_field xs A c n).1 hh))
  clear h hb
  go_enter Try.func15, Try.ntmps15
  go_wp2_with (go_at_call 24; refine kf.mono ?_; clear kf; rintro e w' ⟨rfl, q, rfl⟩)
  go_ret
  exact ⟨rfl, below_drewN ((Below.refl _ w).alloc (Nat.le_refl _) _) _⟩

/-- Bytes with a bit 1. -/
def setBit (xs : List Nat) (i : Nat) : List Nat := xs.set (i / 8) (xs.getD (i / 8) 0 ||| pw i)
theorem setBit_at {xs : List Nat} {i : Nat} (h : i / 8 < xs.length) (k : Nat) : bitAt (setBit xs i) k = (bitAt xs k || decide (k = i)) := bit_set h k
theorem setBit_len (xs : List Nat) (i : Nat) : (setBit xs i).length = xs.length := by simp [setBit]
theorem set_all {xs : List Nat} {j v : Nat} (h : ∀ x ∈ xs, x < 256) (hv : v < 256) : ∀ x ∈ xs.set j v, x < 256 := fun x hx => by
  rcases List.mem_or_eq_of_mem_set hx with h1 | h1
  · exact h x h1
  · rw [h1]; exact hv
theorem setBit_all {xs : List Nat} {i : Nat} (h : ∀ x ∈ xs, x < 256) : ∀ x ∈ setBit xs i, x < 256 := set_all h (or_lt (getD_byte h _) (pw_lt i))
theorem u8s_set (xs : List Nat) (j v : Nat) : (u8s xs).set j (.int .u8 (v : Int)) = u8s (xs.set j v) := by unfold u8s; rw [List.map_set]

theorem set_not (xs : List Nat) (S : Nat → Prop) (A : Option Addr) (c : Nat) (i : Int) (w : World) (hx : Lies w S A xs) (hl : xs.length ≤ 140737488355328) (h1 : i ≤ 9223372036854775807) (h : ¬ (0 ≤ i ∧ i.toNat / 8 < xs.length)) :
    Calls Try.prog 21 #[.slice A xs.length c, .int .i64 i] w fun e w' => ∃ v, e = .returned (.tuple #[v, .bool false]) ∧ w'.ownsRow w.heap.size 5 1 v xs.length (u8s xs) ∧ Below w.heap.size w w' := by
  have k1 := clone_is xs S A c w hx hl
  have k2 := fun W => has_no xs A c i W h h1
  clear h
  go_enter Try.func21, Try.ntmps21
  go_wp2_with (first
    | (go_at_call 27; refine k1.mono ?_; clear k1; rintro e w1 ⟨v, rfl, hown, hb1⟩)
    | (go_at_call 25; refine (k2 _).mono ?_; clear k2; rintro e w' ⟨rfl, rfl⟩))
  refine bodyPost_ret (v := .tuple #[v, .bool false]) (by simp [results, Try.results21, go_sem]) rfl ⟨_, rfl, hown, hb1⟩

theorem own_cons {w : World} {base : Nat} {e : TypeId} {v : Value} {n : Nat} {xs : List Value} (h : w.ownsRow base e 1 v n xs) (h0 : 0 < n) :
    ∃ g c, v = .slice (some ⟨g, 0, none⟩) n c ∧ base ≤ g ∧ g < w.heap.size := by
  rcases h.2 with ⟨rfl, rfl⟩ | ⟨g, cap, cur, rfl, hg, hh, hnc, hcm, hs, ht⟩
  · omega
  · exact ⟨g, cap, rfl, hg, (h.lt g rfl).2⟩

theorem own_cell {w : World} {base g n c j : Nat} {e : TypeId} {xs : List Value} {v : Value} (h : w.ownsRow base e 1 (.slice (some ⟨g, 0, none⟩) n c) n xs) (hj : xs[j]? = some v) : w.cell? ⟨g, j, none⟩ = some v := by
  have := h.cells (g := g) rfl j v hj
  rwa [Addr.add_mid, Nat.zero_add] at this

set_option maxRecDepth 100000 in
set_option maxHeartbeats 1000000 in
theorem set_ok (xs : List Nat) (S : Nat → Prop) (A : Option Addr) (c : Nat) (n : Nat) (w : World) (hx : Lies w S A xs) (hb : ∀ x ∈ xs, x < 256) (hl : xs.length ≤ 140737488355328) (h1 : n ≤ 9223372036854775807) (h : n / 8 < xs.length) :
    Calls Try.prog 21 #[.slice A xs.length c, .int .i64 (n : Int)] w fun e w' => ∃ v, e = .returned (.tuple #[v, .bool true]) ∧ w'.ownsRow w.heap.size 5 1 v xs.length (u8s (setBit xs n)) ∧ Below w.heap.size w w' := by
  have k1 := clone_is xs S A c w hx hl
  have k2 := fun W => has_yes xs A c n W h h1
  have k3 := fun W => value_ok n W h1
  have eg : xs.getD (n / 8) 0 = xs[n / 8] := by simp [h]
  have hxb := hb xs[n / 8] (List.getElem_mem h)
  have hor := or_bytes hxb (pw_lt n)
  have hse : setBit xs n = xs.set (n / 8) (xs[n / 8] ||| pw n) := by unfold setBit; rw [eg]
  have hu := u8s_get h
  obtain ⟨x, hxx⟩ : ∃ x, xs[n / 8] = x := ⟨_, rfl⟩
  obtain ⟨p, hp⟩ : ∃ p, pw n = p := ⟨_, rfl⟩
  rw [hxx, hp] at hor hse
  rw [hxx] at hu
  rw [hp] at k3
  have HSE := Lib.hid hse
  have HU := Lib.hid hu
  have hnI : (n : Int) / 8 < (xs.length : Int) := by omega
  have h0 : (0 : Int) ≤ (n : Int) := by omega
  have hq0 : (0 : Int) ≤ (n : Int) / 8 := by omega
  have hqn : ((n : Int) / 8).toNat = n / 8 := by omega
  have hwq : IntKind.i64.wrap ((n : Int) / 8) = (n : Int) / 8 := IntWalk.i64_in _ (by omega)
  have htd : (n : Int).tdiv 8 = (n : Int) / 8 := Int.tdiv_eq_ediv_of_nonneg h0
  obtain ⟨z, hz⟩ : ∃ z : Nat, x ||| p = z := ⟨_, rfl⟩
  rw [hz] at hor
  have HZ := Lib.hid hz
  have hlen0 : 0 < xs.length := by omega
  clear hse hu hxx hp eg hb hxb hz
  go_enter Try.func21, Try.ntmps21
  go_wp2_with (first
    | (go_at_call 27; refine k1.mono ?_; clear k1; rintro e w1 ⟨v, rfl, hown, hb1⟩; obtain ⟨g, cv, rfl, hg, hgl⟩ := own_cons hown hlen0; have hcD : w1.cell? ⟨g, n / 8, none⟩ = some (.int .u8 (x : Int)) := own_cell hown HU.out; have hfD : w1.frozen? ⟨g, n / 8, none⟩ = false := hown.frozenAt (n / 8); have HOWN := Lib.hid hown; clear hown)
    | (go_at_call 25; refine (k2 _).mono ?_; clear k2; rintro e w' ⟨rfl, rfl⟩))
  go_region_with (go_at_call 23; refine (k3 _).mono ?_; rintro e w' ⟨rfl, rfl⟩)
  all_goals
    go_wp2
    refine bodyPost_ret (v := .tuple #[.slice (some ⟨g, 0, none⟩) xs.length cv, .bool true]) (by simp [results, Try.results21, go_sem]) rfl ⟨_, rfl, ?_, below_drewN (hb1.setCell hg _) 1⟩
    rw [HSE.out, HZ.out, ← u8s_set]
    exact own_drewN (World.ownsRow.stored HOWN.out (n / 8) _).1 1
end Go.Proofs.Ytpeafahajpfcbaa
