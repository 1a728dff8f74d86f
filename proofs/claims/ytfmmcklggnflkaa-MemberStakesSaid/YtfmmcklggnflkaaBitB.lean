/- Layer 6 (bits): how many bits are 1; whether bytes are a field; a bit set. By contracts. -/
import Derived.Test.YtfmmcklggnflkaaBitA
import Derived.Test.YtfmmcklggnflkaaBytesV
import Derived.Lib.BitFns
namespace Go.Proofs.Ytfmmcklggnflkaa
open Go.RowKit
set_option linter.unusedVariables false
set_option linter.unusedSimpArgs false

theorem pop_int (x : Nat) (h : x < 256) : IntKind.i64.wrap (Lib.pop8 (x : Int)) = (Lib.onesCount x : Int) := by
  have e := Lib.pop8_eq ⟨x, h⟩
  have l := Lib.onesCount_le8 ⟨x, h⟩
  simp only at e l
  rw [e]
  exact IntWalk.i64_in _ (by omega)

/-- A field of n bits, for any whole number n. -/
def FieldI (xs : List Nat) (n : Int) : Prop := 0 ≤ n ∧ IsField xs n.toNat

theorem first_cell (w : World) (C : Array Value) (t : TypeId) (v : Value) (h : C[0]? = some v) : (w.alloc (.cells C t)).cell? ((⟨w.heap.size, 0, none⟩ : Addr).add 0) = some v := new_row w C t 0 v h
theorem handed_one {w : World} {S : Nat → Prop} {A : Option Addr} {xs : List Nat} (c : Nat) (t : TypeId) (h : Lies w S A xs) (hb : ∀ x ∈ xs, x < 256) :
    Handed (w.alloc (.cells #[.slice A xs.length c] t)) ⟨w.heap.size, 0, none⟩ [⟨A, xs, c⟩] := by
  intro k b hk
  cases k with
  | zero =>
    simp at hk
    subst hk
    exact ⟨first_cell w #[.slice A xs.length c] t (.slice A xs.length c) rfl, ⟨S, h.grown (grown_alloc w _ none) (by simp)⟩, hb⟩
  | succ k => simp at hk
theorem handed_two {w : World} {S S' : Nat → Prop} {A A' : Option Addr} {xs ys : List Nat} (c c' : Nat) (t : TypeId) (h : Lies w S A xs) (hb : ∀ x ∈ xs, x < 256) (h' : Lies w S' A' ys) (hb' : ∀ x ∈ ys, x < 256) :
    Handed (w.alloc (.cells #[.slice A xs.length c, .slice A' ys.length c'] t)) ⟨w.heap.size, 0, none⟩ [⟨A, xs, c⟩, ⟨A', ys, c'⟩] := by
  intro k b hk
  cases k with
  | zero =>
    simp at hk
    subst hk
    exact ⟨first_cell w #[.slice A xs.length c, .slice A' ys.length c'] t (.slice A xs.length c) rfl, ⟨S, h.grown (grown_alloc w _ none) (by simp)⟩, hb⟩
  | succ k =>
    cases k with
    | zero =>
      simp at hk
      subst hk
      refine ⟨?_, ⟨S', h'.grown (grown_alloc w _ none) (by simp)⟩, hb'⟩
      rw [Addr.add_mid]
      exact new_row w #[.slice A xs.length c, .slice A' ys.length c'] t 1 (.slice A' ys.length c') rfl
    | succ k => simp at hk

theorem one_field (xs : List Nat) (A : Option Addr) (c : Nat) (n : Int) : (0 ≤ n ∧ n ≤ 256 ∧ ∀ b ∈ [(⟨A, xs, c⟩ : BV)], IsField b.bs n.toNat) ↔ FieldI xs n := by
  unfold FieldI
  constructor
  · rintro ⟨h0, _, h⟩
    exact ⟨h0, h ⟨A, xs, c⟩ (by simp)⟩
  · rintro ⟨h0, h⟩
    refine ⟨h0, ?_, ?_⟩
    · have := h.1; omega
    · intro b hb; simp at hb; subst hb; exact h
theorem two_field (xs ys : List Nat) (A A' : Option Addr) (c c' : Nat) (n : Int) : (0 ≤ n ∧ n ≤ 256 ∧ ∀ b ∈ [(⟨A, xs, c⟩ : BV), ⟨A', ys, c'⟩], IsField b.bs n.toNat) ↔ FieldI xs n ∧ FieldI ys n := by
  unfold FieldI
  constructor
  · rintro ⟨h0, _, h⟩
    exact ⟨⟨h0, h ⟨A, xs, c⟩ (by simp)⟩, h0, h ⟨A', ys, c'⟩ (by simp)⟩
  · rintro ⟨⟨h0, h⟩, _, h'⟩
    refine ⟨h0, ?_, ?_⟩
    · have := h.1; omega
    · intro b hb
      simp at hb
      rcases hb with rfl | rfl
      · exact h
      · exact h'

/-- Bytes with a bit 1. -/
def setBit (xs : List Nat) (i : Nat) : List Nat := xs.set (i / 8) (xs.getD (i / 8) 0 ||| pw i)
theorem setBit_at {xs : List Nat} {i : Nat} (h : i / 8 < xs.length) (k : Nat) : bitAt (setBit xs i) k = (bitAt xs k || decide (k = i)) := bit_set h k
theorem setBit_len (xs : List Nat) (i : Nat) : (setBit xs i).length = xs.length := by simp [setBit]
theorem set_all {xs : List Nat} {j v : Nat} (h : ∀ x ∈ xs, x < 256) (hv : v < 256) : ∀ x ∈ xs.set j v, x < 256 := fun x hx => by
  rcases List.mem_or_eq_of_mem_set hx with h1 | h1
  · exact h x h1
  · rw [h1]; exact hv
theorem setBit_all {xs : List Nat} {i : Nat} (h : ∀ x ∈ xs, x < 256) : ∀ x ∈ setBit xs i, x < 256 := set_all h (or_lt (getD_byte h _) (pw_lt i))
theorem u8s_set (xs : List Nat) (j v : Nat) : (u8s xs).set j (.int .u8 (v : Int)) = u8s (xs.set j v) := by unfold u8s; rw [List.map_set]

theorem own_cons {w : World} {base : Nat} {e : TypeId} {v : Value} {n : Nat} {xs : List Value} (h : w.ownsRow base e 1 v n xs) (h0 : 0 < n) :
    ∃ g c, v = .slice (some ⟨g, 0, none⟩) n c ∧ base ≤ g ∧ g < w.heap.size := by
  rcases h.2 with ⟨rfl, rfl⟩ | ⟨g, cap, cur, rfl, hg, hh, hnc, hcm, hs, ht⟩
  · omega
  · exact ⟨g, cap, rfl, hg, (h.lt g rfl).2⟩

theorem own_cell {w : World} {base g n c j : Nat} {e : TypeId} {xs : List Value} {v : Value} (h : w.ownsRow base e 1 (.slice (some ⟨g, 0, none⟩) n c) n xs) (hj : xs[j]? = some v) : w.cell? ⟨g, j, none⟩ = some v := by
  have := h.cells (g := g) rfl j v hj
  rwa [Addr.add_mid, Nat.zero_add] at this

end Go.Proofs.Ytfmmcklggnflkaa
