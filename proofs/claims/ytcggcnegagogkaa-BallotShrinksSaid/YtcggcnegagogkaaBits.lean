/- math/bits: a product in two words, and how many bits a number has, over the library's own text. -/
import Derived.Test.YtcggcnegagogkaaProg
import Derived.WalkKit
import Derived.ProofKit
import Derived.Lib.Mul64
import Derived.Lib.BitFns
import Derived.Lib.Walk
import Derived.Lib.Small
import Derived.Laws.Bits64b
namespace Go.Proofs.Ytcggcnegagogkaa
open Go.RowKit
set_option linter.unusedVariables false

/-- The low half of a word. -/
theorem low_half (a : Nat) (ha : a < 18446744073709551616) : bits .and .u64 (a : Int) 4294967295 = ((a % 4294967296 : Nat) : Int) := by
  have h := bits_and_u64_nat a 4294967295 ha (by omega)
  have e : a &&& 4294967295 = a % 4294967296 := Nat.and_two_pow_sub_one_eq_mod a 32
  rw [e] at h
  exact h
theorem high_half (a : Nat) : (a : Int) / 4294967296 = ((a / 4294967296 : Nat) : Int) := by omega
theorem times_nat (a b : Nat) : (a : Int) * (b : Int) = ((a * b : Nat) : Int) := (Int.natCast_mul a b).symm
theorem plus_nat (a b : Nat) : (a : Int) + (b : Int) = ((a + b : Nat) : Int) := (Int.natCast_add a b).symm
theorem word_nat (a : Nat) (ha : a < 18446744073709551616) : IntKind.u64.wrap (a : Int) = (a : Int) := by rw [IntKind.wrap_u64]; omega
theorem word_mod (a : Nat) : IntKind.u64.wrap (a : Int) = ((a % 18446744073709551616 : Nat) : Int) := by rw [IntKind.wrap_u64]; omega

set_option maxHeartbeats 1000000 in
/-- A product's high word and its low word. -/
theorem mul64_any (x y : Nat) (hx : x < 18446744073709551616) (hy : y < 18446744073709551616) (w : World) :
    Calls Try.prog 35 #[.int .u64 x, .int .u64 y] w fun e w' =>
      e = .returned (.tuple #[.int .u64 ((x * y / 18446744073709551616 : Nat) : Int), .int .u64 ((x * y % 18446744073709551616 : Nat) : Int)]) ∧ w = w' := by
  obtain ⟨bd, bt, bw, hhi⟩ := Lib.mul64_hi x y hx hy
  have half : ∀ {a b : Nat}, a < 4294967296 → b < 4294967296 → a * b < 18446744073709551616 := fun ha hb => Nat.lt_of_le_of_lt (Lib.half_mul_le (Nat.le_of_lt_succ ha) (Nat.le_of_lt_succ hb)) (by omega)
  have ba' := half (a := x / 4294967296) (b := y / 4294967296) (by omega) (by omega)
  have bb' := half (a := x / 4294967296) (b := y % 4294967296) (by omega) (by omega)
  have bc' := half (a := x % 4294967296) (b := y / 4294967296) (by omega) (by omega)
  have bh : x * y / 18446744073709551616 < 18446744073709551616 := Nat.div_lt_of_lt_mul (Nat.mul_lt_mul'' hx hy)
  rw [← hhi] at bh
  have bh1 := Nat.lt_of_le_of_lt (Nat.le_add_right _ _) bh
  go_enter Try.func35, Try.ntmps35
  go_wp2
  simp only [low_half x hx, low_half y hy, high_half, times_nat, plus_nat, word_nat _ bd, word_nat _ bb', word_nat _ bt, low_half _ bt, word_nat _ bc', word_nat _ bw, word_nat _ ba', word_nat _ bh1, word_nat _ bh, word_mod (x * y)]
  rw [hhi]
  go_ret2
  exact ⟨rfl, rfl⟩

/-- The number of bits: the least power of two that is above a number. -/
theorem bits_span : ∀ (f x : Nat), 0 < x → x < 2 ^ f → ∃ k, Lib.bitLenAux f x = k + 1 ∧ 2 ^ k ≤ x ∧ x < 2 ^ (k + 1)
  | 0, x, h0, h => by simp at h; omega
  | f + 1, x, h0, h => by
    rw [Lib.bitLenAux, if_neg (by omega)]
    rcases Nat.eq_zero_or_pos (x / 2) with hz | hp
    · rw [hz]
      refine ⟨0, ?_, by omega, by omega⟩
      cases f <;> simp [Lib.bitLenAux]
    · obtain ⟨k, e, h1, h2⟩ := bits_span f (x / 2) hp (by rw [Nat.pow_succ] at h; omega)
      refine ⟨k + 1, by omega, ?_, ?_⟩
      · rw [Nat.pow_succ]; omega
      · rw [Nat.pow_succ]; omega

/-- One of the eight ways: what is left of the number after its shifts is below 256, and was shifted by k. -/
theorem len_way (x y : Int) (k : Nat) (h0 : 0 ≤ x) (h1 : x ≤ 18446744073709551615) (hy : y = x / ((2 ^ k : Nat) : Int)) (hb : y ≤ 255) (hk : k = 0 ∨ 0 < y) : Lib.len8 y + k = (Lib.bitLen x.toNat : Int) ∧ Lib.len8 y ≤ 8 ∧ 0 ≤ Lib.len8 y := by
  have hy0 : 0 ≤ y := by rw [hy]; exact Int.ediv_nonneg h0 (Int.natCast_nonneg _)
  rw [Lib.len8_of y hy0 hb]
  have hle := Lib.bitLen_le8' y hy0 hb
  refine ⟨?_, by omega, by omega⟩
  obtain ⟨n, rfl⟩ := Int.eq_ofNat_of_zero_le h0
  have hn : y.toNat = n / 2 ^ k := by rw [hy, ← Int.natCast_ediv]; exact Int.toNat_natCast _
  rw [hn]
  have hpos : 0 < 2 ^ k := Nat.two_pow_pos k
  rcases hk with rfl | hk
  · simp
  · have hge : 2 ^ k ≤ n := by
      rcases Nat.lt_or_ge n (2 ^ k) with h | h
      · have := Nat.div_eq_of_lt h
        omega
      · exact h
    have := Lib.bitLen_shift k n hge (by omega)
    rw [Int.toNat_natCast, this]
    omega

theorem wrap64_small {a : Int} (h0 : 0 ≤ a) (h1 : a ≤ 1000) : wrap64 a = a := by unfold wrap64; omega
theorem len_cell (y : Int) (h : y.toNat < Lib.len8tab.size) : ((Lib.len8tab[y.toNat]'h).toNat : Int) = Lib.len8 y := by
  unfold Lib.len8
  rw [ByteArray.getElem?_lt' _ _ h]
  rfl
theorem len_sum {x y K kz : Int} (k : Nat) (hK : K = ((2 ^ k : Nat) : Int)) (hz : kz = (k : Int)) (hk64 : k ≤ 64) (h0 : 0 ≤ x) (h1 : x ≤ 18446744073709551615) (hy : y = x / K) (hb : y ≤ 255) (hk : 0 < y) :
    wrap64 (kz + wrap64 (Lib.len8 y)) = (Lib.bitLen x.toNat : Int) := by
  subst hK
  obtain ⟨e, a, b⟩ := len_way x y k h0 h1 hy hb (.inr hk)
  rw [wrap64_small b (by omega), wrap64_small (by omega) (by omega)]
  omega
theorem len_bare {x : Int} (h0 : 0 ≤ x) (h1 : x ≤ 255) : wrap64 (wrap64 (Lib.len8 x)) = (Lib.bitLen x.toNat : Int) := by
  obtain ⟨e, a, b⟩ := len_way x x 0 h0 (by omega) (by simp) h1 (.inl rfl)
  rw [wrap64_small b (by omega), wrap64_small (by omega) (by omega)]
  simpa using e

end Go.Proofs.Ytcggcnegagogkaa
