/- Layer 7 (param): parameters in memory and the lists of their fields. By contracts. · math/bits: a product in two words, and how many bits a number has, over the library's own text. · Plain mathematics of a division by halves of words: the divisor is shifted to its top bit, a digit is guessed from the divisor's upper half and mended. · math/bits.Div64: a product in two words, divided. Over the library's own text. · The calls of layer 2 (ratio), each by a contract: what they answer, and that what was there stays. · The exported calls of layer 2 (ratio), each by a contract for each way that it ends. -/
import Derived.Test.YtcaejanfhchacaaPlM
import Derived.Test.YtcaejanfhchacaaBytes
import Derived.Test.YtcaejanfhchacaaProg
import Derived.OwnWalk
import Derived.Laws.Rows
import Derived.Laws.Tables
import Derived.Laws.StructEq
import Derived.StillTailTactics
import Derived.Deep.RegionHeld3
import Derived.WalkKit
import Derived.ProofKit
import Derived.Lib.Mul64
import Derived.Lib.BitFns
import Derived.Lib.Walk
import Derived.Lib.Small
import Derived.Laws.Bits64b
import Derived.Deep.CutBlock
import Derived.Lib.Hide
namespace Go.Proofs.Ytcaejanfhchacaa
open Go.RowKit
set_option linter.unusedVariables false

/-- The values of parameters, in the order of their fields. -/
def Par.vals (p : Par) : Array Value := #[.int .u64 (p.inc : Int), .int .u64 (p.maxEff : Int), .int .u64 (p.floor : Int), .int .u64 (p.cap : Int), .int .u64 (p.up : Int), .int .u64 (p.down : Int), .int .u64 (p.bias : Int), .int .u64 (p.quot : Int), .int .u64 (p.biasEm : Int), .int .u64 (p.quotEm : Int), .int .u64 (p.recover : Int), .int .u64 (p.scoreCap : Int), .int .u64 (p.rate : Int), .int .u64 (p.bond : Int), .int .i64 p.delay, .int .i64 p.streak, .int .i64 p.boost, .int .i64 p.absent, .int .i64 p.burn, .int .i64 p.churn, .int .i64 p.wait, .int .i64 p.poll, .int .i64 p.enact, .int .i64 p.quorum]

/-- In block b lie the parameters. -/
def ParAt (w : World) (b : Nat) (p : Par) (T : TypeId) : Prop := w.heap[b]? = some (.cells p.vals T (0, 0))

theorem ParAt.lt {w : World} {b : Nat} {p : Par} {T : TypeId} (h : ParAt w b p T) : b < w.heap.size := (Array.getElem?_eq_some_iff.1 h).1
theorem ParAt.cell {w : World} {b : Nat} {p : Par} {T : TypeId} (h : ParAt w b p T) (k : Nat) : w.cell? ⟨b, k, none⟩ = p.vals[k]? := cell_of_row w b k _ _ _ h
theorem ParAt.below {w w' : World} {B b : Nat} {p : Par} {T : TypeId} (h : ParAt w b p T) (hb : Below B w w') (hB : b < B) : ParAt w' b p T := by
  unfold ParAt; rw [hb.block b hB]; exact h
theorem ParAt.up {w w' : World} {b : Nat} {p : Par} {T : TypeId} (h : ParAt w b p T) (hb : Below w.heap.size w w') : ParAt w' b p T := h.below hb h.lt
theorem ParAt.new (w : World) (p : Par) (T : TypeId) : ParAt (w.alloc (.cells p.vals T)) w.heap.size p T := heap_alloc_new w _

theorem span_w (a : Addr) (lo hi : Int) (w : World) :
    Calls Try.prog 101 #[.pointer (some a), .int .u64 lo, .int .u64 hi] w fun e w' => e = .returned (.agg #[.pointer (some a), .int .u64 lo, .int .u64 hi]) ∧ Below w.heap.size w w' := by
  go_enter Try.func101, Try.ntmps101
  go_wp2
  refine bodyPost_ret (v := .agg #[.pointer (some a), .int .u64 lo, .int .u64 hi]) (by simp [results, Try.results101, go_sem]) rfl ⟨rfl, ?_⟩
  exact (Below.refl _ _).alloc (Nat.le_refl _) _
theorem span_i (a : Addr) (lo hi : Int) (w : World) :
    Calls Try.prog 103 #[.pointer (some a), .int .i64 lo, .int .i64 hi] w fun e w' => e = .returned (.agg #[.pointer (some a), .int .i64 lo, .int .i64 hi]) ∧ Below w.heap.size w w' := by
  go_enter Try.func103, Try.ntmps103
  go_wp2
  refine bodyPost_ret (v := .agg #[.pointer (some a), .int .i64 lo, .int .i64 hi]) (by simp [results, Try.results103, go_sem]) rfl ⟨rfl, ?_⟩
  exact (Below.refl _ _).alloc (Nat.le_refl _) _
theorem list_w (A : Option Addr) (n c : Nat) (w : World) :
    Calls Try.prog 100 #[.slice A n c] w fun e w' => e = .returned (.slice A n c) ∧ w = w' := by
  go_enter Try.func100, Try.ntmps100
  go_wp2
  go_ret
  exact ⟨rfl, rfl⟩
theorem list_i (A : Option Addr) (n c : Nat) (w : World) :
    Calls Try.prog 102 #[.slice A n c] w fun e w' => e = .returned (.slice A n c) ∧ w = w' := by
  go_enter Try.func102, Try.ntmps102
  go_wp2
  go_ret
  exact ⟨rfl, rfl⟩

/-- The fields of parameters in block b, with their spans, lie in block g one behind the other. -/
def FieldsW (w : World) (g b : Nat) (l : List (Nat × Nat × Nat)) : Prop :=
  ∀ k x, l[k]? = some x → w.cell? ⟨g, k * 3, none⟩ = some (.pointer (some ⟨b, k, none⟩)) ∧ w.cell? ⟨g, k * 3 + 1, none⟩ = some (.int .u64 (x.2.1 : Int)) ∧ w.cell? ⟨g, k * 3 + 2, none⟩ = some (.int .u64 (x.2.2 : Int))
def FieldsI (w : World) (g b : Nat) (l : List (Int × Int × Int)) : Prop :=
  ∀ k x, l[k]? = some x → w.cell? ⟨g, k * 3, none⟩ = some (.pointer (some ⟨b, 14 + k, none⟩)) ∧ w.cell? ⟨g, k * 3 + 1, none⟩ = some (.int .i64 x.2.1) ∧ w.cell? ⟨g, k * 3 + 2, none⟩ = some (.int .i64 x.2.2)
theorem ParAt.first {w : World} {b : Nat} {p : Par} {T : TypeId} (h : ParAt w b p T) : w.cell? ⟨b, 0, none⟩ = some (.int .u64 (p.inc : Int)) ∧ True := ⟨h.cell 0, trivial⟩

/-- The two lists of fields, cell by cell. -/
def wrow (b : Nat) (p : Par) : Array Value := #[.pointer (some ⟨b, 0, none⟩), .int .u64 1, .int .u64 2147483648, .pointer (some ⟨b, 1, none⟩), .int .u64 (p.inc : Int), .int .u64 1099511627776, .pointer (some ⟨b, 2, none⟩), .int .u64 (p.inc : Int), .int .u64 1099511627776, .pointer (some ⟨b, 3, none⟩), .int .u64 (p.maxEff : Int), .int .u64 1099511627776, .pointer (some ⟨b, 4, none⟩), .int .u64 (p.inc : Int), .int .u64 1099511627776, .pointer (some ⟨b, 5, none⟩), .int .u64 0, .int .u64 1099511627776, .pointer (some ⟨b, 6, none⟩), .int .u64 1, .int .u64 4294967296, .pointer (some ⟨b, 7, none⟩), .int .u64 1, .int .u64 1099511627776, .pointer (some ⟨b, 8, none⟩), .int .u64 (p.bias : Int), .int .u64 4294967296, .pointer (some ⟨b, 9, none⟩), .int .u64 1, .int .u64 (p.quot : Int), .pointer (some ⟨b, 10, none⟩), .int .u64 0, .int .u64 4294967296, .pointer (some ⟨b, 11, none⟩), .int .u64 1, .int .u64 72057594037927936, .pointer (some ⟨b, 12, none⟩), .int .u64 0, .int .u64 4294967296, .pointer (some ⟨b, 13, none⟩), .int .u64 0, .int .u64 1099511627776]
def irow (b : Nat) : Array Value := #[.pointer (some ⟨b, 14, none⟩), .int .i64 0, .int .i64 1000, .pointer (some ⟨b, 15, none⟩), .int .i64 0, .int .i64 64, .pointer (some ⟨b, 16, none⟩), .int .i64 0, .int .i64 1000, .pointer (some ⟨b, 17, none⟩), .int .i64 0, .int .i64 10000, .pointer (some ⟨b, 18, none⟩), .int .i64 0, .int .i64 10000, .pointer (some ⟨b, 19, none⟩), .int .i64 1, .int .i64 64, .pointer (some ⟨b, 20, none⟩), .int .i64 0, .int .i64 50, .pointer (some ⟨b, 21, none⟩), .int .i64 1, .int .i64 1000, .pointer (some ⟨b, 22, none⟩), .int .i64 0, .int .i64 1000, .pointer (some ⟨b, 23, none⟩), .int .i64 0, .int .i64 10000]

set_option maxRecDepth 10000 in
theorem wrow_fields (w : World) (b : Nat) (p : Par) (T : TypeId) : FieldsW (w.alloc (.cells (wrow b p) T)) w.heap.size b p.wspan := by
  intro k x h
  have e : ∀ j, (w.alloc (.cells (wrow b p) T)).cell? ⟨w.heap.size, j, none⟩ = (wrow b p)[j]? := fun j => cell_of_row _ _ _ _ _ _ (heap_alloc_new w _)
  rw [e, e, e]
  match k, h with
  | 0, h => cases h; exact ⟨rfl, rfl, rfl⟩
  | 1, h => cases h; exact ⟨rfl, rfl, rfl⟩
  | 2, h => cases h; exact ⟨rfl, rfl, rfl⟩
  | 3, h => cases h; exact ⟨rfl, rfl, rfl⟩
  | 4, h => cases h; exact ⟨rfl, rfl, rfl⟩
  | 5, h => cases h; exact ⟨rfl, rfl, rfl⟩
  | 6, h => cases h; exact ⟨rfl, rfl, rfl⟩
  | 7, h => cases h; exact ⟨rfl, rfl, rfl⟩
  | 8, h => cases h; exact ⟨rfl, rfl, rfl⟩
  | 9, h => cases h; exact ⟨rfl, rfl, rfl⟩
  | 10, h => cases h; exact ⟨rfl, rfl, rfl⟩
  | 11, h => cases h; exact ⟨rfl, rfl, rfl⟩
  | 12, h => cases h; exact ⟨rfl, rfl, rfl⟩
  | 13, h => cases h; exact ⟨rfl, rfl, rfl⟩
  | k + 14, h => simp [Par.wspan] at h
set_option maxRecDepth 10000 in
theorem irow_fields (w : World) (b : Nat) (p : Par) (T : TypeId) : FieldsI (w.alloc (.cells (irow b) T)) w.heap.size b p.ispan := by
  intro k x h
  have e : ∀ j, (w.alloc (.cells (irow b) T)).cell? ⟨w.heap.size, j, none⟩ = (irow b)[j]? := fun j => cell_of_row _ _ _ _ _ _ (heap_alloc_new w _)
  rw [e, e, e]
  match k, h with
  | 0, h => cases h; exact ⟨rfl, rfl, rfl⟩
  | 1, h => cases h; exact ⟨rfl, rfl, rfl⟩
  | 2, h => cases h; exact ⟨rfl, rfl, rfl⟩
  | 3, h => cases h; exact ⟨rfl, rfl, rfl⟩
  | 4, h => cases h; exact ⟨rfl, rfl, rfl⟩
  | 5, h => cases h; exact ⟨rfl, rfl, rfl⟩
  | 6, h => cases h; exact ⟨rfl, rfl, rfl⟩
  | 7, h => cases h; exact ⟨rfl, rfl, rfl⟩
  | 8, h => cases h; exact ⟨rfl, rfl, rfl⟩
  | 9, h => cases h; exact ⟨rfl, rfl, rfl⟩
  | k + 10, h => simp [Par.ispan] at h
end Go.Proofs.Ytcaejanfhchacaa
namespace Go.Proofs.Ytcaejanfhchacaa
open Go.RowKit
set_option linter.unusedVariables false

/-- The low half of a word. -/
theorem low_half (a : Nat) (ha : a < 18446744073709551616) : bits .and .u64 (a : Int) 4294967295 = ((a % 4294967296 : Nat) : Int) := by
  have h := bits_and_u64_nat a 4294967295 ha (by omega)
  have e : a &&& 4294967295 = a % 4294967296 := Nat.and_two_pow_sub_one_eq_mod a 32
  rw [e] at h
  exact h
theorem high_half (a : Nat) : (a : Int) / 4294967296 = ((a / 4294967296 : Nat) : Int) := by omega
theorem times_nat (a b : Nat) : (a : Int) * (b : Int) = ((a * b : Nat) : Int) := (Int.natCast_mul a b).symm
theorem plus_nat (a b : Nat) : (a : Int) + (b : Int) = ((a + b : Nat) : Int) := (Int.natCast_add a b).symm
theorem word_nat (a : Nat) (ha : a < 18446744073709551616) : IntKind.u64.wrap (a : Int) = (a : Int) := by rw [IntKind.wrap_u64]; omega
theorem word_mod (a : Nat) : IntKind.u64.wrap (a : Int) = ((a % 18446744073709551616 : Nat) : Int) := by rw [IntKind.wrap_u64]; omega

set_option maxHeartbeats 1000000 in
/-- A product's high word and its low word. -/
theorem mul64_any (x y : Nat) (hx : x < 18446744073709551616) (hy : y < 18446744073709551616) (w : World) :
    Calls Try.prog 116 #[.int .u64 x, .int .u64 y] w fun e w' =>
      e = .returned (.tuple #[.int .u64 ((x * y / 18446744073709551616 : Nat) : Int), .int .u64 ((x * y % 18446744073709551616 : Nat) : Int)]) ∧ w = w' := by
  obtain ⟨bd, bt, bw, hhi⟩ := Lib.mul64_hi x y hx hy
  have half : ∀ {a b : Nat}, a < 4294967296 → b < 4294967296 → a * b < 18446744073709551616 := fun ha hb => Nat.lt_of_le_of_lt (Lib.half_mul_le (Nat.le_of_lt_succ ha) (Nat.le_of_lt_succ hb)) (by omega)
  have ba' := half (a := x / 4294967296) (b := y / 4294967296) (by omega) (by omega)
  have bb' := half (a := x / 4294967296) (b := y % 4294967296) (by omega) (by omega)
  have bc' := half (a := x % 4294967296) (b := y / 4294967296) (by omega) (by omega)
  have bh : x * y / 18446744073709551616 < 18446744073709551616 := Nat.div_lt_of_lt_mul (Nat.mul_lt_mul'' hx hy)
  rw [← hhi] at bh
  have bh1 := Nat.lt_of_le_of_lt (Nat.le_add_right _ _) bh
  go_enter Try.func116, Try.ntmps116
  go_wp2
  simp only [low_half x hx, low_half y hy, high_half, times_nat, plus_nat, word_nat _ bd, word_nat _ bb', word_nat _ bt, low_half _ bt, word_nat _ bc', word_nat _ bw, word_nat _ ba', word_nat _ bh1, word_nat _ bh, word_mod (x * y)]
  rw [hhi]
  go_ret2
  exact ⟨rfl, rfl⟩

end Go.Proofs.Ytcaejanfhchacaa
namespace Go.Proofs.Ytcaejanfhchacaa
set_option linter.unusedVariables false

/-- What is left behind a digit, in words that came round. -/
theorem left_word {U C Y : Nat} (hY : 0 < Y) (hY' : Y < 18446744073709551616) :
    IntKind.u64.wrap (IntKind.u64.wrap (IntKind.u64.wrap ((U : Int) * 4294967296) + (C : Int)) - IntKind.u64.wrap (((U * 4294967296 + C) / Y : Nat) * (Y : Int))) = (((U * 4294967296 + C) % Y : Nat) : Int) := by
  have e := Nat.div_add_mod (U * 4294967296 + C) Y
  have hr := Nat.mod_lt (U * 4294967296 + C) hY
  have hp : (((U * 4294967296 + C) / Y : Nat) : Int) * (Y : Int) = ((Y * ((U * 4294967296 + C) / Y) : Nat) : Int) := by rw [Int.natCast_mul, Int.mul_comm]
  rw [hp]
  generalize Y * ((U * 4294967296 + C) / Y) = p at *
  generalize (U * 4294967296 + C) % Y = r at *
  simp only [IntKind.wrap_u64]
  omega

/-- The numbers of a division, shifted so that the divisor has its top bit. -/
structure Shape (h l y s Y D E A B U L C F : Nat) : Prop where
  eY : IntKind.u64.wrap ((y : Int) * 2 ^ s) = (Y : Int)
  eD : (Y : Int) / 4294967296 = (D : Int)
  eE : bits .and .u64 (Y : Int) 4294967295 = (E : Int)
  eA : IntKind.u64.wrap ((h : Int) * 2 ^ s) = (A : Int)
  eB : (l : Int) / 2 ^ (64 - s) = (B : Int)
  eU : bits .or .u64 (A : Int) (B : Int) = (U : Int)
  eL : IntKind.u64.wrap ((l : Int) * 2 ^ s) = (L : Int)
  eC : (L : Int) / 4294967296 = (C : Int)
  eF : bits .and .u64 (L : Int) 4294967295 = (F : Int)
  hY : Y = D * 4294967296 + E
  hY' : Y < 18446744073709551616
  hD : 2147483648 ≤ D
  hD' : D < 4294967296
  hE : E < 4294967296
  hU : U < Y
  hC : C < 4294967296
  hF : F < 4294967296
  hL : L = C * 4294967296 + F
  hB : B < 18446744073709551616
  y' : Y = y * 2 ^ s
  x' : U * 18446744073709551616 + L = (h * 18446744073709551616 + l) * 2 ^ s

theorem Shape.less {h l y s Y D E A B U L C F : Nat} (k : Shape h l y s Y D E A B U L C F) : U < 18446744073709551616 := Nat.lt_trans k.hU k.hY'

end Go.Proofs.Ytcaejanfhchacaa
namespace Go.Proofs.Ytcaejanfhchacaa
open Go.RowKit
set_option linter.unusedVariables false

/-- A digit and what is left behind it, under names. -/
structure Digit (U C Y Q V : Nat) : Prop where
  q : (U * 4294967296 + C) / Y = Q
  v : (U * 4294967296 + C) % Y = V
theorem digit (U C Y : Nat) (hY : 0 < Y) (hY' : Y < 18446744073709551616) (hU : U < Y) (hC : C < 4294967296) :
    ∃ Q V : Nat, Digit U C Y Q V ∧ Q < 4294967296 ∧ V < Y ∧ IntKind.u64.wrap (IntKind.u64.wrap (IntKind.u64.wrap ((U : Int) * 4294967296) + (C : Int)) - IntKind.u64.wrap ((Q : Int) * (Y : Int))) = (V : Int) := by
  refine ⟨_, _, ⟨rfl, rfl⟩, ?_, Nat.mod_lt _ hY, left_word hY hY'⟩
  refine Nat.div_lt_of_lt_mul ?_
  have := Nat.mul_le_mul_right 4294967296 (Nat.succ_le_of_lt hU)
  omega
end Go.Proofs.Ytcaejanfhchacaa
namespace Go.Proofs.Ytcaejanfhchacaa
open Go.RowKit
set_option linter.unusedVariables false

/-- A product, in its two words. -/
theorem ratio_times (a b hi lo : Nat) (w : World) (ha : a < 18446744073709551616) (hb : b < 18446744073709551616) (h : Hid (a * b = hi * 18446744073709551616 + lo)) (hlo : lo < 18446744073709551616) :
    Calls Try.prog 114 #[.int .u64 a, .int .u64 b] w fun e w' =>
      e = .returned (.agg #[.int .u64 hi, .int .u64 lo]) ∧ Below w.heap.size w w' := by
  have e1 : a * b / 18446744073709551616 = hi := by rw [h.out]; omega
  have e2 : a * b % 18446744073709551616 = lo := by rw [h.out]; omega
  have c := fun w => mul64_any a b ha hb w
  rw [e1, e2] at c
  clear e1 e2
  go_enter Try.func114, Try.ntmps114
  go_wp2_with (go_at_call 116; refine (c _).mono ?_; rintro e w' ⟨rfl, rfl⟩)
  refine bodyPost_ret (v := .agg #[.int .u64 hi, .int .u64 lo]) (by simp [results, Try.results114, go_sem]) rfl ⟨rfl, (Below.refl _ _).alloc (Nat.le_refl _) _⟩

theorem ratio_below (h l h' l' : Int) (w : World) :
    Calls Try.prog 115 #[.agg #[.int .u64 h, .int .u64 l], .agg #[.int .u64 h', .int .u64 l']] w fun e w' =>
      e = .returned (.bool (decide (h < h' ∨ h = h' ∧ l < l'))) ∧ Below w.heap.size w w' := by
  by_cases h1 : h < h'
  · rw [decide_eq_true (p := h < h' ∨ h = h' ∧ l < l') (.inl h1)]
    go_enter Try.func115, Try.ntmps115
    go_wp2
    go_ret
    exact ⟨rfl, ((Below.refl _ _).alloc (Nat.le_refl _) _).alloc (by simp) _⟩
  · by_cases h2 : h = h'
    · subst h2
      rw [show decide (h < h ∨ h = h ∧ l < l') = decide (l < l') by simp]
      go_enter Try.func115, Try.ntmps115
      go_wp2
      go_ret
      exact ⟨by simp, ((Below.refl _ _).alloc (Nat.le_refl _) _).alloc (by simp) _⟩
    · rw [decide_eq_false (p := h < h' ∨ h = h' ∧ l < l') (by omega)]
      have h3 : (h == h') = false := by simp [h2]
      have h4 : h' < h := by omega
      go_enter Try.func115, Try.ntmps115
      go_wp2
      go_ret
      exact ⟨by simp, ((Below.refl _ _).alloc (Nat.le_refl _) _).alloc (by simp) _⟩

end Go.Proofs.Ytcaejanfhchacaa
namespace Go.Proofs.Ytcaejanfhchacaa
open Go.RowKit
set_option linter.unusedVariables false

/-- A product of two words has two words. -/
theorem words (a b : Nat) : ∃ hi lo : Nat, Hid (a * b = hi * 18446744073709551616 + lo) ∧ lo < 18446744073709551616 :=
  ⟨a * b / 18446744073709551616, a * b % 18446744073709551616, (Nat.div_add_mod' _ _).symm, Nat.mod_lt _ (by omega)⟩
/-- Two products, held against each other. -/
theorem ratio_less (a b c d : Nat) (w : World) (ha : a < 18446744073709551616) (hb : b < 18446744073709551616) (hc : c < 18446744073709551616) (hd : d < 18446744073709551616) :
    Calls Try.prog 111 #[.int .u64 a, .int .u64 b, .int .u64 c, .int .u64 d] w fun e w' =>
      e = .returned (.bool (decide (a * b < c * d))) ∧ Below w.heap.size w w' := by
  obtain ⟨hi, lo, e1, hlo⟩ := words a b
  obtain ⟨hi', lo', e2, hlo'⟩ := words c d
  have k1 := fun w => ratio_times a b hi lo w ha hb e1 hlo
  have k2 := fun w => ratio_times c d hi' lo' w hc hd e2 hlo'
  have k3 := fun w => ratio_below hi lo hi' lo' w
  have e3 : decide ((hi : Int) < hi' ∨ (hi : Int) = hi' ∧ (lo : Int) < lo') = decide (a * b < c * d) := by
    have x1 := e1.out
    have x2 := e2.out
    apply decide_eq_decide.2
    omega
  rw [e3] at k3
  clear e3
  obtain ⟨t, ht⟩ : ∃ t, Hid (decide (a * b < c * d) = t) := ⟨_, rfl⟩
  rw [ht.out] at k3 ⊢
  go_enter Try.func111, Try.ntmps111
  go_wp2_with (first
    | (go_at_call 114; refine (k1 _).mono ?_; clear k1; rintro e w1 ⟨rfl, hb1⟩)
    | (go_at_call 114; refine (k2 _).mono ?_; rintro e w2 ⟨rfl, hb2⟩)
    | (go_at_call 115; refine (k3 _).mono ?_; rintro e w3 ⟨rfl, hb3⟩))
  go_ret
  exact ⟨rfl, Below.then (Below.then hb1 hb2) hb3⟩

end Go.Proofs.Ytcaejanfhchacaa
