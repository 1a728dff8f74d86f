/- Plain mathematics of a division by halves of words: the divisor is shifted to its top bit, a digit is guessed from the divisor's upper half and mended. · math/bits.Div64: a product in two words, divided. Over the library's own text. · The calls of layer 2 (ratio), each by a contract: what they answer, and that what was there stays. · The exported calls of layer 2 (ratio), each by a contract for each way that it ends. -/
import Derived.Laws.Bits64b
import Derived.Test.YtcggcnegagogkaaBits
import Derived.Deep.CutBlock
import Derived.Lib.Hide
import Derived.Test.YtcggcnegagogkaaCore
namespace Go.Proofs.Ytcggcnegagogkaa
set_option linter.unusedVariables false

/-- A digit's guess is q, with r left over of the divisor's upper half: too great, if q itself is no half word, or if the lower half says so. -/
theorem guess_high {U D E C q r : Nat} (hU : U < D * 4294967296 + E) (hC : C < 4294967296) (hq : 4294967296 ≤ q) : (U * 4294967296 + C) / (D * 4294967296 + E) < q := by
  refine Nat.div_lt_of_lt_mul (Nat.lt_of_lt_of_le ?_ (Nat.mul_le_mul_left _ hq))
  omega
theorem guess_more {U D E C q r : Nat} (e : q * D + r = U) (h : 4294967296 * r + C < q * E) : (U * 4294967296 + C) / (D * 4294967296 + E) < q := by
  refine Nat.div_lt_of_lt_mul ?_
  have : (D * 4294967296 + E) * q = q * D * 4294967296 + q * E := by rw [Nat.add_mul, Nat.mul_comm E q, Nat.mul_right_comm, Nat.mul_comm D q]
  rw [this, ← e]
  omega
/-- No less than the digit, and its product is not too great: it is the digit. -/
theorem guess_is {U D E C q r : Nat} (hD : 0 < D) (e : q * D + r = U) (h : q * E ≤ 4294967296 * r + C) : q ≤ (U * 4294967296 + C) / (D * 4294967296 + E) := by
  refine (Nat.le_div_iff_mul_le (by omega)).2 ?_
  have : q * (D * 4294967296 + E) = q * D * 4294967296 + q * E := by rw [Nat.mul_add, Nat.mul_assoc]
  rw [this, ← e]
  omega
theorem guess_far {U D E C q r : Nat} (hD : 0 < D) (hE : E < 4294967296) (hU : U < D * 4294967296 + E) (e : q * D + r = U) (h : 4294967296 ≤ r) : q ≤ (U * 4294967296 + C) / (D * 4294967296 + E) := by
  have hq : q < 4294967296 := by
    rcases Nat.lt_or_ge q 4294967296 with k | k
    · exact k
    · have := Nat.mul_le_mul_right D k
      omega
  refine guess_is hD e (Nat.le_trans (Nat.mul_le_mul (Nat.le_of_lt hq) (Nat.le_of_lt hE)) ?_)
  omega

theorem guess_least {U D E C q r : Nat} (hC : C < 4294967296) (e : q * D + r = U) (hr : r < D) : (U * 4294967296 + C) / (D * 4294967296 + E) ≤ q := by
  refine Nat.le_of_lt_succ (Nat.div_lt_of_lt_mul ?_)
  have h1 : (D * 4294967296 + E) * (q + 1) = (q * D + D) * 4294967296 + E * (q + 1) := by rw [Nat.add_mul, Nat.mul_right_comm, Nat.mul_add, Nat.mul_one, Nat.mul_comm D q]
  rw [h1]
  omega

/-- What is left behind a digit, in words that came round. -/
theorem left_word {U C Y : Nat} (hY : 0 < Y) (hY' : Y < 18446744073709551616) :
    IntKind.u64.wrap (IntKind.u64.wrap (IntKind.u64.wrap ((U : Int) * 4294967296) + (C : Int)) - IntKind.u64.wrap (((U * 4294967296 + C) / Y : Nat) * (Y : Int))) = (((U * 4294967296 + C) % Y : Nat) : Int) := by
  have e := Nat.div_add_mod (U * 4294967296 + C) Y
  have hr := Nat.mod_lt (U * 4294967296 + C) hY
  have hp : (((U * 4294967296 + C) / Y : Nat) : Int) * (Y : Int) = ((Y * ((U * 4294967296 + C) / Y) : Nat) : Int) := by rw [Int.natCast_mul, Int.mul_comm]
  rw [hp]
  generalize Y * ((U * 4294967296 + C) / Y) = p at *
  generalize (U * 4294967296 + C) % Y = r at *
  simp only [IntKind.wrap_u64]
  omega

/-- The numbers of a division, shifted so that the divisor has its top bit. -/
structure Shape (h l y s Y D E A B U L C F : Nat) : Prop where
  eY : IntKind.u64.wrap ((y : Int) * 2 ^ s) = (Y : Int)
  eD : (Y : Int) / 4294967296 = (D : Int)
  eE : bits .and .u64 (Y : Int) 4294967295 = (E : Int)
  eA : IntKind.u64.wrap ((h : Int) * 2 ^ s) = (A : Int)
  eB : (l : Int) / 2 ^ (64 - s) = (B : Int)
  eU : bits .or .u64 (A : Int) (B : Int) = (U : Int)
  eL : IntKind.u64.wrap ((l : Int) * 2 ^ s) = (L : Int)
  eC : (L : Int) / 4294967296 = (C : Int)
  eF : bits .and .u64 (L : Int) 4294967295 = (F : Int)
  hY : Y = D * 4294967296 + E
  hY' : Y < 18446744073709551616
  hD : 2147483648 ≤ D
  hD' : D < 4294967296
  hE : E < 4294967296
  hU : U < Y
  hC : C < 4294967296
  hF : F < 4294967296
  hL : L = C * 4294967296 + F
  hB : B < 18446744073709551616
  y' : Y = y * 2 ^ s
  x' : U * 18446744073709551616 + L = (h * 18446744073709551616 + l) * 2 ^ s

theorem low_of (a : Nat) (ha : a < 18446744073709551616) : bits .and .u64 (a : Int) 4294967295 = ((a % 4294967296 : Nat) : Int) := by
  have h := bits_and_u64_nat a 4294967295 ha (by omega)
  rwa [show a &&& 4294967295 = a % 4294967296 from Nat.and_two_pow_sub_one_eq_mod a 32] at h
theorem wrap_of (a : Nat) : IntKind.u64.wrap (a : Int) = ((a % 18446744073709551616 : Nat) : Int) := by rw [IntKind.wrap_u64]; omega
theorem pow_of (a s : Nat) : (a : Int) * 2 ^ s = ((a * 2 ^ s : Nat) : Int) := by rw [Int.natCast_mul, Int.natCast_pow]; rfl

theorem shape (h l y s : Nat) (hs : s ≤ 63) (h1 : 2 ^ 63 ≤ y * 2 ^ s) (h2 : y * 2 ^ s < 2 ^ 64) (hh : h < y) (hl : l < 18446744073709551616) :
    ∃ Y D E A B U L C F, Shape h l y s Y D E A B U L C F := by
  have hp : 0 < 2 ^ s := Nat.two_pow_pos s
  have hsplit : 2 ^ (64 - s) * 2 ^ s = 18446744073709551616 := by rw [← Nat.pow_add, show 64 - s + s = 64 by omega]
  have hA : h * 2 ^ s + 2 ^ s ≤ y * 2 ^ s := by rw [← Nat.succ_mul]; exact Nat.mul_le_mul_right _ hh
  have hB : l / 2 ^ (64 - s) < 2 ^ s := Nat.div_lt_of_lt_mul (by rw [hsplit]; exact hl)
  have hor : h * 2 ^ s ||| l / 2 ^ (64 - s) = h * 2 ^ s + l / 2 ^ (64 - s) := by
    have := Nat.shiftLeft_add_eq_or_of_lt hB h
    rw [Nat.shiftLeft_eq] at this
    exact this.symm
  have hl2 : l / 2 ^ (64 - s) = l * 2 ^ s / 18446744073709551616 := by rw [← hsplit, Nat.mul_div_mul_right _ _ hp]
  have hs64 : 2 ^ s < 18446744073709551616 := Nat.lt_of_le_of_lt (Nat.pow_le_pow_right (by omega) hs) (by simp)
  refine ⟨y * 2 ^ s, y * 2 ^ s / 4294967296, y * 2 ^ s % 4294967296, h * 2 ^ s, l / 2 ^ (64 - s), h * 2 ^ s + l / 2 ^ (64 - s), l * 2 ^ s % 18446744073709551616,
    l * 2 ^ s % 18446744073709551616 / 4294967296, l * 2 ^ s % 18446744073709551616 % 4294967296, ?_⟩
  have hx : (h * 18446744073709551616 + l) * 2 ^ s = h * 2 ^ s * 18446744073709551616 + l * 2 ^ s := by rw [Nat.add_mul, Nat.mul_right_comm]
  exact {
    eY := by rw [pow_of, wrap_of, Nat.mod_eq_of_lt (by omega)]
    eD := by omega
    eE := low_of _ (by omega)
    eA := by rw [pow_of, wrap_of, Nat.mod_eq_of_lt (by omega)]
    eB := by rw [Int.natCast_ediv, Int.natCast_pow]; rfl
    eU := by rw [bits_or_u64_nat _ _ (by omega) (by omega), hor]
    eL := by rw [pow_of, wrap_of]
    eC := by omega
    eF := low_of _ (by omega)
    hY := by omega
    hY' := by omega
    hD := by omega
    hD' := by omega
    hE := by omega
    hU := by omega
    hC := by omega
    hF := by omega
    hL := by omega
    hB := by omega
    y' := rfl
    x' := by rw [hx, hl2]; omega }

theorem two_digits {Y q1 v q0 r U C F : Nat} (e1 : Y * q1 + v = U * 4294967296 + C) (e2 : Y * q0 + r = v * 4294967296 + F) :
    U * 18446744073709551616 + (C * 4294967296 + F) = r + Y * (q1 * 4294967296 + q0) := by
  rw [Nat.mul_add, ← Nat.mul_assoc]
  omega
theorem div_of {X Y q r : Nat} (e : X = r + Y * q) (hr : r < Y) : X / Y = q ∧ X % Y = r := by
  subst e
  rw [Nat.add_mul_div_left _ _ (by omega), Nat.add_mul_mod_self_left, Nat.div_eq_of_lt hr, Nat.mod_eq_of_lt hr]
  exact ⟨by omega, rfl⟩

/-- The first guess of a digit. -/
theorem guess_first (V D : Nat) (hD : 2147483648 ≤ D) (hD' : D < 4294967296) (hV : V < 18446744073709551616) :
    ∃ q r : Nat, q * D + r = V ∧ (r < D ∧ r < 4294967296) ∧ q < 18446744073709551616 ∧ (V : Int).tdiv (D : Int) = (q : Int) ∧ (V : Int) - IntKind.u64.wrap ((q : Int) * (D : Int)) = (r : Int) ∧ (V : Int) - (q : Int) * (D : Int) = (r : Int) := by
  have hd := Nat.div_add_mod' V D
  have hr := Nat.mod_lt V (show 0 < D by omega)
  refine ⟨V / D, V % D, hd, ⟨hr, by omega⟩, Nat.lt_of_le_of_lt (Nat.div_le_self _ _) hV, (Int.ofNat_tdiv V D).symm, ?_, ?_⟩
  · rw [← Int.natCast_mul, wrap_of, Nat.mod_eq_of_lt (by omega)]
    omega
  · rw [← Int.natCast_mul]
    omega
theorem Shape.less {h l y s Y D E A B U L C F : Nat} (k : Shape h l y s Y D E A B U L C F) : U < 18446744073709551616 := Nat.lt_trans k.hU k.hY'

/-- Two digits, and what is left, are the division's. -/
theorem shape_end {h l y s Y D E A B U L C F : Nat} (k : Shape h l y s Y D E A B U L C F) :
    (U * 4294967296 + C) / Y * 4294967296 + ((U * 4294967296 + C) % Y * 4294967296 + F) / Y = (h * 18446744073709551616 + l) / y ∧
    ((U * 4294967296 + C) % Y * 4294967296 + F) % Y / 2 ^ s = (h * 18446744073709551616 + l) % y := by
  have hp : 0 < 2 ^ s := Nat.two_pow_pos s
  have hY0 : 0 < Y := by have := k.hY; have := k.hD; omega
  have e1 := Nat.div_add_mod (U * 4294967296 + C) Y
  have e2 := Nat.div_add_mod ((U * 4294967296 + C) % Y * 4294967296 + F) Y
  have hr := Nat.mod_lt ((U * 4294967296 + C) % Y * 4294967296 + F) hY0
  have hx := k.x'
  rw [k.hL] at hx
  have hd : (h * 18446744073709551616 + l) / y = (h * 18446744073709551616 + l) * 2 ^ s / Y := by rw [k.y', Nat.mul_div_mul_right _ _ hp]
  have hm : (h * 18446744073709551616 + l) % y * 2 ^ s = (h * 18446744073709551616 + l) * 2 ^ s % Y := by rw [k.y', Nat.mul_mod_mul_right]
  have hm' : (h * 18446744073709551616 + l) % y = (h * 18446744073709551616 + l) * 2 ^ s % Y / 2 ^ s := by rw [← hm, Nat.mul_div_cancel _ hp]
  obtain ⟨a, b⟩ := div_of (hx.symm.trans (two_digits e1 e2)) hr
  exact ⟨(hd.trans a).symm, (hm'.trans (congrArg (· / 2 ^ s) b)).symm⟩
end Go.Proofs.Ytcggcnegagogkaa
namespace Go.Proofs.Ytcggcnegagogkaa
open Go.RowKit
set_option linter.unusedVariables false

/-- A digit and what is left behind it, under names. -/
structure Digit (U C Y Q V : Nat) : Prop where
  q : (U * 4294967296 + C) / Y = Q
  v : (U * 4294967296 + C) % Y = V
theorem digit (U C Y : Nat) (hY : 0 < Y) (hY' : Y < 18446744073709551616) (hU : U < Y) (hC : C < 4294967296) :
    ∃ Q V : Nat, Digit U C Y Q V ∧ Q < 4294967296 ∧ V < Y ∧ IntKind.u64.wrap (IntKind.u64.wrap (IntKind.u64.wrap ((U : Int) * 4294967296) + (C : Int)) - IntKind.u64.wrap ((Q : Int) * (Y : Int))) = (V : Int) := by
  refine ⟨_, _, ⟨rfl, rfl⟩, ?_, Nat.mod_lt _ hY, left_word hY hY'⟩
  refine Nat.div_lt_of_lt_mul ?_
  have := Nat.mul_le_mul_right 4294967296 (Nat.succ_le_of_lt hU)
  omega
/-- A product of half words, under a name. -/
theorem half_prod (a b : Nat) (ha : a < 4294967296) (hb : b < 4294967296) : ∃ p : Nat, Hid (a * b = p) ∧ (a : Int) * (b : Int) = (p : Int) ∧ p < 18446744073709551616 := by
  refine ⟨_, rfl, (Int.natCast_mul a b).symm, ?_⟩
  exact Nat.lt_of_lt_of_le (Nat.mul_lt_mul'' ha hb) (by omega)
theorem one_less (a : Nat) (h : 0 < a) : ∃ a' : Nat, a' + 1 = a ∧ (a : Int) - 1 = (a' : Int) := ⟨a - 1, by omega, by omega⟩
/-- One less of the guess is the upper half more of what is left. -/
theorem guess_down {a a' b D U : Nat} (h : a' + 1 = a) (e : a * D + b = U) : a' * D + (b + D) = U := by
  subst h
  rw [Nat.succ_mul] at e
  omega

theorem same_slot {a b : Nat} (h : a = b) : Value.int .u64 (a : Int) = Value.int .u64 (b : Int) := by rw [h]

end Go.Proofs.Ytcggcnegagogkaa
namespace Go.Proofs.Ytcggcnegagogkaa
open Go.RowKit
set_option linter.unusedVariables false

/-- A product, in its two words. -/
theorem ratio_times (a b hi lo : Nat) (w : World) (ha : a < 18446744073709551616) (hb : b < 18446744073709551616) (h : Hid (a * b = hi * 18446744073709551616 + lo)) (hlo : lo < 18446744073709551616) :
    Calls Try.prog 33 #[.int .u64 a, .int .u64 b] w fun e w' =>
      e = .returned (.agg #[.int .u64 hi, .int .u64 lo]) ∧ Below w.heap.size w w' := by
  have e1 : a * b / 18446744073709551616 = hi := by rw [h.out]; omega
  have e2 : a * b % 18446744073709551616 = lo := by rw [h.out]; omega
  have c := fun w => mul64_any a b ha hb w
  rw [e1, e2] at c
  clear e1 e2
  go_enter Try.func33, Try.ntmps33
  go_wp2_with (go_at_call 35; refine (c _).mono ?_; rintro e w' ⟨rfl, rfl⟩)
  refine bodyPost_ret (v := .agg #[.int .u64 hi, .int .u64 lo]) (by simp [results, Try.results33, go_sem]) rfl ⟨rfl, (Below.refl _ _).alloc (Nat.le_refl _) _⟩

theorem ratio_below (h l h' l' : Int) (w : World) :
    Calls Try.prog 34 #[.agg #[.int .u64 h, .int .u64 l], .agg #[.int .u64 h', .int .u64 l']] w fun e w' =>
      e = .returned (.bool (decide (h < h' ∨ h = h' ∧ l < l'))) ∧ Below w.heap.size w w' := by
  by_cases h1 : h < h'
  · rw [decide_eq_true (p := h < h' ∨ h = h' ∧ l < l') (.inl h1)]
    go_enter Try.func34, Try.ntmps34
    go_wp2
    go_ret
    exact ⟨rfl, ((Below.refl _ _).alloc (Nat.le_refl _) _).alloc (by simp) _⟩
  · by_cases h2 : h = h'
    · subst h2
      rw [show decide (h < h ∨ h = h ∧ l < l') = decide (l < l') by simp]
      go_enter Try.func34, Try.ntmps34
      go_wp2
      go_ret
      exact ⟨by simp, ((Below.refl _ _).alloc (Nat.le_refl _) _).alloc (by simp) _⟩
    · rw [decide_eq_false (p := h < h' ∨ h = h' ∧ l < l') (by omega)]
      have h3 : (h == h') = false := by simp [h2]
      have h4 : h' < h := by omega
      go_enter Try.func34, Try.ntmps34
      go_wp2
      go_ret
      exact ⟨by simp, ((Below.refl _ _).alloc (Nat.le_refl _) _).alloc (by simp) _⟩

/-- What a call that keeps all below leaves of three cells that lie ahead of it. -/
theorem three_cells {w w1 : World} {x y z : Value} {t : TypeId} (hb : Below (w.alloc (.cells #[x, y, z] t)).heap.size (w.alloc (.cells #[x, y, z] t)) w1) :
    w1.cell? ⟨w.heap.size, 0, none⟩ = some x ∧ w1.cell? ⟨w.heap.size, 1, none⟩ = some y ∧ w1.cell? ⟨w.heap.size, 2, none⟩ = some z ∧ Below w.heap.size w w1 := by
  have hs : w.heap.size < (w.alloc (.cells #[x, y, z] t)).heap.size := by simp
  refine ⟨(hb.cell (p := ⟨w.heap.size, 0, none⟩) hs).trans ?_, (hb.cell (p := ⟨w.heap.size, 1, none⟩) hs).trans ?_, (hb.cell (p := ⟨w.heap.size, 2, none⟩) hs).trans ?_, ((Below.refl _ _).alloc (Nat.le_refl _) _).trans (hb.mono (Nat.le_of_lt hs))⟩
  all_goals (rw [World.cell?_alloc_at _ _ _ _ rfl]; rfl)

end Go.Proofs.Ytcggcnegagogkaa
namespace Go.Proofs.Ytcggcnegagogkaa
open Go.RowKit
set_option linter.unusedVariables false

/-- A product of two words has two words. -/
theorem words (a b : Nat) : ∃ hi lo : Nat, Hid (a * b = hi * 18446744073709551616 + lo) ∧ lo < 18446744073709551616 :=
  ⟨a * b / 18446744073709551616, a * b % 18446744073709551616, (Nat.div_add_mod' _ _).symm, Nat.mod_lt _ (by omega)⟩
/-- A fraction fits where its product's upper word is below what it is divided by. -/
theorem words_fit {p hi lo c n r : Nat} (e : p = hi * 18446744073709551616 + lo) (hlo : lo < 18446744073709551616) (h : p = n * c + r) (hr : r < c) (hn : n < 18446744073709551616) : hi < c := by
  have h1 : n * c + c ≤ c * 18446744073709551616 := by rw [← Nat.succ_mul, Nat.mul_comm]; exact Nat.mul_le_mul_left _ hn
  omega
theorem words_over {p hi lo c n r : Nat} (e : p = hi * 18446744073709551616 + lo) (hlo : lo < 18446744073709551616) (h : p = n * c + r) (hn : 18446744073709551616 ≤ n) : c ≤ hi := by
  have h1 : c * 18446744073709551616 ≤ n * c := by rw [Nat.mul_comm c]; exact Nat.mul_le_mul_right _ hn
  omega

/-- Two products, held against each other. -/
theorem ratio_less (a b c d : Nat) (w : World) (ha : a < 18446744073709551616) (hb : b < 18446744073709551616) (hc : c < 18446744073709551616) (hd : d < 18446744073709551616) :
    Calls Try.prog 27 #[.int .u64 a, .int .u64 b, .int .u64 c, .int .u64 d] w fun e w' =>
      e = .returned (.bool (decide (a * b < c * d))) ∧ Below w.heap.size w w' := by
  obtain ⟨hi, lo, e1, hlo⟩ := words a b
  obtain ⟨hi', lo', e2, hlo'⟩ := words c d
  have k1 := fun w => ratio_times a b hi lo w ha hb e1 hlo
  have k2 := fun w => ratio_times c d hi' lo' w hc hd e2 hlo'
  have k3 := fun w => ratio_below hi lo hi' lo' w
  have e3 : decide ((hi : Int) < hi' ∨ (hi : Int) = hi' ∧ (lo : Int) < lo') = decide (a * b < c * d) := by
    have x1 := e1.out
    have x2 := e2.out
    apply decide_eq_decide.2
    omega
  rw [e3] at k3
  clear e3
  obtain ⟨t, ht⟩ : ∃ t, Hid (decide (a * b < c * d) = t) := ⟨_, rfl⟩
  rw [ht.out] at k3 ⊢
  go_enter Try.func27, Try.ntmps27
  go_wp2_with (first
    | (go_at_call 33; refine (k1 _).mono ?_; clear k1; rintro e w1 ⟨rfl, hb1⟩)
    | (go_at_call 33; refine (k2 _).mono ?_; rintro e w2 ⟨rfl, hb2⟩)
    | (go_at_call 34; refine (k3 _).mono ?_; rintro e w3 ⟨rfl, hb3⟩))
  go_ret
  exact ⟨rfl, Below.then (Below.then hb1 hb2) hb3⟩

end Go.Proofs.Ytcggcnegagogkaa
