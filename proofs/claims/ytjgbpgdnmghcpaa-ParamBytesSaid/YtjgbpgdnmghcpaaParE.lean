/- Layer 7 (param): what is lost at least, the leak, and in how many ticks a quorum is back. By contracts. -/
import Derived.Test.YtjgbpgdnmghcpaaParD
import Derived.Test.YtjgbpgdnmghcpaaMoneySum
import Derived.Deep.QuietTactic
import Derived.BigQuiet
import Derived.Shelf.Abstract
namespace Go.Proofs.Ytjgbpgdnmghcpaa
open Go.RowKit
set_option linter.unusedVariables false

/-- n is the whole number next above X / c. -/
structure Ceil (X c n : Nat) : Prop where
  enough : X ≤ n * c
  less : n * c < X + c
theorem ceil_is (X c : Nat) (hc : 0 < c) : ∃ n, Ceil X c n := by
  have h := Nat.div_add_mod' X c
  have hr := Nat.mod_lt X hc
  rcases Nat.eq_zero_or_pos (X % c) with h0 | h0
  · exact ⟨X / c, by omega, by omega⟩
  · refine ⟨X / c + 1, ?_, ?_⟩ <;> rw [Nat.add_mul] <;> omega
theorem Ceil.parts {X c n : Nat} (h : Ceil X c n) (hc : 0 < c) : X = n * c + 0 ∨ ∃ q r, n = q + 1 ∧ X = q * c + r ∧ r < c ∧ 0 < r := by
  rcases Nat.eq_or_lt_of_le h.enough with e | e
  · exact .inl (by omega)
  · have hn : n ≠ 0 := fun e0 => by subst e0; simp at e
    obtain ⟨q, rfl⟩ : ∃ q, n = q + 1 := ⟨n - 1, by omega⟩
    have h2 := h.less
    rw [Nat.add_mul] at e h2
    exact .inr ⟨q, X - q * c, rfl, by omega, by omega, by omega⟩
theorem Ceil.le {X c n m : Nat} (h : Ceil X c n) (hm : X ≤ m * c) : n ≤ m := by
  rcases Nat.lt_or_ge m n with hl | hl
  · have := h.less
    have h3 : (m + 1) * c ≤ n * c := Nat.mul_le_mul_right _ hl
    rw [Nat.add_mul] at h3
    omega
  · exact hl
theorem Ceil.pos {X c n : Nat} (h : Ceil X c n) (hX : 0 < X) : 0 < n := by
  rcases Nat.eq_zero_or_pos n with e | e
  · have := h.enough; subst e; omega
  · exact e
theorem row_new (w : World) (ns : List Nat) (T : TypeId) : Row (w.alloc (.cells (u64s ns).toArray T)) (w.heap.size + 1) (some ⟨w.heap.size, 0, none⟩) (u64s ns) := fun k v hk => by
  refine ⟨_, rfl, by show w.heap.size < _; omega, ?_⟩
  rw [Addr.add_mid, Nat.zero_add, cell_of_row _ _ _ _ _ _ (heap_alloc_new w _)]
  simpa using hk
theorem up_is (a b c n : Nat) (w : World) (ha : a < 18446744073709551616) (hb : b < 18446744073709551616) (hc : c < 18446744073709551616) (h0 : 0 < c) (h : Ceil (a * b) c n) (hn : n < 18446744073709551616) :
    Calls Try.prog 25 #[.int .u64 a, .int .u64 b, .int .u64 c] w fun e w' => e = .returned (.tuple #[.int .u64 n, .int .i64 0]) ∧ Below w.heap.size w w' := by
  rcases h.parts h0 with e | ⟨q, r, rfl, e, hr, hr0⟩
  · exact ratio_up_whole a b c n w ha hb hc e h0 hn
  · have k := ratio_up_next a b c q r w ha hb hc e hr hr0 (by omega)
    rw [Int.natCast_add]
    exact k

set_option maxRecDepth 100000 in
theorem least_ok (p : Par) (T L : Nat) (w : World) (h : Par.Right p T) (hL : Ceil (p.inc * p.bias) p.quot L) :
    Calls Try.prog 14 #[.agg p.vals] w fun e w' => e = .returned (.tuple #[.int .u64 (L : Int), .int .i64 0]) ∧ Below w.heap.size w w' := by
  have s := h.spans
  have i1 := s.inc1
  have b1 := s.bias1
  have q0 := s.quot0
  have q1 := s.quot1
  have hl : L ≤ 9223372036854775808 := hL.le (Nat.le_trans (Nat.mul_le_mul i1 b1) (by have := Nat.mul_le_mul_left 9223372036854775808 q0; omega))
  have ku := fun w => up_is p.inc p.bias p.quot L w (by omega) (by omega) (by omega) q0 hL (by omega)
  have kc := fun w => check_ok p T w h
  have v0 := p.v0
  have v6 := p.v6
  have v7 := p.v7
  have hP := ParAt.new w p 24
  have hB : Below w.heap.size w (w.alloc (.cells p.vals 24)) := (Below.refl _ _).alloc (Nat.le_refl _) _
  clear h hL hl i1 b1 q0 q1 s
  go_enter Try.func14, Try.ntmps14
  go_wp2_with (first
    | (refine load_par _ rfl rfl _ p _ rfl (by assumption) ?_)
    | (go_at_call 12; refine (kc _).mono ?_; rintro e w1 ⟨rfl, hb1⟩; have hP1 := hP.up hb1; have hB1 := Below.then hB hb1; have c0 := (hP1.cell 0).trans v0; have c6 := (hP1.cell 6).trans v6; have c7 := (hP1.cell 7).trans v7)
    | (go_at_call 25; refine (ku _).mono ?_; rintro e w2 ⟨rfl, hb2⟩))
  refine bodyPost_ret (v := .tuple #[.int .u64 (L : Int), .int .i64 0]) (by simp [results, Try.results14, go_sem]) rfl ?_
  exact ⟨rfl, Below.then hB1 hb2⟩
set_option maxRecDepth 100000 in
theorem least_no (p : Par) (w : World) (hf : p.Fits) (h : ¬ ∃ T, Par.Right p T) :
    Calls Try.prog 14 #[.agg p.vals] w fun e w' => e = .returned (.tuple #[.int .u64 0, .int .i64 70]) ∧ Below w.heap.size w w' := by
  have kc := fun w => check_no p w hf h
  have hP := ParAt.new w p 24
  have hB : Below w.heap.size w (w.alloc (.cells p.vals 24)) := (Below.refl _ _).alloc (Nat.le_refl _) _
  clear h hf
  go_enter Try.func14, Try.ntmps14
  go_wp2_with (first
    | (refine load_par _ rfl rfl _ p _ rfl (by assumption) ?_)
    | (go_at_call 12; refine (kc _).mono ?_; rintro e w1 ⟨rfl, hb1⟩; have hB1 := Below.then hB hb1))
  refine bodyPost_ret (v := .tuple #[.int .u64 0, .int .i64 70]) (by simp [results, Try.results14, go_sem]) rfl ?_
  exact ⟨rfl, hB1⟩
set_option maxRecDepth 100000 in
theorem bound_no (p : Par) (n : Int) (w : World) (hf : p.Fits) (h : ¬ ∃ T, Par.Right p T) :
    Calls Try.prog 15 #[.agg p.vals, .int .i64 n] w fun e w' => e = .returned (.tuple #[.int .u64 0, .int .i64 70]) ∧ Below w.heap.size w w' := by
  have kc := fun w => least_no p w hf h
  have hP := ParAt.new w p 24
  have hB : Below w.heap.size w (w.alloc (.cells p.vals 24)) := (Below.refl _ _).alloc (Nat.le_refl _) _
  clear h hf
  go_enter Try.func15, Try.ntmps15
  go_wp2_with (first
    | (refine load_par _ rfl rfl _ p _ rfl (by assumption) ?_)
    | (go_at_call 14; refine (kc _).mono ?_; rintro e w1 ⟨rfl, hb1⟩; have hB1 := Below.then hB hb1))
  refine bodyPost_ret (v := .tuple #[.int .u64 0, .int .i64 70]) (by simp [results, Try.results15, go_sem]) rfl ?_
  exact ⟨rfl, hB1⟩
set_option maxRecDepth 100000 in
theorem leak_no (p : Par) (w : World) (hf : p.Fits) (h : ¬ ∃ T, Par.Right p T) :
    Calls Try.prog 9 #[.agg p.vals] w fun e w' => e = .returned (.tuple #[.int .i64 0, .int .i64 70]) ∧ Below w.heap.size w w' := by
  have kc := fun w => check_no p w hf h
  have hP := ParAt.new w p 24
  have hB : Below w.heap.size w (w.alloc (.cells p.vals 24)) := (Below.refl _ _).alloc (Nat.le_refl _) _
  clear h hf
  go_enter Try.func9, Try.ntmps9
  go_wp2_with (first
    | (refine load_par _ rfl rfl _ p _ rfl (by assumption) ?_)
    | (go_at_call 12; refine (kc _).mono ?_; rintro e w1 ⟨rfl, hb1⟩; have hB1 := Below.then hB hb1))
  refine bodyPost_ret (v := .tuple #[.int .i64 0, .int .i64 70]) (by simp [results, Try.results9, go_sem]) rfl ?_
  exact ⟨rfl, hB1⟩
set_option maxRecDepth 100000 in
theorem quick_no (p : Par) (w : World) (hf : p.Fits) (h : ¬ ∃ T, Par.Right p T) :
    Calls Try.prog 16 #[.agg p.vals] w fun e w' => e = .returned (.tuple #[.int .i64 0, .int .i64 70]) ∧ Below w.heap.size w w' := by
  have kc := fun w => leak_no p w hf h
  have hP := ParAt.new w p 24
  have hB : Below w.heap.size w (w.alloc (.cells p.vals 24)) := (Below.refl _ _).alloc (Nat.le_refl _) _
  clear h hf
  go_enter Try.func16, Try.ntmps16
  go_wp2_with (first
    | (refine load_par _ rfl rfl _ p _ rfl (by assumption) ?_)
    | (go_at_call 9; refine (kc _).mono ?_; rintro e w1 ⟨rfl, hb1⟩; have hB1 := Below.then hB hb1))
  refine bodyPost_ret (v := .tuple #[.int .i64 0, .int .i64 70]) (by simp [results, Try.results16, go_sem]) rfl ?_
  exact ⟨rfl, hB1⟩
set_option maxRecDepth 100000 in
theorem bound_arg (p : Par) (T : Nat) (n : Int) (w : World) (h : Par.Right p T) (hn : n < 0 ∨ 128 < n) :
    Calls Try.prog 15 #[.agg p.vals, .int .i64 n] w fun e w' => e = .returned (.tuple #[.int .u64 0, .int .i64 2]) ∧ Below w.heap.size w w' := by
  obtain ⟨L, hL⟩ := ceil_is (p.inc * p.bias) p.quot h.spans.quot0
  have kl := fun w => least_ok p T L w h hL
  have v2 := p.v2
  have v3 := p.v3
  have hP := ParAt.new w p 24
  have hB : Below w.heap.size w (w.alloc (.cells p.vals 24)) := (Below.refl _ _).alloc (Nat.le_refl _) _
  clear h hL
  rcases hn with hn | hn
  · have d1 : decide (n < 0) = true := by simpa using hn
    go_enter Try.func15, Try.ntmps15
    go_wp2_with (first
      | (refine load_par _ rfl rfl _ p _ rfl (by assumption) ?_)
      | (go_at_call 14; refine (kl _).mono ?_; rintro e w1 ⟨rfl, hb1⟩; have hP1 := hP.up hb1; have hB1 := Below.then hB hb1; have c2 := (hP1.cell 2).trans v2; have c3 := (hP1.cell 3).trans v3))
    refine bodyPost_ret (v := .tuple #[.int .u64 0, .int .i64 2]) (by simp [results, Try.results15, go_sem]) rfl ?_
    exact ⟨rfl, hB1⟩
  · have d1 : decide (n < 0) = false := by simp; omega
    have d2 : decide (128 < n) = true := by simpa using hn
    go_enter Try.func15, Try.ntmps15
    go_wp2_with (first
      | (refine load_par _ rfl rfl _ p _ rfl (by assumption) ?_)
      | (go_at_call 14; refine (kl _).mono ?_; rintro e w1 ⟨rfl, hb1⟩; have hP1 := hP.up hb1; have hB1 := Below.then hB hb1; have c2 := (hP1.cell 2).trans v2; have c3 := (hP1.cell 3).trans v3))
    refine bodyPost_ret (v := .tuple #[.int .u64 0, .int .i64 2]) (by simp [results, Try.results15, go_sem]) rfl ?_
    exact ⟨rfl, hB1⟩

set_option maxRecDepth 100000 in
set_option maxHeartbeats 1000000 in
theorem bound_ok (p : Par) (T L E n d : Nat) (w : World) (h : Par.Right p T) (hL : Ceil (p.inc * p.bias) p.quot L) (hE : Ceil (p.cap - p.floor) L E) (hn : n ≤ 128) (hd : p.delay = (d : Int)) :
    Calls Try.prog 15 #[.agg p.vals, .int .i64 (n : Int)] w fun e w' => e = .returned (.tuple #[.int .u64 ((d + n * E + 1 : Nat) : Int), .int .i64 0]) ∧ Below w.heap.size w w' := by
  have s := h.spans
  have cap1 := s.cap1
  have ov := s.over
  have dl := s.delay1
  rw [hd] at dl
  have hX : 0 < p.inc * p.bias := Nat.mul_pos s.inc0 s.bias0
  have hl0 := hL.pos hX
  have hl : L ≤ 9223372036854775808 := hL.le (Nat.le_trans (Nat.mul_le_mul s.inc1 s.bias1) (by have := Nat.mul_le_mul_left 9223372036854775808 s.quot0; omega))
  have he : E ≤ 1099511627776 := hE.le (by have := Nat.mul_le_mul_left 1099511627776 hl0; omega)
  have kl := fun w => least_ok p T L w h hL
  have ku := fun w => up_is (p.cap - p.floor) 1 L E w (by omega) (by omega) (by omega) hl0 (by rw [Nat.mul_one]; exact hE) (by omega)
  rw [show ((p.cap - p.floor : Nat) : Int) = (p.cap : Int) - (p.floor : Int) by omega, show ((1 : Nat) : Int) = 1 from rfl] at ku
  obtain ⟨M, hM⟩ : ∃ M, n * E = M := ⟨_, rfl⟩
  have hM1 : M ≤ 140737488355328 := hM ▸ Nat.le_trans (Nat.mul_le_mul hn he) (by omega)
  have e1 : IntKind.u64.wrap ((n : Int) * (E : Int)) = (M : Int) := by rw [← Int.natCast_mul, hM]; exact IntWalk.u64_in _ (by omega)
  have ks : ∀ w2 : World, Calls Try.prog 41 #[.slice (some ⟨w2.heap.size, 0, none⟩) 3 3] (w2.alloc (.cells #[.int .u64 (d : Int), .int .u64 (M : Int), .int .u64 1] 22)) fun e w' => e = .returned (.tuple #[.int .u64 ((d + n * E + 1 : Nat) : Int), .int .i64 0]) ∧ w2.alloc (.cells #[.int .u64 (d : Int), .int .u64 (M : Int), .int .u64 1] 22) = w' := fun w2 => by
    have k := sum_ok [d, M, 1] (some ⟨w2.heap.size, 0, none⟩) 3 (w2.heap.size + 1) (w2.alloc (.cells (u64s [d, M, 1]).toArray 22)) (row_new w2 _ _) (by simp [maxLen]) (by simp [tot]; omega)
    rw [show tot [d, M, 1] = d + n * E + 1 by simp [tot, hM]; omega] at k
    exact k
  have v2 := p.v2
  have v3 := p.v3
  have v14 := p.v14
  rw [hd] at v14
  have hP := ParAt.new w p 24
  have hB : Below w.heap.size w (w.alloc (.cells p.vals 24)) := (Below.refl _ _).alloc (Nat.le_refl _) _
  obtain ⟨R, hR⟩ : ∃ R, Hid (d + n * E + 1 = R) := ⟨_, rfl⟩
  rw [hR.out] at ks ⊢
  have d1 : decide ((n : Int) < 0) = false := by simp
  have d2 : decide ((128 : Int) < (n : Int)) = false := by simp; omega
  clear h hL hE hM hd s hX he hl hl0 hR
  go_enter Try.func15, Try.ntmps15
  go_wp2_with (first
    | (refine load_par _ rfl rfl _ p _ rfl (by assumption) ?_)
    | (go_at_call 14; refine (kl _).mono ?_; rintro e w1 ⟨rfl, hb1⟩; have hP1 := hP.up hb1; have hB1 := Below.then hB hb1; have c2 := (hP1.cell 2).trans v2; have c3 := (hP1.cell 3).trans v3)
    | (go_at_call 25; refine (ku _).mono ?_; rintro e w2 ⟨rfl, hb2⟩; have hP2 := hP1.up hb2; have hB2 := Below.then hB1 hb2; have c14 := (hP2.cell 14).trans v14)
    | (go_at_call 41; refine (ks _).mono ?_; clear ks; rintro e w3 ⟨rfl, rfl⟩))
  refine bodyPost_ret (v := .tuple #[.int .u64 (R : Int), .int .i64 0]) (by simp [results, Try.results15, go_sem]) rfl ?_
  exact ⟨rfl, hB2.alloc hB2.size _⟩

theorem lim_next {p : Par} {m : Nat} (h : Par.Right p (m + 1)) (i : Nat) : decide (p.lim (i + 1)) = decide (m ≤ i) := by
  apply decide_eq_decide.2
  constructor
  · intro hl
    rcases Nat.lt_or_ge i m with h1 | h1
    · exact absurd hl (h.halt.below (by omega))
    · exact h1
  · intro hi
    exact Par.lim_up h.lim (by omega)

set_option maxRecDepth 100000 in
theorem leak_closure (p : Par) (m i b : Nat) (T : TypeId) (w : World) (h : Par.Right p (m + 1)) (hP : ParAt w b p T) (hi : i < 1048576) :
    Calls Try.prog 28 #[.int .i64 (i : Int), .pointer (some ⟨b, 0, none⟩)] w fun e w' => e = .returned (.bool (decide (m ≤ i))) ∧ Below w.heap.size w w' := by
  have s := h.spans
  have kl := fun w => lost_is p (i + 1) (decide (m ≤ i)) w s.inc1 s.bias1 s.quot1 s.cap1 (Nat.le_of_lt s.over) (by omega) (Lib.hid (lim_next h i))
  rw [Int.natCast_add, show ((1 : Nat) : Int) = 1 from rfl] at kl
  obtain ⟨r, hr⟩ : ∃ r, Hid (decide (m ≤ i) = r) := ⟨_, rfl⟩
  rw [hr.out] at kl ⊢
  have hw : IntKind.u64.wrap (i : Int) = (i : Int) := IntWalk.u64_in _ (by omega)
  clear h s hr
  go_enter Try.func28, Try.ntmps28
  go_wp2_with (first
    | (refine load_par _ rfl rfl _ p _ rfl (by assumption) ?_)
    | (go_at_call 29; refine (kl _).mono ?_; rintro e w1 ⟨rfl, hb1⟩))
  go_ret
  exact ⟨rfl, hb1⟩

set_option maxHeartbeats 2000000 in
set_option maxRecDepth 100000 in
/-- The library's search by halving, over a function that says from m on yes. -/
theorem search_is (m n b : Nat) (w : World) (hmn : m ≤ n) (hn : n < 4611686018427387904)
    (hf : ∀ (i : Nat) (W : World), i < n → Below w.heap.size w W → Calls Try.prog 28 #[.int .i64 (i : Int), .pointer (some ⟨b, 0, none⟩)] W fun e w' => e = .returned (.bool (decide (m ≤ i))) ∧ Below W.heap.size W w') :
    Calls Try.prog 27 #[.int .i64 (n : Int), .func (.func 28) #[] #[.pointer (some ⟨b, 0, none⟩)]] w fun e w' => e = .returned (.int .i64 (m : Int)) ∧ Below w.heap.size w w' := by
  have eg := enters_of (P := Try.prog) Try.func28 (by kernel_rfl) rfl
  have HF := Lib.hid hf
  clear hf
  go_enter Try.func27, Try.ntmps27
  go_wp2
  go_loopw [5, 6] (fun s5 s6 wr => ∃ lo hi : Nat, s5 = .int .i64 (lo : Int) ∧ s6 = .int .i64 (hi : Int) ∧ lo ≤ m ∧ m ≤ hi ∧ hi ≤ n ∧ Below w.heap.size w wr) (fun s5 s6 _ => (intOf s6 - intOf s5).toNat)
  case atStart => exact ⟨0, n, rfl, rfl, Nat.zero_le _, hmn, Nat.le_refl _, Below.refl _ _⟩
  case round =>
    obtain ⟨lo, hi, rfl, rfl, hlm, hmh, hhn, hB⟩ := hrel
    by_cases hlt : lo < hi
    · have hc := HF.out ((lo + hi) / 2) wr (by omega) hB
      rw [show (((lo + hi) / 2 : Nat) : Int) = ((lo : Int) + (hi : Int)) / 2 by omega] at hc
      by_cases hp : m ≤ (lo + hi) / 2
      · rw [decide_eq_true hp] at hc
        have HP := Lib.hid hp
        clear hp
        go_wp2_with (first | (go_at_call 28; refine hc.mono ?_; rintro e w1 ⟨rfl, hb1⟩) | (go_at_fn 28; refine hc.mono ?_; rintro e w1 ⟨rfl, hb1⟩))
        go_roundw
        case rel => exact ⟨lo, (lo + hi) / 2, rfl, by rw [show ((lo : Int) + (hi : Int)) / 2 = (((lo + hi) / 2 : Nat) : Int) by omega], hlm, HP.out, by omega, Below.then hB hb1⟩
        case measure => simp [intOf]; omega
      · rw [decide_eq_false hp] at hc
        have HP := Lib.hid hp
        clear hp
        go_wp2_with (first | (go_at_call 28; refine hc.mono ?_; rintro e w1 ⟨rfl, hb1⟩) | (go_at_fn 28; refine hc.mono ?_; rintro e w1 ⟨rfl, hb1⟩))
        go_roundw
        case rel => exact ⟨(lo + hi) / 2 + 1, hi, by rw [show ((lo : Int) + (hi : Int)) / 2 + 1 = (((lo + hi) / 2 + 1 : Nat) : Int) by omega], rfl, by have := HP.out; omega, hmh, hhn, Below.then hB hb1⟩
        case measure => simp [intOf]; omega
    · obtain rfl : hi = lo := by omega
      obtain rfl : m = hi := by omega
      go_wp2
      go_ret
      exact ⟨rfl, hB⟩

set_option maxRecDepth 100000 in
theorem leak_ok (p : Par) (m : Nat) (w : World) (h : Par.Right p (m + 1)) :
    Calls Try.prog 9 #[.agg p.vals] w fun e w' => e = .returned (.tuple #[.int .i64 ((m : Int) + 1), .int .i64 0]) ∧ Below w.heap.size w w' := by
  have hm := h.most
  have kc := fun w => check_ok p (m + 1) w h
  have ks : ∀ w1 : World, ParAt w1 w.heap.size p 24 → Calls Try.prog 27 #[.int .i64 1048576, .func (.func 28) #[] #[.pointer (some ⟨w.heap.size, 0, none⟩)]] w1 fun e w' => e = .returned (.int .i64 (m : Int)) ∧ Below w1.heap.size w1 w' :=
    fun w1 hP1 => search_is m 1048576 w.heap.size w1 (by omega) (by omega) (fun i W hi hB => leak_closure p m i w.heap.size 24 W h (hP1.up hB) hi)
  have hP := ParAt.new w p 24
  have hB : Below w.heap.size w (w.alloc (.cells p.vals 24)) := (Below.refl _ _).alloc (Nat.le_refl _) _
  clear h
  go_enter Try.func9, Try.ntmps9
  go_wp2_with (first
    | (refine load_par _ rfl rfl _ p _ rfl (by assumption) ?_)
    | (go_at_call 12; refine (kc _).mono ?_; rintro e w1 ⟨rfl, hb1⟩; have hP1 := hP.up hb1; have hB1 := Below.then hB hb1)
    | (go_at_call 27; refine (ks _ hP1).mono ?_; rintro e w2 ⟨rfl, hb2⟩))
  refine bodyPost_ret (v := .tuple #[.int .i64 ((m : Int) + 1), .int .i64 0]) (by simp [results, Try.results9, go_sem]) rfl ?_
  exact ⟨rfl, Below.then hB1 hb2⟩

set_option maxRecDepth 100000 in
theorem quick_ok (p : Par) (m d : Nat) (w : World) (h : Par.Right p (m + 1)) (hd : p.delay = (d : Int)) :
    Calls Try.prog 16 #[.agg p.vals] w fun e w' => e = .returned (.tuple #[.int .i64 ((d : Int) + ((m : Int) + 1) + 1), .int .i64 0]) ∧ Below w.heap.size w w' := by
  have hm := h.most
  have hd1 := h.spans.delay1
  rw [hd] at hd1
  have kc := fun w => leak_ok p m w h
  have v14 := p.v14
  rw [hd] at v14
  have hP := ParAt.new w p 24
  have hB : Below w.heap.size w (w.alloc (.cells p.vals 24)) := (Below.refl _ _).alloc (Nat.le_refl _) _
  clear h hd
  go_enter Try.func16, Try.ntmps16
  go_wp2_with (first
    | (refine load_par _ rfl rfl _ p _ rfl (by assumption) ?_)
    | (go_at_call 9; refine (kc _).mono ?_; rintro e w1 ⟨rfl, hb1⟩; have hP1 := hP.up hb1; have hB1 := Below.then hB hb1; have c14 := (hP1.cell 14).trans v14))
  refine bodyPost_ret (v := .tuple #[.int .i64 ((d : Int) + ((m : Int) + 1) + 1), .int .i64 0]) (by simp [results, Try.results16, go_sem]) rfl ?_
  exact ⟨rfl, hB1⟩
end Go.Proofs.Ytjgbpgdnmghcpaa
