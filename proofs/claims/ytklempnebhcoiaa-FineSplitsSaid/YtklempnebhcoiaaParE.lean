/- Layer 7 (param): Check, by a contract for each way that it ends. · Layer 7 (param): what is lost at least, the leak, and in how many ticks a quorum is back. By contracts. -/
import Derived.Test.YtklempnebhcoiaaParI
import Derived.Test.YtklempnebhcoiaaParL
import Derived.Test.YtklempnebhcoiaaParW
import Derived.Test.YtklempnebhcoiaaMoneySum
import Derived.Deep.QuietTactic
import Derived.BigQuiet
import Derived.Shelf.Abstract
namespace Go.Proofs.Ytklempnebhcoiaa
open Go.RowKit
set_option linter.unusedVariables false

theorem ParAt.words {w : World} {b : Nat} {p : Par} {T : TypeId} (h : ParAt w b p T) : WordsAt w b p.wspan := by
  intro k x hx
  rw [h.cell]
  match k, hx with
  | 0, hx => cases hx; rfl
  | 1, hx => cases hx; rfl
  | 2, hx => cases hx; rfl
  | 3, hx => cases hx; rfl
  | 4, hx => cases hx; rfl
  | 5, hx => cases hx; rfl
  | 6, hx => cases hx; rfl
  | 7, hx => cases hx; rfl
  | 8, hx => cases hx; rfl
  | 9, hx => cases hx; rfl
  | 10, hx => cases hx; rfl
  | 11, hx => cases hx; rfl
  | 12, hx => cases hx; rfl
  | 13, hx => cases hx; rfl
  | k + 14, hx => simp [Par.wspan] at hx
theorem ParAt.ints {w : World} {b : Nat} {p : Par} {T : TypeId} (h : ParAt w b p T) : IntsAt w b p.ispan := by
  intro k x hx
  rw [h.cell]
  match k, hx with
  | 0, hx => cases hx; rfl
  | 1, hx => cases hx; rfl
  | 2, hx => cases hx; rfl
  | 3, hx => cases hx; rfl
  | 4, hx => cases hx; rfl
  | 5, hx => cases hx; rfl
  | 6, hx => cases hx; rfl
  | 7, hx => cases hx; rfl
  | 8, hx => cases hx; rfl
  | 9, hx => cases hx; rfl
  | k + 10, hx => simp [Par.ispan] at hx

theorem FieldsW.lt {w : World} {g b : Nat} {p : Par} (h : FieldsW w g b p.wspan) : g < w.heap.size := World.block_lt_of_cell? w ⟨g, 0 * 3, none⟩ (h 0 _ rfl).1
theorem FieldsI.lt {w : World} {g b : Nat} {p : Par} (h : FieldsI w g b p.ispan) : g < w.heap.size := World.block_lt_of_cell? w ⟨g, 0 * 3, none⟩ (h 0 _ rfl).1
theorem within_at {w : World} {g b B : Nat} {p : Par} {T : TypeId} {r : Bool} (hF : FieldsW w g b p.wspan) (hP : ParAt w b p T) (hg : B ≤ g) (hr : p.allW = r) :
    Calls Try.prog 30 #[.slice (some ⟨g, 0, none⟩) 14 14] w fun e w' => e = .returned (.bool r) ∧ Below w.heap.size w w' := by
  have k := within_w g b p.wspan w hF hP.words hF.lt hP.lt (by simp [Par.wspan])
  rw [← hr]
  exact k
theorem within_at_i {w : World} {g b B : Nat} {p : Par} {T : TypeId} {r : Bool} (hF : FieldsI w g b p.ispan) (hP : ParAt w b p T) (hg : B ≤ g) (hr : p.allI = r) :
    Calls Try.prog 32 #[.slice (some ⟨g, 0, none⟩) 10 10] w fun e w' => e = .returned (.bool r) ∧ Below w.heap.size w w' := by
  have k := within_i g b p.ispan w hF hP.ints hF.lt hP.lt (by simp [Par.ispan])
  rw [← hr]
  exact k

set_option maxRecDepth 100000 in
set_option maxHeartbeats 1000000 in
theorem check_words (p : Par) (w : World) (HW : Hid (p.allW = false)) :
    Calls Try.prog 18 #[.agg p.vals] w fun e w' => e = .returned (.int .i64 70) ∧ Below w.heap.size w w' := by
  have hP := ParAt.new w p 24
  have hB : Below w.heap.size w (w.alloc (.cells p.vals 24)) := (Below.refl _ _).alloc (Nat.le_refl _) _
  go_enter Try.func18, Try.ntmps18
  go_wp2_with (first
    | (refine load_par _ rfl rfl _ p _ rfl (by assumption) ?_)
    | (go_at_call 31; refine (words_is _ p _ _ hP).mono ?_; rintro e w1 ⟨g1, rfl, hF1, hg1, hb1⟩; have hP1 := hP.up hb1; have hB1 := Below.then hB hb1)
    | (go_at_call 30; refine (within_at hF1 hP1 hg1 HW.out).mono ?_; rintro e w2 ⟨rfl, hb2⟩; have hP2 := hP1.up hb2; have hB2 := Below.then hB1 hb2))
  go_ret
  exact ⟨rfl, hB2⟩

set_option maxRecDepth 100000 in
set_option maxHeartbeats 1000000 in
theorem check_ints (p : Par) (w : World) (HW : Hid (p.allW = true)) (HI : Hid (p.allI = false)) :
    Calls Try.prog 18 #[.agg p.vals] w fun e w' => e = .returned (.int .i64 70) ∧ Below w.heap.size w w' := by
  have hP := ParAt.new w p 24
  have hB : Below w.heap.size w (w.alloc (.cells p.vals 24)) := (Below.refl _ _).alloc (Nat.le_refl _) _
  go_enter Try.func18, Try.ntmps18
  go_wp2_with (first
    | (refine load_par _ rfl rfl _ p _ rfl (by assumption) ?_)
    | (go_at_call 31; refine (words_is _ p _ _ hP).mono ?_; rintro e w1 ⟨g1, rfl, hF1, hg1, hb1⟩; have hP1 := hP.up hb1; have hB1 := Below.then hB hb1)
    | (go_at_call 30; refine (within_at hF1 hP1 hg1 HW.out).mono ?_; rintro e w2 ⟨rfl, hb2⟩; have hP2 := hP1.up hb2; have hB2 := Below.then hB1 hb2)
    | (go_at_call 33; refine (ints_is _ p _ _ hP2).mono ?_; rintro e w3 ⟨g3, rfl, hF3, hg3, hb3⟩; have hP3 := hP2.up hb3; have hB3 := Below.then hB2 hb3)
    | (go_at_call 32; refine (within_at_i hF3 hP3 hg3 HI.out).mono ?_; rintro e w4 ⟨rfl, hb4⟩; have hP4 := hP3.up hb4; have hB4 := Below.then hB3 hb4))
  go_ret
  exact ⟨rfl, hB4⟩

set_option maxRecDepth 100000 in
set_option maxHeartbeats 1000000 in
theorem check_part (p : Par) (w : World) (HW : Hid (p.allW = true)) (HI : Hid (p.allI = true)) (kb : ∀ w, Calls Try.prog 34 #[.agg p.vals] w fun e w' => e = .returned (.bool false) ∧ Below w.heap.size w w') :
    Calls Try.prog 18 #[.agg p.vals] w fun e w' => e = .returned (.int .i64 70) ∧ Below w.heap.size w w' := by
  have hP := ParAt.new w p 24
  have hB : Below w.heap.size w (w.alloc (.cells p.vals 24)) := (Below.refl _ _).alloc (Nat.le_refl _) _
  go_enter Try.func18, Try.ntmps18
  go_wp2_with (first
    | (refine load_par _ rfl rfl _ p _ rfl (by assumption) ?_)
    | (go_at_call 31; refine (words_is _ p _ _ hP).mono ?_; rintro e w1 ⟨g1, rfl, hF1, hg1, hb1⟩; have hP1 := hP.up hb1; have hB1 := Below.then hB hb1)
    | (go_at_call 30; refine (within_at hF1 hP1 hg1 HW.out).mono ?_; rintro e w2 ⟨rfl, hb2⟩; have hP2 := hP1.up hb2; have hB2 := Below.then hB1 hb2)
    | (go_at_call 33; refine (ints_is _ p _ _ hP2).mono ?_; rintro e w3 ⟨g3, rfl, hF3, hg3, hb3⟩; have hP3 := hP2.up hb3; have hB3 := Below.then hB2 hb3)
    | (go_at_call 32; refine (within_at_i hF3 hP3 hg3 HI.out).mono ?_; rintro e w4 ⟨rfl, hb4⟩; have hP4 := hP3.up hb4; have hB4 := Below.then hB3 hb4)
    | (go_at_call 34; refine (kb _).mono ?_; rintro e w5 ⟨rfl, hb5⟩; have hP5 := hP4.up hb5; have hB5 := Below.then hB4 hb5))
  go_ret
  exact ⟨rfl, hB5⟩

set_option maxRecDepth 100000 in
set_option maxHeartbeats 1000000 in
theorem check_leak (p : Par) (w : World) (HW : Hid (p.allW = true)) (HI : Hid (p.allI = true)) (kb : ∀ w, Calls Try.prog 34 #[.agg p.vals] w fun e w' => e = .returned (.bool true) ∧ Below w.heap.size w w') (kl : ∀ w, Calls Try.prog 35 #[.agg p.vals] w fun e w' => e = .returned (.bool false) ∧ Below w.heap.size w w') :
    Calls Try.prog 18 #[.agg p.vals] w fun e w' => e = .returned (.int .i64 70) ∧ Below w.heap.size w w' := by
  have hP := ParAt.new w p 24
  have hB : Below w.heap.size w (w.alloc (.cells p.vals 24)) := (Below.refl _ _).alloc (Nat.le_refl _) _
  go_enter Try.func18, Try.ntmps18
  go_wp2_with (first
    | (refine load_par _ rfl rfl _ p _ rfl (by assumption) ?_)
    | (go_at_call 31; refine (words_is _ p _ _ hP).mono ?_; rintro e w1 ⟨g1, rfl, hF1, hg1, hb1⟩; have hP1 := hP.up hb1; have hB1 := Below.then hB hb1)
    | (go_at_call 30; refine (within_at hF1 hP1 hg1 HW.out).mono ?_; rintro e w2 ⟨rfl, hb2⟩; have hP2 := hP1.up hb2; have hB2 := Below.then hB1 hb2)
    | (go_at_call 33; refine (ints_is _ p _ _ hP2).mono ?_; rintro e w3 ⟨g3, rfl, hF3, hg3, hb3⟩; have hP3 := hP2.up hb3; have hB3 := Below.then hB2 hb3)
    | (go_at_call 32; refine (within_at_i hF3 hP3 hg3 HI.out).mono ?_; rintro e w4 ⟨rfl, hb4⟩; have hP4 := hP3.up hb4; have hB4 := Below.then hB3 hb4)
    | (go_at_call 34; refine (kb _).mono ?_; rintro e w5 ⟨rfl, hb5⟩; have hP5 := hP4.up hb5; have hB5 := Below.then hB4 hb5)
    | (go_at_call 35; refine (kl _).mono ?_; rintro e w6 ⟨rfl, hb6⟩; have hB6 := Below.then hB5 hb6))
  go_ret
  exact ⟨rfl, hB6⟩

set_option maxRecDepth 100000 in
set_option maxHeartbeats 1000000 in
theorem check_fine (p : Par) (w : World) (HW : Hid (p.allW = true)) (HI : Hid (p.allI = true)) (kb : ∀ w, Calls Try.prog 34 #[.agg p.vals] w fun e w' => e = .returned (.bool true) ∧ Below w.heap.size w w') (kl : ∀ w, Calls Try.prog 35 #[.agg p.vals] w fun e w' => e = .returned (.bool true) ∧ Below w.heap.size w w') :
    Calls Try.prog 18 #[.agg p.vals] w fun e w' => e = .returned (.int .i64 0) ∧ Below w.heap.size w w' := by
  have hP := ParAt.new w p 24
  have hB : Below w.heap.size w (w.alloc (.cells p.vals 24)) := (Below.refl _ _).alloc (Nat.le_refl _) _
  go_enter Try.func18, Try.ntmps18
  go_wp2_with (first
    | (refine load_par _ rfl rfl _ p _ rfl (by assumption) ?_)
    | (go_at_call 31; refine (words_is _ p _ _ hP).mono ?_; rintro e w1 ⟨g1, rfl, hF1, hg1, hb1⟩; have hP1 := hP.up hb1; have hB1 := Below.then hB hb1)
    | (go_at_call 30; refine (within_at hF1 hP1 hg1 HW.out).mono ?_; rintro e w2 ⟨rfl, hb2⟩; have hP2 := hP1.up hb2; have hB2 := Below.then hB1 hb2)
    | (go_at_call 33; refine (ints_is _ p _ _ hP2).mono ?_; rintro e w3 ⟨g3, rfl, hF3, hg3, hb3⟩; have hP3 := hP2.up hb3; have hB3 := Below.then hB2 hb3)
    | (go_at_call 32; refine (within_at_i hF3 hP3 hg3 HI.out).mono ?_; rintro e w4 ⟨rfl, hb4⟩; have hP4 := hP3.up hb4; have hB4 := Below.then hB3 hb4)
    | (go_at_call 34; refine (kb _).mono ?_; rintro e w5 ⟨rfl, hb5⟩; have hP5 := hP4.up hb5; have hB5 := Below.then hB4 hb5)
    | (go_at_call 35; refine (kl _).mono ?_; rintro e w6 ⟨rfl, hb6⟩; have hB6 := Below.then hB5 hb6))
  go_ret
  exact ⟨rfl, hB6⟩

/-- Nothing that is asked is missing. -/
theorem check_ok (p : Par) (T : Nat) (w : World) (h : Par.Right p T) :
    Calls Try.prog 18 #[.agg p.vals] w fun e w' => e = .returned (.int .i64 0) ∧ Below w.heap.size w w' := by
  have s := h.spans
  exact check_fine p w s.allW s.allI (fun w => balanced_yes p w s.inc0 s.whole s.over) (fun w => leaks_is p true w s.inc1 s.bias0 s.bias1 s.quot1 s.cap1 (Nat.le_of_lt s.over) (by have := s.score1; omega)
    (Lib.hid (decide_eq_true ((Par.soon h.halt s.bias0).2 ⟨h.most, h.score⟩))))
theorem check_no (p : Par) (w : World) (hf : p.Fits) (h : ¬ ∃ T, Par.Right p T) :
    Calls Try.prog 18 #[.agg p.vals] w fun e w' => e = .returned (.int .i64 70) ∧ Below w.heap.size w w' := by
  cases HW : p.allW with
  | false => exact check_words p w HW
  | true => cases HI : p.allI with
    | false => exact check_ints p w HW HI
    | true =>
      have hi : 1 ≤ p.inc := by
        have h1 := HW
        simp only [Par.allW, Par.wspan, List.all_cons, List.all_nil, Bool.and_true, Bool.and_eq_true, Par.okW_iff] at h1
        omega
      by_cases h1 : p.maxEff % p.inc = 0
      · by_cases h2 : p.floor < p.cap
        · have s := Par.spans_of HW HI h1 h2
          obtain ⟨T, hT⟩ := Par.halt_is s.quot0 s.over
          have hno : ¬ p.lim (min 1048576 (p.scoreCap / p.bias)) := fun hl => by
            have := (Par.soon hT s.bias0).1 hl
            exact h ⟨T, s, hT, this.1, this.2⟩
          exact check_leak p w HW HI (fun w => balanced_yes p w s.inc0 s.whole s.over) (fun w => leaks_is p false w s.inc1 s.bias0 s.bias1 s.quot1 s.cap1 (Nat.le_of_lt s.over) (by have := s.score1; omega) (Lib.hid (decide_eq_false hno)))
        · exact check_part p w HW HI (fun w => balanced_over p w hi h1 h2)
      · exact check_part p w HW HI (fun w => balanced_part p w hi h1)
end Go.Proofs.Ytklempnebhcoiaa
namespace Go.Proofs.Ytklempnebhcoiaa
open Go.RowKit
set_option linter.unusedVariables false

/-- n is the whole number next above X / c. -/
structure Ceil (X c n : Nat) : Prop where
  enough : X ≤ n * c
  less : n * c < X + c
theorem ceil_is (X c : Nat) (hc : 0 < c) : ∃ n, Ceil X c n := by
  have h := Nat.div_add_mod' X c
  have hr := Nat.mod_lt X hc
  rcases Nat.eq_zero_or_pos (X % c) with h0 | h0
  · exact ⟨X / c, by omega, by omega⟩
  · refine ⟨X / c + 1, ?_, ?_⟩ <;> rw [Nat.add_mul] <;> omega
theorem Ceil.parts {X c n : Nat} (h : Ceil X c n) (hc : 0 < c) : X = n * c + 0 ∨ ∃ q r, n = q + 1 ∧ X = q * c + r ∧ r < c ∧ 0 < r := by
  rcases Nat.eq_or_lt_of_le h.enough with e | e
  · exact .inl (by omega)
  · have hn : n ≠ 0 := fun e0 => by subst e0; simp at e
    obtain ⟨q, rfl⟩ : ∃ q, n = q + 1 := ⟨n - 1, by omega⟩
    have h2 := h.less
    rw [Nat.add_mul] at e h2
    exact .inr ⟨q, X - q * c, rfl, by omega, by omega, by omega⟩
theorem Ceil.le {X c n m : Nat} (h : Ceil X c n) (hm : X ≤ m * c) : n ≤ m := by
  rcases Nat.lt_or_ge m n with hl | hl
  · have := h.less
    have h3 : (m + 1) * c ≤ n * c := Nat.mul_le_mul_right _ hl
    rw [Nat.add_mul] at h3
    omega
  · exact hl
theorem Ceil.pos {X c n : Nat} (h : Ceil X c n) (hX : 0 < X) : 0 < n := by
  rcases Nat.eq_zero_or_pos n with e | e
  · have := h.enough; subst e; omega
  · exact e
theorem up_is (a b c n : Nat) (w : World) (ha : a < 18446744073709551616) (hb : b < 18446744073709551616) (hc : c < 18446744073709551616) (h0 : 0 < c) (h : Ceil (a * b) c n) (hn : n < 18446744073709551616) :
    Calls Try.prog 26 #[.int .u64 a, .int .u64 b, .int .u64 c] w fun e w' => e = .returned (.tuple #[.int .u64 n, .int .i64 0]) ∧ Below w.heap.size w w' := by
  rcases h.parts h0 with e | ⟨q, r, rfl, e, hr, hr0⟩
  · exact ratio_up_whole a b c n w ha hb hc e h0 hn
  · have k := ratio_up_next a b c q r w ha hb hc e hr hr0 (by omega)
    rw [Int.natCast_add]
    exact k

set_option maxRecDepth 100000 in
theorem least_ok (p : Par) (T L : Nat) (w : World) (h : Par.Right p T) (hL : Ceil (p.inc * p.bias) p.quot L) :
    Calls Try.prog 15 #[.agg p.vals] w fun e w' => e = .returned (.tuple #[.int .u64 (L : Int), .int .i64 0]) ∧ Below w.heap.size w w' := by
  have s := h.spans
  have i1 := s.inc1
  have b1 := s.bias1
  have q0 := s.quot0
  have q1 := s.quot1
  have hl : L ≤ 9223372036854775808 := hL.le (Nat.le_trans (Nat.mul_le_mul i1 b1) (by have := Nat.mul_le_mul_left 9223372036854775808 q0; omega))
  have ku := fun w => up_is p.inc p.bias p.quot L w (by omega) (by omega) (by omega) q0 hL (by omega)
  have kc := fun w => check_ok p T w h
  have v0 := p.v0
  have v6 := p.v6
  have v7 := p.v7
  have hP := ParAt.new w p 24
  have hB : Below w.heap.size w (w.alloc (.cells p.vals 24)) := (Below.refl _ _).alloc (Nat.le_refl _) _
  clear h hL hl i1 b1 q0 q1 s
  go_enter Try.func15, Try.ntmps15
  go_wp2_with (first
    | (refine load_par _ rfl rfl _ p _ rfl (by assumption) ?_)
    | (go_at_call 18; refine (kc _).mono ?_; rintro e w1 ⟨rfl, hb1⟩; have hP1 := hP.up hb1; have hB1 := Below.then hB hb1; have c0 := (hP1.cell 0).trans v0; have c6 := (hP1.cell 6).trans v6; have c7 := (hP1.cell 7).trans v7)
    | (go_at_call 26; refine (ku _).mono ?_; rintro e w2 ⟨rfl, hb2⟩))
  refine bodyPost_ret (v := .tuple #[.int .u64 (L : Int), .int .i64 0]) (by simp [results, Try.results15, go_sem]) rfl ?_
  exact ⟨rfl, Below.then hB1 hb2⟩
set_option maxRecDepth 100000 in
theorem least_no (p : Par) (w : World) (hf : p.Fits) (h : ¬ ∃ T, Par.Right p T) :
    Calls Try.prog 15 #[.agg p.vals] w fun e w' => e = .returned (.tuple #[.int .u64 0, .int .i64 70]) ∧ Below w.heap.size w w' := by
  have kc := fun w => check_no p w hf h
  have hP := ParAt.new w p 24
  have hB : Below w.heap.size w (w.alloc (.cells p.vals 24)) := (Below.refl _ _).alloc (Nat.le_refl _) _
  clear h hf
  go_enter Try.func15, Try.ntmps15
  go_wp2_with (first
    | (refine load_par _ rfl rfl _ p _ rfl (by assumption) ?_)
    | (go_at_call 18; refine (kc _).mono ?_; rintro e w1 ⟨rfl, hb1⟩; have hB1 := Below.then hB hb1))
  refine bodyPost_ret (v := .tuple #[.int .u64 0, .int .i64 70]) (by simp [results, Try.results15, go_sem]) rfl ?_
  exact ⟨rfl, hB1⟩
set_option maxRecDepth 100000 in
theorem leak_no (p : Par) (w : World) (hf : p.Fits) (h : ¬ ∃ T, Par.Right p T) :
    Calls Try.prog 16 #[.agg p.vals] w fun e w' => e = .returned (.tuple #[.int .i64 0, .int .i64 70]) ∧ Below w.heap.size w w' := by
  have kc := fun w => check_no p w hf h
  have hP := ParAt.new w p 24
  have hB : Below w.heap.size w (w.alloc (.cells p.vals 24)) := (Below.refl _ _).alloc (Nat.le_refl _) _
  clear h hf
  go_enter Try.func16, Try.ntmps16
  go_wp2_with (first
    | (refine load_par _ rfl rfl _ p _ rfl (by assumption) ?_)
    | (go_at_call 18; refine (kc _).mono ?_; rintro e w1 ⟨rfl, hb1⟩; have hB1 := Below.then hB hb1))
  refine bodyPost_ret (v := .tuple #[.int .i64 0, .int .i64 70]) (by simp [results, Try.results16, go_sem]) rfl ?_
  exact ⟨rfl, hB1⟩
theorem lim_next {p : Par} {m : Nat} (h : Par.Right p (m + 1)) (i : Nat) : decide (p.lim (i + 1)) = decide (m ≤ i) := by
  apply decide_eq_decide.2
  constructor
  · intro hl
    rcases Nat.lt_or_ge i m with h1 | h1
    · exact absurd hl (h.halt.below (by omega))
    · exact h1
  · intro hi
    exact Par.lim_up h.lim (by omega)

set_option maxRecDepth 100000 in
theorem leak_closure (p : Par) (m i b : Nat) (T : TypeId) (w : World) (h : Par.Right p (m + 1)) (hP : ParAt w b p T) (hi : i < 1048576) :
    Calls Try.prog 28 #[.int .i64 (i : Int), .pointer (some ⟨b, 0, none⟩)] w fun e w' => e = .returned (.bool (decide (m ≤ i))) ∧ Below w.heap.size w w' := by
  have s := h.spans
  have kl := fun w => lost_is p (i + 1) (decide (m ≤ i)) w s.inc1 s.bias1 s.quot1 s.cap1 (Nat.le_of_lt s.over) (by omega) (Lib.hid (lim_next h i))
  rw [Int.natCast_add, show ((1 : Nat) : Int) = 1 from rfl] at kl
  obtain ⟨r, hr⟩ : ∃ r, Hid (decide (m ≤ i) = r) := ⟨_, rfl⟩
  rw [hr.out] at kl ⊢
  have hw : IntKind.u64.wrap (i : Int) = (i : Int) := IntWalk.u64_in _ (by omega)
  clear h s hr
  go_enter Try.func28, Try.ntmps28
  go_wp2_with (first
    | (refine load_par _ rfl rfl _ p _ rfl (by assumption) ?_)
    | (go_at_call 29; refine (kl _).mono ?_; rintro e w1 ⟨rfl, hb1⟩))
  go_ret
  exact ⟨rfl, hb1⟩

set_option maxHeartbeats 2000000 in
set_option maxRecDepth 100000 in
/-- The library's search by halving, over a function that says from m on yes. -/
theorem search_is (m n b : Nat) (w : World) (hmn : m ≤ n) (hn : n < 4611686018427387904)
    (hf : ∀ (i : Nat) (W : World), i < n → Below w.heap.size w W → Calls Try.prog 28 #[.int .i64 (i : Int), .pointer (some ⟨b, 0, none⟩)] W fun e w' => e = .returned (.bool (decide (m ≤ i))) ∧ Below W.heap.size W w') :
    Calls Try.prog 27 #[.int .i64 (n : Int), .func (.func 28) #[] #[.pointer (some ⟨b, 0, none⟩)]] w fun e w' => e = .returned (.int .i64 (m : Int)) ∧ Below w.heap.size w w' := by
  have eg := enters_of (P := Try.prog) Try.func28 (by kernel_rfl) rfl
  have HF := Lib.hid hf
  clear hf
  go_enter Try.func27, Try.ntmps27
  go_wp2
  go_loopw [5, 6] (fun s5 s6 wr => ∃ lo hi : Nat, s5 = .int .i64 (lo : Int) ∧ s6 = .int .i64 (hi : Int) ∧ lo ≤ m ∧ m ≤ hi ∧ hi ≤ n ∧ Below w.heap.size w wr) (fun s5 s6 _ => (intOf s6 - intOf s5).toNat)
  case atStart => exact ⟨0, n, rfl, rfl, Nat.zero_le _, hmn, Nat.le_refl _, Below.refl _ _⟩
  case round =>
    obtain ⟨lo, hi, rfl, rfl, hlm, hmh, hhn, hB⟩ := hrel
    by_cases hlt : lo < hi
    · have hc := HF.out ((lo + hi) / 2) wr (by omega) hB
      rw [show (((lo + hi) / 2 : Nat) : Int) = ((lo : Int) + (hi : Int)) / 2 by omega] at hc
      by_cases hp : m ≤ (lo + hi) / 2
      · rw [decide_eq_true hp] at hc
        have HP := Lib.hid hp
        clear hp
        go_wp2_with (first | (go_at_call 28; refine hc.mono ?_; rintro e w1 ⟨rfl, hb1⟩) | (go_at_fn 28; refine hc.mono ?_; rintro e w1 ⟨rfl, hb1⟩))
        go_roundw
        case rel => exact ⟨lo, (lo + hi) / 2, rfl, by rw [show ((lo : Int) + (hi : Int)) / 2 = (((lo + hi) / 2 : Nat) : Int) by omega], hlm, HP.out, by omega, Below.then hB hb1⟩
        case measure => simp [intOf]; omega
      · rw [decide_eq_false hp] at hc
        have HP := Lib.hid hp
        clear hp
        go_wp2_with (first | (go_at_call 28; refine hc.mono ?_; rintro e w1 ⟨rfl, hb1⟩) | (go_at_fn 28; refine hc.mono ?_; rintro e w1 ⟨rfl, hb1⟩))
        go_roundw
        case rel => exact ⟨(lo + hi) / 2 + 1, hi, by rw [show ((lo : Int) + (hi : Int)) / 2 + 1 = (((lo + hi) / 2 + 1 : Nat) : Int) by omega], rfl, by have := HP.out; omega, hmh, hhn, Below.then hB hb1⟩
        case measure => simp [intOf]; omega
    · obtain rfl : hi = lo := by omega
      obtain rfl : m = hi := by omega
      go_wp2
      go_ret
      exact ⟨rfl, hB⟩

set_option maxRecDepth 100000 in
theorem leak_ok (p : Par) (m : Nat) (w : World) (h : Par.Right p (m + 1)) :
    Calls Try.prog 16 #[.agg p.vals] w fun e w' => e = .returned (.tuple #[.int .i64 ((m : Int) + 1), .int .i64 0]) ∧ Below w.heap.size w w' := by
  have hm := h.most
  have kc := fun w => check_ok p (m + 1) w h
  have ks : ∀ w1 : World, ParAt w1 w.heap.size p 24 → Calls Try.prog 27 #[.int .i64 1048576, .func (.func 28) #[] #[.pointer (some ⟨w.heap.size, 0, none⟩)]] w1 fun e w' => e = .returned (.int .i64 (m : Int)) ∧ Below w1.heap.size w1 w' :=
    fun w1 hP1 => search_is m 1048576 w.heap.size w1 (by omega) (by omega) (fun i W hi hB => leak_closure p m i w.heap.size 24 W h (hP1.up hB) hi)
  have hP := ParAt.new w p 24
  have hB : Below w.heap.size w (w.alloc (.cells p.vals 24)) := (Below.refl _ _).alloc (Nat.le_refl _) _
  clear h
  go_enter Try.func16, Try.ntmps16
  go_wp2_with (first
    | (refine load_par _ rfl rfl _ p _ rfl (by assumption) ?_)
    | (go_at_call 18; refine (kc _).mono ?_; rintro e w1 ⟨rfl, hb1⟩; have hP1 := hP.up hb1; have hB1 := Below.then hB hb1)
    | (go_at_call 27; refine (ks _ hP1).mono ?_; rintro e w2 ⟨rfl, hb2⟩))
  refine bodyPost_ret (v := .tuple #[.int .i64 ((m : Int) + 1), .int .i64 0]) (by simp [results, Try.results16, go_sem]) rfl ?_
  exact ⟨rfl, Below.then hB1 hb2⟩

end Go.Proofs.Ytklempnebhcoiaa
