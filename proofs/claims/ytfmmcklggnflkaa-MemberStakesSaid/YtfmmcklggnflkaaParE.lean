/- Layer 7 (param): Check, by a contract for each way that it ends. · Layer 7 (param): what is lost at least, the leak, and in how many ticks a quorum is back. By contracts. -/
import Derived.Test.YtfmmcklggnflkaaParI
import Derived.Test.YtfmmcklggnflkaaParL
import Derived.Test.YtfmmcklggnflkaaParW
import Derived.Test.YtfmmcklggnflkaaMoneySum
import Derived.Deep.QuietTactic
import Derived.BigQuiet
import Derived.Shelf.Abstract
namespace Go.Proofs.Ytfmmcklggnflkaa
open Go.RowKit
set_option linter.unusedVariables false

theorem ParAt.words {w : World} {b : Nat} {p : Par} {T : TypeId} (h : ParAt w b p T) : WordsAt w b p.wspan := by
  intro k x hx
  rw [h.cell]
  match k, hx with
  | 0, hx => cases hx; rfl
  | 1, hx => cases hx; rfl
  | 2, hx => cases hx; rfl
  | 3, hx => cases hx; rfl
  | 4, hx => cases hx; rfl
  | 5, hx => cases hx; rfl
  | 6, hx => cases hx; rfl
  | 7, hx => cases hx; rfl
  | 8, hx => cases hx; rfl
  | 9, hx => cases hx; rfl
  | 10, hx => cases hx; rfl
  | 11, hx => cases hx; rfl
  | 12, hx => cases hx; rfl
  | 13, hx => cases hx; rfl
  | k + 14, hx => simp [Par.wspan] at hx
theorem ParAt.ints {w : World} {b : Nat} {p : Par} {T : TypeId} (h : ParAt w b p T) : IntsAt w b p.ispan := by
  intro k x hx
  rw [h.cell]
  match k, hx with
  | 0, hx => cases hx; rfl
  | 1, hx => cases hx; rfl
  | 2, hx => cases hx; rfl
  | 3, hx => cases hx; rfl
  | 4, hx => cases hx; rfl
  | 5, hx => cases hx; rfl
  | 6, hx => cases hx; rfl
  | 7, hx => cases hx; rfl
  | 8, hx => cases hx; rfl
  | 9, hx => cases hx; rfl
  | k + 10, hx => simp [Par.ispan] at hx

theorem FieldsW.lt {w : World} {g b : Nat} {p : Par} (h : FieldsW w g b p.wspan) : g < w.heap.size := World.block_lt_of_cell? w ⟨g, 0 * 3, none⟩ (h 0 _ rfl).1
theorem FieldsI.lt {w : World} {g b : Nat} {p : Par} (h : FieldsI w g b p.ispan) : g < w.heap.size := World.block_lt_of_cell? w ⟨g, 0 * 3, none⟩ (h 0 _ rfl).1
theorem within_at {w : World} {g b B : Nat} {p : Par} {T : TypeId} {r : Bool} (hF : FieldsW w g b p.wspan) (hP : ParAt w b p T) (hg : B ≤ g) (hr : p.allW = r) :
    Calls Try.prog 42 #[.slice (some ⟨g, 0, none⟩) 14 14] w fun e w' => e = .returned (.bool r) ∧ Below w.heap.size w w' := by
  have k := within_w g b p.wspan w hF hP.words hF.lt hP.lt (by simp [Par.wspan])
  rw [← hr]
  exact k
theorem within_at_i {w : World} {g b B : Nat} {p : Par} {T : TypeId} {r : Bool} (hF : FieldsI w g b p.ispan) (hP : ParAt w b p T) (hg : B ≤ g) (hr : p.allI = r) :
    Calls Try.prog 44 #[.slice (some ⟨g, 0, none⟩) 10 10] w fun e w' => e = .returned (.bool r) ∧ Below w.heap.size w w' := by
  have k := within_i g b p.ispan w hF hP.ints hF.lt hP.lt (by simp [Par.ispan])
  rw [← hr]
  exact k

set_option maxRecDepth 100000 in
set_option maxHeartbeats 1000000 in
theorem check_words (p : Par) (w : World) (HW : Hid (p.allW = false)) :
    Calls Try.prog 26 #[.agg p.vals] w fun e w' => e = .returned (.int .i64 70) ∧ Below w.heap.size w w' := by
  have hP := ParAt.new w p 42
  have hB : Below w.heap.size w (w.alloc (.cells p.vals 42)) := (Below.refl _ _).alloc (Nat.le_refl _) _
  go_enter Try.func26, Try.ntmps26
  go_wp2_with (first
    | (refine load_par _ rfl rfl _ p _ rfl (by assumption) ?_)
    | (go_at_call 43; refine (words_is _ p _ _ hP).mono ?_; rintro e w1 ⟨g1, rfl, hF1, hg1, hb1⟩; have hP1 := hP.up hb1; have hB1 := Below.then hB hb1)
    | (go_at_call 42; refine (within_at hF1 hP1 hg1 HW.out).mono ?_; rintro e w2 ⟨rfl, hb2⟩; have hP2 := hP1.up hb2; have hB2 := Below.then hB1 hb2))
  go_ret
  exact ⟨rfl, hB2⟩

set_option maxRecDepth 100000 in
set_option maxHeartbeats 1000000 in
theorem check_ints (p : Par) (w : World) (HW : Hid (p.allW = true)) (HI : Hid (p.allI = false)) :
    Calls Try.prog 26 #[.agg p.vals] w fun e w' => e = .returned (.int .i64 70) ∧ Below w.heap.size w w' := by
  have hP := ParAt.new w p 42
  have hB : Below w.heap.size w (w.alloc (.cells p.vals 42)) := (Below.refl _ _).alloc (Nat.le_refl _) _
  go_enter Try.func26, Try.ntmps26
  go_wp2_with (first
    | (refine load_par _ rfl rfl _ p _ rfl (by assumption) ?_)
    | (go_at_call 43; refine (words_is _ p _ _ hP).mono ?_; rintro e w1 ⟨g1, rfl, hF1, hg1, hb1⟩; have hP1 := hP.up hb1; have hB1 := Below.then hB hb1)
    | (go_at_call 42; refine (within_at hF1 hP1 hg1 HW.out).mono ?_; rintro e w2 ⟨rfl, hb2⟩; have hP2 := hP1.up hb2; have hB2 := Below.then hB1 hb2)
    | (go_at_call 45; refine (ints_is _ p _ _ hP2).mono ?_; rintro e w3 ⟨g3, rfl, hF3, hg3, hb3⟩; have hP3 := hP2.up hb3; have hB3 := Below.then hB2 hb3)
    | (go_at_call 44; refine (within_at_i hF3 hP3 hg3 HI.out).mono ?_; rintro e w4 ⟨rfl, hb4⟩; have hP4 := hP3.up hb4; have hB4 := Below.then hB3 hb4))
  go_ret
  exact ⟨rfl, hB4⟩

set_option maxRecDepth 100000 in
set_option maxHeartbeats 1000000 in
theorem check_part (p : Par) (w : World) (HW : Hid (p.allW = true)) (HI : Hid (p.allI = true)) (kb : ∀ w, Calls Try.prog 46 #[.agg p.vals] w fun e w' => e = .returned (.bool false) ∧ Below w.heap.size w w') :
    Calls Try.prog 26 #[.agg p.vals] w fun e w' => e = .returned (.int .i64 70) ∧ Below w.heap.size w w' := by
  have hP := ParAt.new w p 42
  have hB : Below w.heap.size w (w.alloc (.cells p.vals 42)) := (Below.refl _ _).alloc (Nat.le_refl _) _
  go_enter Try.func26, Try.ntmps26
  go_wp2_with (first
    | (refine load_par _ rfl rfl _ p _ rfl (by assumption) ?_)
    | (go_at_call 43; refine (words_is _ p _ _ hP).mono ?_; rintro e w1 ⟨g1, rfl, hF1, hg1, hb1⟩; have hP1 := hP.up hb1; have hB1 := Below.then hB hb1)
    | (go_at_call 42; refine (within_at hF1 hP1 hg1 HW.out).mono ?_; rintro e w2 ⟨rfl, hb2⟩; have hP2 := hP1.up hb2; have hB2 := Below.then hB1 hb2)
    | (go_at_call 45; refine (ints_is _ p _ _ hP2).mono ?_; rintro e w3 ⟨g3, rfl, hF3, hg3, hb3⟩; have hP3 := hP2.up hb3; have hB3 := Below.then hB2 hb3)
    | (go_at_call 44; refine (within_at_i hF3 hP3 hg3 HI.out).mono ?_; rintro e w4 ⟨rfl, hb4⟩; have hP4 := hP3.up hb4; have hB4 := Below.then hB3 hb4)
    | (go_at_call 46; refine (kb _).mono ?_; rintro e w5 ⟨rfl, hb5⟩; have hP5 := hP4.up hb5; have hB5 := Below.then hB4 hb5))
  go_ret
  exact ⟨rfl, hB5⟩

set_option maxRecDepth 100000 in
set_option maxHeartbeats 1000000 in
theorem check_leak (p : Par) (w : World) (HW : Hid (p.allW = true)) (HI : Hid (p.allI = true)) (kb : ∀ w, Calls Try.prog 46 #[.agg p.vals] w fun e w' => e = .returned (.bool true) ∧ Below w.heap.size w w') (kl : ∀ w, Calls Try.prog 47 #[.agg p.vals] w fun e w' => e = .returned (.bool false) ∧ Below w.heap.size w w') :
    Calls Try.prog 26 #[.agg p.vals] w fun e w' => e = .returned (.int .i64 70) ∧ Below w.heap.size w w' := by
  have hP := ParAt.new w p 42
  have hB : Below w.heap.size w (w.alloc (.cells p.vals 42)) := (Below.refl _ _).alloc (Nat.le_refl _) _
  go_enter Try.func26, Try.ntmps26
  go_wp2_with (first
    | (refine load_par _ rfl rfl _ p _ rfl (by assumption) ?_)
    | (go_at_call 43; refine (words_is _ p _ _ hP).mono ?_; rintro e w1 ⟨g1, rfl, hF1, hg1, hb1⟩; have hP1 := hP.up hb1; have hB1 := Below.then hB hb1)
    | (go_at_call 42; refine (within_at hF1 hP1 hg1 HW.out).mono ?_; rintro e w2 ⟨rfl, hb2⟩; have hP2 := hP1.up hb2; have hB2 := Below.then hB1 hb2)
    | (go_at_call 45; refine (ints_is _ p _ _ hP2).mono ?_; rintro e w3 ⟨g3, rfl, hF3, hg3, hb3⟩; have hP3 := hP2.up hb3; have hB3 := Below.then hB2 hb3)
    | (go_at_call 44; refine (within_at_i hF3 hP3 hg3 HI.out).mono ?_; rintro e w4 ⟨rfl, hb4⟩; have hP4 := hP3.up hb4; have hB4 := Below.then hB3 hb4)
    | (go_at_call 46; refine (kb _).mono ?_; rintro e w5 ⟨rfl, hb5⟩; have hP5 := hP4.up hb5; have hB5 := Below.then hB4 hb5)
    | (go_at_call 47; refine (kl _).mono ?_; rintro e w6 ⟨rfl, hb6⟩; have hB6 := Below.then hB5 hb6))
  go_ret
  exact ⟨rfl, hB6⟩

set_option maxRecDepth 100000 in
set_option maxHeartbeats 1000000 in
theorem check_fine (p : Par) (w : World) (HW : Hid (p.allW = true)) (HI : Hid (p.allI = true)) (kb : ∀ w, Calls Try.prog 46 #[.agg p.vals] w fun e w' => e = .returned (.bool true) ∧ Below w.heap.size w w') (kl : ∀ w, Calls Try.prog 47 #[.agg p.vals] w fun e w' => e = .returned (.bool true) ∧ Below w.heap.size w w') :
    Calls Try.prog 26 #[.agg p.vals] w fun e w' => e = .returned (.int .i64 0) ∧ Below w.heap.size w w' := by
  have hP := ParAt.new w p 42
  have hB : Below w.heap.size w (w.alloc (.cells p.vals 42)) := (Below.refl _ _).alloc (Nat.le_refl _) _
  go_enter Try.func26, Try.ntmps26
  go_wp2_with (first
    | (refine load_par _ rfl rfl _ p _ rfl (by assumption) ?_)
    | (go_at_call 43; refine (words_is _ p _ _ hP).mono ?_; rintro e w1 ⟨g1, rfl, hF1, hg1, hb1⟩; have hP1 := hP.up hb1; have hB1 := Below.then hB hb1)
    | (go_at_call 42; refine (within_at hF1 hP1 hg1 HW.out).mono ?_; rintro e w2 ⟨rfl, hb2⟩; have hP2 := hP1.up hb2; have hB2 := Below.then hB1 hb2)
    | (go_at_call 45; refine (ints_is _ p _ _ hP2).mono ?_; rintro e w3 ⟨g3, rfl, hF3, hg3, hb3⟩; have hP3 := hP2.up hb3; have hB3 := Below.then hB2 hb3)
    | (go_at_call 44; refine (within_at_i hF3 hP3 hg3 HI.out).mono ?_; rintro e w4 ⟨rfl, hb4⟩; have hP4 := hP3.up hb4; have hB4 := Below.then hB3 hb4)
    | (go_at_call 46; refine (kb _).mono ?_; rintro e w5 ⟨rfl, hb5⟩; have hP5 := hP4.up hb5; have hB5 := Below.then hB4 hb5)
    | (go_at_call 47; refine (kl _).mono ?_; rintro e w6 ⟨rfl, hb6⟩; have hB6 := Below.then hB5 hb6))
  go_ret
  exact ⟨rfl, hB6⟩

/-- Nothing that is asked is missing. -/
theorem check_ok (p : Par) (T : Nat) (w : World) (h : Par.Right p T) :
    Calls Try.prog 26 #[.agg p.vals] w fun e w' => e = .returned (.int .i64 0) ∧ Below w.heap.size w w' := by
  have s := h.spans
  exact check_fine p w s.allW s.allI (fun w => balanced_yes p w s.inc0 s.whole s.over) (fun w => leaks_is p true w s.inc1 s.bias0 s.bias1 s.quot1 s.cap1 (Nat.le_of_lt s.over) (by have := s.score1; omega)
    (Lib.hid (decide_eq_true ((Par.soon h.halt s.bias0).2 ⟨h.most, h.score⟩))))
end Go.Proofs.Ytfmmcklggnflkaa
namespace Go.Proofs.Ytfmmcklggnflkaa
open Go.RowKit
set_option linter.unusedVariables false

/-- n is the whole number next above X / c. -/
structure Ceil (X c n : Nat) : Prop where
  enough : X ≤ n * c
  less : n * c < X + c
theorem ceil_is (X c : Nat) (hc : 0 < c) : ∃ n, Ceil X c n := by
  have h := Nat.div_add_mod' X c
  have hr := Nat.mod_lt X hc
  rcases Nat.eq_zero_or_pos (X % c) with h0 | h0
  · exact ⟨X / c, by omega, by omega⟩
  · refine ⟨X / c + 1, ?_, ?_⟩ <;> rw [Nat.add_mul] <;> omega
theorem Ceil.parts {X c n : Nat} (h : Ceil X c n) (hc : 0 < c) : X = n * c + 0 ∨ ∃ q r, n = q + 1 ∧ X = q * c + r ∧ r < c ∧ 0 < r := by
  rcases Nat.eq_or_lt_of_le h.enough with e | e
  · exact .inl (by omega)
  · have hn : n ≠ 0 := fun e0 => by subst e0; simp at e
    obtain ⟨q, rfl⟩ : ∃ q, n = q + 1 := ⟨n - 1, by omega⟩
    have h2 := h.less
    rw [Nat.add_mul] at e h2
    exact .inr ⟨q, X - q * c, rfl, by omega, by omega, by omega⟩
theorem Ceil.le {X c n m : Nat} (h : Ceil X c n) (hm : X ≤ m * c) : n ≤ m := by
  rcases Nat.lt_or_ge m n with hl | hl
  · have := h.less
    have h3 : (m + 1) * c ≤ n * c := Nat.mul_le_mul_right _ hl
    rw [Nat.add_mul] at h3
    omega
  · exact hl
theorem Ceil.pos {X c n : Nat} (h : Ceil X c n) (hX : 0 < X) : 0 < n := by
  rcases Nat.eq_zero_or_pos n with e | e
  · have := h.enough; subst e; omega
  · exact e
theorem lim_next {p : Par} {m : Nat} (h : Par.Right p (m + 1)) (i : Nat) : decide (p.lim (i + 1)) = decide (m ≤ i) := by
  apply decide_eq_decide.2
  constructor
  · intro hl
    rcases Nat.lt_or_ge i m with h1 | h1
    · exact absurd hl (h.halt.below (by omega))
    · exact h1
  · intro hi
    exact Par.lim_up h.lim (by omega)

end Go.Proofs.Ytfmmcklggnflkaa
