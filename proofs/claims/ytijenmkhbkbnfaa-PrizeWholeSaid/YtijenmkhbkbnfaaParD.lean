/- Layer 7 (param): Check, by a contract for each way that it ends. -/
import Derived.Test.YtijenmkhbkbnfaaParB
import Derived.Test.YtijenmkhbkbnfaaParC
import Derived.Test.YtijenmkhbkbnfaaParW
import Derived.Test.YtijenmkhbkbnfaaParI
namespace Go.Proofs.Ytijenmkhbkbnfaa
open Go.RowKit
set_option linter.unusedVariables false

theorem ParAt.words {w : World} {b : Nat} {p : Par} {T : TypeId} (h : ParAt w b p T) : WordsAt w b p.wspan := by
  intro k x hx
  rw [h.cell]
  match k, hx with
  | 0, hx => cases hx; rfl
  | 1, hx => cases hx; rfl
  | 2, hx => cases hx; rfl
  | 3, hx => cases hx; rfl
  | 4, hx => cases hx; rfl
  | 5, hx => cases hx; rfl
  | 6, hx => cases hx; rfl
  | 7, hx => cases hx; rfl
  | 8, hx => cases hx; rfl
  | 9, hx => cases hx; rfl
  | 10, hx => cases hx; rfl
  | 11, hx => cases hx; rfl
  | 12, hx => cases hx; rfl
  | 13, hx => cases hx; rfl
  | k + 14, hx => simp [Par.wspan] at hx
theorem ParAt.ints {w : World} {b : Nat} {p : Par} {T : TypeId} (h : ParAt w b p T) : IntsAt w b p.ispan := by
  intro k x hx
  rw [h.cell]
  match k, hx with
  | 0, hx => cases hx; rfl
  | 1, hx => cases hx; rfl
  | 2, hx => cases hx; rfl
  | 3, hx => cases hx; rfl
  | 4, hx => cases hx; rfl
  | 5, hx => cases hx; rfl
  | 6, hx => cases hx; rfl
  | 7, hx => cases hx; rfl
  | 8, hx => cases hx; rfl
  | 9, hx => cases hx; rfl
  | k + 10, hx => simp [Par.ispan] at hx

theorem FieldsW.lt {w : World} {g b : Nat} {p : Par} (h : FieldsW w g b p.wspan) : g < w.heap.size := World.block_lt_of_cell? w ⟨g, 0 * 3, none⟩ (h 0 _ rfl).1
theorem FieldsI.lt {w : World} {g b : Nat} {p : Par} (h : FieldsI w g b p.ispan) : g < w.heap.size := World.block_lt_of_cell? w ⟨g, 0 * 3, none⟩ (h 0 _ rfl).1
theorem within_at {w : World} {g b B : Nat} {p : Par} {T : TypeId} {r : Bool} (hF : FieldsW w g b p.wspan) (hP : ParAt w b p T) (hg : B ≤ g) (hr : p.allW = r) :
    Calls Try.prog 28 #[.slice (some ⟨g, 0, none⟩) 14 14] w fun e w' => e = .returned (.bool r) ∧ Below w.heap.size w w' := by
  have k := within_w g b p.wspan w hF hP.words hF.lt hP.lt (by simp [Par.wspan])
  rw [← hr]
  exact k
theorem within_at_i {w : World} {g b B : Nat} {p : Par} {T : TypeId} {r : Bool} (hF : FieldsI w g b p.ispan) (hP : ParAt w b p T) (hg : B ≤ g) (hr : p.allI = r) :
    Calls Try.prog 30 #[.slice (some ⟨g, 0, none⟩) 10 10] w fun e w' => e = .returned (.bool r) ∧ Below w.heap.size w w' := by
  have k := within_i g b p.ispan w hF hP.ints hF.lt hP.lt (by simp [Par.ispan])
  rw [← hr]
  exact k

set_option maxRecDepth 100000 in
set_option maxHeartbeats 1000000 in
theorem check_words (p : Par) (w : World) (HW : Hid (p.allW = false)) :
    Calls Try.prog 18 #[.agg p.vals] w fun e w' => e = .returned (.int .i64 70) ∧ Below w.heap.size w w' := by
  have hP := ParAt.new w p 24
  have hB : Below w.heap.size w (w.alloc (.cells p.vals 24)) := (Below.refl _ _).alloc (Nat.le_refl _) _
  go_enter Try.func18, Try.ntmps18
  go_wp2_with (first
    | (refine load_par _ rfl rfl _ p _ rfl (by assumption) ?_)
    | (go_at_call 29; refine (words_is _ p _ _ hP).mono ?_; rintro e w1 ⟨g1, rfl, hF1, hg1, hb1⟩; have hP1 := hP.up hb1; have hB1 := Below.then hB hb1)
    | (go_at_call 28; refine (within_at hF1 hP1 hg1 HW.out).mono ?_; rintro e w2 ⟨rfl, hb2⟩; have hP2 := hP1.up hb2; have hB2 := Below.then hB1 hb2))
  go_ret
  exact ⟨rfl, hB2⟩

set_option maxRecDepth 100000 in
set_option maxHeartbeats 1000000 in
theorem check_ints (p : Par) (w : World) (HW : Hid (p.allW = true)) (HI : Hid (p.allI = false)) :
    Calls Try.prog 18 #[.agg p.vals] w fun e w' => e = .returned (.int .i64 70) ∧ Below w.heap.size w w' := by
  have hP := ParAt.new w p 24
  have hB : Below w.heap.size w (w.alloc (.cells p.vals 24)) := (Below.refl _ _).alloc (Nat.le_refl _) _
  go_enter Try.func18, Try.ntmps18
  go_wp2_with (first
    | (refine load_par _ rfl rfl _ p _ rfl (by assumption) ?_)
    | (go_at_call 29; refine (words_is _ p _ _ hP).mono ?_; rintro e w1 ⟨g1, rfl, hF1, hg1, hb1⟩; have hP1 := hP.up hb1; have hB1 := Below.then hB hb1)
    | (go_at_call 28; refine (within_at hF1 hP1 hg1 HW.out).mono ?_; rintro e w2 ⟨rfl, hb2⟩; have hP2 := hP1.up hb2; have hB2 := Below.then hB1 hb2)
    | (go_at_call 31; refine (ints_is _ p _ _ hP2).mono ?_; rintro e w3 ⟨g3, rfl, hF3, hg3, hb3⟩; have hP3 := hP2.up hb3; have hB3 := Below.then hB2 hb3)
    | (go_at_call 30; refine (within_at_i hF3 hP3 hg3 HI.out).mono ?_; rintro e w4 ⟨rfl, hb4⟩; have hP4 := hP3.up hb4; have hB4 := Below.then hB3 hb4))
  go_ret
  exact ⟨rfl, hB4⟩

set_option maxRecDepth 100000 in
set_option maxHeartbeats 1000000 in
theorem check_part (p : Par) (w : World) (HW : Hid (p.allW = true)) (HI : Hid (p.allI = true)) (kb : ∀ w, Calls Try.prog 32 #[.agg p.vals] w fun e w' => e = .returned (.bool false) ∧ Below w.heap.size w w') :
    Calls Try.prog 18 #[.agg p.vals] w fun e w' => e = .returned (.int .i64 70) ∧ Below w.heap.size w w' := by
  have hP := ParAt.new w p 24
  have hB : Below w.heap.size w (w.alloc (.cells p.vals 24)) := (Below.refl _ _).alloc (Nat.le_refl _) _
  go_enter Try.func18, Try.ntmps18
  go_wp2_with (first
    | (refine load_par _ rfl rfl _ p _ rfl (by assumption) ?_)
    | (go_at_call 29; refine (words_is _ p _ _ hP).mono ?_; rintro e w1 ⟨g1, rfl, hF1, hg1, hb1⟩; have hP1 := hP.up hb1; have hB1 := Below.then hB hb1)
    | (go_at_call 28; refine (within_at hF1 hP1 hg1 HW.out).mono ?_; rintro e w2 ⟨rfl, hb2⟩; have hP2 := hP1.up hb2; have hB2 := Below.then hB1 hb2)
    | (go_at_call 31; refine (ints_is _ p _ _ hP2).mono ?_; rintro e w3 ⟨g3, rfl, hF3, hg3, hb3⟩; have hP3 := hP2.up hb3; have hB3 := Below.then hB2 hb3)
    | (go_at_call 30; refine (within_at_i hF3 hP3 hg3 HI.out).mono ?_; rintro e w4 ⟨rfl, hb4⟩; have hP4 := hP3.up hb4; have hB4 := Below.then hB3 hb4)
    | (go_at_call 32; refine (kb _).mono ?_; rintro e w5 ⟨rfl, hb5⟩; have hP5 := hP4.up hb5; have hB5 := Below.then hB4 hb5))
  go_ret
  exact ⟨rfl, hB5⟩

set_option maxRecDepth 100000 in
set_option maxHeartbeats 1000000 in
theorem check_leak (p : Par) (w : World) (HW : Hid (p.allW = true)) (HI : Hid (p.allI = true)) (kb : ∀ w, Calls Try.prog 32 #[.agg p.vals] w fun e w' => e = .returned (.bool true) ∧ Below w.heap.size w w') (kl : ∀ w, Calls Try.prog 33 #[.agg p.vals] w fun e w' => e = .returned (.bool false) ∧ Below w.heap.size w w') :
    Calls Try.prog 18 #[.agg p.vals] w fun e w' => e = .returned (.int .i64 70) ∧ Below w.heap.size w w' := by
  have hP := ParAt.new w p 24
  have hB : Below w.heap.size w (w.alloc (.cells p.vals 24)) := (Below.refl _ _).alloc (Nat.le_refl _) _
  go_enter Try.func18, Try.ntmps18
  go_wp2_with (first
    | (refine load_par _ rfl rfl _ p _ rfl (by assumption) ?_)
    | (go_at_call 29; refine (words_is _ p _ _ hP).mono ?_; rintro e w1 ⟨g1, rfl, hF1, hg1, hb1⟩; have hP1 := hP.up hb1; have hB1 := Below.then hB hb1)
    | (go_at_call 28; refine (within_at hF1 hP1 hg1 HW.out).mono ?_; rintro e w2 ⟨rfl, hb2⟩; have hP2 := hP1.up hb2; have hB2 := Below.then hB1 hb2)
    | (go_at_call 31; refine (ints_is _ p _ _ hP2).mono ?_; rintro e w3 ⟨g3, rfl, hF3, hg3, hb3⟩; have hP3 := hP2.up hb3; have hB3 := Below.then hB2 hb3)
    | (go_at_call 30; refine (within_at_i hF3 hP3 hg3 HI.out).mono ?_; rintro e w4 ⟨rfl, hb4⟩; have hP4 := hP3.up hb4; have hB4 := Below.then hB3 hb4)
    | (go_at_call 32; refine (kb _).mono ?_; rintro e w5 ⟨rfl, hb5⟩; have hP5 := hP4.up hb5; have hB5 := Below.then hB4 hb5)
    | (go_at_call 33; refine (kl _).mono ?_; rintro e w6 ⟨rfl, hb6⟩; have hB6 := Below.then hB5 hb6))
  go_ret
  exact ⟨rfl, hB6⟩

set_option maxRecDepth 100000 in
set_option maxHeartbeats 1000000 in
theorem check_fine (p : Par) (w : World) (HW : Hid (p.allW = true)) (HI : Hid (p.allI = true)) (kb : ∀ w, Calls Try.prog 32 #[.agg p.vals] w fun e w' => e = .returned (.bool true) ∧ Below w.heap.size w w') (kl : ∀ w, Calls Try.prog 33 #[.agg p.vals] w fun e w' => e = .returned (.bool true) ∧ Below w.heap.size w w') :
    Calls Try.prog 18 #[.agg p.vals] w fun e w' => e = .returned (.int .i64 0) ∧ Below w.heap.size w w' := by
  have hP := ParAt.new w p 24
  have hB : Below w.heap.size w (w.alloc (.cells p.vals 24)) := (Below.refl _ _).alloc (Nat.le_refl _) _
  go_enter Try.func18, Try.ntmps18
  go_wp2_with (first
    | (refine load_par _ rfl rfl _ p _ rfl (by assumption) ?_)
    | (go_at_call 29; refine (words_is _ p _ _ hP).mono ?_; rintro e w1 ⟨g1, rfl, hF1, hg1, hb1⟩; have hP1 := hP.up hb1; have hB1 := Below.then hB hb1)
    | (go_at_call 28; refine (within_at hF1 hP1 hg1 HW.out).mono ?_; rintro e w2 ⟨rfl, hb2⟩; have hP2 := hP1.up hb2; have hB2 := Below.then hB1 hb2)
    | (go_at_call 31; refine (ints_is _ p _ _ hP2).mono ?_; rintro e w3 ⟨g3, rfl, hF3, hg3, hb3⟩; have hP3 := hP2.up hb3; have hB3 := Below.then hB2 hb3)
    | (go_at_call 30; refine (within_at_i hF3 hP3 hg3 HI.out).mono ?_; rintro e w4 ⟨rfl, hb4⟩; have hP4 := hP3.up hb4; have hB4 := Below.then hB3 hb4)
    | (go_at_call 32; refine (kb _).mono ?_; rintro e w5 ⟨rfl, hb5⟩; have hP5 := hP4.up hb5; have hB5 := Below.then hB4 hb5)
    | (go_at_call 33; refine (kl _).mono ?_; rintro e w6 ⟨rfl, hb6⟩; have hB6 := Below.then hB5 hb6))
  go_ret
  exact ⟨rfl, hB6⟩

/-- Nothing that is asked is missing. -/
theorem check_ok (p : Par) (T : Nat) (w : World) (h : Par.Right p T) :
    Calls Try.prog 18 #[.agg p.vals] w fun e w' => e = .returned (.int .i64 0) ∧ Below w.heap.size w w' := by
  have s := h.spans
  exact check_fine p w s.allW s.allI (fun w => balanced_yes p w s.inc0 s.whole s.over) (fun w => leaks_is p true w s.inc1 s.bias0 s.bias1 s.quot1 s.cap1 (Nat.le_of_lt s.over) (by have := s.score1; omega)
    (Lib.hid (decide_eq_true ((Par.soon h.halt s.bias0).2 ⟨h.most, h.score⟩))))
theorem check_no (p : Par) (w : World) (hf : p.Fits) (h : ¬ ∃ T, Par.Right p T) :
    Calls Try.prog 18 #[.agg p.vals] w fun e w' => e = .returned (.int .i64 70) ∧ Below w.heap.size w w' := by
  cases HW : p.allW with
  | false => exact check_words p w HW
  | true => cases HI : p.allI with
    | false => exact check_ints p w HW HI
    | true =>
      have hi : 1 ≤ p.inc := by
        have h1 := HW
        simp only [Par.allW, Par.wspan, List.all_cons, List.all_nil, Bool.and_true, Bool.and_eq_true, Par.okW_iff] at h1
        omega
      by_cases h1 : p.maxEff % p.inc = 0
      · by_cases h2 : p.floor < p.cap
        · have s := Par.spans_of HW HI h1 h2
          obtain ⟨T, hT⟩ := Par.halt_is s.quot0 s.over
          have hno : ¬ p.lim (min 1048576 (p.scoreCap / p.bias)) := fun hl => by
            have := (Par.soon hT s.bias0).1 hl
            exact h ⟨T, s, hT, this.1, this.2⟩
          exact check_leak p w HW HI (fun w => balanced_yes p w s.inc0 s.whole s.over) (fun w => leaks_is p false w s.inc1 s.bias0 s.bias1 s.quot1 s.cap1 (Nat.le_of_lt s.over) (by have := s.score1; omega) (Lib.hid (decide_eq_false hno)))
        · exact check_part p w HW HI (fun w => balanced_over p w hi h1 h2)
      · exact check_part p w HW HI (fun w => balanced_part p w hi h1)
end Go.Proofs.Ytijenmkhbkbnfaa
