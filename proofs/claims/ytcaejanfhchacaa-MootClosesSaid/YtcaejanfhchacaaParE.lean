/- Layer 7 (param): Check, by a contract for each way that it ends. · Layer 7 (param): what is lost at least, the leak, and in how many ticks a quorum is back. By contracts. · Numbers in bytes of seven bits each, written and read: plain mathematics, nothing of a program. · Layer 5 (coder): a writer in memory, and its calls. By contracts. · Layer 5 (coder): bytes are put behind the others. By a contract. · Layer 7 (param): parameters are written. By contracts. · Deeds as plain data: which are right, their bytes, what is read off bytes: nothing of a program. · Layer 23 (moot): the motion of a deed, what comes of one that is moved: plain. -/
import Derived.Test.YtcaejanfhchacaaParI
import Derived.Test.YtcaejanfhchacaaParL
import Derived.Test.YtcaejanfhchacaaMemM
import Derived.Deep.QuietTactic
import Derived.BigQuiet
import Derived.Shelf.Abstract
import Derived.Test.YtcaejanfhchacaaBytes
import Derived.Test.YtcaejanfhchacaaProg
import Derived.OwnWalk
import Derived.Laws.BitsLemmas
import Derived.IntWalk
import Derived.Deep.RegionHeld3
import Derived.Deep.MidRow
import Derived.Laws.CopyOwn
import Derived.Deep.RegionWith
import Derived.Deep.CutRange
import Derived.Deep.CutBlock
import Derived.StillTailTactics
import Derived.Test.YtcaejanfhchacaaPlM
import Derived.Lib.SliceRun
import Derived.Test.YtcaejanfhchacaaMooM
namespace Go.Proofs.Ytcaejanfhchacaa
open Go.RowKit
set_option linter.unusedVariables false

theorem ParAt.words {w : World} {b : Nat} {p : Par} {T : TypeId} (h : ParAt w b p T) : ParWordsAt w b p.wspan := by
  intro k x hx
  rw [h.cell]
  match k, hx with
  | 0, hx => cases hx; rfl
  | 1, hx => cases hx; rfl
  | 2, hx => cases hx; rfl
  | 3, hx => cases hx; rfl
  | 4, hx => cases hx; rfl
  | 5, hx => cases hx; rfl
  | 6, hx => cases hx; rfl
  | 7, hx => cases hx; rfl
  | 8, hx => cases hx; rfl
  | 9, hx => cases hx; rfl
  | 10, hx => cases hx; rfl
  | 11, hx => cases hx; rfl
  | 12, hx => cases hx; rfl
  | 13, hx => cases hx; rfl
  | k + 14, hx => simp [Par.wspan] at hx
theorem ParAt.ints {w : World} {b : Nat} {p : Par} {T : TypeId} (h : ParAt w b p T) : IntsAt w b p.ispan := by
  intro k x hx
  rw [h.cell]
  match k, hx with
  | 0, hx => cases hx; rfl
  | 1, hx => cases hx; rfl
  | 2, hx => cases hx; rfl
  | 3, hx => cases hx; rfl
  | 4, hx => cases hx; rfl
  | 5, hx => cases hx; rfl
  | 6, hx => cases hx; rfl
  | 7, hx => cases hx; rfl
  | 8, hx => cases hx; rfl
  | 9, hx => cases hx; rfl
  | k + 10, hx => simp [Par.ispan] at hx

theorem FieldsW.lt {w : World} {g b : Nat} {p : Par} (h : FieldsW w g b p.wspan) : g < w.heap.size := World.block_lt_of_cell? w ⟨g, 0 * 3, none⟩ (h 0 _ rfl).1
theorem FieldsI.lt {w : World} {g b : Nat} {p : Par} (h : FieldsI w g b p.ispan) : g < w.heap.size := World.block_lt_of_cell? w ⟨g, 0 * 3, none⟩ (h 0 _ rfl).1
theorem within_at {w : World} {g b B : Nat} {p : Par} {T : TypeId} {r : Bool} (hF : FieldsW w g b p.wspan) (hP : ParAt w b p T) (hg : B ≤ g) (hr : p.allW = r) :
    Calls Try.prog 74 #[.slice (some ⟨g, 0, none⟩) 14 14] w fun e w' => e = .returned (.bool r) ∧ Below w.heap.size w w' := by
  have k := within_w g b p.wspan w hF hP.words hF.lt hP.lt (by simp [Par.wspan])
  rw [← hr]
  exact k
theorem within_at_i {w : World} {g b B : Nat} {p : Par} {T : TypeId} {r : Bool} (hF : FieldsI w g b p.ispan) (hP : ParAt w b p T) (hg : B ≤ g) (hr : p.allI = r) :
    Calls Try.prog 76 #[.slice (some ⟨g, 0, none⟩) 10 10] w fun e w' => e = .returned (.bool r) ∧ Below w.heap.size w w' := by
  have k := within_i g b p.ispan w hF hP.ints hF.lt hP.lt (by simp [Par.ispan])
  rw [← hr]
  exact k

set_option maxRecDepth 100000 in
set_option maxHeartbeats 1000000 in
theorem check_words (p : Par) (w : World) (HW : Hid (p.allW = false)) :
    Calls Try.prog 44 #[.agg p.vals] w fun e w' => e = .returned (.int .i64 70) ∧ Below w.heap.size w w' := by
  have hP := ParAt.new w p 37
  have hB : Below w.heap.size w (w.alloc (.cells p.vals 37)) := (Below.refl _ _).alloc (Nat.le_refl _) _
  go_enter Try.func44, Try.ntmps44
  go_wp2_with (first
    | (refine load_par _ rfl rfl _ p _ rfl (by assumption) ?_)
    | (go_at_call 75; refine (words_is _ p _ _ hP).mono ?_; rintro e w1 ⟨g1, rfl, hF1, hg1, hb1⟩; have hP1 := hP.up hb1; have hB1 := Below.then hB hb1)
    | (go_at_call 74; refine (within_at hF1 hP1 hg1 HW.out).mono ?_; rintro e w2 ⟨rfl, hb2⟩; have hP2 := hP1.up hb2; have hB2 := Below.then hB1 hb2))
  go_ret
  exact ⟨rfl, hB2⟩

set_option maxRecDepth 100000 in
set_option maxHeartbeats 1000000 in
theorem check_ints (p : Par) (w : World) (HW : Hid (p.allW = true)) (HI : Hid (p.allI = false)) :
    Calls Try.prog 44 #[.agg p.vals] w fun e w' => e = .returned (.int .i64 70) ∧ Below w.heap.size w w' := by
  have hP := ParAt.new w p 37
  have hB : Below w.heap.size w (w.alloc (.cells p.vals 37)) := (Below.refl _ _).alloc (Nat.le_refl _) _
  go_enter Try.func44, Try.ntmps44
  go_wp2_with (first
    | (refine load_par _ rfl rfl _ p _ rfl (by assumption) ?_)
    | (go_at_call 75; refine (words_is _ p _ _ hP).mono ?_; rintro e w1 ⟨g1, rfl, hF1, hg1, hb1⟩; have hP1 := hP.up hb1; have hB1 := Below.then hB hb1)
    | (go_at_call 74; refine (within_at hF1 hP1 hg1 HW.out).mono ?_; rintro e w2 ⟨rfl, hb2⟩; have hP2 := hP1.up hb2; have hB2 := Below.then hB1 hb2)
    | (go_at_call 77; refine (ints_is _ p _ _ hP2).mono ?_; rintro e w3 ⟨g3, rfl, hF3, hg3, hb3⟩; have hP3 := hP2.up hb3; have hB3 := Below.then hB2 hb3)
    | (go_at_call 76; refine (within_at_i hF3 hP3 hg3 HI.out).mono ?_; rintro e w4 ⟨rfl, hb4⟩; have hP4 := hP3.up hb4; have hB4 := Below.then hB3 hb4))
  go_ret
  exact ⟨rfl, hB4⟩

set_option maxRecDepth 100000 in
set_option maxHeartbeats 1000000 in
theorem check_part (p : Par) (w : World) (HW : Hid (p.allW = true)) (HI : Hid (p.allI = true)) (kb : ∀ w, Calls Try.prog 78 #[.agg p.vals] w fun e w' => e = .returned (.bool false) ∧ Below w.heap.size w w') :
    Calls Try.prog 44 #[.agg p.vals] w fun e w' => e = .returned (.int .i64 70) ∧ Below w.heap.size w w' := by
  have hP := ParAt.new w p 37
  have hB : Below w.heap.size w (w.alloc (.cells p.vals 37)) := (Below.refl _ _).alloc (Nat.le_refl _) _
  go_enter Try.func44, Try.ntmps44
  go_wp2_with (first
    | (refine load_par _ rfl rfl _ p _ rfl (by assumption) ?_)
    | (go_at_call 75; refine (words_is _ p _ _ hP).mono ?_; rintro e w1 ⟨g1, rfl, hF1, hg1, hb1⟩; have hP1 := hP.up hb1; have hB1 := Below.then hB hb1)
    | (go_at_call 74; refine (within_at hF1 hP1 hg1 HW.out).mono ?_; rintro e w2 ⟨rfl, hb2⟩; have hP2 := hP1.up hb2; have hB2 := Below.then hB1 hb2)
    | (go_at_call 77; refine (ints_is _ p _ _ hP2).mono ?_; rintro e w3 ⟨g3, rfl, hF3, hg3, hb3⟩; have hP3 := hP2.up hb3; have hB3 := Below.then hB2 hb3)
    | (go_at_call 76; refine (within_at_i hF3 hP3 hg3 HI.out).mono ?_; rintro e w4 ⟨rfl, hb4⟩; have hP4 := hP3.up hb4; have hB4 := Below.then hB3 hb4)
    | (go_at_call 78; refine (kb _).mono ?_; rintro e w5 ⟨rfl, hb5⟩; have hP5 := hP4.up hb5; have hB5 := Below.then hB4 hb5))
  go_ret
  exact ⟨rfl, hB5⟩

set_option maxRecDepth 100000 in
set_option maxHeartbeats 1000000 in
theorem check_leak (p : Par) (w : World) (HW : Hid (p.allW = true)) (HI : Hid (p.allI = true)) (kb : ∀ w, Calls Try.prog 78 #[.agg p.vals] w fun e w' => e = .returned (.bool true) ∧ Below w.heap.size w w') (kl : ∀ w, Calls Try.prog 79 #[.agg p.vals] w fun e w' => e = .returned (.bool false) ∧ Below w.heap.size w w') :
    Calls Try.prog 44 #[.agg p.vals] w fun e w' => e = .returned (.int .i64 70) ∧ Below w.heap.size w w' := by
  have hP := ParAt.new w p 37
  have hB : Below w.heap.size w (w.alloc (.cells p.vals 37)) := (Below.refl _ _).alloc (Nat.le_refl _) _
  go_enter Try.func44, Try.ntmps44
  go_wp2_with (first
    | (refine load_par _ rfl rfl _ p _ rfl (by assumption) ?_)
    | (go_at_call 75; refine (words_is _ p _ _ hP).mono ?_; rintro e w1 ⟨g1, rfl, hF1, hg1, hb1⟩; have hP1 := hP.up hb1; have hB1 := Below.then hB hb1)
    | (go_at_call 74; refine (within_at hF1 hP1 hg1 HW.out).mono ?_; rintro e w2 ⟨rfl, hb2⟩; have hP2 := hP1.up hb2; have hB2 := Below.then hB1 hb2)
    | (go_at_call 77; refine (ints_is _ p _ _ hP2).mono ?_; rintro e w3 ⟨g3, rfl, hF3, hg3, hb3⟩; have hP3 := hP2.up hb3; have hB3 := Below.then hB2 hb3)
    | (go_at_call 76; refine (within_at_i hF3 hP3 hg3 HI.out).mono ?_; rintro e w4 ⟨rfl, hb4⟩; have hP4 := hP3.up hb4; have hB4 := Below.then hB3 hb4)
    | (go_at_call 78; refine (kb _).mono ?_; rintro e w5 ⟨rfl, hb5⟩; have hP5 := hP4.up hb5; have hB5 := Below.then hB4 hb5)
    | (go_at_call 79; refine (kl _).mono ?_; rintro e w6 ⟨rfl, hb6⟩; have hB6 := Below.then hB5 hb6))
  go_ret
  exact ⟨rfl, hB6⟩

set_option maxRecDepth 100000 in
set_option maxHeartbeats 1000000 in
theorem check_fine (p : Par) (w : World) (HW : Hid (p.allW = true)) (HI : Hid (p.allI = true)) (kb : ∀ w, Calls Try.prog 78 #[.agg p.vals] w fun e w' => e = .returned (.bool true) ∧ Below w.heap.size w w') (kl : ∀ w, Calls Try.prog 79 #[.agg p.vals] w fun e w' => e = .returned (.bool true) ∧ Below w.heap.size w w') :
    Calls Try.prog 44 #[.agg p.vals] w fun e w' => e = .returned (.int .i64 0) ∧ Below w.heap.size w w' := by
  have hP := ParAt.new w p 37
  have hB : Below w.heap.size w (w.alloc (.cells p.vals 37)) := (Below.refl _ _).alloc (Nat.le_refl _) _
  go_enter Try.func44, Try.ntmps44
  go_wp2_with (first
    | (refine load_par _ rfl rfl _ p _ rfl (by assumption) ?_)
    | (go_at_call 75; refine (words_is _ p _ _ hP).mono ?_; rintro e w1 ⟨g1, rfl, hF1, hg1, hb1⟩; have hP1 := hP.up hb1; have hB1 := Below.then hB hb1)
    | (go_at_call 74; refine (within_at hF1 hP1 hg1 HW.out).mono ?_; rintro e w2 ⟨rfl, hb2⟩; have hP2 := hP1.up hb2; have hB2 := Below.then hB1 hb2)
    | (go_at_call 77; refine (ints_is _ p _ _ hP2).mono ?_; rintro e w3 ⟨g3, rfl, hF3, hg3, hb3⟩; have hP3 := hP2.up hb3; have hB3 := Below.then hB2 hb3)
    | (go_at_call 76; refine (within_at_i hF3 hP3 hg3 HI.out).mono ?_; rintro e w4 ⟨rfl, hb4⟩; have hP4 := hP3.up hb4; have hB4 := Below.then hB3 hb4)
    | (go_at_call 78; refine (kb _).mono ?_; rintro e w5 ⟨rfl, hb5⟩; have hP5 := hP4.up hb5; have hB5 := Below.then hB4 hb5)
    | (go_at_call 79; refine (kl _).mono ?_; rintro e w6 ⟨rfl, hb6⟩; have hB6 := Below.then hB5 hb6))
  go_ret
  exact ⟨rfl, hB6⟩

/-- Nothing that is asked is missing. -/
theorem check_ok (p : Par) (T : Nat) (w : World) (h : Par.Right p T) :
    Calls Try.prog 44 #[.agg p.vals] w fun e w' => e = .returned (.int .i64 0) ∧ Below w.heap.size w w' := by
  have s := h.spans
  exact check_fine p w s.allW s.allI (fun w => balanced_yes p w s.inc0 s.whole s.over) (fun w => leaks_is p true w s.inc1 s.bias0 s.bias1 s.quot1 s.cap1 (Nat.le_of_lt s.over) (by have := s.score1; omega)
    (Lib.hid (decide_eq_true ((Par.soon h.halt s.bias0).2 ⟨h.most, h.score⟩))))
theorem check_no (p : Par) (w : World) (hf : p.Fits) (h : ¬ ∃ T, Par.Right p T) :
    Calls Try.prog 44 #[.agg p.vals] w fun e w' => e = .returned (.int .i64 70) ∧ Below w.heap.size w w' := by
  cases HW : p.allW with
  | false => exact check_words p w HW
  | true => cases HI : p.allI with
    | false => exact check_ints p w HW HI
    | true =>
      have hi : 1 ≤ p.inc := by
        have h1 := HW
        simp only [Par.allW, Par.wspan, List.all_cons, List.all_nil, Bool.and_true, Bool.and_eq_true, Par.okW_iff] at h1
        omega
      by_cases h1 : p.maxEff % p.inc = 0
      · by_cases h2 : p.floor < p.cap
        · have s := Par.spans_of HW HI h1 h2
          obtain ⟨T, hT⟩ := Par.halt_is s.quot0 s.over
          have hno : ¬ p.lim (min 1048576 (p.scoreCap / p.bias)) := fun hl => by
            have := (Par.soon hT s.bias0).1 hl
            exact h ⟨T, s, hT, this.1, this.2⟩
          exact check_leak p w HW HI (fun w => balanced_yes p w s.inc0 s.whole s.over) (fun w => leaks_is p false w s.inc1 s.bias0 s.bias1 s.quot1 s.cap1 (Nat.le_of_lt s.over) (by have := s.score1; omega) (Lib.hid (decide_eq_false hno)))
        · exact check_part p w HW HI (fun w => balanced_over p w hi h1 h2)
      · exact check_part p w HW HI (fun w => balanced_part p w hi h1)
end Go.Proofs.Ytcaejanfhchacaa
namespace Go.Proofs.Ytcaejanfhchacaa
open Go.RowKit
set_option linter.unusedVariables false

/-- n is the whole number next above X / c. -/
structure Ceil (X c n : Nat) : Prop where
  enough : X ≤ n * c
  less : n * c < X + c
theorem Ceil.parts {X c n : Nat} (h : Ceil X c n) (hc : 0 < c) : X = n * c + 0 ∨ ∃ q r, n = q + 1 ∧ X = q * c + r ∧ r < c ∧ 0 < r := by
  rcases Nat.eq_or_lt_of_le h.enough with e | e
  · exact .inl (by omega)
  · have hn : n ≠ 0 := fun e0 => by subst e0; simp at e
    obtain ⟨q, rfl⟩ : ∃ q, n = q + 1 := ⟨n - 1, by omega⟩
    have h2 := h.less
    rw [Nat.add_mul] at e h2
    exact .inr ⟨q, X - q * c, rfl, by omega, by omega, by omega⟩
theorem Ceil.le {X c n m : Nat} (h : Ceil X c n) (hm : X ≤ m * c) : n ≤ m := by
  rcases Nat.lt_or_ge m n with hl | hl
  · have := h.less
    have h3 : (m + 1) * c ≤ n * c := Nat.mul_le_mul_right _ hl
    rw [Nat.add_mul] at h3
    omega
  · exact hl
theorem Ceil.pos {X c n : Nat} (h : Ceil X c n) (hX : 0 < X) : 0 < n := by
  rcases Nat.eq_zero_or_pos n with e | e
  · have := h.enough; subst e; omega
  · exact e
end Go.Proofs.Ytcaejanfhchacaa
namespace Go.Proofs.Ytcaejanfhchacaa
set_option linter.unusedVariables false

/-- A number's bytes. -/
def form (n : Nat) : List Nat := if h : n < 128 then [n] else (n % 128 + 128) :: form (n / 128)
termination_by n
decreasing_by omega

end Go.Proofs.Ytcaejanfhchacaa
namespace Go.Proofs.Ytcaejanfhchacaa
open Go.RowKit
set_option linter.unusedVariables false

/-- A writer's cells. -/
def wcells (n e : Nat) (p : Value) (part : List Nat) : List Value := .int .i64 (n : Int) :: .int .i64 (e : Int) :: p :: u8s part

end Go.Proofs.Ytcaejanfhchacaa
namespace Go.Proofs.Ytcaejanfhchacaa
open Go.RowKit
set_option linter.unusedVariables false
set_option linter.unusedSimpArgs false

/-- Behind a move. -/
theorem moved {w : World} {b n n' e : Nat} {p : Value} {part : List Nat} {t : TypeId} {w1 : World} (hb : w.heap[b]? = some (.cells (wcells n e p part).toArray t (0, 0)))
    (h : w.drew.setCell ⟨b, 0, none⟩ (.int .i64 (n' : Int)) = w1) :
    w1.heap[b]? = some (.cells (wcells n' e p part).toArray t (0, 0)) ∧ w.grownBy w1 (some b) := by
  subst h
  refine ⟨?_, grown_trans (grown_drew w 1 _) (grown_set _ b 0 _)⟩
  have := heap_setCell_same w.drew b 0 _ t (.int .i64 (n' : Int)) hb
  rw [this]
  rfl

end Go.Proofs.Ytcaejanfhchacaa
namespace Go.Proofs.Ytcaejanfhchacaa
open Go.RowKit
set_option linter.unusedVariables false

/-- All the numbers of parameters, and their bytes. -/
def Par.nums (p : Par) : List Nat := p.us ++ p.is.map Int.toNat
def Par.bytes (p : Par) : List Nat := p.nums.flatMap form

theorem ParAt.grown {w w' : World} {b g : Nat} {p : Par} {T : TypeId} (h : ParAt w g p T) (hg : w.grownBy w' (some b)) (hn : g ≠ b) : ParAt w' g p T :=
  (hg.block g h.lt (fun e => by injection e with e; exact hn e)).trans h
theorem cell_grown_at {w w' : World} {b g k : Nat} {v : Value} (hg : w.grownBy w' (some b)) (hn : g ≠ b) (h : w.cell? ⟨g, k, none⟩ = some v) : w'.cell? ⟨g, k, none⟩ = some v := by
  have hl : g < w.heap.size := World.block_lt_of_cell? w _ h
  rw [World.cell?_of_block (w := w) (hg.block g hl (fun e => by injection e with e; exact hn e))]
  exact h
theorem FieldsW.grown {w w' : World} {b g c : Nat} {l : List (Nat × Nat × Nat)} (h : FieldsW w g c l) (hg : w.grownBy w' (some b)) (hn : g ≠ b) : FieldsW w' g c l := fun k x hk =>
  ⟨cell_grown_at hg hn (h k x hk).1, cell_grown_at hg hn (h k x hk).2.1, cell_grown_at hg hn (h k x hk).2.2⟩
theorem FieldsI.grown {w w' : World} {b g c : Nat} {l : List (Int × Int × Int)} (h : FieldsI w g c l) (hg : w.grownBy w' (some b)) (hn : g ≠ b) : FieldsI w' g c l := fun k x hk =>
  ⟨cell_grown_at hg hn (h k x hk).1, cell_grown_at hg hn (h k x hk).2.1, cell_grown_at hg hn (h k x hk).2.2⟩

end Go.Proofs.Ytcaejanfhchacaa
namespace Go.Proofs.Ytcaejanfhchacaa
set_option linter.unusedVariables false

/-- A deed. -/
structure Dd where
  kind : Int
  account : Int
  member : Int
  dest : Int
  amount : Nat
  epoch : Int
  bits : List Nat
  what : Int
  par : Par
  motion : Int
  yes : Bool

/-- Nothing. -/
def Dd.none : Dd := ⟨0, 0, 0, 0, 0, 0, [], 0, Par.none, 0, false⟩

/-- Each number has its bits. -/
structure Dd.Fits (d : Dd) : Prop where
  ints : ∀ x ∈ [d.kind, d.account, d.member, d.dest, d.epoch, d.what, d.motion], -9223372036854775808 ≤ x ∧ x ≤ 9223372036854775807
  amount : d.amount < 18446744073709551616
  bits : ∀ x ∈ d.bits, x < 256
  par : d.par.Fits

/-- The deeds that are right, kind by kind. -/
inductive Dd.Right : Dd → Prop
  | send (a t m : Nat) : a ≤ 63 → t ≤ 63 → 1 ≤ m → m ≤ 4611686018427387904 → Dd.Right ⟨1, a, 0, t, m, 0, [], 0, Par.none, 0, false⟩
  | stake (a m : Nat) : a ≤ 63 → 1 ≤ m → m ≤ 4611686018427387904 → Dd.Right ⟨2, a, 0, 0, m, 0, [], 0, Par.none, 0, false⟩
  | top (a b m : Nat) : a ≤ 63 → b ≤ 127 → 1 ≤ m → m ≤ 4611686018427387904 → Dd.Right ⟨3, a, b, 0, m, 0, [], 0, Par.none, 0, false⟩
  | leave (a b : Nat) : a ≤ 63 → b ≤ 127 → Dd.Right ⟨4, a, b, 0, 0, 0, [], 0, Par.none, 0, false⟩
  | mark (e : Nat) (xs : List Nat) : e ≤ 1073741824 → xs.length ≤ 32 → (∀ x ∈ xs, x < 256) → Dd.Right ⟨5, 0, 0, 0, 0, e, xs, 0, Par.none, 0, false⟩
  | params (a : Nat) (p : Par) (T : Nat) : a ≤ 63 → Par.Right p T → p.Fits → Dd.Right ⟨6, a, 0, 0, 0, 0, [], 1, p, 0, false⟩
  | spend (a t m : Nat) : a ≤ 63 → t ≤ 63 → 1 ≤ m → m ≤ 4611686018427387904 → Dd.Right ⟨6, a, 0, t, m, 0, [], 2, Par.none, 0, false⟩
  | other (a k : Nat) : a ≤ 63 → 3 ≤ k → k ≤ 4 → Dd.Right ⟨6, a, 0, 0, 0, 0, [], k, Par.none, 0, false⟩
  | vote (a b n : Nat) (y : Bool) : a ≤ 63 → b ≤ 127 → n ≤ 31 → Dd.Right ⟨7, a, b, 0, 0, 0, [], 0, Par.none, n, y⟩

/-- What is written of a deed, piece by piece. -/
def Dd.parts (d : Dd) : List (List Nat) :=
  if d.kind = 1 then [form 1, form d.account.toNat, form d.dest.toNat, form d.amount]
  else if d.kind = 2 then [form 2, form d.account.toNat, form d.amount]
  else if d.kind = 3 then [form 3, form d.account.toNat, form d.member.toNat, form d.amount]
  else if d.kind = 4 then [form 4, form d.account.toNat, form d.member.toNat]
  else if d.kind = 5 then [form 5, form d.epoch.toNat, form d.bits.length ++ d.bits]
  else if d.kind = 6 then [form 6, form d.account.toNat, form d.what.toNat] ++ (if d.what = 1 then d.par.nums.map form else if d.what = 2 then [form d.dest.toNat, form d.amount] else [])
  else [form 7, form d.account.toNat, form d.member.toNat, form d.motion.toNat, form (if d.yes then 1 else 0)]
def Dd.bytes (d : Dd) : List Nat := d.parts.flatten

end Go.Proofs.Ytcaejanfhchacaa
namespace Go.Proofs.Ytcaejanfhchacaa
open Classical
set_option linter.unusedVariables false
set_option linter.unusedSimpArgs false

/-- The motion of a deed. -/
def movedOf (d : Dd) (ends : Int) : PMot := ⟨d.account, d.what, d.par, d.dest, d.amount, ends, 0, 1, List.replicate 16 0, List.replicate 16 0⟩
/-- What comes of a motion that is moved: the motions, its place, an error's number. -/
noncomputable def popen (p : Par) (L : List PMot) (d : Dd) (epoch : Int) : List PMot × Nat × Nat :=
  if ∃ T, Par.Right p T then
    if d.kind = 6 ∧ d.Right then
      if 0 ≤ epoch ∧ epoch ≤ 1073741824 then
        if freeOf L < 32 then (if freeOf L = L.length then L ++ [movedOf d (epoch + p.poll)] else L.set (freeOf L) (movedOf d (epoch + p.poll)), freeOf L, 0)
        else ([], 0, 161)
      else ([], 0, 2)
    else ([], 0, 80)
  else ([], 0, 70)

end Go.Proofs.Ytcaejanfhchacaa
