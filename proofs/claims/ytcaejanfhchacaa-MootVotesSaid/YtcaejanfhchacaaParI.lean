/- Layer 7 (param): is each field within its span? By contracts. · Layer 7 (param): the list of the ints' fields. By contracts. · Layer 7 (param): the list of the words' fields. By contracts. -/
import Derived.Test.YtcaejanfhchacaaParA
import Derived.Deep.QuietTactic
import Derived.BigQuiet
import Derived.Deep.RegionHeld3
namespace Go.Proofs.Ytcaejanfhchacaa
open Go.RowKit
set_option linter.unusedVariables false

/-- The words that stand in block b: what the fields of a list are. -/
def ParWordsAt (w : World) (b : Nat) (l : List (Nat × Nat × Nat)) : Prop := ∀ k x, l[k]? = some x → w.cell? ⟨b, k, none⟩ = some (.int .u64 (x.1 : Int))
def IntsAt (w : World) (b : Nat) (l : List (Int × Int × Int)) : Prop := ∀ k x, l[k]? = some x → w.cell? ⟨b, 14 + k, none⟩ = some (.int .i64 x.1)

theorem FieldsW.below {w w' : World} {B g b : Nat} {l : List (Nat × Nat × Nat)} (h : FieldsW w g b l) (hb : Below B w w') (hg : g < B) : FieldsW w' g b l := fun k x hk => by
  obtain ⟨h1, h2, h3⟩ := h k x hk
  exact ⟨(hb.cell (p := ⟨g, _, none⟩) hg).trans h1, (hb.cell (p := ⟨g, _, none⟩) hg).trans h2, (hb.cell (p := ⟨g, _, none⟩) hg).trans h3⟩
theorem FieldsI.below {w w' : World} {B g b : Nat} {l : List (Int × Int × Int)} (h : FieldsI w g b l) (hb : Below B w w') (hg : g < B) : FieldsI w' g b l := fun k x hk => by
  obtain ⟨h1, h2, h3⟩ := h k x hk
  exact ⟨(hb.cell (p := ⟨g, _, none⟩) hg).trans h1, (hb.cell (p := ⟨g, _, none⟩) hg).trans h2, (hb.cell (p := ⟨g, _, none⟩) hg).trans h3⟩
theorem ParWordsAt.below {w w' : World} {B b : Nat} {l : List (Nat × Nat × Nat)} (h : ParWordsAt w b l) (hb : Below B w w') (hg : b < B) : ParWordsAt w' b l := fun k x hk => (hb.cell (p := ⟨b, _, none⟩) hg).trans (h k x hk)
theorem IntsAt.below {w w' : World} {B b : Nat} {l : List (Int × Int × Int)} (h : IntsAt w b l) (hb : Below B w w') (hg : b < B) : IntsAt w' b l := fun k x hk => (hb.cell (p := ⟨b, _, none⟩) hg).trans (h k x hk)

theorem all_take {α : Type} {f : α → Bool} {l : List α} {k : Nat} {x : α} (hx : l[k]? = some x) (h : (l.take k).all f = true) (hf : f x = true) : (l.take (k + 1)).all f = true := by
  obtain ⟨hk, rfl⟩ := List.getElem?_eq_some_iff.1 hx
  rw [List.take_succ_eq_append_getElem hk, List.all_append, h]
  simpa using hf
theorem all_no {α : Type} {f : α → Bool} {l : List α} {k : Nat} {x : α} (hx : l[k]? = some x) (hf : f x = false) : l.all f = false := by
  obtain ⟨hk, rfl⟩ := List.getElem?_eq_some_iff.1 hx
  rw [List.all_eq_false]
  exact ⟨_, List.getElem_mem hk, by simpa using hf⟩

set_option maxRecDepth 100000 in
set_option maxHeartbeats 2000000 in
theorem within_w (g b : Nat) (l : List (Nat × Nat × Nat)) (w : World) (hF : FieldsW w g b l) (hW : ParWordsAt w b l) (hg : g < w.heap.size) (hb : b < w.heap.size) (hl : l.length ≤ 100) :
    Calls Try.prog 74 #[.slice (some ⟨g, 0, none⟩) l.length l.length] w fun e w' => e = .returned (.bool (l.all Par.okW)) ∧ Below w.heap.size w w' := by
  obtain ⟨N, hN⟩ : ∃ N, Hid (N = l.length) := ⟨_, rfl⟩
  rw [← hN.out] at hl ⊢
  go_enter Try.func74, Try.ntmps74
  go_wp2
  go_loopw [7] (fun iv wr => ∃ k : Nat, k ≤ N ∧ iv = .int .i64 (k : Int) ∧ Hid ((l.take k).all Par.okW = true) ∧ Below w.heap.size w wr) (fun iv _ => N - (intOf iv).toNat)
  case atStart => exact ⟨0, Nat.zero_le _, rfl, rfl, Below.refl _ _⟩
  case round =>
    obtain ⟨k, hk, rfl, HA, hB⟩ := hrel
    by_cases hlt : k < N
    · obtain ⟨⟨x, lo, hi⟩, hx⟩ : ∃ y, Hid (l[k]? = some y) := ⟨l[k]'(by rw [← hN.out]; exact hlt), List.getElem?_eq_getElem _⟩
      obtain ⟨c0, c1, c2⟩ := (hF.below hB hg) k _ hx.out
      have cx := (hW.below hB hb) k _ hx.out
      simp only at c1 c2 cx
      have hbw : b < wr.heap.size := Nat.lt_of_lt_of_le hb hB.size
      have hgw : g < wr.heap.size := Nat.lt_of_lt_of_le hg hB.size
      have hB1 := hB.alloc hB.size (.cells #[.pointer (some ⟨b, k, none⟩), .int .u64 (lo : Int), .int .u64 (hi : Int)] 157)
      have cx1 : (wr.alloc (.cells #[.pointer (some ⟨b, k, none⟩), .int .u64 (lo : Int), .int .u64 (hi : Int)] 157)).cell? ⟨b, k, none⟩ = some (.int .u64 (x : Int)) := (World.cell?_alloc_lt _ _ _ hbw).trans cx
      by_cases hlo : x < lo
      · have HN : Hid (l.all Par.okW = false) := all_no hx.out (by simp [Par.okW]; omega)
        have d1 : decide (x < lo) = true := by simpa using hlo
        clear hlo
        go_wp2
        go_quiet (fail)
        go_wp2
        go_ret
        exact ⟨by rw [HN.out]; rfl, below_drewN hB1 _⟩
      · have d1 : decide (x < lo) = false := by simpa using hlo
        by_cases hhi : hi < x
        · have HN : Hid (l.all Par.okW = false) := all_no hx.out (by simp [Par.okW]; omega)
          have d2 : decide (hi < x) = true := by simpa using hhi
          clear hlo hhi
          go_wp2
          go_quiet (fail)
          go_wp2
          go_ret
          exact ⟨by rw [HN.out]; rfl, below_drewN hB1 _⟩
        · have HY : Hid ((l.take (k + 1)).all Par.okW = true) := all_take hx.out HA.out (by simp [Par.okW]; omega)
          have d2 : decide (hi < x) = false := by simpa using hhi
          clear hlo hhi
          go_wp2
          go_quiet (fail)
          go_wp2
          go_roundw
          case rel => exact ⟨k + 1, by omega, by go_num, HY, below_drewN hB1 _⟩
          case measure => simp [intOf]; omega
    · have HY : Hid (l.all Par.okW = true) := by
        have h := HA.out
        rwa [List.take_of_length_le (by rw [← hN.out]; omega)] at h
      go_wp2
      go_ret
      exact ⟨by rw [HY.out]; rfl, hB⟩

set_option maxRecDepth 100000 in
set_option maxHeartbeats 2000000 in
theorem within_i (g b : Nat) (l : List (Int × Int × Int)) (w : World) (hF : FieldsI w g b l) (hW : IntsAt w b l) (hg : g < w.heap.size) (hb : b < w.heap.size) (hl : l.length ≤ 100) :
    Calls Try.prog 76 #[.slice (some ⟨g, 0, none⟩) l.length l.length] w fun e w' => e = .returned (.bool (l.all Par.okI)) ∧ Below w.heap.size w w' := by
  obtain ⟨N, hN⟩ : ∃ N, Hid (N = l.length) := ⟨_, rfl⟩
  rw [← hN.out] at hl ⊢
  go_enter Try.func76, Try.ntmps76
  go_wp2
  go_loopw [7] (fun iv wr => ∃ k : Nat, k ≤ N ∧ iv = .int .i64 (k : Int) ∧ Hid ((l.take k).all Par.okI = true) ∧ Below w.heap.size w wr) (fun iv _ => N - (intOf iv).toNat)
  case atStart => exact ⟨0, Nat.zero_le _, rfl, rfl, Below.refl _ _⟩
  case round =>
    obtain ⟨k, hk, rfl, HA, hB⟩ := hrel
    by_cases hlt : k < N
    · obtain ⟨⟨x, lo, hi⟩, hx⟩ : ∃ y, Hid (l[k]? = some y) := ⟨l[k]'(by rw [← hN.out]; exact hlt), List.getElem?_eq_getElem _⟩
      obtain ⟨c0, c1, c2⟩ := (hF.below hB hg) k _ hx.out
      have cx := (hW.below hB hb) k _ hx.out
      simp only at c1 c2 cx
      have hbw : b < wr.heap.size := Nat.lt_of_lt_of_le hb hB.size
      have hgw : g < wr.heap.size := Nat.lt_of_lt_of_le hg hB.size
      have hB1 := hB.alloc hB.size (.cells #[.pointer (some ⟨b, 14 + k, none⟩), .int .i64 lo, .int .i64 hi] 162)
      have cx1 : (wr.alloc (.cells #[.pointer (some ⟨b, 14 + k, none⟩), .int .i64 lo, .int .i64 hi] 162)).cell? ⟨b, 14 + k, none⟩ = some (.int .i64 x) := (World.cell?_alloc_lt _ _ _ hbw).trans cx
      by_cases hlo : x < lo
      · have HN : Hid (l.all Par.okI = false) := all_no hx.out (by simp [Par.okI]; omega)
        have d1 : decide (x < lo) = true := by simpa using hlo
        clear hlo
        go_wp2
        go_quiet (fail)
        go_wp2
        go_ret
        exact ⟨by rw [HN.out]; rfl, below_drewN hB1 _⟩
      · have d1 : decide (x < lo) = false := by simpa using hlo
        by_cases hhi : hi < x
        · have HN : Hid (l.all Par.okI = false) := all_no hx.out (by simp [Par.okI]; omega)
          have d2 : decide (hi < x) = true := by simpa using hhi
          clear hlo hhi
          go_wp2
          go_quiet (fail)
          go_wp2
          go_ret
          exact ⟨by rw [HN.out]; rfl, below_drewN hB1 _⟩
        · have HY : Hid ((l.take (k + 1)).all Par.okI = true) := all_take hx.out HA.out (by simp [Par.okI]; omega)
          have d2 : decide (hi < x) = false := by simpa using hhi
          clear hlo hhi
          go_wp2
          go_quiet (fail)
          go_wp2
          go_roundw
          case rel => exact ⟨k + 1, by omega, by go_num, HY, below_drewN hB1 _⟩
          case measure => simp [intOf]; omega
    · have HY : Hid (l.all Par.okI = true) := by
        have h := HA.out
        rwa [List.take_of_length_le (by rw [← hN.out]; omega)] at h
      go_wp2
      go_ret
      exact ⟨by rw [HY.out]; rfl, hB⟩
end Go.Proofs.Ytcaejanfhchacaa
namespace Go.Proofs.Ytcaejanfhchacaa
open Go.RowKit
set_option linter.unusedVariables false

theorem size_next {w w1 w2 : World} (h : w.heap.size ≤ w1.heap.size ∧ Below w.heap.size w w1) (h2 : Below w1.heap.size w1 w2) : w.heap.size ≤ w2.heap.size ∧ Below w.heap.size w w2 := ⟨Nat.le_trans h.1 h2.size, Below.then h.2 h2⟩
set_option maxRecDepth 100000 in
set_option maxHeartbeats 4000000 in
theorem ints_is (b : Nat) (p : Par) (T : TypeId) (w : World) (hP : ParAt w b p T) :
    Calls Try.prog 77 #[.pointer (some ⟨b, 0, none⟩)] w fun e w' => ∃ g, e = .returned (.slice (some ⟨g, 0, none⟩) 10 10) ∧ FieldsI w' g b p.ispan ∧ w.heap.size ≤ g ∧ Below w.heap.size w w' := by
  have hh : w.heap.size ≤ w.drew.heap.size ∧ Below w.heap.size w w.drew := ⟨Nat.le_refl _, (Below.refl _ _).drew⟩
  have hsz : w.heap.size ≤ w.drew.heap.size := Nat.le_refl _
  go_enter Try.func77, Try.ntmps77
  go_wp2
  go_region_held3 (fun w' => w.heap.size ≤ w'.heap.size ∧ Below w.heap.size w w')
    (first | exact hh | exact size_next (by assumption) hb1 | exact size_next (by assumption) ((Below.refl _ _).alloc (Nat.le_refl _) _) | assumption)
    (first
      | (go_at_call 103; refine (span_i _ _ _ _).mono ?_; rintro e w1 ⟨rfl, hb1⟩; have hsz := Nat.le_trans hsz hb1.size)
      | (go_at_call 102; refine (list_i _ _ _ _).mono ?_; rintro e w2 ⟨rfl, rfl⟩))
  have hB := (‹_ ∧ Below w.heap.size w (w1.alloc _)›).2
  go_wp2
  go_ret
  exact ⟨w1.heap.size, rfl, irow_fields w1 b p _, hsz, hB⟩
end Go.Proofs.Ytcaejanfhchacaa
namespace Go.Proofs.Ytcaejanfhchacaa
open Go.RowKit
set_option linter.unusedVariables false

theorem four_here {w : World} {b : Nat} {p : Par} {T : TypeId} (h : ParAt w b p T) : (w.drew.cell? ⟨b, 0, none⟩ = some (.int .u64 (p.inc : Int)) ∧ w.drew.cell? ⟨b, 1, none⟩ = some (.int .u64 (p.maxEff : Int)) ∧ w.drew.cell? ⟨b, 6, none⟩ = some (.int .u64 (p.bias : Int)) ∧ w.drew.cell? ⟨b, 7, none⟩ = some (.int .u64 (p.quot : Int))) ∧ Below w.heap.size w w.drew :=
  ⟨⟨h.cell 0, h.cell 1, h.cell 6, h.cell 7⟩, (Below.refl _ _).drew⟩
theorem four_next {w w1 w2 : World} {b : Nat} {p : Par} (hb : b < w.heap.size) (h : (w1.cell? ⟨b, 0, none⟩ = some (.int .u64 (p.inc : Int)) ∧ w1.cell? ⟨b, 1, none⟩ = some (.int .u64 (p.maxEff : Int)) ∧ w1.cell? ⟨b, 6, none⟩ = some (.int .u64 (p.bias : Int)) ∧ w1.cell? ⟨b, 7, none⟩ = some (.int .u64 (p.quot : Int))) ∧ Below w.heap.size w w1) (h2 : Below w1.heap.size w1 w2) : (w2.cell? ⟨b, 0, none⟩ = some (.int .u64 (p.inc : Int)) ∧ w2.cell? ⟨b, 1, none⟩ = some (.int .u64 (p.maxEff : Int)) ∧ w2.cell? ⟨b, 6, none⟩ = some (.int .u64 (p.bias : Int)) ∧ w2.cell? ⟨b, 7, none⟩ = some (.int .u64 (p.quot : Int))) ∧ Below w.heap.size w w2 := by
  have hl := h.2.size
  have e : ∀ k, w2.cell? ⟨b, k, none⟩ = w1.cell? ⟨b, k, none⟩ := fun k => h2.cell (show b < _ by omega)
  refine ⟨?_, Below.then h.2 h2⟩
  rw [e, e, e, e]
  exact h.1

set_option maxRecDepth 100000 in
set_option maxHeartbeats 4000000 in
theorem words_is (b : Nat) (p : Par) (T : TypeId) (w : World) (hP : ParAt w b p T) :
    Calls Try.prog 75 #[.pointer (some ⟨b, 0, none⟩)] w fun e w' => ∃ g, e = .returned (.slice (some ⟨g, 0, none⟩) 14 14) ∧ FieldsW w' g b p.wspan ∧ w.heap.size ≤ g ∧ Below w.heap.size w w' := by
  have hlt := hP.lt
  have hh := four_here hP
  have hsz : w.heap.size ≤ w.drew.heap.size := Nat.le_refl _
  go_enter Try.func75, Try.ntmps75
  go_wp2
  dsimp only [List.append_eq, List.cons_append, List.nil_append]
  go_region_held3 (fun w' => (w'.cell? ⟨b, 0, none⟩ = some (.int .u64 (p.inc : Int)) ∧ w'.cell? ⟨b, 1, none⟩ = some (.int .u64 (p.maxEff : Int)) ∧ w'.cell? ⟨b, 6, none⟩ = some (.int .u64 (p.bias : Int)) ∧ w'.cell? ⟨b, 7, none⟩ = some (.int .u64 (p.quot : Int))) ∧ Below w.heap.size w w')
    (first | exact hh | exact four_next hlt (by assumption) hb1 | exact four_next hlt (by assumption) ((Below.refl _ _).alloc (Nat.le_refl _) _) | assumption)
    (first
      | (go_at_call 101; refine (span_w _ _ _ _).mono ?_; rintro e w1 ⟨rfl, hb1⟩; have hsz := Nat.le_trans hsz hb1.size)
      | (go_at_call 100; refine (list_w _ _ _ _).mono ?_; rintro e w2 ⟨rfl, rfl⟩))
  have hB := (‹_ ∧ Below w.heap.size w (w1.alloc _)›).2
  go_wp2
  go_ret
  exact ⟨w1.heap.size, rfl, wrow_fields w1 b p _, hsz, hB⟩
end Go.Proofs.Ytcaejanfhchacaa
