/- Layer 14 (prize): what a standing weighs: the function that weighs, and Weight. By contracts. -/
import Derived.Test.YtijenmkhbkbnfaaPriM
import Derived.Test.YtijenmkhbkbnfaaStdL
import Derived.Test.YtijenmkhbkbnfaaCheck
import Derived.Shelf.Abstract
namespace Go.Proofs.Ytijenmkhbkbnfaa
open Go.RowKit Go.Shelf
set_option linter.unusedVariables false
set_option linter.unusedSimpArgs false

/-- The function that weighs, with the place of the parameters that it took with it. -/
abbrev weigherAt (b : Nat) : Value := .func (.func 36) #[] #[.pointer (some ⟨b, 0, none⟩)]
theorem weigher_made (p : Par) (w : World) :
    Calls Try.prog 21 #[.agg p.vals] w fun e w' => e = .returned (weigherAt w.heap.size) ∧ w' = w.alloc (.cells p.vals 24) := by
  go_enter Try.func21, Try.ntmps21
  go_wp2
  go_ret
  exact ⟨rfl, rfl⟩

set_option maxRecDepth 100000 in
set_option maxHeartbeats 1000000 in
theorem weighs_none (p : Par) (s : Std) (b : Nat) (T : TypeId) (w : World) (hP : ParAt w b p T) (h : p.maxEff < s.eff) :
    Calls Try.prog 36 #[.agg s.vals, .pointer (some ⟨b, 0, none⟩)] w fun e w' => e = .returned (.int .u64 0) ∧ Below w.heap.size w w' := by
  have hS := StdAt.new w s 36 rfl
  have hB : Below w.heap.size w (w.alloc (.cells s.vals 36)) := (Below.refl _ _).alloc (Nat.le_refl _) _
  have hP1 := hP.up hB
  have c1 := hS.c1
  have p1 := (hP1.cell 1).trans p.v1
  have d1 : decide ((p.maxEff : Int) < (s.eff : Int)) = true := decide_eq_true (by omega)
  have d2 : decide (p.maxEff < s.eff) = true := decide_eq_true h
  clear h hS hP hP1
  go_enter Try.func36, Try.ntmps36
  go_wp2
  go_ret
  exact ⟨rfl, hB⟩

set_option maxRecDepth 100000 in
set_option maxHeartbeats 1000000 in
theorem weighs_some (p : Par) (s : Std) (b x : Nat) (T : TypeId) (w : World) (hP : ParAt w b p T) (hp : Par.Spans p) (h : ¬ p.maxEff < s.eff) (hx : Std.weight p s = x) :
    Calls Try.prog 36 #[.agg s.vals, .pointer (some ⟨b, 0, none⟩)] w fun e w' => e = .returned (.int .u64 (x : Int)) ∧ Below w.heap.size w w' := by
  have hS := StdAt.new w s 36 rfl
  have hB : Below w.heap.size w (w.alloc (.cells s.vals 36)) := (Below.refl _ _).alloc (Nat.le_refl _) _
  have hP1 := hP.up hB
  have c1 := hS.c1
  have c3 := hS.c3
  have p1 := (hP1.cell 1).trans p.v1
  have p15 := (hP1.cell 15).trans p.v15
  have p16 := (hP1.cell 16).trans p.v16
  have d1 : decide ((p.maxEff : Int) < (s.eff : Int)) = false := decide_eq_false (by omega)
  have d2 : decide (p.maxEff < s.eff) = false := decide_eq_false h
  have hl := Std.weight_le hp s
  have ht := Std.times_in hp s
  have hy := Std.boosted_in hp s
  have ew : x = s.eff * (Std.times p s).toNat := by rw [← hx, Std.weight, if_neg h]
  unfold Std.times at ht ew
  unfold Std.counts at hy ht ew
  obtain ⟨k, hk⟩ : ∃ k, min (max s.streak 0) p.streak = k := ⟨_, rfl⟩
  rw [hk] at hy ht ew
  obtain ⟨y, hyy⟩ : ∃ y, p.boost * k = y := ⟨_, rfl⟩
  rw [hyy] at hy ht ew
  have e1 : IntKind.i64.wrap (p.boost * k) = y := by rw [hyy]; exact IntWalk.i64_in _ (by omega)
  obtain ⟨z, hz⟩ : ∃ z : Nat, (z : Int) = 1000 + y := ⟨(1000 + y).toNat, by omega⟩
  have e2 : IntKind.i64.wrap (1000 + y) = (z : Int) := by rw [hz]; exact IntWalk.i64_in _ (by omega)
  have e3 : IntKind.u64.wrap (z : Int) = (z : Int) := IntWalk.u64_in _ (by omega)
  have ew2 : (x : Int) = (s.eff : Int) * (z : Int) := by
    rw [ew, show (1000 + y).toNat = z by omega]; exact Int.natCast_mul _ _
  have e4 : IntKind.u64.wrap ((s.eff : Int) * (z : Int)) = (x : Int) := by rw [← ew2]; exact IntWalk.u64_in _ (by omega)
  clear h hS hP hP1 hl ht hy ew ew2 hyy hz hx hp
  go_enter Try.func36, Try.ntmps36
  go_wp2
  go_ret
  exact ⟨by first | rfl | simp, hB⟩
/-- What the function that weighs answers. -/
theorem weighs_is (p : Par) (s : Std) (b : Nat) (T : TypeId) (w : World) (hP : ParAt w b p T) (hp : Par.Spans p) :
    Calls Try.prog 36 #[.agg s.vals, .pointer (some ⟨b, 0, none⟩)] w fun e w' => e = .returned (.int .u64 (Std.weight p s : Nat)) ∧ Below w.heap.size w w' := by
  by_cases h : p.maxEff < s.eff
  · rw [Std.weight, if_pos h]
    exact weighs_none p s b T w hP h
  · exact weighs_some p s b _ T w hP hp h rfl
/-- Ahead of the function's making, and behind it. -/
def WeighS (w1 : World) (p : Par) : Nat → World → Prop
  | 0, w' => w' = w1.drew
  | _ + 1, w' => Below w1.heap.size w1 w' ∧ ParAt w' w1.heap.size p 24
theorem WeighS.below {w1 w' : World} {p : Par} {k : Nat} (h : WeighS w1 p k w') : Below w1.heap.size w1 w' := by
  cases k with
  | zero => rw [show w' = w1.drew from h]; exact (Below.refl _ _).drew
  | succ k => exact h.1
theorem WeighS.call {w1 : World} {p : Par} : ∀ w, WeighS w1 p 0 w → Calls Try.prog 21 #[.agg p.vals] w fun e w' => e = .returned (weigherAt w1.heap.size) ∧ WeighS w1 p 1 w' := by
  intro w h
  obtain rfl : w = w1.drew := h
  refine (weigher_made p _).mono ?_
  rintro e w' ⟨rfl, rfl⟩
  exact ⟨rfl, ((Below.refl _ _).drew).alloc (Nat.le_refl _) _, ParAt.new w1.drew p _⟩
/-- What it answers, in any world. -/
def WeightIs (p : Par) (s : Std) (n : Nat) : Prop := ∀ w, Calls Try.prog 11 #[.agg p.vals, .agg s.vals] w fun e w' => e = .returned (.int .u64 (n : Int)) ∧ Below w.heap.size w w'

set_option maxRecDepth 100000 in
set_option maxHeartbeats 1000000 in
theorem weight_no (p : Par) (s : Std) (kc : CheckIs p 70) : WeightIs p s 0 := by
  intro w
  have hP := (ParAt.new w p 24).up ((Below.refl _ _).alloc (Nat.le_refl _) (.cells s.vals 36))
  have hS : StdAt ((w.alloc (.cells p.vals 24)).alloc (.cells s.vals 36)) (w.heap.size + 1) s 36 := StdAt.new _ s _ (by simp)
  have hB : Below w.heap.size w ((w.alloc (.cells p.vals 24)).alloc (.cells s.vals 36)) := ((Below.refl _ _).alloc (Nat.le_refl _) _).alloc (by simp) _
  go_enter Try.func11, Try.ntmps11
  go_wp2_with (first
    | (refine load_par _ rfl rfl _ p _ rfl (by assumption) ?_)
    | (refine load_std _ rfl rfl _ s _ rfl (by assumption) ?_)
    | (go_at_call 18; refine (kc _).mono ?_; clear kc; rintro e w1 ⟨rfl, hb1⟩; have hP := hP.up hb1; have hS := hS.up hb1; have hB := Below.then hB hb1; clear hb1)
    )
  go_ret
  exact ⟨by first | rfl | simp, hB⟩

set_option maxRecDepth 100000 in
set_option maxHeartbeats 1000000 in
theorem weight_ok (p : Par) (s : Std) (kc : CheckIs p 0) (hp : Par.Spans p) : WeightIs p s (Std.weight p s) := by
  intro w
  have hP := (ParAt.new w p 24).up ((Below.refl _ _).alloc (Nat.le_refl _) (.cells s.vals 36))
  have hS : StdAt ((w.alloc (.cells p.vals 24)).alloc (.cells s.vals 36)) (w.heap.size + 1) s 36 := StdAt.new _ s _ (by simp)
  have hB : Below w.heap.size w ((w.alloc (.cells p.vals 24)).alloc (.cells s.vals 36)) := ((Below.refl _ _).alloc (Nat.le_refl _) _).alloc (by simp) _
  have eg := enters_of (P := Try.prog) Try.func36 (by kernel_rfl) rfl
  obtain ⟨x, hx⟩ : ∃ x, Std.weight p s = x := ⟨_, rfl⟩
  rw [hx]
  go_enter Try.func11, Try.ntmps11
  go_wp2_with (first
    | (refine load_par _ rfl rfl _ p _ rfl (by assumption) ?_)
    | (refine load_std _ rfl rfl _ s _ rfl (by assumption) ?_)
    | (go_at_call 18; refine (kc _).mono ?_; clear kc; rintro e w1 ⟨rfl, hb1⟩; have hP := hP.up hb1; have hS := hS.up hb1; have hB := Below.then hB hb1; clear hb1)
    )
  have cells : ∀ w', Below w1.heap.size w1 w' → ParAt w' w.heap.size p 24 := fun w' h => hP.up h
  have sells : ∀ w', Below w1.heap.size w1 w' → StdAt w' (w.heap.size + 1) s 36 := fun w' h => hS.up h
  clear hP hS
  have kw : ∀ w, WeighS w1 p 1 w → Calls Try.prog 36 #[.agg s.vals, .pointer (some ⟨w1.heap.size, 0, none⟩)] w fun e w' => e = .returned (.int .u64 (x : Int)) ∧ WeighS w1 p 2 w' := by
    intro w h
    have k := weighs_is p s w1.heap.size 24 w h.2 hp
    rw [hx] at k
    refine k.mono ?_
    rintro e w' ⟨rfl, hb⟩
    exact ⟨rfl, h.1.trans (hb.mono h.1.size), h.2.up hb⟩
  clear hx hp
  refine region_list [1, 3] (WeighS w1 p) (by kernel_rfl) (by kernel_rfl) (show WeighS w1 p 0 _ from rfl) ?_
  refine SeqS.take _ (by rfl) (by rfl) (fun ph w' hS => exec_load_par _ rfl _ _ _ rfl (cells w' (WeighS.below hS))) ?_
  simp only [Act.put, List.setIfInBounds_toArray, List.set_cons_zero, List.set_cons_succ]
  refine SeqS.callTurn 0 WeighS.call (by rfl) (by rfl) (by decide) (fun w => ?_) ?_; · go_simp
  simp only [Act.put, List.setIfInBounds_toArray, List.set_cons_zero, List.set_cons_succ]
  refine SeqS.take _ (by rfl) (by rfl) (fun ph w' hS => exec_load_std _ rfl _ _ _ rfl (sells w' (WeighS.below hS))) ?_
  simp only [Act.put, List.setIfInBounds_toArray, List.set_cons_zero, List.set_cons_succ]
  refine SeqS.callTurn 1 kw (by rfl) (by rfl) (by decide) (fun w => ?_) ?_; · (have e2 := eg #[.agg s.vals, .pointer (some ⟨w1.heap.size, 0, none⟩)] w; go_simp)
  simp only [Act.put, List.setIfInBounds_toArray, List.set_cons_zero, List.set_cons_succ]
  refine' SeqS.calm _ (by rfl) (by rfl) (fun w => ?_) ?_; rotate_left; · (go_simp <;> with_reducible rfl)
  simp only [Act.put, List.setIfInBounds_toArray, List.set_cons_zero, List.set_cons_succ]
  intro w3 hw3
  have hB := Below.then hB hw3.below
  go_wp2
  go_ret
  exact ⟨by first | rfl | simp, hB⟩
end Go.Proofs.Ytijenmkhbkbnfaa
