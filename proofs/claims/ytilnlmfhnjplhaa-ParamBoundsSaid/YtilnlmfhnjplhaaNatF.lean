/- The reference's numbers (layer 1): as a word, if it is one. By contracts. -/
import Derived.Test.YtilnlmfhnjplhaaNatE
import Derived.Deep.RegionHeld3
namespace Go.Proofs.Ytilnlmfhnjplhaa
open Go.RowKit
set_option linter.unusedVariables false

theorem of_most (w : World) :
    Calls Try.prog 39 #[.int .u64 18446744073709551615] w fun e w' => ∃ v, e = .returned v ∧ NatV w' w'.heap.size v 18446744073709551615 ∧ Fresh w.heap.size v ∧ Below w.heap.size w w' := by
  have h := of_any 18446744073709551615 w (Nat.le_refl _)
  rwa [show ((18446744073709551615 : Nat) : Int) = 18446744073709551615 from rfl] at h

theorem most_nat (w : World) :
    Calls Try.prog 88 #[] w fun e w' => ∃ v, e = .returned v ∧ NatV w' w'.heap.size v 18446744073709551615 ∧ Fresh w.heap.size v ∧ Below w.heap.size w w' := by
  go_enter Try.func88, Try.ntmps88
  go_wp2_with (go_at_call 39; refine (of_most _).mono ?_; rintro e w' ⟨v, rfl, hnv, hfv, hbt⟩; obtain ⟨A2, c2, rfl, _⟩ := id hnv; obtain ⟨hc, hf⟩ := result_cell (hbt.mono (by simp)))
  refine bodyPost_ret (v := .agg #[.slice A2 (digs 18446744073709551615).length c2]) (by simp [results, Try.results88, go_sem, hc]) rfl ⟨_, rfl, ?_⟩
  exact result_nat _ hnv hfv (Nat.le_refl _) (Nat.le_refl _) (by simp) (((Below.refl _ _).alloc (Nat.le_refl _) _).trans (hbt.mono (by simp))) _

/-- The one cell of a boxed number. -/
theorem boxed1 {w wr : World} {x : Value} {t : TypeId} (hb : Below (w.heap.size + 1) (w.alloc (.cells #[x] t)) wr) : wr.cell? ⟨w.heap.size, 0, none⟩ = some x := (result_cell hb).1

/-- A boxed number's cell, and all that was there ahead of it, kept: what a region that draws its order holds fast. -/
theorem keep0 {w : World} {x : Value} {t : TypeId} : (w.alloc (.cells #[x] t)).drew.cell? ⟨w.heap.size, 0, none⟩ = some x ∧ Below (w.heap.size + 1) (w.alloc (.cells #[x] t)) (w.alloc (.cells #[x] t)).drew :=
  ⟨boxed1 (Below.refl _ _).drew, (Below.refl _ _).drew⟩
theorem keep1_nat {w W1 w' : World} {x : Value} {t : TypeId} (h : W1.cell? ⟨w.heap.size, 0, none⟩ = some x ∧ Below (w.heap.size + 1) (w.alloc (.cells #[x] t)) W1) (hb : Below W1.heap.size W1 w') :
    w'.cell? ⟨w.heap.size, 0, none⟩ = some x ∧ Below (w.heap.size + 1) (w.alloc (.cells #[x] t)) w' := by
  have h1 := h.2.trans (hb.mono (by have := h.2.size; simpa using this))
  exact ⟨boxed1 h1, h1⟩
theorem keep_old {w w' : World} {x : Value} {t : TypeId} (h : w'.cell? ⟨w.heap.size, 0, none⟩ = some x ∧ Below (w.heap.size + 1) (w.alloc (.cells #[x] t)) w') : Below w.heap.size w w' :=
  ((Below.refl _ _).alloc (Nat.le_refl _) _).trans (h.2.mono (by omega))
theorem keep_nat {w w' : World} {x y : Value} {t : TypeId} {B N : Nat} (hn : NatV w B y N) (hB : B ≤ w.heap.size) (h : w'.cell? ⟨w.heap.size, 0, none⟩ = some x ∧ Below (w.heap.size + 1) (w.alloc (.cells #[x] t)) w') : NatV w' w'.heap.size y N :=
  (hn.below ((keep_old h).mono hB)).up (Nat.le_trans hB (keep_old h).size)

set_option maxRecDepth 100000 in
set_option maxHeartbeats 1000000 in
theorem uint_big (a : Nat) (va : Value) (B : Nat) (w : World) (ha : NatV w B va a) (hB : B ≤ w.heap.size) (h : 18446744073709551615 < a) :
    Calls Try.prog 80 #[va] w fun e w' => e = .returned (.tuple #[.int .u64 0, .bool false]) ∧ Below w.heap.size w w' := by
  have ha0 := ha
  obtain ⟨A, c, rfl, hlc, hcm, hra⟩ := ha
  go_enter Try.func80, Try.ntmps80
  go_wp2
  go_region_held3 (fun w' => w'.cell? ⟨w.heap.size, 0, none⟩ = some (.slice A (digs a).length c) ∧ Below (w.heap.size + 1) (w.alloc (.cells #[.slice A (digs a).length c] 66)) w')
    (first | exact keep0 | exact keep1_nat (by assumption) hbt2 | exact keep1_nat (by assumption) hbt)
    (first
      | (go_at_call 88; refine (most_nat _).mono ?_; rintro e w1 ⟨v, rfl, hnv, hfv, hbt⟩)
      | (go_at_call 40; refine (cmp_more a 18446744073709551615 _ _ w1.heap.size _ (keep_nat ha0 hB (by assumption)) hnv (Nat.le_refl _) h).mono ?_; rintro e w2 ⟨rfl, hbt2⟩))
  go_wp2
  go_ret2
  exact ⟨rfl, keep_old (by assumption)⟩

theorem cmp_upto (a b : Nat) (va vb : Value) (B : Nat) (w : World) (ha : NatV w B va a) (hb : NatV w B vb b) (hB : B ≤ w.heap.size) (h : a ≤ b) :
    Calls Try.prog 40 #[va, vb] w fun e w' => ∃ z : Int, z ≤ 0 ∧ e = .returned (.int .i64 z) ∧ Below w.heap.size w w' := by
  refine (cmp_any a b va vb B w ha hb hB).mono ?_
  rintro e w' ⟨rfl, hb⟩
  refine ⟨_, ?_, rfl, hb⟩
  unfold cmpZ
  split
  · omega
  · rw [if_neg (by omega)]; omega

set_option maxRecDepth 100000 in
set_option maxHeartbeats 1000000 in
theorem uint_fits (a : Nat) (va : Value) (B : Nat) (w : World) (ha : NatV w B va a) (hB : B ≤ w.heap.size) (h : a ≤ 18446744073709551615) :
    Calls Try.prog 80 #[va] w fun e w' => e = .returned (.tuple #[.int .u64 (a : Int), .bool true]) ∧ Below w.heap.size w w' := by
  have ha0 := ha
  obtain ⟨A, c, rfl, hlc, hcm, hra⟩ := ha
  have hlen : (digs a).length ≤ 20 := digs_len (by omega)
  go_enter Try.func80, Try.ntmps80
  go_wp2
  go_region_held3 (fun w' => w'.cell? ⟨w.heap.size, 0, none⟩ = some (.slice A (digs a).length c) ∧ Below (w.heap.size + 1) (w.alloc (.cells #[.slice A (digs a).length c] 66)) w')
    (first | exact keep0 | exact keep1_nat (by assumption) hbt2 | exact keep1_nat (by assumption) hbt)
    (first
      | (go_at_call 88; refine (most_nat _).mono ?_; rintro e w1 ⟨v, rfl, hnv, hfv, hbt⟩)
      | (go_at_call 40; refine (cmp_upto a 18446744073709551615 _ _ w1.heap.size _ (keep_nat ha0 hB (by assumption)) hnv (Nat.le_refl _) h).mono ?_; rintro e w2 ⟨z, hz, rfl, hbt2⟩))
  have hheld : w2.cell? ⟨w.heap.size, 0, none⟩ = some (.slice A (digs a).length c) ∧ Below (w.heap.size + 1) (w.alloc (.cells #[.slice A (digs a).length c] 66)) w2 := by assumption
  obtain ⟨hc1, hb1⟩ := id hheld
  have hrow := hra.below ((keep_old hheld).mono hB)
  clear hnv hfv hbt hbt2
  go_wp2
  go_loop [4, 5] (fun n i => ∃ k : Nat, k ≤ (digs a).length ∧ i = .int .i64 ((k : Int) - 1) ∧ n = .int .u64 ((a / 10 ^ k : Nat) : Int)) (fun _ i => (intOf i + 1).toNat)
  case atStart => exact ⟨_, Nat.le_refl _, rfl, by rw [Nat.div_eq_of_lt (lt_pow_digs a)]; rfl⟩
  case round =>
    obtain ⟨k, hk, rfl, rfl⟩ := hrel
    rcases Nat.eq_zero_or_pos k with rfl | hpos
    · have hz0 : ((0 : Nat) : Int) - 1 = -1 := rfl
      rw [hz0]
      clear hz0
      go_wp2
      go_ret2
      exact ⟨by simp, keep_old hheld⟩
    · obtain ⟨j, rfl⟩ : ∃ j, k = j + 1 := ⟨k - 1, by omega⟩
      have hz0 : ((j + 1 : Nat) : Int) - 1 = (j : Int) := by omega
      rw [hz0]
      clear hz0
      obtain ⟨aA, rfl, hbA, hcA⟩ := hrow.get (k := j) (by rw [ints_len]; omega)
      obtain ⟨d, HD⟩ : ∃ d, Hid ((digs a).getD j 0 = d) := ⟨_, rfl⟩
      have hd : d < 10 := by rw [← HD.out]; exact digit_lt a j
      have hcA' : w2.cell? (aA.add j) = some (.int .i64 (d : Int)) := by
        rw [hcA]
        have h := HD.out
        simp [show j < (digs a).length by omega] at h
        simp [ints, h]
      clear hcA
      obtain ⟨q, HQ⟩ : ∃ q, Hid (a / 10 ^ (j + 1) = q) := ⟨_, rfl⟩
      have hup : 10 * q + d = a / 10 ^ j := by rw [← HQ.out, ← HD.out]; exact read_up a j
      have hle : 10 * q + d ≤ 18446744073709551615 := by rw [hup]; exact Nat.le_trans (Nat.div_le_self _ _) h
      have HU := Lib.hid hup
      clear hup h
      rw [HQ.out]
      go_wp2
      go_round
      case rel => exact ⟨j, by omega, rfl, by rw [← HU.out]; go_num⟩
      case measure => simp [intOf]

end Go.Proofs.Ytilnlmfhnjplhaa
