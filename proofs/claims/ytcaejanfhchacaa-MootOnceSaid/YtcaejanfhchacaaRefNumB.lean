/- The reference's numbers (layer 1): sums. By contracts. · The reference's numbers (layer 1): differences. By contracts. · The reference's numbers (layer 1): as a word, if it is one. By contracts. · What multiplying digit by digit comes to: plain mathematics. · The reference's numbers (layer 1): products. By contracts. -/
import Derived.Test.YtcaejanfhchacaaNatC
import Derived.Deep.RegionHeld3
import Derived.Test.YtcaejanfhchacaaRefNumA
namespace Go.Proofs.Ytcaejanfhchacaa
open Go.RowKit
set_option linter.unusedVariables false

theorem all_snoc {ds : List Nat} {d : Nat} (h : ∀ x ∈ ds, x < 10) (hd : d < 10) : ∀ x ∈ ds ++ [d], x < 10 := by
  intro x hx
  rcases List.mem_append.1 hx with hx | hx
  · exact h x hx
  · have : x = d := by simpa using hx
    omega

/-- Two numbers boxed and a cell for the result: what lies there, behind all that was laid since. -/
theorem boxed3 {w wr : World} {x y z : Value} {t : TypeId} (hb : Below (w.heap.size + 3) (((w.alloc (.cells #[x] t)).alloc (.cells #[y] t)).alloc (.cells #[z] t)) wr) :
    wr.cell? ⟨w.heap.size, 0, none⟩ = some x ∧ wr.cell? ⟨w.heap.size + 1, 0, none⟩ = some y ∧ wr.cell? ⟨w.heap.size + 1 + 1, 0, none⟩ = some z ∧ wr.frozen? ⟨w.heap.size + 1 + 1, 0, none⟩ = false ∧
      Below w.heap.size w wr ∧ w.heap.size + 3 ≤ wr.heap.size := by
  refine ⟨(hb.cell (p := ⟨w.heap.size, 0, none⟩) (by show w.heap.size < _; omega)).trans ?_, (hb.cell (p := ⟨w.heap.size + 1, 0, none⟩) (by show w.heap.size + 1 < _; omega)).trans ?_,
    (hb.cell (p := ⟨w.heap.size + 2, 0, none⟩) (by show w.heap.size + 2 < _; omega)).trans ?_, (hb.frozen (p := ⟨w.heap.size + 2, 0, none⟩) (by show w.heap.size + 2 < _; omega)).trans ?_, ?_, by have := hb.size; simpa using this⟩
  · rw [World.cell?_alloc_past _ _ _ (by simp; omega), World.cell?_alloc_past _ _ _ (by simp), World.cell?_alloc_at _ _ _ _ rfl]; rfl
  · rw [World.cell?_alloc_past _ _ _ (by simp), World.cell?_alloc_at _ _ _ _ (by simp)]; rfl
  · rw [World.cell?_alloc_at _ _ _ _ (by simp)]; rfl
  · exact World.frozen?_alloc_at _ _ _ _ (by simp)
  · exact ((((Below.refl _ _).alloc (Nat.le_refl _) _).alloc (by simp) _).alloc (by simp; omega) _).trans (hb.mono (by omega))

set_option maxRecDepth 100000 in
set_option maxHeartbeats 2000000 in
theorem add_nat (a b : Nat) (va vb : Value) (B : Nat) (w : World) (ha : NatV w B va a) (hb : NatV w B vb b) (hB : B ≤ w.heap.size) (hla : (digs a).length ≤ 1000000) (hlb : (digs b).length ≤ 1000000) :
    Calls Try.prog 98 #[va, vb] w fun e w' => ∃ v, e = .returned v ∧ NatV w' w'.heap.size v (a + b) ∧ Fresh w.heap.size v ∧ Below w.heap.size w w' := by
  obtain ⟨i0, hi0, hz0, hz1, hz2⟩ := info_parts int_info
  obtain ⟨A, c, rfl, hlc, hcm, hra⟩ := ha
  obtain ⟨A', c', rfl, hlc', hcm', hrb⟩ := hb
  have hla1 : (digs a).length ≤ maxLen := by unfold maxLen; omega
  have hlb1 : (digs b).length ≤ maxLen := by unfold maxLen; omega
  go_enter Try.func98, Try.ntmps98
  go_wp2
  go_loopw [5, 6, 7] (fun d cv iv wr => ∃ (i cy : Nat) (ds : List Nat), iv = .int .i64 (i : Int) ∧ cv = .int .i64 (cy : Int) ∧ cy ≤ 1 ∧ i ≤ max (digs a).length (digs b).length + 1 ∧ (i ≤ max (digs a).length (digs b).length ∨ cy = 0) ∧ Hid (ds.length = i) ∧ (∀ x ∈ ds, x < 10) ∧
      Hid (val ds + cy * 10 ^ i = a % 10 ^ i + b % 10 ^ i) ∧ wr.ownsRow (w.heap.size + 3) 3 1 d ds.length (ints ds) ∧
      Below (w.heap.size + 3) (((w.alloc (.cells #[.slice A (digs a).length c] 109)).alloc (.cells #[.slice A' (digs b).length c'] 109)).alloc (.cells #[.slice none 0 0] 109)) wr)
    (fun _ _ iv _ => max (digs a).length (digs b).length + 2 - (intOf iv).toNat)
  case atStart => exact ⟨0, 0, [], rfl, rfl, by omega, by omega, .inl (by omega), rfl, by simp, by show _ = _; simp [val, Nat.mod_one], World.ownsRow_nil _ _ _ _, Below.refl _ _⟩
  case round =>
    obtain ⟨i, cy, ds, rfl, rfl, hcy, hi, hor, HL, hd10, HV, hown, hbw⟩ := hrel
    obtain ⟨hc1, hc2, hc3, hf3, hb0, hs⟩ := boxed3 hbw
    have hra1 := hra.below (hb0.mono hB)
    have hrb1 := hrb.below (hb0.mono hB)
    have hdl := ds.length
    rcases Nat.lt_or_ge (digs a).length (digs b).length with hlt | hlt
    all_goals
      by_cases hgo : i < max (digs a).length (digs b).length ∨ 0 < cy
      · have hi' : i ≤ 1000000 := by omega
        have hil : i ≤ maxLen := by unfold maxLen; omega
        obtain ⟨da, HA⟩ : ∃ d, Hid ((digs a).getD i 0 = d) := ⟨_, rfl⟩
        obtain ⟨db, HB⟩ : ∃ d, Hid ((digs b).getD i 0 = d) := ⟨_, rfl⟩
        have hda : da < 10 := by rw [← HA.out]; exact digit_lt a i
        have hdb : db < 10 := by rw [← HB.out]; exact digit_lt b i
        have hstep := add_step HL.out HA.out HB.out HV.out
        have hor' : i + 1 ≤ max (digs a).length (digs b).length ∨ (da + db + cy) / 10 = 0 := by
          by_cases h : i < max (digs a).length (digs b).length
          · left; omega
          · right
            have h1 := HA.out
            have h2 := HB.out
            rw [digit_high (by omega)] at h1 h2
            omega
        have hl1 : (ds ++ [(da + db + cy) % 10]).length = i + 1 := by rw [List.length_append, HL.out]; rfl
        have hlen : ds.length ≤ 1000000 := by rw [HL.out]; exact hi'
        have hi2 : i + 1 ≤ max (digs a).length (digs b).length + 1 := by omega
        have HI := Lib.hid hi2
        have HS := Lib.hid hstep
        have HO := Lib.hid hor'
        have HL1 := Lib.hid hl1
        have hrem : ((da : Int) + db + cy) % 10 = (((da + db + cy) % 10 : Nat) : Int) := by omega
        have HR := Lib.hid hrem
        clear hstep hor' hl1 hrem hdl hi2
        have hw1 : IntKind.i64.wrap ((da : Int) + db) = (da : Int) + db := IntWalk.i64_in _ (by omega)
        have hw2 : IntKind.i64.wrap ((da : Int) + db + cy) = (da : Int) + db + cy := IntWalk.i64_in _ (by omega)
        have hor0 : True := trivial
        clear hor HV HL
        go_wp2
        all_goals
          go_quiet ((first
            | (go_at_call 106; exact quiet_one (at_is (Row.drewN hra1 _) hla1 hil HA))
            | (go_at_call 106; exact quiet_one (at_is (Row.drewN hrb1 _) hlb1 hil HB))))
          clear hw1 hw2
          go_wp2_with (at_builtin; refine wpList_append_own _ rfl _ _ 71 rfl (w.heap.size + 3) 3 i0 (.int .i64 0) 1 8 Try.underlying71 hi0 hz0 hz1 hz2 rfl (by decide) _ _ _ rfl (World.ownsRow.alloc (own_drewN hown _) _) ⟨wr.heap.size, 0, none⟩ 1 1 [.int .i64 (((da : Int) + db + cy) % 10)] rfl rfl ?c1 ?c2 ?c3 ?c4 ?c5 ?_)
          case c1 => exact new_one _ _ _
          case c2 => intro u hu; simp at hu; subst hu; rfl
          case c3 => simp only [maxLen]; omega
          case c4 => omega
          case c5 => simp; omega
          intro v' w1 hown' hgrow _
          have hb' := app_below_nat (below_drewN hbw _) (Nat.le_refl _) hs (own_drewN hown _) hgrow
          rw [HR.out, ints_snoc] at hown'
          clear hgrow hown hbw
          go_wp2
          go_roundw
          case rel =>
            refine ⟨i + 1, (da + db + cy) / 10, ds ++ [(da + db + cy) % 10], by go_num, by go_num, by omega, by have := HI.out; omega, HO.out, HL1.out, all_snoc hd10 (by omega), HS.out, ?_, hb'⟩
            rw [List.length_append]
            exact hown'
          case measure => simp [intOf]; omega
      · obtain ⟨u, cap, rfl, hcap, hcm2, hrow⟩ := Row.of_own hown
        have hval : val ds = a + b := by
          have h := HV.out
          obtain rfl : cy = 0 := by omega
          exact add_end (by omega) (by omega) h
        have HV2 := Lib.hid hval
        clear hval HV HL hdl
        have hg1 : max (digs a).length (digs b).length ≤ i := by omega
        have hg2 : cy ≤ 0 := by omega
        clear hor hgo
        go_wp2_with (go_at_call 107; refine (trim_nat ds hd10 _ _ _ _ _ (Nat.le_refl _) hrow hcap hcm2 (own_from hown)).mono ?_; rintro e w' ⟨v, rfl, hnv, hfv, hbt⟩; obtain ⟨A2, c2, rfl, _⟩ := id hnv; have hc4 := (hbt.cell (p := ⟨w.heap.size + 1 + 1, 0, none⟩) (by show w.heap.size + 1 + 1 < _; omega)).trans hc3; have hf4 := (hbt.frozen (p := ⟨w.heap.size + 1 + 1, 0, none⟩) (by show w.heap.size + 1 + 1 < _; omega)).trans hf3)
        refine bodyPost_ret (v := .agg #[.slice A2 (digs (val ds)).length c2]) (by simp [results, Try.results98, go_sem, hc4]) rfl ⟨_, rfl, ?_⟩
        rw [← HV2.out]
        exact result_nat _ hnv hfv hbt.size (by show w.heap.size ≤ w.heap.size + 1 + 1; omega) (by show w.heap.size + 1 + 1 < _; omega) (hb0.trans (hbt.mono hb0.size)) _
end Go.Proofs.Ytcaejanfhchacaa
namespace Go.Proofs.Ytcaejanfhchacaa
open Go.RowKit
set_option linter.unusedVariables false

end Go.Proofs.Ytcaejanfhchacaa
namespace Go.Proofs.Ytcaejanfhchacaa
open Go.RowKit
set_option linter.unusedVariables false

theorem of_most (w : World) :
    Calls Try.prog 91 #[.int .u64 18446744073709551615] w fun e w' => ∃ v, e = .returned v ∧ NatV w' w'.heap.size v 18446744073709551615 ∧ Fresh w.heap.size v ∧ Below w.heap.size w w' := by
  have h := of_any 18446744073709551615 w (Nat.le_refl _)
  rwa [show ((18446744073709551615 : Nat) : Int) = 18446744073709551615 from rfl] at h

theorem most_nat (w : World) :
    Calls Try.prog 96 #[] w fun e w' => ∃ v, e = .returned v ∧ NatV w' w'.heap.size v 18446744073709551615 ∧ Fresh w.heap.size v ∧ Below w.heap.size w w' := by
  go_enter Try.func96, Try.ntmps96
  go_wp2_with (go_at_call 91; refine (of_most _).mono ?_; rintro e w' ⟨v, rfl, hnv, hfv, hbt⟩; obtain ⟨A2, c2, rfl, _⟩ := id hnv; obtain ⟨hc, hf⟩ := result_cell (hbt.mono (by simp)))
  refine bodyPost_ret (v := .agg #[.slice A2 (digs 18446744073709551615).length c2]) (by simp [results, Try.results96, go_sem, hc]) rfl ⟨_, rfl, ?_⟩
  exact result_nat _ hnv hfv (Nat.le_refl _) (Nat.le_refl _) (by simp) (((Below.refl _ _).alloc (Nat.le_refl _) _).trans (hbt.mono (by simp))) _

/-- The one cell of a boxed number. -/
theorem boxed1 {w wr : World} {x : Value} {t : TypeId} (hb : Below (w.heap.size + 1) (w.alloc (.cells #[x] t)) wr) : wr.cell? ⟨w.heap.size, 0, none⟩ = some x := (result_cell hb).1

/-- A boxed number's cell, and all that was there ahead of it, kept: what a region that draws its order holds fast. -/
theorem keep0 {w : World} {x : Value} {t : TypeId} : (w.alloc (.cells #[x] t)).drew.cell? ⟨w.heap.size, 0, none⟩ = some x ∧ Below (w.heap.size + 1) (w.alloc (.cells #[x] t)) (w.alloc (.cells #[x] t)).drew :=
  ⟨boxed1 (Below.refl _ _).drew, (Below.refl _ _).drew⟩
theorem keep1_nat {w W1 w' : World} {x : Value} {t : TypeId} (h : W1.cell? ⟨w.heap.size, 0, none⟩ = some x ∧ Below (w.heap.size + 1) (w.alloc (.cells #[x] t)) W1) (hb : Below W1.heap.size W1 w') :
    w'.cell? ⟨w.heap.size, 0, none⟩ = some x ∧ Below (w.heap.size + 1) (w.alloc (.cells #[x] t)) w' := by
  have h1 := h.2.trans (hb.mono (by have := h.2.size; simpa using this))
  exact ⟨boxed1 h1, h1⟩
theorem keep_old {w w' : World} {x : Value} {t : TypeId} (h : w'.cell? ⟨w.heap.size, 0, none⟩ = some x ∧ Below (w.heap.size + 1) (w.alloc (.cells #[x] t)) w') : Below w.heap.size w w' :=
  ((Below.refl _ _).alloc (Nat.le_refl _) _).trans (h.2.mono (by omega))
theorem keep_nat {w w' : World} {x y : Value} {t : TypeId} {B N : Nat} (hn : NatV w B y N) (hB : B ≤ w.heap.size) (h : w'.cell? ⟨w.heap.size, 0, none⟩ = some x ∧ Below (w.heap.size + 1) (w.alloc (.cells #[x] t)) w') : NatV w' w'.heap.size y N :=
  (hn.below ((keep_old h).mono hB)).up (Nat.le_trans hB (keep_old h).size)

set_option maxRecDepth 100000 in
set_option maxHeartbeats 1000000 in
theorem uint_big (a : Nat) (va : Value) (B : Nat) (w : World) (ha : NatV w B va a) (hB : B ≤ w.heap.size) (h : 18446744073709551615 < a) :
    Calls Try.prog 58 #[va] w fun e w' => e = .returned (.tuple #[.int .u64 0, .bool false]) ∧ Below w.heap.size w w' := by
  have ha0 := ha
  obtain ⟨A, c, rfl, hlc, hcm, hra⟩ := ha
  go_enter Try.func58, Try.ntmps58
  go_wp2
  go_region_held3 (fun w' => w'.cell? ⟨w.heap.size, 0, none⟩ = some (.slice A (digs a).length c) ∧ Below (w.heap.size + 1) (w.alloc (.cells #[.slice A (digs a).length c] 109)) w')
    (first | exact keep0 | exact keep1_nat (by assumption) hbt2 | exact keep1_nat (by assumption) hbt)
    (first
      | (go_at_call 96; refine (most_nat _).mono ?_; rintro e w1 ⟨v, rfl, hnv, hfv, hbt⟩)
      | (go_at_call 92; refine (cmp_more a 18446744073709551615 _ _ w1.heap.size _ (keep_nat ha0 hB (by assumption)) hnv (Nat.le_refl _) h).mono ?_; rintro e w2 ⟨rfl, hbt2⟩))
  go_wp2
  go_ret2
  exact ⟨rfl, keep_old (by assumption)⟩

theorem cmp_upto (a b : Nat) (va vb : Value) (B : Nat) (w : World) (ha : NatV w B va a) (hb : NatV w B vb b) (hB : B ≤ w.heap.size) (h : a ≤ b) :
    Calls Try.prog 92 #[va, vb] w fun e w' => ∃ z : Int, z ≤ 0 ∧ e = .returned (.int .i64 z) ∧ Below w.heap.size w w' := by
  refine (cmp_any a b va vb B w ha hb hB).mono ?_
  rintro e w' ⟨rfl, hb⟩
  refine ⟨_, ?_, rfl, hb⟩
  unfold cmpZ
  split
  · omega
  · rw [if_neg (by omega)]; omega

set_option maxRecDepth 100000 in
set_option maxHeartbeats 1000000 in
theorem uint_fits (a : Nat) (va : Value) (B : Nat) (w : World) (ha : NatV w B va a) (hB : B ≤ w.heap.size) (h : a ≤ 18446744073709551615) :
    Calls Try.prog 58 #[va] w fun e w' => e = .returned (.tuple #[.int .u64 (a : Int), .bool true]) ∧ Below w.heap.size w w' := by
  have ha0 := ha
  obtain ⟨A, c, rfl, hlc, hcm, hra⟩ := ha
  have hlen : (digs a).length ≤ 20 := digs_len (by omega)
  go_enter Try.func58, Try.ntmps58
  go_wp2
  go_region_held3 (fun w' => w'.cell? ⟨w.heap.size, 0, none⟩ = some (.slice A (digs a).length c) ∧ Below (w.heap.size + 1) (w.alloc (.cells #[.slice A (digs a).length c] 109)) w')
    (first | exact keep0 | exact keep1_nat (by assumption) hbt2 | exact keep1_nat (by assumption) hbt)
    (first
      | (go_at_call 96; refine (most_nat _).mono ?_; rintro e w1 ⟨v, rfl, hnv, hfv, hbt⟩)
      | (go_at_call 92; refine (cmp_upto a 18446744073709551615 _ _ w1.heap.size _ (keep_nat ha0 hB (by assumption)) hnv (Nat.le_refl _) h).mono ?_; rintro e w2 ⟨z, hz, rfl, hbt2⟩))
  have hheld : w2.cell? ⟨w.heap.size, 0, none⟩ = some (.slice A (digs a).length c) ∧ Below (w.heap.size + 1) (w.alloc (.cells #[.slice A (digs a).length c] 109)) w2 := by assumption
  obtain ⟨hc1, hb1⟩ := id hheld
  have hrow := hra.below ((keep_old hheld).mono hB)
  clear hnv hfv hbt hbt2
  go_wp2
  go_loop [4, 5] (fun n i => ∃ k : Nat, k ≤ (digs a).length ∧ i = .int .i64 ((k : Int) - 1) ∧ n = .int .u64 ((a / 10 ^ k : Nat) : Int)) (fun _ i => (intOf i + 1).toNat)
  case atStart => exact ⟨_, Nat.le_refl _, rfl, by rw [Nat.div_eq_of_lt (lt_pow_digs a)]; rfl⟩
  case round =>
    obtain ⟨k, hk, rfl, rfl⟩ := hrel
    rcases Nat.eq_zero_or_pos k with rfl | hpos
    · have hz0 : ((0 : Nat) : Int) - 1 = -1 := rfl
      rw [hz0]
      clear hz0
      go_wp2
      go_ret2
      exact ⟨by simp, keep_old hheld⟩
    · obtain ⟨j, rfl⟩ : ∃ j, k = j + 1 := ⟨k - 1, by omega⟩
      have hz0 : ((j + 1 : Nat) : Int) - 1 = (j : Int) := by omega
      rw [hz0]
      clear hz0
      obtain ⟨aA, rfl, hbA, hcA⟩ := hrow.get (k := j) (by rw [ints_len]; omega)
      obtain ⟨d, HD⟩ : ∃ d, Hid ((digs a).getD j 0 = d) := ⟨_, rfl⟩
      have hd : d < 10 := by rw [← HD.out]; exact digit_lt a j
      have hcA' : w2.cell? (aA.add j) = some (.int .i64 (d : Int)) := by
        rw [hcA]
        have h := HD.out
        simp [show j < (digs a).length by omega] at h
        simp [ints, h]
      clear hcA
      obtain ⟨q, HQ⟩ : ∃ q, Hid (a / 10 ^ (j + 1) = q) := ⟨_, rfl⟩
      have hup : 10 * q + d = a / 10 ^ j := by rw [← HQ.out, ← HD.out]; exact read_up a j
      have hle : 10 * q + d ≤ 18446744073709551615 := by rw [hup]; exact Nat.le_trans (Nat.div_le_self _ _) h
      have HU := Lib.hid hup
      clear hup h
      rw [HQ.out]
      go_wp2
      go_round
      case rel => exact ⟨j, by omega, rfl, by rw [← HU.out]; go_num⟩
      case measure => simp [intOf]

end Go.Proofs.Ytcaejanfhchacaa
namespace Go.Proofs.Ytcaejanfhchacaa
set_option linter.unusedVariables false

theorem val_set (l : List Nat) (p x : Nat) (hp : p < l.length) : val (l.set p x) + 10 ^ p * l.getD p 0 = val l + 10 ^ p * x := by
  induction l generalizing p with
  | nil => simp at hp
  | cons d l ih =>
    cases p with
    | zero => simp [val]; omega
    | succ p =>
      have h := ih p (by simpa using hp)
      show d + 10 * val (l.set p x) + 10 ^ (p + 1) * l.getD p 0 = d + 10 * val l + 10 ^ (p + 1) * x
      rw [Nat.pow_succ, Nat.mul_comm (10 ^ p) 10, Nat.mul_assoc, Nat.mul_assoc]
      omega

theorem all_set {l : List Nat} {p x : Nat} (h : ∀ d ∈ l, d < 10) (hx : x < 10) : ∀ d ∈ l.set p x, d < 10 := by
  intro d hd
  rcases List.mem_or_eq_of_mem_set hd with h1 | h1
  · exact h d h1
  · omega

theorem getD_lt {l : List Nat} {p : Nat} (h : ∀ d ∈ l, d < 10) : l.getD p 0 < 10 := by
  rw [val_get l h]; omega

/-- One digit more of a row of a product. -/
theorem mul_step {a b i k cy da db dp : Nat} {ds : List Nat} (hp : i + k < ds.length) (hb : (digs b).getD k 0 = db) (hd : ds.getD (i + k) 0 = dp)
    (h : val ds + cy * 10 ^ (i + k) = a % 10 ^ i * b + da * (b % 10 ^ k) * 10 ^ i) :
    val (ds.set (i + k) ((dp + da * db + cy) % 10)) + (dp + da * db + cy) / 10 * 10 ^ (i + (k + 1)) = a % 10 ^ i * b + da * (b % 10 ^ (k + 1)) * 10 ^ i := by
  rw [digs_get] at hb
  have h1 := val_set ds (i + k) ((dp + da * db + cy) % 10) hp
  rw [hd] at h1
  have h2 : 10 ^ (i + k) * ((dp + da * db + cy) % 10) + (dp + da * db + cy) / 10 * 10 ^ (i + (k + 1)) = 10 ^ (i + k) * (dp + da * db + cy) := by
    rw [← Nat.add_assoc, Nat.pow_succ, Nat.mul_comm ((dp + da * db + cy) / 10), Nat.mul_assoc, ← Nat.mul_add, Nat.mod_add_div]
  have h3 : da * (b % 10 ^ (k + 1)) * 10 ^ i = da * (b % 10 ^ k) * 10 ^ i + 10 ^ (i + k) * (da * db) := by
    rw [mod_up b, hb, Nat.mul_add, Nat.add_mul, Nat.pow_add]
    congr 1
    simp only [Nat.mul_comm, Nat.mul_left_comm, Nat.mul_assoc]
  have h4 : 10 ^ (i + k) * (dp + da * db + cy) = 10 ^ (i + k) * dp + 10 ^ (i + k) * (da * db) + cy * 10 ^ (i + k) := by
    rw [Nat.mul_add, Nat.mul_add, Nat.mul_comm cy]
  omega

theorem mul_row {a b i k cy da : Nat} {ds : List Nat} (ha : (digs a).getD i 0 = da) (hk : (digs b).length ≤ k)
    (h : val ds + cy * 10 ^ (i + k) = a % 10 ^ i * b + da * (b % 10 ^ k) * 10 ^ i) : val ds + cy * 10 ^ (i + k) = a % 10 ^ (i + 1) * b := by
  rw [digs_get] at ha
  rw [h, mod_all hk, mod_up a, ha, Nat.add_mul]
  congr 1
  rw [Nat.mul_comm (10 ^ i), Nat.mul_assoc, Nat.mul_assoc, Nat.mul_comm (10 ^ i)]

/-- Where something is carried behind the last digit, that is the place just behind it. -/
theorem mul_carry {a b i k cy da : Nat} {ds : List Nat} (ha : (digs a).getD i 0 = da) (hk : (digs b).length ≤ k) (hc : 0 < cy)
    (h : val ds + cy * 10 ^ (i + k) = a % 10 ^ i * b + da * (b % 10 ^ k) * 10 ^ i) : k ≤ (digs b).length := by
  have h1 := mul_row ha hk h
  have h2 : a % 10 ^ (i + 1) < 10 ^ (i + 1) := Nat.mod_lt _ (Nat.pow_pos (by omega))
  have h3 := lt_pow_digs b
  have h4 : a % 10 ^ (i + 1) * b < 10 ^ (i + 1) * 10 ^ (digs b).length := Nat.mul_lt_mul'' h2 h3
  rw [← Nat.pow_add, ← h1] at h4
  have h5 : 10 ^ (i + k) ≤ cy * 10 ^ (i + k) := Nat.le_mul_of_pos_left _ hc
  have h6 : 10 ^ (i + k) < 10 ^ (i + 1 + (digs b).length) := by omega
  have h7 := (Nat.pow_lt_pow_iff_right (by omega)).1 h6
  omega

theorem mul_end {a b i : Nat} {ds : List Nat} (hi : (digs a).length ≤ i) (h : val ds = a % 10 ^ i * b) : val ds = a * b := by
  rw [h, mod_all hi]
theorem val_zeros (n : Nat) : val (List.replicate n 0) = 0 := by
  induction n with
  | zero => rfl
  | succ n ih => show 0 + 10 * val (List.replicate n 0) = 0; rw [ih]
end Go.Proofs.Ytcaejanfhchacaa
namespace Go.Proofs.Ytcaejanfhchacaa
open Go.RowKit
set_option linter.unusedVariables false

theorem ints_zeros (n : Nat) : (madeCells #[Value.int .i64 0] n).toList = ints (List.replicate n 0) := by
  rw [toList_madeCells_one]; simp [ints]
theorem ints_set (ds : List Nat) (p x : Nat) : (ints ds).set p (.int .i64 (x : Int)) = ints (ds.set p x) := by
  unfold ints; rw [List.map_set]
theorem zeros_lt (n : Nat) : ∀ d ∈ List.replicate n 0, d < 10 := by
  intro d hd; rw [List.eq_of_mem_replicate hd]; omega

set_option maxRecDepth 100000 in
set_option maxHeartbeats 4000000 in
theorem mul_nat (a b : Nat) (va vb : Value) (B : Nat) (w : World) (ha : NatV w B va a) (hb : NatV w B vb b) (hB : B ≤ w.heap.size) (hla : (digs a).length ≤ 100000) (hlb : (digs b).length ≤ 100000) :
    Calls Try.prog 90 #[va, vb] w fun e w' => ∃ v, e = .returned v ∧ NatV w' w'.heap.size v (a * b) ∧ Fresh w.heap.size v ∧ Below w.heap.size w w' := by
  obtain ⟨i0, hi0, hz0, hz1, hz2⟩ := info_parts int_info
  obtain ⟨A, c, rfl, hlc, hcm, hra⟩ := ha
  obtain ⟨A', c', rfl, hlc', hcm', hrb⟩ := hb
  have hla1 : (digs a).length ≤ maxLen := by unfold maxLen; omega
  have hlb1 : (digs b).length ≤ maxLen := by unfold maxLen; omega
  obtain ⟨n, HN⟩ : ∃ n, Hid (n = (digs a).length + (digs b).length + 1) := ⟨_, rfl⟩
  have hnm : n ≤ 200001 := by rw [HN.out]; omega
  have hmk : ∀ W : World, (Instr.makeSlice 71 (.int .i64 (((digs a).length : Int) + (digs b).length + 1)) (.int .i64 (((digs a).length : Int) + (digs b).length + 1))).run Try.prog W =
      .ok (.slice (some ⟨W.heap.size, 0, none⟩) n n) (W.alloc (.cells (madeCells #[.int .i64 0] n) 3)) := by
    intro W
    have h := run_make (P := Try.prog) W 71 3 i0 (.int .i64 0) Try.underlying71 hi0 hz0 .i64 .i64 (((digs a).length : Int) + (digs b).length + 1) (((digs a).length : Int) + (digs b).length + 1) (by omega) (by omega) (by rw [hz2]; omega) (by omega)
    rw [hz1, show (((digs a).length : Int) + (digs b).length + 1).toNat = n by rw [HN.out]; omega, Nat.mul_one] at h
    exact h
  go_enter Try.func90, Try.ntmps90
  go_wp2
  clear hmk
  go_loopw [6] (fun iv wr => ∃ (i : Nat) (ds : List Nat), iv = .int .i64 (i : Int) ∧ i ≤ (digs a).length ∧ Hid (ds.length = n) ∧ (∀ x ∈ ds, x < 10) ∧ Hid (val ds = a % 10 ^ i * b) ∧
      wr.ownsRow (w.heap.size + 3) 3 1 (.slice (some ⟨w.heap.size + 1 + 1 + 1, 0, none⟩) n n) n (ints ds) ∧ Below (w.heap.size + 3) (((w.alloc (.cells #[.slice A (digs a).length c] 109)).alloc (.cells #[.slice A' (digs b).length c'] 109)).alloc (.cells #[.slice none 0 0] 109)) wr)
    (fun iv _ => (digs a).length + 1 - (intOf iv).toNat)
  case atStart =>
    refine ⟨0, List.replicate n 0, rfl, by omega, by show _ = _; simp, zeros_lt n, by show _ = _; rw [val_zeros]; simp [Nat.mod_one], ?_, (Below.refl _ _).alloc (by simp) _⟩
    rw [← ints_zeros]
    have h := World.ownsRow_lit (((w.alloc (.cells #[.slice A (digs a).length c] 109)).alloc (.cells #[.slice A' (digs b).length c'] 109)).alloc (.cells #[.slice none 0 0] 109)) (madeCells #[Value.int .i64 0] n) (base := w.heap.size + 3) (e := 3) (size := 1) n (by simp) (by unfold maxLen; omega) (by rw [size_madeCells]; omega)
    simpa using h
  case round =>
    obtain ⟨i, ds, rfl, hi, HL, hd10, HV, hown, hbw⟩ := hrel
    obtain ⟨hc1, hc2, hc3, hf3, hb0, hs⟩ := boxed3 hbw
    have hra1 := hra.below (hb0.mono hB)
    by_cases hgo : i < (digs a).length
    · obtain ⟨da, HA⟩ : ∃ d, Hid ((digs a).getD i 0 = d) := ⟨_, rfl⟩
      have hda : da < 10 := by rw [← HA.out]; exact digit_lt a i
      obtain ⟨wo, rfl⟩ : ∃ wo : World, wo = wr := ⟨_, rfl⟩
      go_wp2
      go_loopw [7, 8] (fun cv kv wr => ∃ (k cy : Nat) (ds : List Nat), kv = .int .i64 (k : Int) ∧ cv = .int .i64 (cy : Int) ∧ k ≤ (digs b).length + 1 ∧ cy ≤ 9 ∧ Hid (ds.length = n) ∧ (∀ x ∈ ds, x < 10) ∧
          Hid (val ds + cy * 10 ^ (i + k) = a % 10 ^ i * b + da * (b % 10 ^ k) * 10 ^ i) ∧
          wr.ownsRow (w.heap.size + 3) 3 1 (.slice (some ⟨w.heap.size + 1 + 1 + 1, 0, none⟩) n n) n (ints ds) ∧ Below (w.heap.size + 3) (((w.alloc (.cells #[.slice A (digs a).length c] 109)).alloc (.cells #[.slice A' (digs b).length c'] 109)).alloc (.cells #[.slice none 0 0] 109)) wr)
        (fun _ kv _ => (digs b).length + 2 - (intOf kv).toNat)
      case atStart => exact ⟨0, 0, ds, rfl, rfl, by omega, by omega, HL, hd10, by show _ = _; rw [HV.out]; simp [Nat.mod_one], hown, hbw⟩
      case round =>
        obtain ⟨k, cy, es, rfl, rfl, hk, hcy, HL2, he10, HV2, hown2, hbw2⟩ := hrel
        clear hown hbw hc1 hc2 hc3 hf3 hb0 hs hra1 HL HV hd10
        obtain ⟨hc1, hc2, hc3, hf3, hb0, hs⟩ := boxed3 hbw2
        have hra1 := hra.below (hb0.mono hB)
        have hrb1 := hrb.below (hb0.mono hB)
        by_cases hgo2 : k < (digs b).length ∨ 0 < cy
        · obtain ⟨db, HB⟩ : ∃ d, Hid ((digs b).getD k 0 = d) := ⟨_, rfl⟩
          have hdb : db < 10 := by rw [← HB.out]; exact digit_lt b k
          have hkb : k ≤ (digs b).length := by
            by_cases h : k < (digs b).length
            · omega
            · exact mul_carry HA.out (by omega) (by omega) HV2.out
          have hkl : k ≤ maxLen := by unfold maxLen; omega
          have hik : i + k < n := by rw [HN.out]; omega
          have hel : i + k < es.length := by rw [HL2.out]; exact hik
          obtain ⟨dp, HP⟩ : ∃ d, Hid (es.getD (i + k) 0 = d) := ⟨_, rfl⟩
          have hdp : dp < 10 := by rw [← HP.out]; exact getD_lt he10
          have hstep := mul_step hel HB.out HP.out HV2.out
          have hprod : da * db ≤ 81 := Nat.mul_le_mul (show da ≤ 9 by omega) (show db ≤ 9 by omega)
          have hcast : (da : Int) * db = ((da * db : Nat) : Int) := by simp
          obtain ⟨m, HM⟩ : ∃ m, Hid (da * db = m) := ⟨_, rfl⟩
          rw [HM.out] at hcast hprod hstep
          obtain ⟨aA, rfl, hbA, hcA⟩ := hra1.get (k := i) (by rw [ints_len]; exact hgo)
          have hcA' : wr.cell? (aA.add i) = some (.int .i64 (da : Int)) := by
            rw [hcA]
            have h := HA.out
            simp [hgo] at h
            simp [ints, h]
          have hcD : wr.cell? ⟨w.heap.size + 1 + 1 + 1, i + k, none⟩ = some (.int .i64 (dp : Int)) := by
            rw [hown2.cellAt (i + k) (by omega)]
            have h := HP.out
            simp [hel] at h
            simp [ints, hel, h]
          have hfD : wr.frozen? ⟨w.heap.size + 1 + 1 + 1, i + k, none⟩ = false := hown2.frozenAt (i + k)
          clear hcA
          have hl1 : (es.set (i + k) ((dp + m + cy) % 10)).length = n := by rw [List.length_set]; exact HL2.out
          have hrem : ((dp : Int) + m + cy) % 10 = (((dp + m + cy) % 10 : Nat) : Int) := by omega
          have hquo : ((dp : Int) + m + cy) / 10 = (((dp + m + cy) / 10 : Nat) : Int) := by omega
          have HS := Lib.hid hstep
          have HL1 := Lib.hid hl1
          have HR := Lib.hid hrem
          have HQ := Lib.hid hquo
          clear hstep hl1 hrem hquo HV2 HL2
          have hgoI : (i : Int) < ((digs a).length : Int) := by omega
          have hikI : (i : Int) + k < (n : Int) := by omega
          have hw0 : IntKind.i64.wrap ((i : Int) + k) = (i : Int) + k := IntWalk.i64_in _ (by omega)
          have hw1 : IntKind.i64.wrap ((da : Int) * db) = (m : Int) := by rw [hcast]; exact IntWalk.i64_in _ (by omega)
          have hw2 : IntKind.i64.wrap ((dp : Int) + m) = (dp : Int) + m := IntWalk.i64_in _ (by omega)
          have hw3 : IntKind.i64.wrap ((dp : Int) + m + cy) = (dp : Int) + m + cy := IntWalk.i64_in _ (by omega)
          have hn0 : ((i : Int) + k).toNat = i + k := by omega
          clear hcast
          go_wp2
          all_goals
            go_quiet ((go_at_call 106; exact quiet_one (at_is (Row.drewN hrb1 _) hlb1 hkl HB)))
            clear hw0 hw1 hw2 hw3 hn0
            go_wp2
            go_roundw
            case rel =>
              refine ⟨k + 1, (dp + m + cy) / 10, es.set (i + k) ((dp + m + cy) % 10), by go_num, by rw [HQ.out], by omega, by omega, HL1.out, all_set he10 (by omega), HS.out, ?_, ?_⟩
              · rw [← ints_set, HR.out]
                exact (World.ownsRow.stored (own_drewN hown2 nq) (i + k) _).1
              · exact (below_drewN hbw2 nq).setCell (by show _ ≤ w.heap.size + 1 + 1 + 1; omega) _
            case measure => simp [intOf]; omega
        · have hval : val es = a % 10 ^ (i + 1) * b := by
            have h := HV2.out
            obtain rfl : cy = 0 := by omega
            have h1 := mul_row HA.out (by omega) h
            omega
          have HV3 := Lib.hid hval
          have hg1 : (digs b).length ≤ k := by omega
          have hg2 : cy ≤ 0 := by omega
          clear hval HV2 hgo2
          go_wp2
          go_roundw
          case rel => exact ⟨i + 1, es, by go_num, by omega, HL2, he10, HV3, hown2, hbw2⟩
          case measure => simp [intOf]; omega
    · obtain ⟨u, cap, hsl, hcap, hcm2, hrow⟩ := Row.of_own hown
      obtain ⟨rfl, rfl⟩ : some ⟨w.heap.size + 1 + 1 + 1, 0, none⟩ = u ∧ n = cap := by
        injection hsl with h1 h2 h3
        exact ⟨h1, h3⟩
      have hval : val ds = a * b := mul_end (by omega) HV.out
      have HV2 := Lib.hid hval
      have hln : ds.length = n := HL.out
      have hcap2 : ds.length ≤ n := by omega
      clear hval HV hsl
      have htr : ∀ W : World, W = wr → Calls Try.prog 107 #[.slice (some ⟨w.heap.size + 1 + 1 + 1, 0, none⟩) n n] W fun e w' => ∃ v, e = .returned v ∧ NatV w' wr.heap.size v (val ds) ∧ Fresh (w.heap.size + 3) v ∧ Below wr.heap.size wr w' := by
        intro W hW
        subst hW
        have h := trim_nat ds hd10 (some ⟨w.heap.size + 1 + 1 + 1, 0, none⟩) n W.heap.size (w.heap.size + 3) W (Nat.le_refl _) hrow hcap2 hcm2 (own_from hown)
        rwa [hln] at h
      have HT := Lib.hid htr
      clear htr hln
      go_wp2_with (go_at_call 107; refine (HT.out _ rfl).mono ?_; rintro e w' ⟨v, rfl, hnv, hfv, hbt⟩; obtain ⟨A2, c2, rfl, _⟩ := id hnv; have hc4 := (hbt.cell (p := ⟨w.heap.size + 1 + 1, 0, none⟩) (by show w.heap.size + 1 + 1 < _; omega)).trans hc3; have hf4 := (hbt.frozen (p := ⟨w.heap.size + 1 + 1, 0, none⟩) (by show w.heap.size + 1 + 1 < _; omega)).trans hf3)
      refine bodyPost_ret (v := .agg #[.slice A2 (digs (val ds)).length c2]) (by simp [results, Try.results90, go_sem, hc4]) rfl ⟨_, rfl, ?_⟩
      rw [← HV2.out]
      exact result_nat _ hnv hfv hbt.size (by show w.heap.size ≤ w.heap.size + 1 + 1; omega) (by show w.heap.size + 1 + 1 < _; omega) (hb0.trans (hbt.mono hb0.size)) _
end Go.Proofs.Ytcaejanfhchacaa
