/- The reference's numbers (layer 1): held against each other. By contracts. -/
import Derived.Test.YtcaejanfhchacaaRefNumA
namespace Go.Proofs.Ytcaejanfhchacaa
open Go.RowKit
set_option linter.unusedVariables false

/-- The digit at a place, whose value has a name. -/
theorem at_is {ds : List Nat} {A : Option Addr} {c i B d : Nat} {w : World} (hr : Row w B A (ints ds)) (hlen : ds.length ≤ maxLen) (hi : i ≤ maxLen) (hd : Hid (ds.getD i 0 = d)) :
    Calls Try.prog 106 #[.slice A ds.length c, .int .i64 (i : Int)] w fun e w' => e = .returned (.int .i64 (d : Int)) ∧ w = w' := by
  have h := at_any ds A c i B w hr hlen hi
  rwa [hd.out] at h

/-- Below: -1, the same: 0, above: 1. -/
def cmpZ (a b : Nat) : Int := if a < b then -1 else if b < a then 1 else 0

theorem cmpZ_same {a b : Nat} (h : a / 10 ^ 0 = b / 10 ^ 0) : cmpZ a b = 0 := by
  simp at h; subst h; unfold cmpZ; rw [if_neg (by omega), if_neg (by omega)]
theorem cmpZ_less {a b : Nat} (h : a < b) : cmpZ a b = -1 := by unfold cmpZ; rw [if_pos h]
theorem cmpZ_more {a b : Nat} (h : b < a) : cmpZ a b = 1 := by unfold cmpZ; rw [if_neg (by omega), if_pos h]

theorem boxed {w wr : World} {x y : Value} {t : TypeId} (hb : Below (w.heap.size + 2) ((w.alloc (.cells #[x] t)).alloc (.cells #[y] t)) wr) :
    wr.cell? ⟨w.heap.size, 0, none⟩ = some x ∧ wr.cell? ⟨w.heap.size + 1, 0, none⟩ = some y := by
  refine ⟨(hb.cell (p := ⟨w.heap.size, 0, none⟩) (by show w.heap.size < _; omega)).trans ?_, (hb.cell (p := ⟨w.heap.size + 1, 0, none⟩) (by show w.heap.size + 1 < _; omega)).trans ?_⟩
  · rw [World.cell?_alloc_past _ _ _ (by simp), World.cell?_alloc_at _ _ _ _ rfl]; rfl
  · rw [World.cell?_alloc_at _ _ _ _ (by simp)]; rfl

set_option maxRecDepth 100000 in
set_option maxHeartbeats 1000000 in
theorem cmp_any (a b : Nat) (va vb : Value) (B : Nat) (w : World) (ha : NatV w B va a) (hb : NatV w B vb b) (hB : B ≤ w.heap.size) :
    Calls Try.prog 92 #[va, vb] w fun e w' => e = .returned (.int .i64 (cmpZ a b)) ∧ Below w.heap.size w w' := by
  obtain ⟨A, c, rfl, hlc, hcm, hra⟩ := ha
  obtain ⟨A', c', rfl, hlc', hcm', hrb⟩ := hb
  have hla : (digs a).length ≤ maxLen := Nat.le_trans hlc hcm
  have hlb : (digs b).length ≤ maxLen := Nat.le_trans hlc' hcm'
  have hla' := hla
  have hlb' := hlb
  unfold maxLen at hla' hlb'
  rcases Nat.lt_or_ge (digs a).length (digs b).length with hlt | hlt
  all_goals
    go_enter Try.func92, Try.ntmps92
    go_wp2
    go_loopw [5] (fun i wr => ∃ k : Nat, k ≤ 2 ^ 63 - 1 ∧ Hid (a / 10 ^ k = b / 10 ^ k) ∧ i = .int .i64 ((k : Int) - 1) ∧
        Below (w.heap.size + 2) ((w.alloc (.cells #[.slice A (digs a).length c] 109)).alloc (.cells #[.slice A' (digs b).length c'] 109)) wr) (fun i _ => (intOf i + 1).toNat)
    case atStart =>
      first
        | exact ⟨(digs b).length, hlb', high_same (by omega) (Nat.le_refl _), rfl, Below.refl _ _⟩
        | exact ⟨(digs a).length, hla', high_same (Nat.le_refl _) (by omega), rfl, Below.refl _ _⟩
    case round =>
      obtain ⟨k, hk, HE, rfl, hbw⟩ := hrel
      obtain ⟨hc1, hc2⟩ := boxed hbw
      have hb0 : Below w.heap.size w wr := (((Below.refl _ _).alloc (Nat.le_refl _) _).alloc (by simp) _).trans (hbw.mono (by omega))
      have hra1 := hra.below (hb0.mono hB)
      have hrb1 := hrb.below (hb0.mono hB)
      rcases Nat.eq_zero_or_pos k with rfl | hpos
      · have hz : ((0 : Nat) : Int) - 1 = -1 := rfl
        rw [hz]
        clear hz
        go_wp2
        go_ret
        exact ⟨by rw [cmpZ_same HE.out]; rfl, hb0⟩
      · obtain ⟨j, rfl⟩ : ∃ j, k = j + 1 := ⟨k - 1, by omega⟩
        have hz : ((j + 1 : Nat) : Int) - 1 = (j : Int) := by omega
        rw [hz]
        clear hz
        obtain ⟨da, HA⟩ : ∃ d, Hid ((digs a).getD j 0 = d) := ⟨_, rfl⟩
        obtain ⟨db, HB⟩ : ∃ d, Hid ((digs b).getD j 0 = d) := ⟨_, rfl⟩
        have hj : j ≤ maxLen := by unfold maxLen; omega
        by_cases h1 : da < db
        · have hless := less_up HE.out (by rw [HA.out, HB.out]; exact h1)
          go_wp2
          go_quiet ((first
            | (go_at_call 106; exact quiet_one (at_is (Row.drewN hra1 _) hla hj HA))
            | (go_at_call 106; exact quiet_one (at_is (Row.drewN hrb1 _) hlb hj HB))
            | (go_at_call 106; exact quiet_more (at_is (Row.drewN hra1 _) hla hj HA))
            | (go_at_call 106; exact quiet_more (at_is (Row.drewN hrb1 _) hlb hj HB))))
          go_wp2
          go_ret
          exact ⟨by rw [cmpZ_less hless]; rfl, below_drewN hb0 _⟩
        · by_cases h2 : db < da
          · have hless := less_up HE.out.symm (by rw [HA.out, HB.out]; exact h2)
            go_wp2
            go_quiet ((first
            | (go_at_call 106; exact quiet_one (at_is (Row.drewN hra1 _) hla hj HA))
            | (go_at_call 106; exact quiet_one (at_is (Row.drewN hrb1 _) hlb hj HB))
            | (go_at_call 106; exact quiet_more (at_is (Row.drewN hra1 _) hla hj HA))
            | (go_at_call 106; exact quiet_more (at_is (Row.drewN hrb1 _) hlb hj HB))))
            go_wp2
            go_quiet ((first
            | (go_at_call 106; exact quiet_one (at_is (Row.drewN hra1 _) hla hj HA))
            | (go_at_call 106; exact quiet_one (at_is (Row.drewN hrb1 _) hlb hj HB))
            | (go_at_call 106; exact quiet_more (at_is (Row.drewN hra1 _) hla hj HA))
            | (go_at_call 106; exact quiet_more (at_is (Row.drewN hrb1 _) hlb hj HB))))
            go_wp2
            go_ret
            exact ⟨by rw [cmpZ_more hless]; rfl, below_drewN (below_drewN hb0 _) _⟩
          · obtain rfl : da = db := by omega
            have hsame := same_up HE.out (by rw [HA.out, HB.out])
            have HS := Lib.hid hsame
            clear hsame
            go_wp2
            go_quiet ((first
            | (go_at_call 106; exact quiet_one (at_is (Row.drewN hra1 _) hla hj HA))
            | (go_at_call 106; exact quiet_one (at_is (Row.drewN hrb1 _) hlb hj HB))
            | (go_at_call 106; exact quiet_more (at_is (Row.drewN hra1 _) hla hj HA))
            | (go_at_call 106; exact quiet_more (at_is (Row.drewN hrb1 _) hlb hj HB))))
            go_wp2
            go_quiet ((first
            | (go_at_call 106; exact quiet_one (at_is (Row.drewN hra1 _) hla hj HA))
            | (go_at_call 106; exact quiet_one (at_is (Row.drewN hrb1 _) hlb hj HB))
            | (go_at_call 106; exact quiet_more (at_is (Row.drewN hra1 _) hla hj HA))
            | (go_at_call 106; exact quiet_more (at_is (Row.drewN hrb1 _) hlb hj HB))))
            go_wp2
            go_roundw
            case rel => exact ⟨j, by omega, HS.out, by go_num, below_drewN hbw _⟩
            case measure => simp [intOf]

theorem cmp_more (a b : Nat) (va vb : Value) (B : Nat) (w : World) (ha : NatV w B va a) (hb : NatV w B vb b) (hB : B ≤ w.heap.size) (h : b < a) :
    Calls Try.prog 92 #[va, vb] w fun e w' => e = .returned (.int .i64 1) ∧ Below w.heap.size w w' := by
  have k := cmp_any a b va vb B w ha hb hB
  rwa [cmpZ_more h] at k
end Go.Proofs.Ytcaejanfhchacaa
