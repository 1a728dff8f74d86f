/- The reference's numbers (layer 1): differences. By contracts. -/
import Derived.Test.YtilnlmfhnjplhaaNatD
namespace Go.Proofs.Ytilnlmfhnjplhaa
open Go.RowKit
set_option linter.unusedVariables false

set_option maxRecDepth 100000 in
set_option maxHeartbeats 2000000 in
theorem sub_nat (a b : Nat) (va vb : Value) (B : Nat) (w : World) (ha : NatV w B va a) (hb : NatV w B vb b) (hB : B ≤ w.heap.size) (hla : (digs a).length ≤ 1000000) (hab : b ≤ a) :
    Calls Try.prog 87 #[va, vb] w fun e w' => ∃ v, e = .returned v ∧ NatV w' w'.heap.size v (a - b) ∧ Fresh w.heap.size v ∧ Below w.heap.size w w' := by
  obtain ⟨i0, hi0, hz0, hz1, hz2⟩ := info_parts int_info
  obtain ⟨A, c, rfl, hlc, hcm, hra⟩ := ha
  obtain ⟨A', c', rfl, hlc', hcm', hrb⟩ := hb
  have hlb1 : (digs b).length ≤ maxLen := Nat.le_trans hlc' hcm'
  have HAB := Lib.hid hab
  clear hab
  go_enter Try.func87, Try.ntmps87
  go_wp2
  go_loopw [5, 6, 7] (fun d bv iv wr => ∃ (i bw : Nat) (ds : List Nat), iv = .int .i64 (i : Int) ∧ bv = .int .i64 (bw : Int) ∧ bw ≤ 1 ∧ i ≤ (digs a).length ∧ Hid (ds.length = i) ∧ (∀ x ∈ ds, x < 10) ∧
      Hid (val ds + b % 10 ^ i = a % 10 ^ i + bw * 10 ^ i) ∧ wr.ownsRow (w.heap.size + 3) 3 1 d ds.length (ints ds) ∧
      Below (w.heap.size + 3) (((w.alloc (.cells #[.slice A (digs a).length c] 66)).alloc (.cells #[.slice A' (digs b).length c'] 66)).alloc (.cells #[.slice none 0 0] 66)) wr)
    (fun _ _ iv _ => (digs a).length + 1 - (intOf iv).toNat)
  case atStart => exact ⟨0, 0, [], rfl, rfl, by omega, by omega, rfl, by simp, by show _ = _; simp [val, Nat.mod_one], World.ownsRow_nil _ _ _ _, Below.refl _ _⟩
  case round =>
    obtain ⟨i, bw, ds, rfl, rfl, hbw1, hi, HL, hd10, HV, hown, hbw⟩ := hrel
    obtain ⟨hc1, hc2, hc3, hf3, hb0, hs⟩ := boxed3 hbw
    have hra1 := hra.below (hb0.mono hB)
    have hrb1 := hrb.below (hb0.mono hB)
    by_cases hgo : i < (digs a).length
    · obtain ⟨da, HA⟩ : ∃ d, Hid ((digs a).getD i 0 = d) := ⟨_, rfl⟩
      obtain ⟨db, HB⟩ : ∃ d, Hid ((digs b).getD i 0 = d) := ⟨_, rfl⟩
      have hda : da < 10 := by rw [← HA.out]; exact digit_lt a i
      have hdb : db < 10 := by rw [← HB.out]; exact digit_lt b i
      have hil : i ≤ maxLen := by unfold maxLen; omega
      have hlen : ds.length ≤ 1000000 := by rw [HL.out]; omega
      obtain ⟨aA, rfl, hbA, hcA⟩ := hra1.get (k := i) (by rw [ints_len]; exact hgo)
      have hcA' : wr.cell? (aA.add i) = some (.int .i64 (da : Int)) := by
        rw [hcA]
        have h := HA.out
        simp [hgo] at h
        simp [ints, h]
      clear hcA
      have hgoI : (i : Int) < ((digs a).length : Int) := by omega
      have hw1 : IntKind.i64.wrap ((da : Int) - db) = (da : Int) - db := IntWalk.i64_in _ (by omega)
      have hw2 : IntKind.i64.wrap ((da : Int) - db - bw) = (da : Int) - db - bw := IntWalk.i64_in _ (by omega)
      by_cases hle : db + bw ≤ da
      · have hstep := sub_step HL.out HA.out HB.out hle HV.out
        have hl1 : (ds ++ [da - db - bw]).length = i + 1 := by rw [List.length_append, HL.out]; rfl
        have hrem : (da : Int) - db - bw = ((da - db - bw : Nat) : Int) := by omega
        have HS := Lib.hid hstep
        have HL1 := Lib.hid hl1
        have HR := Lib.hid hrem
        clear hstep hl1 hrem HV HL
        go_wp2
        go_quiet ((go_at_call 59; exact quiet_one (at_is (Row.drewN hrb1 _) hlb1 hil HB)))
        clear hw1 hw2
        go_wp2_with (at_builtin; refine wpList_append_own _ rfl _ _ 64 rfl (w.heap.size + 3) 3 i0 (.int .i64 0) 1 8 Try.underlying64 hi0 hz0 hz1 hz2 rfl (by decide) _ _ _ rfl (World.ownsRow.alloc (own_drewN hown _) _) ⟨wr.heap.size, 0, none⟩ 1 1 [.int .i64 ((da : Int) - db - bw)] rfl rfl ?c1 ?c2 ?c3 ?c4 ?c5 ?_)
        case c1 => exact new_one _ _ _
        case c2 => intro u hu; simp at hu; subst hu; rfl
        case c3 => simp only [maxLen]; omega
        case c4 => omega
        case c5 => simp; omega
        intro v' w1 hown' hgrow _
        have hb' := app_below_nat (below_drewN hbw _) (Nat.le_refl _) hs (own_drewN hown _) hgrow
        rw [HR.out, ints_snoc] at hown'
        clear hgrow hown hbw
        go_wp2
        go_roundw
        case rel =>
          refine ⟨i + 1, 0, ds ++ [da - db - bw], by go_num, rfl, by omega, by omega, HL1.out, all_snoc hd10 (by omega), HS.out, ?_, hb'⟩
          rw [List.length_append]
          exact hown'
        case measure => simp [intOf]; omega
      · have hstep := sub_borrow HL.out HA.out HB.out (by omega) hdb hbw1 HV.out
        have hl1 : (ds ++ [da + 10 - db - bw]).length = i + 1 := by rw [List.length_append, HL.out]; rfl
        have hrem : (da : Int) - db - bw + 10 = ((da + 10 - db - bw : Nat) : Int) := by omega
        have HS := Lib.hid hstep
        have HL1 := Lib.hid hl1
        have HR := Lib.hid hrem
        clear hstep hl1 hrem HV HL
        go_wp2
        go_quiet ((go_at_call 59; exact quiet_one (at_is (Row.drewN hrb1 _) hlb1 hil HB)))
        clear hw1 hw2
        go_wp2_with (at_builtin; refine wpList_append_own _ rfl _ _ 64 rfl (w.heap.size + 3) 3 i0 (.int .i64 0) 1 8 Try.underlying64 hi0 hz0 hz1 hz2 rfl (by decide) _ _ _ rfl (World.ownsRow.alloc (own_drewN hown _) _) ⟨wr.heap.size, 0, none⟩ 1 1 [.int .i64 ((da : Int) - db - bw + 10)] rfl rfl ?c1 ?c2 ?c3 ?c4 ?c5 ?_)
        case c1 => exact new_one _ _ _
        case c2 => intro u hu; simp at hu; subst hu; rfl
        case c3 => simp only [maxLen]; omega
        case c4 => omega
        case c5 => simp; omega
        intro v' w1 hown' hgrow _
        have hb' := app_below_nat (below_drewN hbw _) (Nat.le_refl _) hs (own_drewN hown _) hgrow
        rw [HR.out, ints_snoc] at hown'
        clear hgrow hown hbw
        go_wp2
        go_roundw
        case rel =>
          refine ⟨i + 1, 1, ds ++ [da + 10 - db - bw], by go_num, rfl, by omega, by omega, HL1.out, all_snoc hd10 (by omega), HS.out, ?_, hb'⟩
          rw [List.length_append]
          exact hown'
        case measure => simp [intOf]; omega
    · obtain ⟨u, cap, rfl, hcap, hcm2, hrow⟩ := Row.of_own hown
      have hval : val ds = a - b := sub_end HAB.out (by omega) HL.out hd10 hbw1 HV.out
      have HV2 := Lib.hid hval
      clear hval HV HL
      go_wp2_with (go_at_call 60; refine (trim_nat ds hd10 _ _ _ _ _ (Nat.le_refl _) hrow hcap hcm2 (own_from hown)).mono ?_; rintro e w' ⟨v, rfl, hnv, hfv, hbt⟩; obtain ⟨A2, c2, rfl, _⟩ := id hnv; have hc4 := (hbt.cell (p := ⟨w.heap.size + 1 + 1, 0, none⟩) (by show w.heap.size + 1 + 1 < _; omega)).trans hc3; have hf4 := (hbt.frozen (p := ⟨w.heap.size + 1 + 1, 0, none⟩) (by show w.heap.size + 1 + 1 < _; omega)).trans hf3)
      refine bodyPost_ret (v := .agg #[.slice A2 (digs (val ds)).length c2]) (by simp [results, Try.results87, go_sem, hc4]) rfl ⟨_, rfl, ?_⟩
      rw [← HV2.out]
      exact result_nat _ hnv hfv hbt.size (by show w.heap.size ≤ w.heap.size + 1 + 1; omega) (by show w.heap.size + 1 + 1 < _; omega) (hb0.trans (hbt.mono hb0.size)) _
end Go.Proofs.Ytilnlmfhnjplhaa
