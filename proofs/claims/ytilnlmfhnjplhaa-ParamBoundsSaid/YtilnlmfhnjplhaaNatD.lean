/- The reference's numbers (layer 1): sums. By contracts. -/
import Derived.Test.YtilnlmfhnjplhaaNatC
namespace Go.Proofs.Ytilnlmfhnjplhaa
open Go.RowKit
set_option linter.unusedVariables false

theorem all_snoc {ds : List Nat} {d : Nat} (h : ∀ x ∈ ds, x < 10) (hd : d < 10) : ∀ x ∈ ds ++ [d], x < 10 := by
  intro x hx
  rcases List.mem_append.1 hx with hx | hx
  · exact h x hx
  · have : x = d := by simpa using hx
    omega

/-- Two numbers boxed and a cell for the result: what lies there, behind all that was laid since. -/
theorem boxed3 {w wr : World} {x y z : Value} {t : TypeId} (hb : Below (w.heap.size + 3) (((w.alloc (.cells #[x] t)).alloc (.cells #[y] t)).alloc (.cells #[z] t)) wr) :
    wr.cell? ⟨w.heap.size, 0, none⟩ = some x ∧ wr.cell? ⟨w.heap.size + 1, 0, none⟩ = some y ∧ wr.cell? ⟨w.heap.size + 1 + 1, 0, none⟩ = some z ∧ wr.frozen? ⟨w.heap.size + 1 + 1, 0, none⟩ = false ∧
      Below w.heap.size w wr ∧ w.heap.size + 3 ≤ wr.heap.size := by
  refine ⟨(hb.cell (p := ⟨w.heap.size, 0, none⟩) (by show w.heap.size < _; omega)).trans ?_, (hb.cell (p := ⟨w.heap.size + 1, 0, none⟩) (by show w.heap.size + 1 < _; omega)).trans ?_,
    (hb.cell (p := ⟨w.heap.size + 2, 0, none⟩) (by show w.heap.size + 2 < _; omega)).trans ?_, (hb.frozen (p := ⟨w.heap.size + 2, 0, none⟩) (by show w.heap.size + 2 < _; omega)).trans ?_, ?_, by have := hb.size; simpa using this⟩
  · rw [World.cell?_alloc_past _ _ _ (by simp; omega), World.cell?_alloc_past _ _ _ (by simp), World.cell?_alloc_at _ _ _ _ rfl]; rfl
  · rw [World.cell?_alloc_past _ _ _ (by simp), World.cell?_alloc_at _ _ _ _ (by simp)]; rfl
  · rw [World.cell?_alloc_at _ _ _ _ (by simp)]; rfl
  · exact World.frozen?_alloc_at _ _ _ _ (by simp)
  · exact ((((Below.refl _ _).alloc (Nat.le_refl _) _).alloc (by simp) _).alloc (by simp; omega) _).trans (hb.mono (by omega))

set_option maxRecDepth 100000 in
set_option maxHeartbeats 2000000 in
theorem add_nat (a b : Nat) (va vb : Value) (B : Nat) (w : World) (ha : NatV w B va a) (hb : NatV w B vb b) (hB : B ≤ w.heap.size) (hla : (digs a).length ≤ 1000000) (hlb : (digs b).length ≤ 1000000) :
    Calls Try.prog 63 #[va, vb] w fun e w' => ∃ v, e = .returned v ∧ NatV w' w'.heap.size v (a + b) ∧ Fresh w.heap.size v ∧ Below w.heap.size w w' := by
  obtain ⟨i0, hi0, hz0, hz1, hz2⟩ := info_parts int_info
  obtain ⟨A, c, rfl, hlc, hcm, hra⟩ := ha
  obtain ⟨A', c', rfl, hlc', hcm', hrb⟩ := hb
  have hla1 : (digs a).length ≤ maxLen := by unfold maxLen; omega
  have hlb1 : (digs b).length ≤ maxLen := by unfold maxLen; omega
  go_enter Try.func63, Try.ntmps63
  go_wp2
  go_loopw [5, 6, 7] (fun d cv iv wr => ∃ (i cy : Nat) (ds : List Nat), iv = .int .i64 (i : Int) ∧ cv = .int .i64 (cy : Int) ∧ cy ≤ 1 ∧ i ≤ max (digs a).length (digs b).length + 1 ∧ (i ≤ max (digs a).length (digs b).length ∨ cy = 0) ∧ Hid (ds.length = i) ∧ (∀ x ∈ ds, x < 10) ∧
      Hid (val ds + cy * 10 ^ i = a % 10 ^ i + b % 10 ^ i) ∧ wr.ownsRow (w.heap.size + 3) 3 1 d ds.length (ints ds) ∧
      Below (w.heap.size + 3) (((w.alloc (.cells #[.slice A (digs a).length c] 66)).alloc (.cells #[.slice A' (digs b).length c'] 66)).alloc (.cells #[.slice none 0 0] 66)) wr)
    (fun _ _ iv _ => max (digs a).length (digs b).length + 2 - (intOf iv).toNat)
  case atStart => exact ⟨0, 0, [], rfl, rfl, by omega, by omega, .inl (by omega), rfl, by simp, by show _ = _; simp [val, Nat.mod_one], World.ownsRow_nil _ _ _ _, Below.refl _ _⟩
  case round =>
    obtain ⟨i, cy, ds, rfl, rfl, hcy, hi, hor, HL, hd10, HV, hown, hbw⟩ := hrel
    obtain ⟨hc1, hc2, hc3, hf3, hb0, hs⟩ := boxed3 hbw
    have hra1 := hra.below (hb0.mono hB)
    have hrb1 := hrb.below (hb0.mono hB)
    have hdl := ds.length
    rcases Nat.lt_or_ge (digs a).length (digs b).length with hlt | hlt
    all_goals
      by_cases hgo : i < max (digs a).length (digs b).length ∨ 0 < cy
      · have hi' : i ≤ 1000000 := by omega
        have hil : i ≤ maxLen := by unfold maxLen; omega
        obtain ⟨da, HA⟩ : ∃ d, Hid ((digs a).getD i 0 = d) := ⟨_, rfl⟩
        obtain ⟨db, HB⟩ : ∃ d, Hid ((digs b).getD i 0 = d) := ⟨_, rfl⟩
        have hda : da < 10 := by rw [← HA.out]; exact digit_lt a i
        have hdb : db < 10 := by rw [← HB.out]; exact digit_lt b i
        have hstep := add_step HL.out HA.out HB.out HV.out
        have hor' : i + 1 ≤ max (digs a).length (digs b).length ∨ (da + db + cy) / 10 = 0 := by
          by_cases h : i < max (digs a).length (digs b).length
          · left; omega
          · right
            have h1 := HA.out
            have h2 := HB.out
            rw [digit_high (by omega)] at h1 h2
            omega
        have hl1 : (ds ++ [(da + db + cy) % 10]).length = i + 1 := by rw [List.length_append, HL.out]; rfl
        have hlen : ds.length ≤ 1000000 := by rw [HL.out]; exact hi'
        have hi2 : i + 1 ≤ max (digs a).length (digs b).length + 1 := by omega
        have HI := Lib.hid hi2
        have HS := Lib.hid hstep
        have HO := Lib.hid hor'
        have HL1 := Lib.hid hl1
        have hrem : ((da : Int) + db + cy) % 10 = (((da + db + cy) % 10 : Nat) : Int) := by omega
        have HR := Lib.hid hrem
        clear hstep hor' hl1 hrem hdl hi2
        have hw1 : IntKind.i64.wrap ((da : Int) + db) = (da : Int) + db := IntWalk.i64_in _ (by omega)
        have hw2 : IntKind.i64.wrap ((da : Int) + db + cy) = (da : Int) + db + cy := IntWalk.i64_in _ (by omega)
        have hor0 : True := trivial
        clear hor HV HL
        go_wp2
        all_goals
          go_quiet ((first
            | (go_at_call 59; exact quiet_one (at_is (Row.drewN hra1 _) hla1 hil HA))
            | (go_at_call 59; exact quiet_one (at_is (Row.drewN hrb1 _) hlb1 hil HB))))
          clear hw1 hw2
          go_wp2_with (at_builtin; refine wpList_append_own _ rfl _ _ 64 rfl (w.heap.size + 3) 3 i0 (.int .i64 0) 1 8 Try.underlying64 hi0 hz0 hz1 hz2 rfl (by decide) _ _ _ rfl (World.ownsRow.alloc (own_drewN hown _) _) ⟨wr.heap.size, 0, none⟩ 1 1 [.int .i64 (((da : Int) + db + cy) % 10)] rfl rfl ?c1 ?c2 ?c3 ?c4 ?c5 ?_)
          case c1 => exact new_one _ _ _
          case c2 => intro u hu; simp at hu; subst hu; rfl
          case c3 => simp only [maxLen]; omega
          case c4 => omega
          case c5 => simp; omega
          intro v' w1 hown' hgrow _
          have hb' := app_below_nat (below_drewN hbw _) (Nat.le_refl _) hs (own_drewN hown _) hgrow
          rw [HR.out, ints_snoc] at hown'
          clear hgrow hown hbw
          go_wp2
          go_roundw
          case rel =>
            refine ⟨i + 1, (da + db + cy) / 10, ds ++ [(da + db + cy) % 10], by go_num, by go_num, by omega, by have := HI.out; omega, HO.out, HL1.out, all_snoc hd10 (by omega), HS.out, ?_, hb'⟩
            rw [List.length_append]
            exact hown'
          case measure => simp [intOf]; omega
      · obtain ⟨u, cap, rfl, hcap, hcm2, hrow⟩ := Row.of_own hown
        have hval : val ds = a + b := by
          have h := HV.out
          obtain rfl : cy = 0 := by omega
          exact add_end (by omega) (by omega) h
        have HV2 := Lib.hid hval
        clear hval HV HL hdl
        have hg1 : max (digs a).length (digs b).length ≤ i := by omega
        have hg2 : cy ≤ 0 := by omega
        clear hor hgo
        go_wp2_with (go_at_call 60; refine (trim_nat ds hd10 _ _ _ _ _ (Nat.le_refl _) hrow hcap hcm2 (own_from hown)).mono ?_; rintro e w' ⟨v, rfl, hnv, hfv, hbt⟩; obtain ⟨A2, c2, rfl, _⟩ := id hnv; have hc4 := (hbt.cell (p := ⟨w.heap.size + 1 + 1, 0, none⟩) (by show w.heap.size + 1 + 1 < _; omega)).trans hc3; have hf4 := (hbt.frozen (p := ⟨w.heap.size + 1 + 1, 0, none⟩) (by show w.heap.size + 1 + 1 < _; omega)).trans hf3)
        refine bodyPost_ret (v := .agg #[.slice A2 (digs (val ds)).length c2]) (by simp [results, Try.results63, go_sem, hc4]) rfl ⟨_, rfl, ?_⟩
        rw [← HV2.out]
        exact result_nat _ hnv hfv hbt.size (by show w.heap.size ≤ w.heap.size + 1 + 1; omega) (by show w.heap.size + 1 + 1 < _; omega) (hb0.trans (hbt.mono hb0.size)) _
end Go.Proofs.Ytilnlmfhnjplhaa
