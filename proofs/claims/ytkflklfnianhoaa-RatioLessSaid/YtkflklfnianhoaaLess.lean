/- RatioLess: for every four numbers of 64 bits the law of layer 2 on products and on two thirds returns true, and changes nothing. No condition. -/
import Derived.Test.YtkflklfnianhoaaRows
import Derived.Test.YtkflklfnianhoaaLaw
import Derived.Test.YtkflklfnianhoaaAwake2
import Derived.Test.YtkflklfnianhoaaRef2B
import Derived.Deep.RegionHeld3
import Derived.Lib.SmallJoins
namespace Go.Proofs.Ytkflklfnianhoaa.RatioLess
open Go.ChangeShapes Go.WideShapes Go.ChangeAt Go.RowKit
set_option linter.unusedVariables false

/-- Four cells, and all that was there, behind a draw and behind a call. -/
def Held (s : Nat) (w0 : World) (x y z u : Value) (w' : World) : Prop :=
  (w'.cell? ⟨s, 0, none⟩ = some x ∧ w'.cell? ⟨s, 1, none⟩ = some y ∧ w'.cell? ⟨s, 2, none⟩ = some z ∧ w'.cell? ⟨s, 3, none⟩ = some u) ∧ Below (s + 1) w0 w'
theorem held0 {s : Nat} {w0 w1 : World} {x y z u : Value} (h : Held s w0 x y z u w1) : Held s w0 x y z u w1.drew := ⟨h.1, below_drewN h.2 1⟩
theorem held1 {s : Nat} {w0 w1 w' : World} {x y z u : Value} (h0 : s + 1 ≤ w0.heap.size) (h : Held s w0 x y z u w1) (hb : Below w1.heap.size w1 w') : Held s w0 x y z u w' := by
  have hs : s < w1.heap.size := by have := h.2.size; omega
  exact ⟨⟨(hb.cell (p := ⟨s, 0, none⟩) hs).trans h.1.1, (hb.cell (p := ⟨s, 1, none⟩) hs).trans h.1.2.1, (hb.cell (p := ⟨s, 2, none⟩) hs).trans h.1.2.2.1, (hb.cell (p := ⟨s, 3, none⟩) hs).trans h.1.2.2.2⟩, h.2.trans (hb.mono hs)⟩

theorem walk (a b c d : Nat) (w : World) (ha : a < 18446744073709551616) (hb : b < 18446744073709551616) (hc : c < 18446744073709551616) (hd : d < 18446744073709551616) :
    Calls Try.prog 4 #[.agg #[.int .u64 a, .int .u64 b, .int .u64 c, .int .u64 d]] w fun e w' => e = .returned (.bool true) ∧ Below w.heap.size w w' := by
  have k1 := fun w => ratio_less a b c d w ha hb hc hd
  have k2 := fun w => ref_less a b c d w ha hb hc hd
  have k3 := fun w => ratio_two a b w ha hb
  have k4 := fun w => ref_two a b w ha hb
  obtain ⟨t, ht⟩ : ∃ t, Hid (decide (a * b < c * d) = t) := ⟨_, rfl⟩
  obtain ⟨u, hu⟩ : ∃ u, Hid (decide (0 < b ∧ 2 * b < 3 * a) = u) := ⟨_, rfl⟩
  rw [ht.out] at k1 k2
  rw [hu.out] at k3 k4
  go_enter Try.func4, Try.ntmps4
  obtain ⟨w0, hw0⟩ : ∃ w0, w0 = w.alloc (.cells #[.int .u64 a, .int .u64 b, .int .u64 c, .int .u64 d] 34) := ⟨_, rfl⟩
  have hs0 : w.heap.size + 1 ≤ w0.heap.size := by rw [hw0]; simp
  have hh : Held w.heap.size w0 (.int .u64 a) (.int .u64 b) (.int .u64 c) (.int .u64 d) w0 := by
    refine ⟨?_, Below.refl _ _⟩
    subst hw0
    refine ⟨?_, ?_, ?_, ?_⟩ <;> (rw [World.cell?_alloc_at _ _ _ _ rfl]; rfl)
  have hb00 : Below w.heap.size w w0 := by rw [hw0]; exact (Below.refl _ _).alloc (Nat.le_refl _) _
  go_wp2_with (go_at_call 7; rw [← hw0]; clear hw0; refine (ratio_awake _).mono ?_; rintro e w1 ⟨rfl, hb1⟩; have hh1 := held1 hs0 hh hb1)
  go_region_held3 (fun w' => (w'.cell? ⟨w.heap.size, 0, none⟩ = some (.int .u64 a) ∧ w'.cell? ⟨w.heap.size, 1, none⟩ = some (.int .u64 b) ∧ w'.cell? ⟨w.heap.size, 2, none⟩ = some (.int .u64 c) ∧ w'.cell? ⟨w.heap.size, 3, none⟩ = some (.int .u64 d)) ∧ Below (w.heap.size + 1) w0 w')
    (first | exact held0 hh1 | exact held1 hs0 (by assumption) hb5 | exact held1 hs0 (by assumption) hb4 | exact held1 hs0 (by assumption) hb3 | exact held1 hs0 (by assumption) hb2)
    (first
      | (go_at_call 14; refine (k1 _).mono ?_; rintro e w2 ⟨rfl, hb2⟩)
      | (go_at_call 15; refine (k2 _).mono ?_; rintro e w3 ⟨rfl, hb3⟩)
      | (go_at_call 16; refine (k3 _).mono ?_; rintro e w4 ⟨rfl, hb4⟩)
      | (go_at_call 17; refine (k4 _).mono ?_; rintro e w5 ⟨rfl, hb5⟩))
  have hend : Below w.heap.size w w5 := by
    have hheld : (w5.cell? ⟨w.heap.size, 0, none⟩ = some (.int .u64 a) ∧ w5.cell? ⟨w.heap.size, 1, none⟩ = some (.int .u64 b) ∧ w5.cell? ⟨w.heap.size, 2, none⟩ = some (.int .u64 c) ∧ w5.cell? ⟨w.heap.size, 3, none⟩ = some (.int .u64 d)) ∧ Below (w.heap.size + 1) w0 w5 := by assumption
    exact hb00.trans (hheld.2.mono (by omega))
  go_wp2_with fail
  go_ret
  exact ⟨rfl, hend⟩

theorem own : ownKnob Try.prog.godebug = none := by kernel_rfl
theorem laidOut : laidOutB Try.prog = true := by kernel_rfl

set_option maxRecDepth 100000 in
theorem lifted (os : Os) (started : os.Started) (H : Type) (enc : TypeId × Value → H) :
    ReturnsInHanded {} Try.checked os 4 .any (Rows.ratioLessSpec.pre6 enc Try.prog Try.f4 Rows.ratioLessRow.domain false) (Rows.ratioLessSpec.post enc Try.prog Try.f4 false true false false) := by
  refine returnsInHanded_of_change (C := Try.checked) own started (by kernel_rfl) Try.func4
    (ChangeSpec.witness6 (enc := enc) (C := Try.checked) false ⟨#[], #[.agg #[.int .u64 0, .int .u64 0, .int .u64 0, .int .u64 0]], []⟩ 8 (by kernel_rfl) (by kernel_rfl) (by kernel_rfl) (by kernel_rfl)) ?_
  intro W base args ds gs before hval0 hW hcnd _
  have hval : ∀ (j : Nat) t v, Try.f4.params[j]? = some t → args[j]? = some v → Value.okWide Try.prog W .any base t v := hval0
  have hW' := hW
  obtain ⟨p, q, hA0, hV, rfl, hfz, hnd⟩ := hW
  have hlt : ∀ x ∈ p ++ q, x.block < W.heap.size := fun x hx => hW'.lt x hx
  have hA : DataW.TrodAll enc Try.prog W 0 (fun _ => true) true Try.f4.params.toList args.toList ds p := hA0
  rw [Try.params4] at hA hval
  obtain ⟨v0, vs0, d0, ds0, p0, q0, hargs, rfl, rfl, h0, r0⟩ := trodAll_cons hA
  obtain ⟨rfl, rfl, rfl⟩ := trodAll_nil r0
  obtain rfl : args = #[v0] := by cases args; simp_all
  obtain ⟨rfl, rfl⟩ := trodVars_none hV
  obtain ⟨x0, x1, x2, x3, y0, y1, y2, y3, m0, rfl, rfl, rfl, hy0, hy1, hy2, hy3⟩ := Joins.open_agg4 Try.underlying34 (by kernel_rfl) (by kernel_rfl) (hval 0 34 v0 rfl rfl) h0
  obtain ⟨a0, e0, rfl, u0⟩ := DataW.trod_int Try.underlying22 hy0
  simp at e0
  subst e0
  have b0 := u64_fits u0
  obtain ⟨n0, rfl⟩ := Int.eq_ofNat_of_zero_le b0.1
  obtain ⟨a1, e1, rfl, u1⟩ := DataW.trod_int Try.underlying22 hy1
  simp at e1
  subst e1
  have b1 := u64_fits u1
  obtain ⟨n1, rfl⟩ := Int.eq_ofNat_of_zero_le b1.1
  obtain ⟨a2, e2, rfl, u2⟩ := DataW.trod_int Try.underlying22 hy2
  simp at e2
  subst e2
  have b2 := u64_fits u2
  obtain ⟨n2, rfl⟩ := Int.eq_ofNat_of_zero_le b2.1
  obtain ⟨a3, e3, rfl, u3⟩ := DataW.trod_int Try.underlying22 hy3
  simp at e3
  subst e3
  have b3 := u64_fits u3
  obtain ⟨n3, rfl⟩ := Int.eq_ofNat_of_zero_le b3.1
  clear hA0 hval0
  refine (walk n0 n1 n2 n3 W (by have := b0.2; omega) (by have := b1.2; omega) (by have := b2.2; omega) (by have := b3.2; omega)).mono fun e W' ⟨he, hg⟩ => ?_
  subst he
  exact ⟨_, rfl, law_post laidOut (by kernel_rfl) rfl rfl Try.underlying4 rfl hW' hg⟩

theorem over : Rows.ratioLessRow.holds Try.pinned (OpenSpec.ofChange Rows.ratioLessSpec) :=
  OpenClaim.holds_of_wide 4 Try.f4 rfl rfl rfl rfl rfl rfl rfl ⟨rfl, rfl, rfl, rfl, rfl⟩ rfl rfl rfl rfl rfl (by kernel_rfl) Try.func4 (by kernel_rfl)
    (of_decide_eq_true (by kernel_rfl)) (by unfold Func.isWrapper; first | (rw [if_pos (by decide +kernel)]; kernel_rfl) | (rw [if_neg (by decide +kernel)]; exact ⟨rfl, rfl⟩))
    (fun os started H enc _ => lifted os started H enc)

/-- The statement. -/
theorem proved : Rows.RatioLessSaid := over
#print axioms proved
end Go.Proofs.Ytkflklfnianhoaa.RatioLess
