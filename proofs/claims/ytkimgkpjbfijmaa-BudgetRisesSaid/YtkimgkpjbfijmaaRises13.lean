/- Law BudgetRises (P13.3): a budget never falls as the rate rises, nor is it ever more than the rate says for all of the stake. No condition. -/
import Derived.Test.YtkimgkpjbfijmaaAwake13
import Derived.Test.YtkimgkpjbfijmaaParP
import Derived.Test.YtkimgkpjbfijmaaParSb
import Derived.Test.YtkimgkpjbfijmaaLawP
import Derived.Test.YtkimgkpjbfijmaaRows
namespace Go.Proofs.Ytkimgkpjbfijmaa.BudgetRises
open Go.RowKit Go.ChangeShapes Go.WideShapes Go.ChangeAt
set_option linter.unusedVariables false
set_option linter.unusedSimpArgs false


section
variable {ops : Array Oper} {rest : List Oper} {o : Oper} {a : Act} {w : World} {Q : Exit → Act → World → Prop}
/-- A rate into its block; the world behind it has a new name. -/
theorem store_rate (x y : Operand) (ho : o.op = .store 22 x y) (hgd : Region.wanted o (yielded ops a.tmps) = true) (g : Nat) (p : Par) (T : TypeId) (v : Nat) (hx : a.eval x = .pointer (some ⟨g, 12, none⟩)) (hy : a.eval y = .int .u64 (v : Int)) (hS : ParAt w g p T)
    (h : ∀ w', ParAt w' g (p.rated v) T → Below g w w' → wpList Try.prog ops Q rest (a.put o.dst undef) w') : wpList Try.prog ops Q (o :: rest) a w :=
  wpList_step fun K hK => by
    rw [if_pos hgd]
    have hc := (hS.cell 12).trans p.v12
    have hf : w.frozen? ⟨g, 12, none⟩ = false := frozen_of_row w g 12 _ _ hS
    have hK' : K (a.put o.dst undef) (w.setCell ⟨g, 12, none⟩ (.int .u64 (v : Int))) := by
     refine hK _ _ (h _ ?_ (Below.setCell (p := ⟨g, 12, none⟩) (Below.refl g w) (Nat.le_refl _) _))
     exact heap_setCell_same w g 12 _ _ _ hS
    unfold Oper.wp execOp
    simp only [ho, hx, hy]
    go_simp
    exact hK'
end


set_option maxRecDepth 100000 in
set_option maxHeartbeats 2000000 in
theorem end0 (p : Par) (a : Nat) (w : World) (kr : ∀ w, Calls Try.prog 10 #[.agg p.vals] w fun e w' => e = .returned (.bool false) ∧ Below w.heap.size w w') :
    Calls Try.prog 5 #[.agg p.vals, .int .u64 (a : Int)] w fun ev w' => ev = .returned (.bool true) ∧ Below w.heap.size w w' := by
  have hP := ParAt.new w p 24
  have hB : Below w.heap.size w (w.alloc (.cells p.vals 24)) := (Below.refl _ _).alloc (Nat.le_refl _) _
  have v12 := p.v12
  go_enter Try.func5, Try.ntmps5
  go_wp2_with (first
    | (refine load_par _ rfl rfl _ p _ rfl (by assumption) ?_)
    | (go_at_call 6; refine (bud_awake _).mono ?_; rintro e w1 ⟨rfl, hb1⟩; have hP := hP.up hb1; have hB := Below.then hB hb1; have p12 := (hP.cell 12).trans v12; clear hb1)
    | (go_at_call 9; refine (plain_is p _).mono ?_; rintro e w1 ⟨rfl, hb1⟩; have hP := hP.up hb1; have hB := Below.then hB hb1; have p12 := (hP.cell 12).trans v12; clear hb1)
    | (go_at_call 10; refine (kr _).mono ?_; clear kr; rintro e w1 ⟨rfl, hb1⟩; have hP := hP.up hb1; have hB := Below.then hB hb1; have p12 := (hP.cell 12).trans v12; clear hb1)
    )
  go_ret
  exact ⟨by first | rfl | simp, hB⟩


set_option maxRecDepth 100000 in
set_option maxHeartbeats 2000000 in
theorem end1 (p : Par) (a : Nat) (w : World) (kr : ∀ w, Calls Try.prog 10 #[.agg p.vals] w fun e w' => e = .returned (.bool true) ∧ Below w.heap.size w w') (h : a < 1) :
    Calls Try.prog 5 #[.agg p.vals, .int .u64 (a : Int)] w fun ev w' => ev = .returned (.bool true) ∧ Below w.heap.size w w' := by
  have hP := ParAt.new w p 24
  have hB : Below w.heap.size w (w.alloc (.cells p.vals 24)) := (Below.refl _ _).alloc (Nat.le_refl _) _
  have v12 := p.v12
  have d1 : decide ((a : Int) < 1) = true := by simp; omega
  have e1 : decide (a < 1) = true := by simp; omega
  clear h
  go_enter Try.func5, Try.ntmps5
  go_wp2_with (first
    | (refine load_par _ rfl rfl _ p _ rfl (by assumption) ?_)
    | (go_at_call 6; refine (bud_awake _).mono ?_; rintro e w1 ⟨rfl, hb1⟩; have hP := hP.up hb1; have hB := Below.then hB hb1; have p12 := (hP.cell 12).trans v12; clear hb1)
    | (go_at_call 9; refine (plain_is p _).mono ?_; rintro e w1 ⟨rfl, hb1⟩; have hP := hP.up hb1; have hB := Below.then hB hb1; have p12 := (hP.cell 12).trans v12; clear hb1)
    | (go_at_call 10; refine (kr _).mono ?_; clear kr; rintro e w1 ⟨rfl, hb1⟩; have hP := hP.up hb1; have hB := Below.then hB hb1; have p12 := (hP.cell 12).trans v12; clear hb1)
    )
  go_ret
  exact ⟨by first | rfl | simp, hB⟩


set_option maxRecDepth 100000 in
set_option maxHeartbeats 2000000 in
theorem end2 (p : Par) (a : Nat) (w : World) (kr : ∀ w, Calls Try.prog 10 #[.agg p.vals] w fun e w' => e = .returned (.bool true) ∧ Below w.heap.size w w') (h0 : ¬ a < 1) (h : 1099511627776 < a) :
    Calls Try.prog 5 #[.agg p.vals, .int .u64 (a : Int)] w fun ev w' => ev = .returned (.bool true) ∧ Below w.heap.size w w' := by
  have hP := ParAt.new w p 24
  have hB : Below w.heap.size w (w.alloc (.cells p.vals 24)) := (Below.refl _ _).alloc (Nat.le_refl _) _
  have v12 := p.v12
  have d1 : decide ((a : Int) < 1) = false := by simp; omega
  have e1 : decide (a < 1) = false := by simp; omega
  have d2 : decide ((1099511627776 : Int) < (a : Int)) = true := by simp; omega
  have e2 : decide (1099511627776 < a) = true := by simp; omega
  clear h0 h
  go_enter Try.func5, Try.ntmps5
  go_wp2_with (first
    | (refine load_par _ rfl rfl _ p _ rfl (by assumption) ?_)
    | (go_at_call 6; refine (bud_awake _).mono ?_; rintro e w1 ⟨rfl, hb1⟩; have hP := hP.up hb1; have hB := Below.then hB hb1; have p12 := (hP.cell 12).trans v12; clear hb1)
    | (go_at_call 9; refine (plain_is p _).mono ?_; rintro e w1 ⟨rfl, hb1⟩; have hP := hP.up hb1; have hB := Below.then hB hb1; have p12 := (hP.cell 12).trans v12; clear hb1)
    | (go_at_call 10; refine (kr _).mono ?_; clear kr; rintro e w1 ⟨rfl, hb1⟩; have hP := hP.up hb1; have hB := Below.then hB hb1; have p12 := (hP.cell 12).trans v12; clear hb1)
    )
  go_ret
  exact ⟨by first | rfl | simp, hB⟩


set_option maxRecDepth 100000 in
set_option maxHeartbeats 2000000 in
theorem end3 (p : Par) (a : Nat) (w : World) (kr : ∀ w, Calls Try.prog 10 #[.agg p.vals] w fun e w' => e = .returned (.bool true) ∧ Below w.heap.size w w') (h0 : ¬ a < 1) (h1 : ¬ 1099511627776 < a) (h : 4294967296 ≤ p.rate) :
    Calls Try.prog 5 #[.agg p.vals, .int .u64 (a : Int)] w fun ev w' => ev = .returned (.bool true) ∧ Below w.heap.size w w' := by
  have hP := ParAt.new w p 24
  have hB : Below w.heap.size w (w.alloc (.cells p.vals 24)) := (Below.refl _ _).alloc (Nat.le_refl _) _
  have v12 := p.v12
  have d1 : decide ((a : Int) < 1) = false := by simp; omega
  have e1 : decide (a < 1) = false := by simp; omega
  have d2 : decide ((1099511627776 : Int) < (a : Int)) = false := by simp; omega
  have e2 : decide (1099511627776 < a) = false := by simp; omega
  have d3 : decide ((4294967296 : Int) ≤ (p.rate : Int)) = true := by simp; omega
  have e3 : decide (4294967296 ≤ p.rate) = true := by simp; omega
  clear h0 h1 h
  go_enter Try.func5, Try.ntmps5
  go_wp2_with (first
    | (refine load_par _ rfl rfl _ p _ rfl (by assumption) ?_)
    | (go_at_call 6; refine (bud_awake _).mono ?_; rintro e w1 ⟨rfl, hb1⟩; have hP := hP.up hb1; have hB := Below.then hB hb1; have p12 := (hP.cell 12).trans v12; clear hb1)
    | (go_at_call 9; refine (plain_is p _).mono ?_; rintro e w1 ⟨rfl, hb1⟩; have hP := hP.up hb1; have hB := Below.then hB hb1; have p12 := (hP.cell 12).trans v12; clear hb1)
    | (go_at_call 10; refine (kr _).mono ?_; clear kr; rintro e w1 ⟨rfl, hb1⟩; have hP := hP.up hb1; have hB := Below.then hB hb1; have p12 := (hP.cell 12).trans v12; clear hb1)
    )
  go_ret
  exact ⟨by first | rfl | simp, hB⟩


set_option maxRecDepth 100000 in
set_option maxHeartbeats 2000000 in
theorem walk_on (p : Par) (a q n n2 t : Nat) (w : World) (kr : ∀ w, Calls Try.prog 10 #[.agg p.vals] w fun e w' => e = .returned (.bool true) ∧ Below w.heap.size w w') (h0 : ¬ a < 1) (h1 : ¬ 1099511627776 < a) (h : ¬ 4294967296 ≤ p.rate) (hq : p.rate + 1 = q)
    (ko : OfIs p a n) (ko2 : OfIs (p.rated q) a n2) (ku : ∀ w, Calls Try.prog 15 #[.int .u64 (a : Int), .int .u64 (q : Int), .int .u64 1048576] w fun e w' => e = .returned (.tuple #[.int .u64 (t : Int), .int .i64 0]) ∧ Below w.heap.size w w')
    (hn : n ≤ n2) (ht : n2 ≤ t) : Calls Try.prog 5 #[.agg p.vals, .int .u64 (a : Int)] w fun ev w' => ev = .returned (.bool true) ∧ Below w.heap.size w w' := by
  have hP := ParAt.new w p 24
  have hB : Below w.heap.size w (w.alloc (.cells p.vals 24)) := (Below.refl _ _).alloc (Nat.le_refl _) _
  have v12 := p.v12
  have v13 : (p.rated q).vals[12]? = some (.int .u64 (q : Int)) := rfl
  have d1 : decide ((a : Int) < 1) = false := by simp; omega
  have e1 : decide (a < 1) = false := by simp; omega
  have d2 : decide ((1099511627776 : Int) < (a : Int)) = false := by simp; omega
  have e2 : decide (1099511627776 < a) = false := by simp; omega
  have d3 : decide ((4294967296 : Int) ≤ (p.rate : Int)) = false := by simp; omega
  have e3 : decide (4294967296 ≤ p.rate) = false := by simp; omega
  have f1 : decide ((n : Int) ≤ (n2 : Int)) = true := by simp; omega
  have f2 : decide (n ≤ n2) = true := by simp; omega
  have f3 : decide ((n2 : Int) ≤ (t : Int)) = true := by simp; omega
  have f4 : decide (n2 ≤ t) = true := by simp; omega
  have g1 : (p.rate : Int) + 1 = (q : Int) := by omega
  have g2 : IntKind.u64.wrap (q : Int) = (q : Int) := IntWalk.u64_in _ (by omega)
  have g3 : IntKind.u64.wrap ((p.rate : Int) + 1) = (q : Int) := by rw [g1, g2]
  unfold OfIs at ko ko2
  clear h0 h1 h hq hn ht
  go_enter Try.func5, Try.ntmps5
  go_wp2_with (first
    | (refine load_par _ rfl rfl _ p _ rfl (by assumption) ?_)
    | (refine load_par _ rfl rfl _ (p.rated q) _ rfl (by assumption) ?_)
    | (go_at_call 6; refine (bud_awake _).mono ?_; rintro e w1 ⟨rfl, hb1⟩; have hP := hP.up hb1; have hB := Below.then hB hb1; have p12 := (hP.cell 12).trans v12; clear hb1)
    | (go_at_call 9; refine (plain_is p _).mono ?_; rintro e w1 ⟨rfl, hb1⟩; have hP := hP.up hb1; have hB := Below.then hB hb1; have p12 := (hP.cell 12).trans v12; clear hb1)
    | (go_at_call 10; refine (kr _).mono ?_; clear kr; rintro e w1 ⟨rfl, hb1⟩; have hP := hP.up hb1; have hB := Below.then hB hb1; have p12 := (hP.cell 12).trans v12; clear hb1)
    | (go_at_call 7; refine (ko _).mono ?_; clear ko; rintro e w1 ⟨rfl, hb1⟩; have hP := hP.up hb1; have hB := Below.then hB hb1; have p12 := (hP.cell 12).trans v12; clear hb1)
    | (refine store_rate _ _ rfl rfl _ p 24 q rfl rfl (by assumption) ?_; intro w2 hQ hb2; clear p12; have p12 := (hQ.cell 12).trans v13; have hB := hB.trans hb2; clear hb2 hP)
    | (go_at_call 7; refine (ko2 _).mono ?_; clear ko2; rintro e w1 ⟨rfl, hb1⟩; have hQ := hQ.up hb1; have hB := Below.then hB hb1; have p12 := (hQ.cell 12).trans v13; clear hb1)
    | (go_at_call 15; refine (ku _).mono ?_; clear ku; rintro e w1 ⟨rfl, hb1⟩; have hB := Below.then hB hb1; clear hb1)
    )
  go_ret
  exact ⟨by first | rfl | simp, hB⟩
theorem walk (p : Par) (a : Nat) (w : World) (hf : p.Fits) (ha : a < 18446744073709551616) : Calls Try.prog 5 #[.agg p.vals, .int .u64 (a : Int)] w fun ev w' => ev = .returned (.bool true) ∧ Below w.heap.size w w' := by
  by_cases hR : ∃ N, Par.Right p N
  · obtain ⟨N, hN⟩ := hR
    have kr := fun w => refright_ok p N w hN
    by_cases h0 : a < 1
    · exact end1 p a w kr h0
    by_cases h1 : 1099511627776 < a
    · exact end2 p a w kr h0 h1
    by_cases h2 : 4294967296 ≤ p.rate
    · exact end3 p a w kr h0 h1 h2
    have hN2 := hN.rated (n := p.rate + 1) (by omega)
    obtain ⟨n, r, k, b1⟩ := bud_ex p.rate (a := a) (by omega)
    obtain ⟨n2, r2, k2, b2⟩ := bud_ex (p.rate + 1) (a := a) (by omega)
    have ko := of_is p a n r k (fun w => check_ok p N w hN) (by omega) (by omega) (by omega) b1
    have ko2 := of_is (p.rated (p.rate + 1)) a n2 r2 k2 (fun w => check_ok _ N w hN2) (by omega) (by omega) (show p.rate + 1 ≤ _ by omega) b2
    have hn := b1.rises b2 (by omega) (by omega)
    have hd := (Nat.div_add_mod' (a * (p.rate + 1)) 1048576).symm
    have hl : a * (p.rate + 1) % 1048576 < 1048576 := Nat.mod_lt _ (by omega)
    have hm : a * (p.rate + 1) ≤ 1099511627776 * 4294967296 := Nat.mul_le_mul (by omega) (by omega)
    have ht := b2.all (by omega) hd hl
    generalize a * (p.rate + 1) / 1048576 = t at *
    generalize hx : a * (p.rate + 1) % 1048576 = x at *
    rcases Nat.eq_zero_or_pos x with rfl | h3
    · exact walk_on p a (p.rate + 1) n n2 t w kr h0 h1 h2 rfl ko ko2 (fun w => ratio_up_whole a (p.rate + 1) 1048576 t w ha (by omega) (by omega) (Lib.hid hd) (by omega) (by omega)) hn ht
    · have ku := fun w => ratio_up_next a (p.rate + 1) 1048576 t x w ha (by omega) (by omega) (Lib.hid hd) hl h3 (by omega)
      exact walk_on p a (p.rate + 1) n n2 (t + 1) w kr h0 h1 h2 rfl ko ko2 ku hn (by omega)
  · exact end0 p a w (fun w => refright_no p w hR)


theorem own : ownKnob Try.prog.godebug = none := by kernel_rfl
theorem laidOut : laidOutB Try.prog = true := by kernel_rfl

set_option maxRecDepth 100000 in
theorem lifted (os : Os) (started : os.Started) (H : Type) (enc : TypeId × Value → H) :
    ReturnsInHanded {} Try.checked os 5 .any (Rows.budgetRisesSpec.pre6 enc Try.prog Try.f5 Rows.budgetRisesRow.domain false) (Rows.budgetRisesSpec.post enc Try.prog Try.f5 false true false false) := by
  refine returnsInHanded_of_change (C := Try.checked) own started (by kernel_rfl) Try.func5
    (ChangeSpec.witness6 (enc := enc) (C := Try.checked) false ⟨#[], #[.agg #[.int .u64 0, .int .u64 0, .int .u64 0, .int .u64 0, .int .u64 0, .int .u64 0, .int .u64 0, .int .u64 0, .int .u64 0, .int .u64 0, .int .u64 0, .int .u64 0, .int .u64 0, .int .u64 0, .int .i64 0, .int .i64 0, .int .i64 0, .int .i64 0, .int .i64 0, .int .i64 0, .int .i64 0, .int .i64 0, .int .i64 0, .int .i64 0], .int .u64 0], []⟩ 8 (by kernel_rfl) (by kernel_rfl) (by kernel_rfl) (by kernel_rfl)) ?_
  intro W base args ds gs before hval0 hW hcnd _
  have hval : ∀ (j : Nat) t v, Try.f5.params[j]? = some t → args[j]? = some v → Value.okWide Try.prog W .any base t v := hval0
  have hW' := hW
  obtain ⟨p, q, hA0, hV, rfl, hfz, hnd⟩ := hW
  have hlt : ∀ x ∈ p ++ q, x.block < W.heap.size := fun x hx => hW'.lt x hx
  have hA : DataW.TrodAll enc Try.prog W 0 (fun _ => true) true Try.f5.params.toList args.toList ds p := hA0
  rw [Try.params5] at hA hval
  obtain ⟨v0, vs0, d0, ds0, p0, q0, hargs, rfl, rfl, h0, r0⟩ := trodAll_cons hA
  obtain ⟨v1, vs1, d1, ds1, p1, q1, rfl, rfl, rfl, h1, r1⟩ := trodAll_cons r0
  obtain ⟨rfl, rfl, rfl⟩ := trodAll_nil r1
  obtain rfl : args = #[v0, v1] := by cases args; simp_all
  obtain ⟨rfl, rfl⟩ := trodVars_none hV
  obtain ⟨a0, rfl, f0⟩ := open_par (hval 0 24 v0 rfl rfl) h0
  obtain ⟨a1, rfl, rfl, rfl, w1⟩ := open_int Try.underlying22 (hval 1 22 v1 rfl rfl) h1
  have b1 := u64_fits w1
  obtain ⟨n1, rfl⟩ := Int.eq_ofNat_of_zero_le b1.1
  clear hA0 hval0
  refine (walk a0 n1 W f0 (by have := b1.2; omega)).mono fun e W' ⟨he, hg⟩ => ?_
  subst he
  exact ⟨_, rfl, law_post laidOut (by kernel_rfl) rfl rfl Try.underlying4 rfl hW' hg⟩

theorem over : Rows.budgetRisesRow.holds Try.pinned (OpenSpec.ofChange Rows.budgetRisesSpec) :=
  OpenClaim.holds_of_wide 5 Try.f5 rfl rfl rfl rfl rfl rfl rfl ⟨rfl, rfl, rfl, rfl, rfl⟩ rfl rfl rfl rfl rfl (by kernel_rfl) Try.func5 (by kernel_rfl)
    (of_decide_eq_true (by kernel_rfl)) (by unfold Func.isWrapper; first | (rw [if_pos (by decide +kernel)]; kernel_rfl) | (rw [if_neg (by decide +kernel)]; exact ⟨rfl, rfl⟩))
    (fun os started H enc _ => lifted os started H enc)

/-- The statement. -/
theorem proved : Rows.BudgetRisesSaid := over
#print axioms proved

end Go.Proofs.Ytkimgkpjbfijmaa.BudgetRises
