/- Law ParamBounds (P7.2): what is lost at least, and in how many ticks a quorum is back, are the document's of any parameters, or refused. No condition. -/
import Derived.Test.YtilnlmfhnjplhaaAwake7
import Derived.Test.YtilnlmfhnjplhaaLawP
import Derived.Test.YtilnlmfhnjplhaaParP
import Derived.Test.YtilnlmfhnjplhaaParV
import Derived.Test.YtilnlmfhnjplhaaParX
import Derived.Test.YtilnlmfhnjplhaaRows
namespace Go.Proofs.Ytilnlmfhnjplhaa.ParamBounds
open Go.RowKit Go.ChangeShapes Go.WideShapes Go.ChangeAt
set_option linter.unusedVariables false
set_option linter.unusedSimpArgs false

theorem store_rpar {ops : Array Oper} {rest : List Oper} {o : Oper} {a : Act} {w : World} {Q : Exit → Act → World → Prop} (x y : Operand) (ho : o.op = .store 30 x y) (hgd : Region.wanted o (yielded ops a.tmps) = true) (g : Nat) (p old : Par) (T : TypeId) (hx : a.eval x = .pointer (some ⟨g, 0, none⟩)) (hy : a.eval y = .agg p.vals) (hP : ParAt w g old T)
    (h : wpList Try.prog ops Q rest (a.put o.dst undef) (w.setRow g p.vals)) : wpList Try.prog ops Q (o :: rest) a w :=
  wpList_step fun K hK => by
    rw [if_pos hgd]
    exact wp_store_row 30 x y ho g p.vals hx hy T old.vals hP (by kernel_rfl) rfl (vals_one p) (hK _ _ h)

set_option maxRecDepth 100000 in
set_option maxHeartbeats 2000000 in
theorem walk_no (p : Par) (n : Int) (w : World) (hf : p.Fits) (hR : ¬ ∃ T, Par.Right p T) :
    Calls Try.prog 4 #[.agg p.vals, .int .i64 n] w fun e w' => e = .returned (.bool true) ∧ Below w.heap.size w w' := by
  have hP := ParAt.new w p 24
  have hB : Below w.heap.size w (w.alloc (.cells p.vals 24)) := (Below.refl _ _).alloc (Nat.le_refl _) _
  have kl := fun w => least_no p w hf hR
  have kb := fun w => bound_no p n w hf hR
  have kq := fun w => quick_no p w hf hR
  have kr := fun w => refright_no p w hR
  clear hf hR
  go_enter Try.func4, Try.ntmps4
  go_upto_region 7 with (first
    | (refine load_par _ rfl rfl w.heap.size p _ rfl (by assumption) ?_)
    | (go_at_call 8; refine (param_awake _).mono ?_; rintro e w1 ⟨rfl, hb1⟩; have hP := hP.up hb1; have hB := Below.then hB hb1)
    | (go_at_call 14; refine (kl _).mono ?_; clear kl; rintro e w1 ⟨rfl, hb1⟩; have hP := hP.up hb1; have hB := Below.then hB hb1)
    | (go_at_call 15; refine (kb _).mono ?_; clear kb; rintro e w1 ⟨rfl, hb1⟩; have hP := hP.up hb1; have hB := Below.then hB hb1)
    | (go_at_call 16; refine (kq _).mono ?_; clear kq; rintro e w1 ⟨rfl, hb1⟩; have hP := hP.up hb1; have hB := Below.then hB hb1)
    | (go_at_call 11; refine (plain_is p _).mono ?_; rintro e w5 ⟨rfl, hb5⟩; have hP5 := hP.up hb5; have hB5 := Below.then hB hb5)
    | (refine store_rpar _ _ rfl rfl w5.heap.size p Par.none 30 rfl rfl (ParAt.new w5 Par.none 30) ?_))
  generalize hW6 : World.setRow _ _ _ = w6
  have hQ6 : ParAt w6 w5.heap.size p 30 := by rw [← hW6]; exact (ParAt.new w5 Par.none 30).set
  have hb6 : Below w5.heap.size w5 w6 := by rw [← hW6]; exact below_setRow ((Below.refl _ _).alloc (Nat.le_refl _) _) (Nat.le_refl _) _
  have hB6 := Below.then hB5 hb6
  clear hW6 hP5 hB5 hP hB hb6
  go_wp2_with (first
    | (refine load_ref _ rfl rfl _ p _ rfl (by assumption) ?_)
    | (go_at_call 10; refine (kr _).mono ?_; clear kr; rintro e w7 ⟨rfl, hb7⟩; have hB7 := Below.then hB6 hb7))
  go_ret
  exact ⟨rfl, hB7⟩

set_option maxRecDepth 100000 in
set_option maxHeartbeats 4000000 in
theorem walk_arg (p : Par) (m L E d : Nat) (n : Int) (hn : n < 0 ∨ 128 < n) (w : World) (h : Par.Right p (m + 1)) (hL : Ceil (p.inc * p.bias) p.quot L) (hE : Ceil (p.cap - p.floor) L E) (hd : p.delay = (d : Int)) :
    Calls Try.prog 4 #[.agg p.vals, .int .i64 n] w fun e w' => e = .returned (.bool true) ∧ Below w.heap.size w w' := by
  have hP := ParAt.new w p 24
  have hB : Below w.heap.size w (w.alloc (.cells p.vals 24)) := (Below.refl _ _).alloc (Nat.le_refl _) _
  have kl := fun w => least_ok p (m + 1) L w h hL
  have kq := fun w => quick_ok p m d w h hd
  have kr := fun w => refright_ok p (m + 1) w h
  have kl2 := fun w => refleast_is p (m + 1) L w h hL
  have kt : ∀ w, Calls Try.prog 13 #[.agg p.vals] w fun e w' => e = .returned (.int .u64 ((m : Int) + 1)) ∧ Below w.heap.size w w' := fun w => by
    have k := ticks_of p (m + 1) h.spans h.halt w
    rwa [Int.natCast_add, show ((1 : Nat) : Int) = 1 from rfl] at k
  have hmost := h.most
  have hd1 := h.spans.delay1
  rw [hd] at hd1
  have kb := fun w => bound_arg p (m + 1) n w h hn
  have E1 : IntKind.u64.wrap p.delay = (d : Int) := by rw [hd]; exact IntWalk.u64_in _ (by omega)
  have e2 : IntKind.u64.wrap ((d : Int) + ((m : Int) + 1) + 1) = (d : Int) + ((m : Int) + 1) + 1 := IntWalk.u64_in _ (by omega)
  have e3 : IntKind.u64.wrap ((d : Int) + ((m : Int) + 1)) = (d : Int) + ((m : Int) + 1) := IntWalk.u64_in _ (by omega)
  clear h hL hE hd hmost hd1
  go_enter Try.func4, Try.ntmps4
  go_upto_region 7 with (first
    | (refine load_par _ rfl rfl w.heap.size p _ rfl (by assumption) ?_)
    | (go_at_call 8; refine (param_awake _).mono ?_; rintro e w1 ⟨rfl, hb1⟩; have hP := hP.up hb1; have hB := Below.then hB hb1)
    | (go_at_call 14; refine (kl _).mono ?_; clear kl; rintro e w1 ⟨rfl, hb1⟩; have hP := hP.up hb1; have hB := Below.then hB hb1)
    | (go_at_call 15; refine (kb _).mono ?_; clear kb; rintro e w1 ⟨rfl, hb1⟩; have hP := hP.up hb1; have hB := Below.then hB hb1)
    | (go_at_call 16; refine (kq _).mono ?_; clear kq; rintro e w1 ⟨rfl, hb1⟩; have hP := hP.up hb1; have hB := Below.then hB hb1)
    | (go_at_call 11; refine (plain_is p _).mono ?_; rintro e w5 ⟨rfl, hb5⟩; have hP5 := hP.up hb5; have hB5 := Below.then hB hb5)
    | (refine store_rpar _ _ rfl rfl w5.heap.size p Par.none 30 rfl rfl (ParAt.new w5 Par.none 30) ?_))
  generalize hW6 : World.setRow _ _ _ = w6
  have hQ6 : ParAt w6 w5.heap.size p 30 := by rw [← hW6]; exact (ParAt.new w5 Par.none 30).set
  have hb6 : Below w5.heap.size w5 w6 := by rw [← hW6]; exact below_setRow ((Below.refl _ _).alloc (Nat.le_refl _) _) (Nat.le_refl _) _
  have hB6 := Below.then hB5 hb6
  clear hW6 hP5 hB5 hP hB hb6
  go_upto_region 9 with (first
    | (refine load_ref _ rfl rfl _ p _ rfl (by assumption) ?_)
    | (go_at_call 10; refine (kr _).mono ?_; clear kr; rintro e w7 ⟨rfl, hb7⟩; have hQ7 := hQ6.up hb7; have hB7 := Below.then hB6 hb7))
  have cells : ∀ w', Below w7.heap.size w7 w' → ParAt w' w5.heap.size p 30 := fun w' h => hQ7.up h
  clear hQ6 hQ7
  refine region_list [] (fun _ w' => Below w7.heap.size w7 w') (by kernel_rfl) (by kernel_rfl) (Below.refl _ _).drew ?_
  iterate 4 ((refine' SeqS.calm _ (by rfl) (by rfl) (fun w => ?_) ?_; rotate_left; · (go_simp <;> with_reducible rfl)); simp only [Act.put, List.setIfInBounds_toArray, List.set_cons_zero, List.set_cons_succ])
  refine SeqS.take _ (by rfl) (by rfl) (fun ph w' hS => exec_load_rpar _ rfl _ _ _ rfl (cells w' hS)) ?_
  simp only [Act.put, List.setIfInBounds_toArray, List.set_cons_zero, List.set_cons_succ]
  refine SeqS.call (below_call (Nat.le_refl _) (fun w _ => kl2 w)) (by rfl) (by rfl) (fun w => ?_) ?_; · go_simp
  simp only [Act.put, List.setIfInBounds_toArray, List.set_cons_zero, List.set_cons_succ]
  iterate 10 ((refine' SeqS.calm _ (by rfl) (by rfl) (fun w => ?_) ?_; rotate_left; · (go_simp <;> with_reducible rfl)); simp only [Act.put, List.setIfInBounds_toArray, List.set_cons_zero, List.set_cons_succ])
  refine' SeqS.take _ (by rfl) (by rfl) (fun ph w' hS => ?_) ?_; rotate_left; · (have c14 : w'.cell? ⟨w5.heap.size, 14, none⟩ = some (.int .i64 p.delay) := (cells w' hS).cell 14; go_simp <;> with_reducible rfl)
  simp only [Act.put, List.setIfInBounds_toArray, List.set_cons_zero, List.set_cons_succ]
  refine' SeqS.calm _ (by rfl) (by rfl) (fun w => ?_) ?_; rotate_left; · (go_simp <;> with_reducible rfl)
  simp only [Act.put, List.setIfInBounds_toArray, List.set_cons_zero, List.set_cons_succ]
  refine SeqS.take _ (by rfl) (by rfl) (fun ph w' hS => exec_load_rpar _ rfl _ _ _ rfl (cells w' hS)) ?_
  simp only [Act.put, List.setIfInBounds_toArray, List.set_cons_zero, List.set_cons_succ]
  refine SeqS.call (below_call (Nat.le_refl _) (fun w _ => kt w)) (by rfl) (by rfl) (fun w => ?_) ?_; · go_simp
  simp only [Act.put, List.setIfInBounds_toArray, List.set_cons_zero, List.set_cons_succ]
  iterate 4 ((refine' SeqS.calm _ (by rfl) (by rfl) (fun w => ?_) ?_; rotate_left; · (go_simp <;> with_reducible rfl)); simp only [Act.put, List.setIfInBounds_toArray, List.set_cons_zero, List.set_cons_succ])
  intro w8 hw8
  have hQ8 := cells w8 hw8
  have hB8 := Below.then hB7 hw8
  clear kl2 kt
  by_cases hz : n < 0
  · have d1 : decide (n < 0) = true := by simpa using hz
    clear hz hn
    go_wp2
    go_ret
    exact ⟨rfl, hB8⟩
  · have d1 : decide (n < 0) = false := by simpa using hz
    have d2 : decide (128 < n) = true := by simpa using hn.resolve_left hz
    clear hz hn
    go_wp2
    go_ret
    exact ⟨rfl, hB8⟩

set_option maxRecDepth 100000 in
set_option maxHeartbeats 4000000 in
theorem walk_ok (p : Par) (m L E d : Nat) (n : Nat) (hn : n ≤ 128) (w : World) (h : Par.Right p (m + 1)) (hL : Ceil (p.inc * p.bias) p.quot L) (hE : Ceil (p.cap - p.floor) L E) (hd : p.delay = (d : Int)) :
    Calls Try.prog 4 #[.agg p.vals, .int .i64 (n : Int)] w fun e w' => e = .returned (.bool true) ∧ Below w.heap.size w w' := by
  have hP := ParAt.new w p 24
  have hB : Below w.heap.size w (w.alloc (.cells p.vals 24)) := (Below.refl _ _).alloc (Nat.le_refl _) _
  have kl := fun w => least_ok p (m + 1) L w h hL
  have kq := fun w => quick_ok p m d w h hd
  have kr := fun w => refright_ok p (m + 1) w h
  have kl2 := fun w => refleast_is p (m + 1) L w h hL
  have kt : ∀ w, Calls Try.prog 13 #[.agg p.vals] w fun e w' => e = .returned (.int .u64 ((m : Int) + 1)) ∧ Below w.heap.size w w' := fun w => by
    have k := ticks_of p (m + 1) h.spans h.halt w
    rwa [Int.natCast_add, show ((1 : Nat) : Int) = 1 from rfl] at k
  have hmost := h.most
  have hd1 := h.spans.delay1
  rw [hd] at hd1
  have kb := fun w => bound_ok p (m + 1) L E n d w h hL hE hn hd
  have kx := fun w => refbound_is p (m + 1) L E n d w h hL hE hn hd
  obtain ⟨bd, hbd⟩ : ∃ bd, Hid (d + n * E + 1 = bd) := ⟨_, rfl⟩
  rw [hbd.out] at kb kx
  have E1 : IntKind.u64.wrap p.delay = (d : Int) := by rw [hd]; exact IntWalk.u64_in _ (by omega)
  have e2 : IntKind.u64.wrap ((d : Int) + ((m : Int) + 1) + 1) = (d : Int) + ((m : Int) + 1) + 1 := IntWalk.u64_in _ (by omega)
  have e3 : IntKind.u64.wrap ((d : Int) + ((m : Int) + 1)) = (d : Int) + ((m : Int) + 1) := IntWalk.u64_in _ (by omega)
  clear h hL hE hd hmost hd1
  go_enter Try.func4, Try.ntmps4
  go_upto_region 7 with (first
    | (refine load_par _ rfl rfl w.heap.size p _ rfl (by assumption) ?_)
    | (go_at_call 8; refine (param_awake _).mono ?_; rintro e w1 ⟨rfl, hb1⟩; have hP := hP.up hb1; have hB := Below.then hB hb1)
    | (go_at_call 14; refine (kl _).mono ?_; clear kl; rintro e w1 ⟨rfl, hb1⟩; have hP := hP.up hb1; have hB := Below.then hB hb1)
    | (go_at_call 15; refine (kb _).mono ?_; clear kb; rintro e w1 ⟨rfl, hb1⟩; have hP := hP.up hb1; have hB := Below.then hB hb1)
    | (go_at_call 16; refine (kq _).mono ?_; clear kq; rintro e w1 ⟨rfl, hb1⟩; have hP := hP.up hb1; have hB := Below.then hB hb1)
    | (go_at_call 11; refine (plain_is p _).mono ?_; rintro e w5 ⟨rfl, hb5⟩; have hP5 := hP.up hb5; have hB5 := Below.then hB hb5)
    | (refine store_rpar _ _ rfl rfl w5.heap.size p Par.none 30 rfl rfl (ParAt.new w5 Par.none 30) ?_))
  generalize hW6 : World.setRow _ _ _ = w6
  have hQ6 : ParAt w6 w5.heap.size p 30 := by rw [← hW6]; exact (ParAt.new w5 Par.none 30).set
  have hb6 : Below w5.heap.size w5 w6 := by rw [← hW6]; exact below_setRow ((Below.refl _ _).alloc (Nat.le_refl _) _) (Nat.le_refl _) _
  have hB6 := Below.then hB5 hb6
  clear hW6 hP5 hB5 hP hB hb6
  go_upto_region 9 with (first
    | (refine load_ref _ rfl rfl _ p _ rfl (by assumption) ?_)
    | (go_at_call 10; refine (kr _).mono ?_; clear kr; rintro e w7 ⟨rfl, hb7⟩; have hQ7 := hQ6.up hb7; have hB7 := Below.then hB6 hb7))
  have cells : ∀ w', Below w7.heap.size w7 w' → ParAt w' w5.heap.size p 30 := fun w' h => hQ7.up h
  clear hQ6 hQ7
  refine region_list [] (fun _ w' => Below w7.heap.size w7 w') (by kernel_rfl) (by kernel_rfl) (Below.refl _ _).drew ?_
  iterate 4 ((refine' SeqS.calm _ (by rfl) (by rfl) (fun w => ?_) ?_; rotate_left; · (go_simp <;> with_reducible rfl)); simp only [Act.put, List.setIfInBounds_toArray, List.set_cons_zero, List.set_cons_succ])
  refine SeqS.take _ (by rfl) (by rfl) (fun ph w' hS => exec_load_rpar _ rfl _ _ _ rfl (cells w' hS)) ?_
  simp only [Act.put, List.setIfInBounds_toArray, List.set_cons_zero, List.set_cons_succ]
  refine SeqS.call (below_call (Nat.le_refl _) (fun w _ => kl2 w)) (by rfl) (by rfl) (fun w => ?_) ?_; · go_simp
  simp only [Act.put, List.setIfInBounds_toArray, List.set_cons_zero, List.set_cons_succ]
  iterate 10 ((refine' SeqS.calm _ (by rfl) (by rfl) (fun w => ?_) ?_; rotate_left; · (go_simp <;> with_reducible rfl)); simp only [Act.put, List.setIfInBounds_toArray, List.set_cons_zero, List.set_cons_succ])
  refine' SeqS.take _ (by rfl) (by rfl) (fun ph w' hS => ?_) ?_; rotate_left; · (have c14 : w'.cell? ⟨w5.heap.size, 14, none⟩ = some (.int .i64 p.delay) := (cells w' hS).cell 14; go_simp <;> with_reducible rfl)
  simp only [Act.put, List.setIfInBounds_toArray, List.set_cons_zero, List.set_cons_succ]
  refine' SeqS.calm _ (by rfl) (by rfl) (fun w => ?_) ?_; rotate_left; · (go_simp <;> with_reducible rfl)
  simp only [Act.put, List.setIfInBounds_toArray, List.set_cons_zero, List.set_cons_succ]
  refine SeqS.take _ (by rfl) (by rfl) (fun ph w' hS => exec_load_rpar _ rfl _ _ _ rfl (cells w' hS)) ?_
  simp only [Act.put, List.setIfInBounds_toArray, List.set_cons_zero, List.set_cons_succ]
  refine SeqS.call (below_call (Nat.le_refl _) (fun w _ => kt w)) (by rfl) (by rfl) (fun w => ?_) ?_; · go_simp
  simp only [Act.put, List.setIfInBounds_toArray, List.set_cons_zero, List.set_cons_succ]
  iterate 4 ((refine' SeqS.calm _ (by rfl) (by rfl) (fun w => ?_) ?_; rotate_left; · (go_simp <;> with_reducible rfl)); simp only [Act.put, List.setIfInBounds_toArray, List.set_cons_zero, List.set_cons_succ])
  intro w8 hw8
  have hQ8 := cells w8 hw8
  have hB8 := Below.then hB7 hw8
  clear kl2 kt
  have d1 : decide ((n : Int) < 0) = false := by simp
  have d2 : decide ((128 : Int) < (n : Int)) = false := by simp; omega
  clear hn
  go_wp2_with (first
    | (refine load_ref _ rfl rfl _ p _ rfl hQ8 ?_)
    | (go_at_call 18; refine (kx _).mono ?_; clear kx; rintro e w9 ⟨rfl, hb9⟩; have hB9 := Below.then hB8 hb9))
  go_ret
  exact ⟨rfl, hB9⟩

/-- Whatever parameters. -/
theorem walk (p : Par) (n : Int) (w : World) (hf : p.Fits) (h0 : -9223372036854775808 ≤ n) (h1 : n ≤ 9223372036854775807) :
    Calls Try.prog 4 #[.agg p.vals, .int .i64 n] w fun e w' => e = .returned (.bool true) ∧ Below w.heap.size w w' := by
  by_cases hR : ∃ T, Par.Right p T
  · obtain ⟨T, hT⟩ := hR
    obtain ⟨m, rfl⟩ : ∃ m, T = m + 1 := ⟨T - 1, by have := hT.halt.pos; omega⟩
    have s := hT.spans
    obtain ⟨L, hL⟩ := ceil_is (p.inc * p.bias) p.quot s.quot0
    have hl0 := hL.pos (Nat.mul_pos s.inc0 s.bias0)
    obtain ⟨E, hE⟩ := ceil_is (p.cap - p.floor) L hl0
    obtain ⟨d, hd⟩ : ∃ d : Nat, p.delay = (d : Int) := ⟨p.delay.toNat, (Int.toNat_of_nonneg s.delay0).symm⟩
    by_cases hn : n < 0 ∨ 128 < n
    · exact walk_arg p m L E d n hn w hT hL hE hd
    · obtain ⟨k, rfl⟩ : ∃ k : Nat, n = (k : Int) := ⟨n.toNat, by omega⟩
      exact walk_ok p m L E d k (by omega) w hT hL hE hd
  · exact walk_no p n w hf hR

theorem own : ownKnob Try.prog.godebug = none := by kernel_rfl
theorem laidOut : laidOutB Try.prog = true := by kernel_rfl

set_option maxRecDepth 100000 in
theorem lifted (os : Os) (started : os.Started) (H : Type) (enc : TypeId × Value → H) :
    ReturnsInHanded {} Try.checked os 4 .any (Rows.paramBoundsSpec.pre6 enc Try.prog Try.f4 Rows.paramBoundsRow.domain false) (Rows.paramBoundsSpec.post enc Try.prog Try.f4 false true false false) := by
  refine returnsInHanded_of_change (C := Try.checked) own started (by kernel_rfl) Try.func4
    (ChangeSpec.witness6 (enc := enc) (C := Try.checked) false ⟨#[], #[.agg #[.int .u64 0, .int .u64 0, .int .u64 0, .int .u64 0, .int .u64 0, .int .u64 0, .int .u64 0, .int .u64 0, .int .u64 0, .int .u64 0, .int .u64 0, .int .u64 0, .int .u64 0, .int .u64 0, .int .i64 0, .int .i64 0, .int .i64 0, .int .i64 0, .int .i64 0, .int .i64 0, .int .i64 0, .int .i64 0, .int .i64 0, .int .i64 0], .int .i64 0], []⟩ 8 (by kernel_rfl) (by kernel_rfl) (by kernel_rfl) (by kernel_rfl)) ?_
  intro W base args ds gs before hval0 hW hcnd _
  have hval : ∀ (j : Nat) t v, Try.f4.params[j]? = some t → args[j]? = some v → Value.okWide Try.prog W .any base t v := hval0
  have hW' := hW
  obtain ⟨p, q, hA0, hV, rfl, hfz, hnd⟩ := hW
  have hlt : ∀ x ∈ p ++ q, x.block < W.heap.size := fun x hx => hW'.lt x hx
  have hA : DataW.TrodAll enc Try.prog W 0 (fun _ => true) true Try.f4.params.toList args.toList ds p := hA0
  rw [Try.params4] at hA hval
  obtain ⟨v0, vs0, d0, ds0, p0, q0, hargs, rfl, rfl, h0, r0⟩ := trodAll_cons hA
  obtain ⟨v1, vs1, d1, ds1, p1, q1, rfl, rfl, rfl, h1, r1⟩ := trodAll_cons r0
  obtain ⟨rfl, rfl, rfl⟩ := trodAll_nil r1
  obtain rfl : args = #[v0, v1] := by cases args; simp_all
  obtain ⟨rfl, rfl⟩ := trodVars_none hV
  obtain ⟨a0, rfl, f0⟩ := open_par (hval 0 24 v0 rfl rfl) h0
  obtain ⟨a1, rfl, rfl, rfl, w1⟩ := open_int Try.underlying3 (hval 1 3 v1 rfl rfl) h1
  have b1 := i64_bounds w1
  clear hA0 hval0
  refine (walk a0 a1 W f0 b1.1 b1.2).mono fun e W' ⟨he, hg⟩ => ?_
  subst he
  exact ⟨_, rfl, law_post laidOut (by kernel_rfl) rfl rfl Try.underlying4 rfl hW' hg⟩

theorem over : Rows.paramBoundsRow.holds Try.pinned (OpenSpec.ofChange Rows.paramBoundsSpec) :=
  OpenClaim.holds_of_wide 4 Try.f4 rfl rfl rfl rfl rfl rfl rfl ⟨rfl, rfl, rfl, rfl, rfl⟩ rfl rfl rfl rfl rfl (by kernel_rfl) Try.func4 (by kernel_rfl)
    (of_decide_eq_true (by kernel_rfl)) (by unfold Func.isWrapper; first | (rw [if_pos (by decide +kernel)]; kernel_rfl) | (rw [if_neg (by decide +kernel)]; exact ⟨rfl, rfl⟩))
    (fun os started H enc _ => lifted os started H enc)

/-- The statement. -/
theorem proved : Rows.ParamBoundsSaid := over
#print axioms proved
end Go.Proofs.Ytilnlmfhnjplhaa.ParamBounds
