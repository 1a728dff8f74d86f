/- Layer 11 (score), the document's. By contracts. -/
import Derived.Test.YtfdjpaaahekkbaaScoS
import Derived.Test.YtfdjpaaahekkbaaParR
namespace Go.Proofs.Ytfdjpaaahekkbaa
open Go.RowKit
set_option linter.unusedVariables false
set_option linter.unusedSimpArgs false

section
variable {ops : Array Oper} {rest : List Oper} {o : Oper} {a : Act} {w : World} {Q : Exit → Act → World → Prop}
theorem StdAt.froz {w : World} {b : Nat} {s : Std} {T : TypeId} (h : StdAt w b s T) (k : Nat) : w.frozen? ⟨b, k, none⟩ = false := frozen_of_row w b k _ _ h
/-- A streak, a score into its block; the world behind it has a new name. -/
theorem store_streak (x y : Operand) (ho : o.op = .store 3 x y) (hgd : Region.wanted o (yielded ops a.tmps) = true) (g : Nat) (s : Std) (T : TypeId) (v : Int) (hx : a.eval x = .pointer (some ⟨g, 3, none⟩)) (hy : a.eval y = .int .i64 v) (hS : StdAt w g s T)
    (h : ∀ w', StdAt w' g ⟨s.bal, s.eff, s.score, v⟩ T → Below g w w' → (∀ k, k ≠ g → w'.heap[k]? = w.heap[k]?) → wpList Try.prog ops Q rest (a.put o.dst undef) w') : wpList Try.prog ops Q (o :: rest) a w :=
  wpList_step fun K hK => by
    rw [if_pos hgd]
    have hc := hS.c3
    have hf := hS.froz 3
    have hK' : K (a.put o.dst undef) (w.setCell ⟨g, 3, none⟩ (.int .i64 v)) := by
     refine hK _ _ (h _ ?_ (Below.setCell (p := ⟨g, 3, none⟩) (Below.refl g w) (Nat.le_refl _) _) (fun k hk => heap_setCell_other _ _ _ _ hk))
     exact heap_setCell_same w g 3 _ _ _ hS
    unfold Oper.wp execOp
    simp only [ho, hx, hy]
    go_simp
    exact hK'
theorem store_score (x y : Operand) (ho : o.op = .store 22 x y) (hgd : Region.wanted o (yielded ops a.tmps) = true) (g : Nat) (s : Std) (T : TypeId) (v : Nat) (hx : a.eval x = .pointer (some ⟨g, 2, none⟩)) (hy : a.eval y = .int .u64 (v : Int)) (hS : StdAt w g s T)
    (h : ∀ w', StdAt w' g ⟨s.bal, s.eff, v, s.streak⟩ T → Below g w w' → (∀ k, k ≠ g → w'.heap[k]? = w.heap[k]?) → wpList Try.prog ops Q rest (a.put o.dst undef) w') : wpList Try.prog ops Q (o :: rest) a w :=
  wpList_step fun K hK => by
    rw [if_pos hgd]
    have hc := hS.c2
    have hf := hS.froz 2
    have hK' : K (a.put o.dst undef) (w.setCell ⟨g, 2, none⟩ (.int .u64 (v : Int))) := by
     refine hK _ _ (h _ ?_ (Below.setCell (p := ⟨g, 2, none⟩) (Below.refl g w) (Nat.le_refl _) _) (fun k hk => heap_setCell_other _ _ _ _ hk))
     exact heap_setCell_same w g 2 _ _ _ hS
    unfold Oper.wp execOp
    simp only [ho, hx, hy]
    go_simp
    exact hK'
end

theorem refleaks_is (m : Int) (w : World) :
    Calls Try.prog 10 #[.int .i64 m] w fun e w' => e = .returned (.bool (Std.leaky m)) ∧ w = w' := by
  by_cases h3 : m = 3
  · subst h3
    go_enter Try.func10, Try.ntmps10
    go_wp2
    go_ret
    exact ⟨rfl, rfl⟩
  · have e1 : (m == 3) = false := by simpa using h3
    have e2 : Std.leaky m = (m == 4) := by unfold Std.leaky; rw [e1]; rfl
    rw [e2]
    clear e2
    go_enter Try.func10, Try.ntmps10
    go_wp2
    go_ret
    exact ⟨by first | rfl | simp [e1], rfl⟩
theorem refrise_is (a b m n : Nat) (w : World) (ha : a < 18446744073709551616) (hb : b < 18446744073709551616) (hm : m < 18446744073709551616) (hn : Hid (min (a + b) m = n)) :
    Calls Try.prog 24 #[.int .u64 (a : Int), .int .u64 (b : Int), .int .u64 (m : Int)] w fun e w' => e = .returned (.int .u64 (n : Int)) ∧ w = w' := by
  have hn' := hn.out
  clear hn
  rcases Nat.lt_or_ge a m with h1 | h1
  · have d1 : decide ((m : Int) ≤ (a : Int)) = false := by simp; omega
    have d2 : decide (m ≤ a) = false := by simp; omega
    obtain ⟨k, rfl⟩ : ∃ k, m = a + k := ⟨m - a, by omega⟩
    have e1 : IntKind.u64.wrap (((a + k : Nat) : Int) - (a : Int)) = (k : Int) := by rw [show ((a + k : Nat) : Int) - (a : Int) = (k : Int) by omega]; exact IntWalk.u64_in _ (by omega)
    rcases Nat.lt_or_ge b k with h2 | h2
    · obtain rfl : a + b = n := by omega
      have d3 : decide ((k : Int) ≤ (b : Int)) = false := by simp; omega
      have d4 : decide (k ≤ b) = false := by simp; omega
      have e2 : IntKind.u64.wrap ((a : Int) + (b : Int)) = ((a + b : Nat) : Int) := by rw [← Int.natCast_add]; exact IntWalk.u64_in _ (by omega)
      have e3 : IntKind.u64.wrap ((a + b : Nat) : Int) = ((a + b : Nat) : Int) := IntWalk.u64_in _ (by omega)
      generalize hM : a + k = M at *
      generalize hN : a + b = N at *
      clear hM hN hn' h1 h2 ha hb hm
      go_enter Try.func24, Try.ntmps24
      go_wp2
      go_ret
      exact ⟨by first | rfl | simp [e2], rfl⟩
    · obtain rfl : a + k = n := by omega
      have d3 : decide ((k : Int) ≤ (b : Int)) = true := by simp; omega
      have d4 : decide (k ≤ b) = true := by simp; omega
      generalize hM : a + k = M at *
      clear hM hn' h1 h2 ha hb hm
      go_enter Try.func24, Try.ntmps24
      go_wp2
      go_ret
      exact ⟨rfl, rfl⟩
  · have d1 : decide ((m : Int) ≤ (a : Int)) = true := by simp; omega
    have d2 : decide (m ≤ a) = true := by simp; omega
    obtain rfl : m = n := by omega
    clear hn' h1 ha hb hm
    go_enter Try.func24, Try.ntmps24
    go_wp2
    go_ret
    exact ⟨rfl, rfl⟩


set_option maxRecDepth 100000 in
set_option maxHeartbeats 1000000 in
theorem splain_is (s : Std) (w : World) :
    Calls Try.prog 13 #[.agg s.vals] w fun e w' => e = .returned (.agg s.vals) ∧ Below w.heap.size w w' := by
  go_enter Try.func13, Try.ntmps13
  go_upto_region 1 with fail
  generalize hw0 : World.alloc _ _ = w0
  have hS : StdAt w0 w.heap.size s 26 := by rw [← hw0]; exact (StdAt.new w s _ rfl).up ((Below.refl _ _).alloc (Nat.le_refl _) _)
  have hN : StdAt w0 (w.heap.size + 1) Std.none 36 := by rw [← hw0]; exact StdAt.new _ Std.none _ (by simp)
  have hB : Below w.heap.size w w0 := by rw [← hw0]; exact ((Below.refl _ _).alloc (Nat.le_refl _) _).alloc (by simp) _
  clear hw0
  go_wp2_with (first
    | (refine load_std _ rfl rfl _ s _ rfl hS ?_)
    | (refine store_rst _ _ rfl rfl _ s Std.none 36 rfl rfl hN ?_; intro w4 hR hb4; have hB := hB.trans (hb4.mono (Nat.le_succ _))))
  refine bodyPost_ret (res_rst Try.results13 rfl hR) rfl ⟨rfl, hB⟩

set_option maxRecDepth 100000 in
set_option maxHeartbeats 1000000 in
theorem refthere_is (s : Std) (p : Par) (m : Int) (w : World) (hs : Par.Spans p) (hf : s.Fits) :
    Calls Try.prog 14 #[.agg p.vals, .agg s.vals, .bool true, .int .i64 m] w fun e w' => e = .returned (.agg (Std.there p s).vals) ∧ Below w.heap.size w w' := by
  have v10 := p.v10
  have v15 := p.v15
  have q0 := hs.streak0
  have q1 := hs.streak1
  have q2 := hf.score
  clear hs hf
  by_cases h1 : 0 < s.streak
  · have d1 : decide ((0) < (s.streak)) = true := by simp; omega
    by_cases h2 : s.streak < p.streak
    · have d2 : decide ((s.streak) < (p.streak)) = true := by simp; omega
      have e2 : IntKind.i64.wrap (s.streak + 1) = s.streak + 1 := IntWalk.i64_in _ (by omega)
      rcases Nat.lt_or_ge p.recover s.score with h3 | h3
      · have d5 : decide (((p.recover : Int)) < ((s.score : Int))) = true := by simp; omega
        have d5n : decide (p.recover < s.score) = true := by simp; omega
        have e5 : IntKind.u64.wrap ((s.score : Int) - (p.recover : Int)) = ((s.score - p.recover : Nat) : Int) := by rw [show ((s.score - p.recover : Nat) : Int) = (s.score : Int) - (p.recover : Int) by omega]; exact IntWalk.u64_in _ (by omega)
        have ht : Std.there p s = ⟨s.bal, s.eff, s.score - p.recover, s.streak + 1⟩ := by simp only [Std.there, Std.mk.injEq, true_and]; omega
        rw [ht]
        clear ht h1 h2 h3 q0 q1 q2
        go_enter Try.func14, Try.ntmps14
        go_upto_region 1 with fail
        generalize hw0 : World.alloc _ _ = w0
        have hP : ParAt w0 w.heap.size p 33 := by rw [← hw0]; exact ((ParAt.new w p _).up ((Below.refl _ _).alloc (Nat.le_refl _) _)).up ((Below.refl _ _).alloc (Nat.le_refl _) _)
        have hS : StdAt w0 (w.heap.size + 1) s 36 := by rw [← hw0]; exact (StdAt.new _ s _ (by simp)).up ((Below.refl _ _).alloc (Nat.le_refl _) _)
        have hN : StdAt w0 (w.heap.size + 1 + 1) Std.none 36 := by rw [← hw0]; exact StdAt.new _ Std.none _ (by simp)
        have hB : Below w.heap.size w w0 := by rw [← hw0]; exact (((Below.refl _ _).alloc (Nat.le_refl _) _).alloc (by simp) _).alloc (by simp; omega) _
        clear hw0
        have c2 := hS.c2
        have c3 := hS.c3
        have p10 := (hP.cell 10).trans v10; have p15 := (hP.cell 15).trans v15
        go_wp2_with (first
          | (refine load_rst _ rfl rfl _ _ _ rfl hS ?_)
          | (refine store_rst _ _ rfl rfl _ _ Std.none 36 rfl rfl hN ?_; intro w4 hR hb4; have hB := hB.trans (hb4.mono (Nat.le_trans (Nat.le_succ _) (Nat.le_succ _))))
          | (refine store_streak _ _ rfl rfl _ _ _ (s.streak + 1) rfl rfl hS ?_; intro w2 hS hb2 hk2; have hP := hP.below hb2 (Nat.lt_succ_self _); have hN := (hk2 _ (by omega)).trans hN; have hB := hB.trans (hb2.mono (Nat.le_succ _)); clear hb2 hk2; have c2 := hS.c2; have c3 := hS.c3; have p10 := (hP.cell 10).trans v10; have p15 := (hP.cell 15).trans v15)
          | (refine store_score _ _ rfl rfl _ _ _ (s.score - p.recover) rfl rfl hS ?_; intro w2 hS hb2 hk2; have hP := hP.below hb2 (Nat.lt_succ_self _); have hN := (hk2 _ (by omega)).trans hN; have hB := hB.trans (hb2.mono (Nat.le_succ _)); clear hb2 hk2; have c2 := hS.c2; have c3 := hS.c3; have p10 := (hP.cell 10).trans v10; have p15 := (hP.cell 15).trans v15))
        refine bodyPost_ret (res_rst Try.results14 rfl hR) rfl ⟨rfl, hB⟩
      · have d5 : decide (((p.recover : Int)) < ((s.score : Int))) = false := by simp; omega
        have d5n : decide (p.recover < s.score) = false := by simp; omega
        have ht : Std.there p s = ⟨s.bal, s.eff, 0, s.streak + 1⟩ := by simp only [Std.there, Std.mk.injEq, true_and]; omega
        rw [ht]
        clear ht h1 h2 h3 q0 q1 q2
        go_enter Try.func14, Try.ntmps14
        go_upto_region 1 with fail
        generalize hw0 : World.alloc _ _ = w0
        have hP : ParAt w0 w.heap.size p 33 := by rw [← hw0]; exact ((ParAt.new w p _).up ((Below.refl _ _).alloc (Nat.le_refl _) _)).up ((Below.refl _ _).alloc (Nat.le_refl _) _)
        have hS : StdAt w0 (w.heap.size + 1) s 36 := by rw [← hw0]; exact (StdAt.new _ s _ (by simp)).up ((Below.refl _ _).alloc (Nat.le_refl _) _)
        have hN : StdAt w0 (w.heap.size + 1 + 1) Std.none 36 := by rw [← hw0]; exact StdAt.new _ Std.none _ (by simp)
        have hB : Below w.heap.size w w0 := by rw [← hw0]; exact (((Below.refl _ _).alloc (Nat.le_refl _) _).alloc (by simp) _).alloc (by simp; omega) _
        clear hw0
        have c2 := hS.c2
        have c3 := hS.c3
        have p10 := (hP.cell 10).trans v10; have p15 := (hP.cell 15).trans v15
        go_wp2_with (first
          | (refine load_rst _ rfl rfl _ _ _ rfl hS ?_)
          | (refine store_rst _ _ rfl rfl _ _ Std.none 36 rfl rfl hN ?_; intro w4 hR hb4; have hB := hB.trans (hb4.mono (Nat.le_trans (Nat.le_succ _) (Nat.le_succ _))))
          | (refine store_streak _ _ rfl rfl _ _ _ (s.streak + 1) rfl rfl hS ?_; intro w2 hS hb2 hk2; have hP := hP.below hb2 (Nat.lt_succ_self _); have hN := (hk2 _ (by omega)).trans hN; have hB := hB.trans (hb2.mono (Nat.le_succ _)); clear hb2 hk2; have c2 := hS.c2; have c3 := hS.c3; have p10 := (hP.cell 10).trans v10; have p15 := (hP.cell 15).trans v15)
          | (refine store_score _ _ rfl rfl _ _ _ (0) rfl rfl hS ?_; intro w2 hS hb2 hk2; have hP := hP.below hb2 (Nat.lt_succ_self _); have hN := (hk2 _ (by omega)).trans hN; have hB := hB.trans (hb2.mono (Nat.le_succ _)); clear hb2 hk2; have c2 := hS.c2; have c3 := hS.c3; have p10 := (hP.cell 10).trans v10; have p15 := (hP.cell 15).trans v15))
        refine bodyPost_ret (res_rst Try.results14 rfl hR) rfl ⟨rfl, hB⟩
    · have d2 : decide ((s.streak) < (p.streak)) = false := by simp; omega
      rcases Nat.lt_or_ge p.recover s.score with h3 | h3
      · have d5 : decide (((p.recover : Int)) < ((s.score : Int))) = true := by simp; omega
        have d5n : decide (p.recover < s.score) = true := by simp; omega
        have e5 : IntKind.u64.wrap ((s.score : Int) - (p.recover : Int)) = ((s.score - p.recover : Nat) : Int) := by rw [show ((s.score - p.recover : Nat) : Int) = (s.score : Int) - (p.recover : Int) by omega]; exact IntWalk.u64_in _ (by omega)
        have ht : Std.there p s = ⟨s.bal, s.eff, s.score - p.recover, p.streak⟩ := by simp only [Std.there, Std.mk.injEq, true_and]; omega
        rw [ht]
        clear ht h1 h2 h3 q0 q1 q2
        go_enter Try.func14, Try.ntmps14
        go_upto_region 1 with fail
        generalize hw0 : World.alloc _ _ = w0
        have hP : ParAt w0 w.heap.size p 33 := by rw [← hw0]; exact ((ParAt.new w p _).up ((Below.refl _ _).alloc (Nat.le_refl _) _)).up ((Below.refl _ _).alloc (Nat.le_refl _) _)
        have hS : StdAt w0 (w.heap.size + 1) s 36 := by rw [← hw0]; exact (StdAt.new _ s _ (by simp)).up ((Below.refl _ _).alloc (Nat.le_refl _) _)
        have hN : StdAt w0 (w.heap.size + 1 + 1) Std.none 36 := by rw [← hw0]; exact StdAt.new _ Std.none _ (by simp)
        have hB : Below w.heap.size w w0 := by rw [← hw0]; exact (((Below.refl _ _).alloc (Nat.le_refl _) _).alloc (by simp) _).alloc (by simp; omega) _
        clear hw0
        have c2 := hS.c2
        have c3 := hS.c3
        have p10 := (hP.cell 10).trans v10; have p15 := (hP.cell 15).trans v15
        go_wp2_with (first
          | (refine load_rst _ rfl rfl _ _ _ rfl hS ?_)
          | (refine store_rst _ _ rfl rfl _ _ Std.none 36 rfl rfl hN ?_; intro w4 hR hb4; have hB := hB.trans (hb4.mono (Nat.le_trans (Nat.le_succ _) (Nat.le_succ _))))
          | (refine store_streak _ _ rfl rfl _ _ _ (p.streak) rfl rfl hS ?_; intro w2 hS hb2 hk2; have hP := hP.below hb2 (Nat.lt_succ_self _); have hN := (hk2 _ (by omega)).trans hN; have hB := hB.trans (hb2.mono (Nat.le_succ _)); clear hb2 hk2; have c2 := hS.c2; have c3 := hS.c3; have p10 := (hP.cell 10).trans v10; have p15 := (hP.cell 15).trans v15)
          | (refine store_score _ _ rfl rfl _ _ _ (s.score - p.recover) rfl rfl hS ?_; intro w2 hS hb2 hk2; have hP := hP.below hb2 (Nat.lt_succ_self _); have hN := (hk2 _ (by omega)).trans hN; have hB := hB.trans (hb2.mono (Nat.le_succ _)); clear hb2 hk2; have c2 := hS.c2; have c3 := hS.c3; have p10 := (hP.cell 10).trans v10; have p15 := (hP.cell 15).trans v15))
        refine bodyPost_ret (res_rst Try.results14 rfl hR) rfl ⟨rfl, hB⟩
      · have d5 : decide (((p.recover : Int)) < ((s.score : Int))) = false := by simp; omega
        have d5n : decide (p.recover < s.score) = false := by simp; omega
        have ht : Std.there p s = ⟨s.bal, s.eff, 0, p.streak⟩ := by simp only [Std.there, Std.mk.injEq, true_and]; omega
        rw [ht]
        clear ht h1 h2 h3 q0 q1 q2
        go_enter Try.func14, Try.ntmps14
        go_upto_region 1 with fail
        generalize hw0 : World.alloc _ _ = w0
        have hP : ParAt w0 w.heap.size p 33 := by rw [← hw0]; exact ((ParAt.new w p _).up ((Below.refl _ _).alloc (Nat.le_refl _) _)).up ((Below.refl _ _).alloc (Nat.le_refl _) _)
        have hS : StdAt w0 (w.heap.size + 1) s 36 := by rw [← hw0]; exact (StdAt.new _ s _ (by simp)).up ((Below.refl _ _).alloc (Nat.le_refl _) _)
        have hN : StdAt w0 (w.heap.size + 1 + 1) Std.none 36 := by rw [← hw0]; exact StdAt.new _ Std.none _ (by simp)
        have hB : Below w.heap.size w w0 := by rw [← hw0]; exact (((Below.refl _ _).alloc (Nat.le_refl _) _).alloc (by simp) _).alloc (by simp; omega) _
        clear hw0
        have c2 := hS.c2
        have c3 := hS.c3
        have p10 := (hP.cell 10).trans v10; have p15 := (hP.cell 15).trans v15
        go_wp2_with (first
          | (refine load_rst _ rfl rfl _ _ _ rfl hS ?_)
          | (refine store_rst _ _ rfl rfl _ _ Std.none 36 rfl rfl hN ?_; intro w4 hR hb4; have hB := hB.trans (hb4.mono (Nat.le_trans (Nat.le_succ _) (Nat.le_succ _))))
          | (refine store_streak _ _ rfl rfl _ _ _ (p.streak) rfl rfl hS ?_; intro w2 hS hb2 hk2; have hP := hP.below hb2 (Nat.lt_succ_self _); have hN := (hk2 _ (by omega)).trans hN; have hB := hB.trans (hb2.mono (Nat.le_succ _)); clear hb2 hk2; have c2 := hS.c2; have c3 := hS.c3; have p10 := (hP.cell 10).trans v10; have p15 := (hP.cell 15).trans v15)
          | (refine store_score _ _ rfl rfl _ _ _ (0) rfl rfl hS ?_; intro w2 hS hb2 hk2; have hP := hP.below hb2 (Nat.lt_succ_self _); have hN := (hk2 _ (by omega)).trans hN; have hB := hB.trans (hb2.mono (Nat.le_succ _)); clear hb2 hk2; have c2 := hS.c2; have c3 := hS.c3; have p10 := (hP.cell 10).trans v10; have p15 := (hP.cell 15).trans v15))
        refine bodyPost_ret (res_rst Try.results14 rfl hR) rfl ⟨rfl, hB⟩
  · have d1 : decide ((0) < (s.streak)) = false := by simp; omega
    by_cases h2 : (0 : Int) < p.streak
    · have d2 : decide (((0 : Int)) < (p.streak)) = true := by simp; omega
      have e2 : IntKind.i64.wrap ((0 : Int) + 1) = (0 : Int) + 1 := IntWalk.i64_in _ (by omega)
      rcases Nat.lt_or_ge p.recover s.score with h3 | h3
      · have d5 : decide (((p.recover : Int)) < ((s.score : Int))) = true := by simp; omega
        have d5n : decide (p.recover < s.score) = true := by simp; omega
        have e5 : IntKind.u64.wrap ((s.score : Int) - (p.recover : Int)) = ((s.score - p.recover : Nat) : Int) := by rw [show ((s.score - p.recover : Nat) : Int) = (s.score : Int) - (p.recover : Int) by omega]; exact IntWalk.u64_in _ (by omega)
        have ht : Std.there p s = ⟨s.bal, s.eff, s.score - p.recover, (0 : Int) + 1⟩ := by simp only [Std.there, Std.mk.injEq, true_and]; omega
        rw [ht]
        clear ht h1 h2 h3 q0 q1 q2
        go_enter Try.func14, Try.ntmps14
        go_upto_region 1 with fail
        generalize hw0 : World.alloc _ _ = w0
        have hP : ParAt w0 w.heap.size p 33 := by rw [← hw0]; exact ((ParAt.new w p _).up ((Below.refl _ _).alloc (Nat.le_refl _) _)).up ((Below.refl _ _).alloc (Nat.le_refl _) _)
        have hS : StdAt w0 (w.heap.size + 1) s 36 := by rw [← hw0]; exact (StdAt.new _ s _ (by simp)).up ((Below.refl _ _).alloc (Nat.le_refl _) _)
        have hN : StdAt w0 (w.heap.size + 1 + 1) Std.none 36 := by rw [← hw0]; exact StdAt.new _ Std.none _ (by simp)
        have hB : Below w.heap.size w w0 := by rw [← hw0]; exact (((Below.refl _ _).alloc (Nat.le_refl _) _).alloc (by simp) _).alloc (by simp; omega) _
        clear hw0
        have c2 := hS.c2
        have c3 := hS.c3
        have p10 := (hP.cell 10).trans v10; have p15 := (hP.cell 15).trans v15
        go_wp2_with (first
          | (refine load_rst _ rfl rfl _ _ _ rfl hS ?_)
          | (refine store_rst _ _ rfl rfl _ _ Std.none 36 rfl rfl hN ?_; intro w4 hR hb4; have hB := hB.trans (hb4.mono (Nat.le_trans (Nat.le_succ _) (Nat.le_succ _))))
          | (refine store_streak _ _ rfl rfl _ _ _ ((0 : Int) + 1) rfl rfl hS ?_; intro w2 hS hb2 hk2; have hP := hP.below hb2 (Nat.lt_succ_self _); have hN := (hk2 _ (by omega)).trans hN; have hB := hB.trans (hb2.mono (Nat.le_succ _)); clear hb2 hk2; have c2 := hS.c2; have c3 := hS.c3; have p10 := (hP.cell 10).trans v10; have p15 := (hP.cell 15).trans v15)
          | (refine store_score _ _ rfl rfl _ _ _ (s.score - p.recover) rfl rfl hS ?_; intro w2 hS hb2 hk2; have hP := hP.below hb2 (Nat.lt_succ_self _); have hN := (hk2 _ (by omega)).trans hN; have hB := hB.trans (hb2.mono (Nat.le_succ _)); clear hb2 hk2; have c2 := hS.c2; have c3 := hS.c3; have p10 := (hP.cell 10).trans v10; have p15 := (hP.cell 15).trans v15))
        refine bodyPost_ret (res_rst Try.results14 rfl hR) rfl ⟨rfl, hB⟩
      · have d5 : decide (((p.recover : Int)) < ((s.score : Int))) = false := by simp; omega
        have d5n : decide (p.recover < s.score) = false := by simp; omega
        have ht : Std.there p s = ⟨s.bal, s.eff, 0, (0 : Int) + 1⟩ := by simp only [Std.there, Std.mk.injEq, true_and]; omega
        rw [ht]
        clear ht h1 h2 h3 q0 q1 q2
        go_enter Try.func14, Try.ntmps14
        go_upto_region 1 with fail
        generalize hw0 : World.alloc _ _ = w0
        have hP : ParAt w0 w.heap.size p 33 := by rw [← hw0]; exact ((ParAt.new w p _).up ((Below.refl _ _).alloc (Nat.le_refl _) _)).up ((Below.refl _ _).alloc (Nat.le_refl _) _)
        have hS : StdAt w0 (w.heap.size + 1) s 36 := by rw [← hw0]; exact (StdAt.new _ s _ (by simp)).up ((Below.refl _ _).alloc (Nat.le_refl _) _)
        have hN : StdAt w0 (w.heap.size + 1 + 1) Std.none 36 := by rw [← hw0]; exact StdAt.new _ Std.none _ (by simp)
        have hB : Below w.heap.size w w0 := by rw [← hw0]; exact (((Below.refl _ _).alloc (Nat.le_refl _) _).alloc (by simp) _).alloc (by simp; omega) _
        clear hw0
        have c2 := hS.c2
        have c3 := hS.c3
        have p10 := (hP.cell 10).trans v10; have p15 := (hP.cell 15).trans v15
        go_wp2_with (first
          | (refine load_rst _ rfl rfl _ _ _ rfl hS ?_)
          | (refine store_rst _ _ rfl rfl _ _ Std.none 36 rfl rfl hN ?_; intro w4 hR hb4; have hB := hB.trans (hb4.mono (Nat.le_trans (Nat.le_succ _) (Nat.le_succ _))))
          | (refine store_streak _ _ rfl rfl _ _ _ ((0 : Int) + 1) rfl rfl hS ?_; intro w2 hS hb2 hk2; have hP := hP.below hb2 (Nat.lt_succ_self _); have hN := (hk2 _ (by omega)).trans hN; have hB := hB.trans (hb2.mono (Nat.le_succ _)); clear hb2 hk2; have c2 := hS.c2; have c3 := hS.c3; have p10 := (hP.cell 10).trans v10; have p15 := (hP.cell 15).trans v15)
          | (refine store_score _ _ rfl rfl _ _ _ (0) rfl rfl hS ?_; intro w2 hS hb2 hk2; have hP := hP.below hb2 (Nat.lt_succ_self _); have hN := (hk2 _ (by omega)).trans hN; have hB := hB.trans (hb2.mono (Nat.le_succ _)); clear hb2 hk2; have c2 := hS.c2; have c3 := hS.c3; have p10 := (hP.cell 10).trans v10; have p15 := (hP.cell 15).trans v15))
        refine bodyPost_ret (res_rst Try.results14 rfl hR) rfl ⟨rfl, hB⟩
    · have d2 : decide (((0 : Int)) < (p.streak)) = false := by simp; omega
      rcases Nat.lt_or_ge p.recover s.score with h3 | h3
      · have d5 : decide (((p.recover : Int)) < ((s.score : Int))) = true := by simp; omega
        have d5n : decide (p.recover < s.score) = true := by simp; omega
        have e5 : IntKind.u64.wrap ((s.score : Int) - (p.recover : Int)) = ((s.score - p.recover : Nat) : Int) := by rw [show ((s.score - p.recover : Nat) : Int) = (s.score : Int) - (p.recover : Int) by omega]; exact IntWalk.u64_in _ (by omega)
        have ht : Std.there p s = ⟨s.bal, s.eff, s.score - p.recover, p.streak⟩ := by simp only [Std.there, Std.mk.injEq, true_and]; omega
        rw [ht]
        clear ht h1 h2 h3 q0 q1 q2
        go_enter Try.func14, Try.ntmps14
        go_upto_region 1 with fail
        generalize hw0 : World.alloc _ _ = w0
        have hP : ParAt w0 w.heap.size p 33 := by rw [← hw0]; exact ((ParAt.new w p _).up ((Below.refl _ _).alloc (Nat.le_refl _) _)).up ((Below.refl _ _).alloc (Nat.le_refl _) _)
        have hS : StdAt w0 (w.heap.size + 1) s 36 := by rw [← hw0]; exact (StdAt.new _ s _ (by simp)).up ((Below.refl _ _).alloc (Nat.le_refl _) _)
        have hN : StdAt w0 (w.heap.size + 1 + 1) Std.none 36 := by rw [← hw0]; exact StdAt.new _ Std.none _ (by simp)
        have hB : Below w.heap.size w w0 := by rw [← hw0]; exact (((Below.refl _ _).alloc (Nat.le_refl _) _).alloc (by simp) _).alloc (by simp; omega) _
        clear hw0
        have c2 := hS.c2
        have c3 := hS.c3
        have p10 := (hP.cell 10).trans v10; have p15 := (hP.cell 15).trans v15
        go_wp2_with (first
          | (refine load_rst _ rfl rfl _ _ _ rfl hS ?_)
          | (refine store_rst _ _ rfl rfl _ _ Std.none 36 rfl rfl hN ?_; intro w4 hR hb4; have hB := hB.trans (hb4.mono (Nat.le_trans (Nat.le_succ _) (Nat.le_succ _))))
          | (refine store_streak _ _ rfl rfl _ _ _ (p.streak) rfl rfl hS ?_; intro w2 hS hb2 hk2; have hP := hP.below hb2 (Nat.lt_succ_self _); have hN := (hk2 _ (by omega)).trans hN; have hB := hB.trans (hb2.mono (Nat.le_succ _)); clear hb2 hk2; have c2 := hS.c2; have c3 := hS.c3; have p10 := (hP.cell 10).trans v10; have p15 := (hP.cell 15).trans v15)
          | (refine store_score _ _ rfl rfl _ _ _ (s.score - p.recover) rfl rfl hS ?_; intro w2 hS hb2 hk2; have hP := hP.below hb2 (Nat.lt_succ_self _); have hN := (hk2 _ (by omega)).trans hN; have hB := hB.trans (hb2.mono (Nat.le_succ _)); clear hb2 hk2; have c2 := hS.c2; have c3 := hS.c3; have p10 := (hP.cell 10).trans v10; have p15 := (hP.cell 15).trans v15))
        refine bodyPost_ret (res_rst Try.results14 rfl hR) rfl ⟨rfl, hB⟩
      · have d5 : decide (((p.recover : Int)) < ((s.score : Int))) = false := by simp; omega
        have d5n : decide (p.recover < s.score) = false := by simp; omega
        have ht : Std.there p s = ⟨s.bal, s.eff, 0, p.streak⟩ := by simp only [Std.there, Std.mk.injEq, true_and]; omega
        rw [ht]
        clear ht h1 h2 h3 q0 q1 q2
        go_enter Try.func14, Try.ntmps14
        go_upto_region 1 with fail
        generalize hw0 : World.alloc _ _ = w0
        have hP : ParAt w0 w.heap.size p 33 := by rw [← hw0]; exact ((ParAt.new w p _).up ((Below.refl _ _).alloc (Nat.le_refl _) _)).up ((Below.refl _ _).alloc (Nat.le_refl _) _)
        have hS : StdAt w0 (w.heap.size + 1) s 36 := by rw [← hw0]; exact (StdAt.new _ s _ (by simp)).up ((Below.refl _ _).alloc (Nat.le_refl _) _)
        have hN : StdAt w0 (w.heap.size + 1 + 1) Std.none 36 := by rw [← hw0]; exact StdAt.new _ Std.none _ (by simp)
        have hB : Below w.heap.size w w0 := by rw [← hw0]; exact (((Below.refl _ _).alloc (Nat.le_refl _) _).alloc (by simp) _).alloc (by simp; omega) _
        clear hw0
        have c2 := hS.c2
        have c3 := hS.c3
        have p10 := (hP.cell 10).trans v10; have p15 := (hP.cell 15).trans v15
        go_wp2_with (first
          | (refine load_rst _ rfl rfl _ _ _ rfl hS ?_)
          | (refine store_rst _ _ rfl rfl _ _ Std.none 36 rfl rfl hN ?_; intro w4 hR hb4; have hB := hB.trans (hb4.mono (Nat.le_trans (Nat.le_succ _) (Nat.le_succ _))))
          | (refine store_streak _ _ rfl rfl _ _ _ (p.streak) rfl rfl hS ?_; intro w2 hS hb2 hk2; have hP := hP.below hb2 (Nat.lt_succ_self _); have hN := (hk2 _ (by omega)).trans hN; have hB := hB.trans (hb2.mono (Nat.le_succ _)); clear hb2 hk2; have c2 := hS.c2; have c3 := hS.c3; have p10 := (hP.cell 10).trans v10; have p15 := (hP.cell 15).trans v15)
          | (refine store_score _ _ rfl rfl _ _ _ (0) rfl rfl hS ?_; intro w2 hS hb2 hk2; have hP := hP.below hb2 (Nat.lt_succ_self _); have hN := (hk2 _ (by omega)).trans hN; have hB := hB.trans (hb2.mono (Nat.le_succ _)); clear hb2 hk2; have c2 := hS.c2; have c3 := hS.c3; have p10 := (hP.cell 10).trans v10; have p15 := (hP.cell 15).trans v15))
        refine bodyPost_ret (res_rst Try.results14 rfl hR) rfl ⟨rfl, hB⟩


set_option maxRecDepth 100000 in
set_option maxHeartbeats 1000000 in
theorem refaway_is (s : Std) (p : Par) (m : Int) (w : World) (hs : Par.Spans p) (hf : s.Fits) :
    Calls Try.prog 14 #[.agg p.vals, .agg s.vals, .bool false, .int .i64 m] w fun e w' => e = .returned (.agg (Std.away p m s).vals) ∧ Below w.heap.size w w' := by
  have v6 := p.v6
  have v8 := p.v8
  have v11 := p.v11
  have q2 := hf.score
  have q3 := hs.score1
  have q4 := hs.bias1
  have q5 := hs.biasEm1
  clear hs hf
  by_cases h3 : m = 3
  · subst h3
    have kr := fun w => refrise_is s.score p.bias p.scoreCap _ w q2 (by omega) (by omega) (Lib.hid rfl)
    rw [show Std.away p 3 s = ⟨s.bal, s.eff, min (s.score + p.bias) p.scoreCap, 0⟩ from rfl]
    clear q2 q3 q4 q5
    generalize min (s.score + p.bias) p.scoreCap = r at *
    go_enter Try.func14, Try.ntmps14
    go_upto_region 1 with fail
    generalize hw0 : World.alloc _ _ = w0
    have hP : ParAt w0 w.heap.size p 33 := by rw [← hw0]; exact ((ParAt.new w p _).up ((Below.refl _ _).alloc (Nat.le_refl _) _)).up ((Below.refl _ _).alloc (Nat.le_refl _) _)
    have hS : StdAt w0 (w.heap.size + 1) s 36 := by rw [← hw0]; exact (StdAt.new _ s _ (by simp)).up ((Below.refl _ _).alloc (Nat.le_refl _) _)
    have hN : StdAt w0 (w.heap.size + 1 + 1) Std.none 36 := by rw [← hw0]; exact StdAt.new _ Std.none _ (by simp)
    have hB : Below w.heap.size w w0 := by rw [← hw0]; exact (((Below.refl _ _).alloc (Nat.le_refl _) _).alloc (by simp) _).alloc (by simp; omega) _
    clear hw0
    have c2 := hS.c2
    have c3 := hS.c3
    have p6 := (hP.cell 6).trans v6; have p8 := (hP.cell 8).trans v8; have p11 := (hP.cell 11).trans v11
    go_wp2_with (first
      | (refine load_rst _ rfl rfl _ _ _ rfl hS ?_)
      | (refine store_rst _ _ rfl rfl _ _ Std.none 36 rfl rfl hN ?_; intro w4 hR hb4; have hB := hB.trans (hb4.mono (Nat.le_trans (Nat.le_succ _) (Nat.le_succ _))))
      | (go_at_call 24; refine (kr _).mono ?_; rintro e w' ⟨rfl, rfl⟩)
      | (refine store_streak _ _ rfl rfl _ _ _ 0 rfl rfl hS ?_; intro w2 hS hb2 hk2; have hP := hP.below hb2 (Nat.lt_succ_self _); have hN := (hk2 _ (by omega)).trans hN; have hB := hB.trans (hb2.mono (Nat.le_succ _)); clear hb2 hk2; have c2 := hS.c2; have c3 := hS.c3; have p6 := (hP.cell 6).trans v6; have p8 := (hP.cell 8).trans v8; have p11 := (hP.cell 11).trans v11)
      | (refine store_score _ _ rfl rfl _ _ _ r rfl rfl hS ?_; intro w2 hS hb2 hk2; have hP := hP.below hb2 (Nat.lt_succ_self _); have hN := (hk2 _ (by omega)).trans hN; have hB := hB.trans (hb2.mono (Nat.le_succ _)); clear hb2 hk2; have c2 := hS.c2; have c3 := hS.c3; have p6 := (hP.cell 6).trans v6; have p8 := (hP.cell 8).trans v8; have p11 := (hP.cell 11).trans v11))
    refine bodyPost_ret (res_rst Try.results14 rfl hR) rfl ⟨rfl, hB⟩
  · by_cases h4 : m = 4
    · subst h4
      have kr := fun w => refrise_is s.score p.biasEm p.scoreCap _ w q2 (by omega) (by omega) (Lib.hid rfl)
      rw [show Std.away p 4 s = ⟨s.bal, s.eff, min (s.score + p.biasEm) p.scoreCap, 0⟩ from rfl]
      clear q2 q3 q4 q5 h3
      generalize min (s.score + p.biasEm) p.scoreCap = r at *
      go_enter Try.func14, Try.ntmps14
      go_upto_region 1 with fail
      generalize hw0 : World.alloc _ _ = w0
      have hP : ParAt w0 w.heap.size p 33 := by rw [← hw0]; exact ((ParAt.new w p _).up ((Below.refl _ _).alloc (Nat.le_refl _) _)).up ((Below.refl _ _).alloc (Nat.le_refl _) _)
      have hS : StdAt w0 (w.heap.size + 1) s 36 := by rw [← hw0]; exact (StdAt.new _ s _ (by simp)).up ((Below.refl _ _).alloc (Nat.le_refl _) _)
      have hN : StdAt w0 (w.heap.size + 1 + 1) Std.none 36 := by rw [← hw0]; exact StdAt.new _ Std.none _ (by simp)
      have hB : Below w.heap.size w w0 := by rw [← hw0]; exact (((Below.refl _ _).alloc (Nat.le_refl _) _).alloc (by simp) _).alloc (by simp; omega) _
      clear hw0
      have c2 := hS.c2
      have c3 := hS.c3
      have p6 := (hP.cell 6).trans v6; have p8 := (hP.cell 8).trans v8; have p11 := (hP.cell 11).trans v11
      go_wp2_with (first
        | (refine load_rst _ rfl rfl _ _ _ rfl hS ?_)
        | (refine store_rst _ _ rfl rfl _ _ Std.none 36 rfl rfl hN ?_; intro w4 hR hb4; have hB := hB.trans (hb4.mono (Nat.le_trans (Nat.le_succ _) (Nat.le_succ _))))
        | (go_at_call 24; refine (kr _).mono ?_; rintro e w' ⟨rfl, rfl⟩)
        | (refine store_streak _ _ rfl rfl _ _ _ 0 rfl rfl hS ?_; intro w2 hS hb2 hk2; have hP := hP.below hb2 (Nat.lt_succ_self _); have hN := (hk2 _ (by omega)).trans hN; have hB := hB.trans (hb2.mono (Nat.le_succ _)); clear hb2 hk2; have c2 := hS.c2; have c3 := hS.c3; have p6 := (hP.cell 6).trans v6; have p8 := (hP.cell 8).trans v8; have p11 := (hP.cell 11).trans v11)
        | (refine store_score _ _ rfl rfl _ _ _ r rfl rfl hS ?_; intro w2 hS hb2 hk2; have hP := hP.below hb2 (Nat.lt_succ_self _); have hN := (hk2 _ (by omega)).trans hN; have hB := hB.trans (hb2.mono (Nat.le_succ _)); clear hb2 hk2; have c2 := hS.c2; have c3 := hS.c3; have p6 := (hP.cell 6).trans v6; have p8 := (hP.cell 8).trans v8; have p11 := (hP.cell 11).trans v11))
      refine bodyPost_ret (res_rst Try.results14 rfl hR) rfl ⟨rfl, hB⟩
    · have e3 : (m == 3) = false := by simpa using h3
      have e4 : (m == 4) = false := by simpa using h4
      rw [show Std.away p m s = ⟨s.bal, s.eff, s.score, 0⟩ by simp only [Std.away, Std.leaky, e3, e4]; rfl]
      clear q2 q3 q4 q5 h3 h4
      go_enter Try.func14, Try.ntmps14
      go_upto_region 1 with fail
      generalize hw0 : World.alloc _ _ = w0
      have hP : ParAt w0 w.heap.size p 33 := by rw [← hw0]; exact ((ParAt.new w p _).up ((Below.refl _ _).alloc (Nat.le_refl _) _)).up ((Below.refl _ _).alloc (Nat.le_refl _) _)
      have hS : StdAt w0 (w.heap.size + 1) s 36 := by rw [← hw0]; exact (StdAt.new _ s _ (by simp)).up ((Below.refl _ _).alloc (Nat.le_refl _) _)
      have hN : StdAt w0 (w.heap.size + 1 + 1) Std.none 36 := by rw [← hw0]; exact StdAt.new _ Std.none _ (by simp)
      have hB : Below w.heap.size w w0 := by rw [← hw0]; exact (((Below.refl _ _).alloc (Nat.le_refl _) _).alloc (by simp) _).alloc (by simp; omega) _
      clear hw0
      have c2 := hS.c2
      have c3 := hS.c3
      have p6 := (hP.cell 6).trans v6; have p8 := (hP.cell 8).trans v8; have p11 := (hP.cell 11).trans v11
      go_wp2_with (first
        | (refine load_rst _ rfl rfl _ _ _ rfl hS ?_)
        | (refine store_rst _ _ rfl rfl _ _ Std.none 36 rfl rfl hN ?_; intro w4 hR hb4; have hB := hB.trans (hb4.mono (Nat.le_trans (Nat.le_succ _) (Nat.le_succ _))))
        | (refine store_streak _ _ rfl rfl _ _ _ 0 rfl rfl hS ?_; intro w2 hS hb2 hk2; have hP := hP.below hb2 (Nat.lt_succ_self _); have hN := (hk2 _ (by omega)).trans hN; have hB := hB.trans (hb2.mono (Nat.le_succ _)); clear hb2 hk2; have c2 := hS.c2; have c3 := hS.c3; have p6 := (hP.cell 6).trans v6; have p8 := (hP.cell 8).trans v8; have p11 := (hP.cell 11).trans v11)
        | (refine store_score _ _ rfl rfl _ _ _ r rfl rfl hS ?_; intro w2 hS hb2 hk2; have hP := hP.below hb2 (Nat.lt_succ_self _); have hN := (hk2 _ (by omega)).trans hN; have hB := hB.trans (hb2.mono (Nat.le_succ _)); clear hb2 hk2; have c2 := hS.c2; have c3 := hS.c3; have p6 := (hP.cell 6).trans v6; have p8 := (hP.cell 8).trans v8; have p11 := (hP.cell 11).trans v11))
      refine bodyPost_ret (res_rst Try.results14 rfl hR) rfl ⟨rfl, hB⟩
theorem refafter_is (s : Std) (p : Par) (x : Bool) (m : Int) (w : World) (hs : Par.Spans p) (hf : s.Fits) :
    Calls Try.prog 14 #[.agg p.vals, .agg s.vals, .bool x, .int .i64 m] w fun e w' => e = .returned (.agg (Std.after p (x, m) s).vals) ∧ Below w.heap.size w w' := by
  cases x with
  | true => exact refthere_is s p m w hs hf
  | false => exact refaway_is s p m w hs hf

set_option maxRecDepth 100000 in
set_option maxHeartbeats 1000000 in
theorem reftrim_is (s : Std) (p : Par) (w : World) (hs : Par.Spans p) :
    Calls Try.prog 15 #[.agg p.vals, .agg s.vals] w fun e w' => e = .returned (.agg (Std.trim p s).vals) ∧ Below w.heap.size w w' := by
  have v11 := p.v11
  have v15 := p.v15
  have q0 := hs.streak0
  clear hs
  rcases Nat.lt_or_ge p.scoreCap s.score with h1 | h1
  · have d1 : decide (((p.scoreCap : Int)) < ((s.score : Int))) = true := by simp; omega
    have d1n : decide (p.scoreCap < s.score) = true := by simp; omega
    by_cases h2 : s.streak < 0
    · have d2 : decide ((s.streak) < (0)) = true := by simp; omega
      have d3 : decide ((p.streak) < (0)) = false := by simp; omega
      rw [show Std.trim p s = ⟨s.bal, s.eff, p.scoreCap, 0⟩ by simp only [Std.trim, Std.mk.injEq, true_and]; omega]
      clear h1 h2 q0
      go_enter Try.func15, Try.ntmps15
      go_upto_region 1 with fail
      generalize hw0 : World.alloc _ _ = w0
      have hP : ParAt w0 w.heap.size p 33 := by rw [← hw0]; exact ((ParAt.new w p _).up ((Below.refl _ _).alloc (Nat.le_refl _) _)).up ((Below.refl _ _).alloc (Nat.le_refl _) _)
      have hS : StdAt w0 (w.heap.size + 1) s 36 := by rw [← hw0]; exact (StdAt.new _ s _ (by simp)).up ((Below.refl _ _).alloc (Nat.le_refl _) _)
      have hN : StdAt w0 (w.heap.size + 1 + 1) Std.none 36 := by rw [← hw0]; exact StdAt.new _ Std.none _ (by simp)
      have hB : Below w.heap.size w w0 := by rw [← hw0]; exact (((Below.refl _ _).alloc (Nat.le_refl _) _).alloc (by simp) _).alloc (by simp; omega) _
      clear hw0
      have c2 := hS.c2
      have c3 := hS.c3
      have p11 := (hP.cell 11).trans v11; have p15 := (hP.cell 15).trans v15
      go_wp2_with (first
        | (refine load_rst _ rfl rfl _ _ _ rfl hS ?_)
        | (refine store_rst _ _ rfl rfl _ _ Std.none 36 rfl rfl hN ?_; intro w4 hR hb4; have hB := hB.trans (hb4.mono (Nat.le_trans (Nat.le_succ _) (Nat.le_succ _))))
        | (refine store_streak _ _ rfl rfl _ _ _ 0 rfl rfl hS ?_; intro w2 hS hb2 hk2; have hP := hP.below hb2 (Nat.lt_succ_self _); have hN := (hk2 _ (by omega)).trans hN; have hB := hB.trans (hb2.mono (Nat.le_succ _)); clear hb2 hk2; have c2 := hS.c2; have c3 := hS.c3; have p11 := (hP.cell 11).trans v11; have p15 := (hP.cell 15).trans v15)
        | (refine store_score _ _ rfl rfl _ _ _ p.scoreCap rfl rfl hS ?_; intro w2 hS hb2 hk2; have hP := hP.below hb2 (Nat.lt_succ_self _); have hN := (hk2 _ (by omega)).trans hN; have hB := hB.trans (hb2.mono (Nat.le_succ _)); clear hb2 hk2; have c2 := hS.c2; have c3 := hS.c3; have p11 := (hP.cell 11).trans v11; have p15 := (hP.cell 15).trans v15))
      refine bodyPost_ret (res_rst Try.results15 rfl hR) rfl ⟨rfl, hB⟩
    · have d2 : decide ((s.streak) < (0)) = false := by simp; omega
      by_cases h3 : p.streak < s.streak
      · have d3 : decide ((p.streak) < (s.streak)) = true := by simp; omega
        rw [show Std.trim p s = ⟨s.bal, s.eff, p.scoreCap, p.streak⟩ by simp only [Std.trim, Std.mk.injEq, true_and]; omega]
        clear h1 h2 h3 q0
        go_enter Try.func15, Try.ntmps15
        go_upto_region 1 with fail
        generalize hw0 : World.alloc _ _ = w0
        have hP : ParAt w0 w.heap.size p 33 := by rw [← hw0]; exact ((ParAt.new w p _).up ((Below.refl _ _).alloc (Nat.le_refl _) _)).up ((Below.refl _ _).alloc (Nat.le_refl _) _)
        have hS : StdAt w0 (w.heap.size + 1) s 36 := by rw [← hw0]; exact (StdAt.new _ s _ (by simp)).up ((Below.refl _ _).alloc (Nat.le_refl _) _)
        have hN : StdAt w0 (w.heap.size + 1 + 1) Std.none 36 := by rw [← hw0]; exact StdAt.new _ Std.none _ (by simp)
        have hB : Below w.heap.size w w0 := by rw [← hw0]; exact (((Below.refl _ _).alloc (Nat.le_refl _) _).alloc (by simp) _).alloc (by simp; omega) _
        clear hw0
        have c2 := hS.c2
        have c3 := hS.c3
        have p11 := (hP.cell 11).trans v11; have p15 := (hP.cell 15).trans v15
        go_wp2_with (first
          | (refine load_rst _ rfl rfl _ _ _ rfl hS ?_)
          | (refine store_rst _ _ rfl rfl _ _ Std.none 36 rfl rfl hN ?_; intro w4 hR hb4; have hB := hB.trans (hb4.mono (Nat.le_trans (Nat.le_succ _) (Nat.le_succ _))))
          | (refine store_streak _ _ rfl rfl _ _ _ p.streak rfl rfl hS ?_; intro w2 hS hb2 hk2; have hP := hP.below hb2 (Nat.lt_succ_self _); have hN := (hk2 _ (by omega)).trans hN; have hB := hB.trans (hb2.mono (Nat.le_succ _)); clear hb2 hk2; have c2 := hS.c2; have c3 := hS.c3; have p11 := (hP.cell 11).trans v11; have p15 := (hP.cell 15).trans v15)
          | (refine store_score _ _ rfl rfl _ _ _ p.scoreCap rfl rfl hS ?_; intro w2 hS hb2 hk2; have hP := hP.below hb2 (Nat.lt_succ_self _); have hN := (hk2 _ (by omega)).trans hN; have hB := hB.trans (hb2.mono (Nat.le_succ _)); clear hb2 hk2; have c2 := hS.c2; have c3 := hS.c3; have p11 := (hP.cell 11).trans v11; have p15 := (hP.cell 15).trans v15))
        refine bodyPost_ret (res_rst Try.results15 rfl hR) rfl ⟨rfl, hB⟩
      · have d3 : decide ((p.streak) < (s.streak)) = false := by simp; omega
        rw [show Std.trim p s = ⟨s.bal, s.eff, p.scoreCap, s.streak⟩ by simp only [Std.trim, Std.mk.injEq, true_and]; omega]
        clear h1 h2 h3 q0
        go_enter Try.func15, Try.ntmps15
        go_upto_region 1 with fail
        generalize hw0 : World.alloc _ _ = w0
        have hP : ParAt w0 w.heap.size p 33 := by rw [← hw0]; exact ((ParAt.new w p _).up ((Below.refl _ _).alloc (Nat.le_refl _) _)).up ((Below.refl _ _).alloc (Nat.le_refl _) _)
        have hS : StdAt w0 (w.heap.size + 1) s 36 := by rw [← hw0]; exact (StdAt.new _ s _ (by simp)).up ((Below.refl _ _).alloc (Nat.le_refl _) _)
        have hN : StdAt w0 (w.heap.size + 1 + 1) Std.none 36 := by rw [← hw0]; exact StdAt.new _ Std.none _ (by simp)
        have hB : Below w.heap.size w w0 := by rw [← hw0]; exact (((Below.refl _ _).alloc (Nat.le_refl _) _).alloc (by simp) _).alloc (by simp; omega) _
        clear hw0
        have c2 := hS.c2
        have c3 := hS.c3
        have p11 := (hP.cell 11).trans v11; have p15 := (hP.cell 15).trans v15
        go_wp2_with (first
          | (refine load_rst _ rfl rfl _ _ _ rfl hS ?_)
          | (refine store_rst _ _ rfl rfl _ _ Std.none 36 rfl rfl hN ?_; intro w4 hR hb4; have hB := hB.trans (hb4.mono (Nat.le_trans (Nat.le_succ _) (Nat.le_succ _))))
          | (refine store_streak _ _ rfl rfl _ _ _ p.streak rfl rfl hS ?_; intro w2 hS hb2 hk2; have hP := hP.below hb2 (Nat.lt_succ_self _); have hN := (hk2 _ (by omega)).trans hN; have hB := hB.trans (hb2.mono (Nat.le_succ _)); clear hb2 hk2; have c2 := hS.c2; have c3 := hS.c3; have p11 := (hP.cell 11).trans v11; have p15 := (hP.cell 15).trans v15)
          | (refine store_score _ _ rfl rfl _ _ _ p.scoreCap rfl rfl hS ?_; intro w2 hS hb2 hk2; have hP := hP.below hb2 (Nat.lt_succ_self _); have hN := (hk2 _ (by omega)).trans hN; have hB := hB.trans (hb2.mono (Nat.le_succ _)); clear hb2 hk2; have c2 := hS.c2; have c3 := hS.c3; have p11 := (hP.cell 11).trans v11; have p15 := (hP.cell 15).trans v15))
        refine bodyPost_ret (res_rst Try.results15 rfl hR) rfl ⟨rfl, hB⟩
  · have d1 : decide (((p.scoreCap : Int)) < ((s.score : Int))) = false := by simp; omega
    have d1n : decide (p.scoreCap < s.score) = false := by simp; omega
    by_cases h2 : s.streak < 0
    · have d2 : decide ((s.streak) < (0)) = true := by simp; omega
      have d3 : decide ((p.streak) < (0)) = false := by simp; omega
      rw [show Std.trim p s = ⟨s.bal, s.eff, s.score, 0⟩ by simp only [Std.trim, Std.mk.injEq, true_and]; omega]
      clear h1 h2 q0
      go_enter Try.func15, Try.ntmps15
      go_upto_region 1 with fail
      generalize hw0 : World.alloc _ _ = w0
      have hP : ParAt w0 w.heap.size p 33 := by rw [← hw0]; exact ((ParAt.new w p _).up ((Below.refl _ _).alloc (Nat.le_refl _) _)).up ((Below.refl _ _).alloc (Nat.le_refl _) _)
      have hS : StdAt w0 (w.heap.size + 1) s 36 := by rw [← hw0]; exact (StdAt.new _ s _ (by simp)).up ((Below.refl _ _).alloc (Nat.le_refl _) _)
      have hN : StdAt w0 (w.heap.size + 1 + 1) Std.none 36 := by rw [← hw0]; exact StdAt.new _ Std.none _ (by simp)
      have hB : Below w.heap.size w w0 := by rw [← hw0]; exact (((Below.refl _ _).alloc (Nat.le_refl _) _).alloc (by simp) _).alloc (by simp; omega) _
      clear hw0
      have c2 := hS.c2
      have c3 := hS.c3
      have p11 := (hP.cell 11).trans v11; have p15 := (hP.cell 15).trans v15
      go_wp2_with (first
        | (refine load_rst _ rfl rfl _ _ _ rfl hS ?_)
        | (refine store_rst _ _ rfl rfl _ _ Std.none 36 rfl rfl hN ?_; intro w4 hR hb4; have hB := hB.trans (hb4.mono (Nat.le_trans (Nat.le_succ _) (Nat.le_succ _))))
        | (refine store_streak _ _ rfl rfl _ _ _ 0 rfl rfl hS ?_; intro w2 hS hb2 hk2; have hP := hP.below hb2 (Nat.lt_succ_self _); have hN := (hk2 _ (by omega)).trans hN; have hB := hB.trans (hb2.mono (Nat.le_succ _)); clear hb2 hk2; have c2 := hS.c2; have c3 := hS.c3; have p11 := (hP.cell 11).trans v11; have p15 := (hP.cell 15).trans v15)
        | (refine store_score _ _ rfl rfl _ _ _ s.score rfl rfl hS ?_; intro w2 hS hb2 hk2; have hP := hP.below hb2 (Nat.lt_succ_self _); have hN := (hk2 _ (by omega)).trans hN; have hB := hB.trans (hb2.mono (Nat.le_succ _)); clear hb2 hk2; have c2 := hS.c2; have c3 := hS.c3; have p11 := (hP.cell 11).trans v11; have p15 := (hP.cell 15).trans v15))
      refine bodyPost_ret (res_rst Try.results15 rfl hR) rfl ⟨rfl, hB⟩
    · have d2 : decide ((s.streak) < (0)) = false := by simp; omega
      by_cases h3 : p.streak < s.streak
      · have d3 : decide ((p.streak) < (s.streak)) = true := by simp; omega
        rw [show Std.trim p s = ⟨s.bal, s.eff, s.score, p.streak⟩ by simp only [Std.trim, Std.mk.injEq, true_and]; omega]
        clear h1 h2 h3 q0
        go_enter Try.func15, Try.ntmps15
        go_upto_region 1 with fail
        generalize hw0 : World.alloc _ _ = w0
        have hP : ParAt w0 w.heap.size p 33 := by rw [← hw0]; exact ((ParAt.new w p _).up ((Below.refl _ _).alloc (Nat.le_refl _) _)).up ((Below.refl _ _).alloc (Nat.le_refl _) _)
        have hS : StdAt w0 (w.heap.size + 1) s 36 := by rw [← hw0]; exact (StdAt.new _ s _ (by simp)).up ((Below.refl _ _).alloc (Nat.le_refl _) _)
        have hN : StdAt w0 (w.heap.size + 1 + 1) Std.none 36 := by rw [← hw0]; exact StdAt.new _ Std.none _ (by simp)
        have hB : Below w.heap.size w w0 := by rw [← hw0]; exact (((Below.refl _ _).alloc (Nat.le_refl _) _).alloc (by simp) _).alloc (by simp; omega) _
        clear hw0
        have c2 := hS.c2
        have c3 := hS.c3
        have p11 := (hP.cell 11).trans v11; have p15 := (hP.cell 15).trans v15
        go_wp2_with (first
          | (refine load_rst _ rfl rfl _ _ _ rfl hS ?_)
          | (refine store_rst _ _ rfl rfl _ _ Std.none 36 rfl rfl hN ?_; intro w4 hR hb4; have hB := hB.trans (hb4.mono (Nat.le_trans (Nat.le_succ _) (Nat.le_succ _))))
          | (refine store_streak _ _ rfl rfl _ _ _ p.streak rfl rfl hS ?_; intro w2 hS hb2 hk2; have hP := hP.below hb2 (Nat.lt_succ_self _); have hN := (hk2 _ (by omega)).trans hN; have hB := hB.trans (hb2.mono (Nat.le_succ _)); clear hb2 hk2; have c2 := hS.c2; have c3 := hS.c3; have p11 := (hP.cell 11).trans v11; have p15 := (hP.cell 15).trans v15)
          | (refine store_score _ _ rfl rfl _ _ _ s.score rfl rfl hS ?_; intro w2 hS hb2 hk2; have hP := hP.below hb2 (Nat.lt_succ_self _); have hN := (hk2 _ (by omega)).trans hN; have hB := hB.trans (hb2.mono (Nat.le_succ _)); clear hb2 hk2; have c2 := hS.c2; have c3 := hS.c3; have p11 := (hP.cell 11).trans v11; have p15 := (hP.cell 15).trans v15))
        refine bodyPost_ret (res_rst Try.results15 rfl hR) rfl ⟨rfl, hB⟩
      · have d3 : decide ((p.streak) < (s.streak)) = false := by simp; omega
        rw [show Std.trim p s = ⟨s.bal, s.eff, s.score, s.streak⟩ by simp only [Std.trim, Std.mk.injEq, true_and]; omega]
        clear h1 h2 h3 q0
        go_enter Try.func15, Try.ntmps15
        go_upto_region 1 with fail
        generalize hw0 : World.alloc _ _ = w0
        have hP : ParAt w0 w.heap.size p 33 := by rw [← hw0]; exact ((ParAt.new w p _).up ((Below.refl _ _).alloc (Nat.le_refl _) _)).up ((Below.refl _ _).alloc (Nat.le_refl _) _)
        have hS : StdAt w0 (w.heap.size + 1) s 36 := by rw [← hw0]; exact (StdAt.new _ s _ (by simp)).up ((Below.refl _ _).alloc (Nat.le_refl _) _)
        have hN : StdAt w0 (w.heap.size + 1 + 1) Std.none 36 := by rw [← hw0]; exact StdAt.new _ Std.none _ (by simp)
        have hB : Below w.heap.size w w0 := by rw [← hw0]; exact (((Below.refl _ _).alloc (Nat.le_refl _) _).alloc (by simp) _).alloc (by simp; omega) _
        clear hw0
        have c2 := hS.c2
        have c3 := hS.c3
        have p11 := (hP.cell 11).trans v11; have p15 := (hP.cell 15).trans v15
        go_wp2_with (first
          | (refine load_rst _ rfl rfl _ _ _ rfl hS ?_)
          | (refine store_rst _ _ rfl rfl _ _ Std.none 36 rfl rfl hN ?_; intro w4 hR hb4; have hB := hB.trans (hb4.mono (Nat.le_trans (Nat.le_succ _) (Nat.le_succ _))))
          | (refine store_streak _ _ rfl rfl _ _ _ p.streak rfl rfl hS ?_; intro w2 hS hb2 hk2; have hP := hP.below hb2 (Nat.lt_succ_self _); have hN := (hk2 _ (by omega)).trans hN; have hB := hB.trans (hb2.mono (Nat.le_succ _)); clear hb2 hk2; have c2 := hS.c2; have c3 := hS.c3; have p11 := (hP.cell 11).trans v11; have p15 := (hP.cell 15).trans v15)
          | (refine store_score _ _ rfl rfl _ _ _ s.score rfl rfl hS ?_; intro w2 hS hb2 hk2; have hP := hP.below hb2 (Nat.lt_succ_self _); have hN := (hk2 _ (by omega)).trans hN; have hB := hB.trans (hb2.mono (Nat.le_succ _)); clear hb2 hk2; have c2 := hS.c2; have c3 := hS.c3; have p11 := (hP.cell 11).trans v11; have p15 := (hP.cell 15).trans v15))
        refine bodyPost_ret (res_rst Try.results15 rfl hR) rfl ⟨rfl, hB⟩
end Go.Proofs.Ytfdjpaaahekkbaa
