/- Layer 21 (supply): a mint and a burn that are refused; the chapter's example. By contracts. -/
import Derived.Test.YtoaeckfppoaljaaSupD
namespace Go.Proofs.Ytoaeckfppoaljaa
open Go.RowKit Go.Shelf
set_option linter.unusedVariables false
set_option linter.unusedSimpArgs false

theorem size_sta' : (Try.prog.info? 34).map (·.size) = some (Rec.vals Sta.zero).size := by kernel_rfl

set_option maxRecDepth 100000 in
set_option maxHeartbeats 1000000 in
theorem mint_no0 (s : Sta) (a : Nat) (w : World) (hs : StaAt w s) (ha : a ≤ 18446744073709551615) (c : Nat) (hc : s.gen + (s.mint + (a + 0)) = c) (g0 : 18446744073709551615 < c) :
    Calls Try.prog 16 #[.agg (Rec.vals s), .int .u64 (a : Int)] w fun e w' => e = .returned (.tuple #[.agg (Rec.vals Sta.zero), .int .i64 210]) ∧ Below w.heap.size w w' := by
  have ks : ∀ W : World, Calls Try.prog 21 #[.slice (some ⟨W.heap.size, 0, none⟩) 3 3] (W.alloc (.cells #[.int .u64 (s.gen : Int), .int .u64 (s.mint : Int), .int .u64 (a : Int)] 22)) fun e w' => e = .returned (.tuple #[.int .u64 (tx c : Nat), .int .i64 (te c : Nat)]) ∧ W.alloc (.cells #[.int .u64 (s.gen : Int), .int .u64 (s.mint : Int), .int .u64 (a : Int)] 22) = w' := fun W => by
    have h := sum_told [s.gen, s.mint, a] _ 3 _ _ (row_new W [s.gen, s.mint, a] 22) (by show 3 ≤ maxLen; decide) (by
      intro n hn
      simp only [List.mem_cons, List.not_mem_nil, or_false] at hn
      have := hs.gen
      have := hs.mint
      rcases hn with rfl | rfl | rfl <;> omega)
    rw [show tot [s.gen, s.mint, a] = c from hc] at h
    exact h
  rw [tx_out g0, te_out g0, show ((0 : Nat) : Int) = 0 from rfl, show ((10 : Nat) : Int) = 10 from rfl] at ks

  have KS := Lib.hid ks
  clear ks hs ha hc g0
  go_enter Try.func16, Try.ntmps16
  go_upto_region 1 with fail
  generalize hw0 : World.alloc (World.alloc _ _) _ = w0
  have hS : RecAt w0 w.heap.size (Rec.vals s) 34 := by rw [← hw0]; exact (RecAt.new w (Rec.vals s) 34).up ((Below.refl _ _).alloc (Nat.le_refl _) _)
  have hN : RecAt w0 (w.heap.size + 1) (Rec.vals Sta.zero) 34 := by
    rw [← hw0]
    have := RecAt.new (w.alloc (.cells (Rec.vals s) 34)) (Rec.vals Sta.zero) 34
    rw [World.size_alloc] at this
    exact this
  have hB : Below w.heap.size w w0 := by rw [← hw0]; exact ((Below.refl _ _).alloc (Nat.le_refl _) _).alloc (by simp) _
  clear hw0
  have c25 : w0.cell? ⟨w.heap.size, 25, none⟩ = some (.int .u64 (s.gen : Int)) := hS.cell 25
  have c26 : w0.cell? ⟨w.heap.size, 26, none⟩ = some (.int .u64 (s.mint : Int)) := hS.cell 26
  go_wp2_with (first
    | (go_at_call 21; refine (KS.out _).mono ?_; clear KS; rintro e w1 ⟨rfl, rfl⟩; have hb := (Below.refl w0.heap.size w0).alloc (Nat.le_refl _) (.cells #[.int .u64 (s.gen : Int), .int .u64 (s.mint : Int), .int .u64 (a : Int)] 22); have hS := hS.up hb; have hN := hN.up hb; have hB := Below.then hB hb; clear hb; generalize (w0.alloc (.cells #[.int .u64 (s.gen : Int), .int .u64 (s.mint : Int), .int .u64 (a : Int)] 22)) = w1 at hS hN hB ⊢; have c24 : w1.cell? ⟨w.heap.size, 24, none⟩ = some (.int .u64 (s.most : Int)) := hS.cell 24; have c28 : w1.cell? ⟨w.heap.size, 28, none⟩ = some (.int .u64 (s.treas : Int)) := hS.cell 28)
    | (refine build_rec 34 #[] rfl rfl (Rec.vals Sta.zero) ?_ ?_; · kernel_rfl)
    | (refine store_rec 34 _ _ rfl rfl _ (Rec.vals Sta.zero) (Rec.vals Sta.zero) 34 rfl rfl hN size_sta rfl (Rec.one Sta.zero) ?_; intro w5 hR hb5 hz5 hk5; have hB := hB.trans (hb5.mono (Nat.le_succ _)); clear hz5 hk5 hb5))
  refine bodyPost_ret (res_rec2 _ Try.results16 rfl hR Try.underlying34 size_sta) rfl ⟨by first | rfl | simp, hB⟩

set_option maxRecDepth 100000 in
set_option maxHeartbeats 1000000 in
theorem mint_no1 (s : Sta) (a : Nat) (w : World) (hs : StaAt w s) (ha : a ≤ 18446744073709551615) (c : Nat) (hc : s.gen + (s.mint + (a + 0)) = c) (g0 : c ≤ 18446744073709551615) (g1 : s.most < c) :
    Calls Try.prog 16 #[.agg (Rec.vals s), .int .u64 (a : Int)] w fun e w' => e = .returned (.tuple #[.agg (Rec.vals Sta.zero), .int .i64 210]) ∧ Below w.heap.size w w' := by
  have ks : ∀ W : World, Calls Try.prog 21 #[.slice (some ⟨W.heap.size, 0, none⟩) 3 3] (W.alloc (.cells #[.int .u64 (s.gen : Int), .int .u64 (s.mint : Int), .int .u64 (a : Int)] 22)) fun e w' => e = .returned (.tuple #[.int .u64 (tx c : Nat), .int .i64 (te c : Nat)]) ∧ W.alloc (.cells #[.int .u64 (s.gen : Int), .int .u64 (s.mint : Int), .int .u64 (a : Int)] 22) = w' := fun W => by
    have h := sum_told [s.gen, s.mint, a] _ 3 _ _ (row_new W [s.gen, s.mint, a] 22) (by show 3 ≤ maxLen; decide) (by
      intro n hn
      simp only [List.mem_cons, List.not_mem_nil, or_false] at hn
      have := hs.gen
      have := hs.mint
      rcases hn with rfl | rfl | rfl <;> omega)
    rw [show tot [s.gen, s.mint, a] = c from hc] at h
    exact h
  rw [tx_in g0, te_in g0, show ((0 : Nat) : Int) = 0 from rfl] at ks
  have i1 : (s.most : Int) < (c : Int) := by omega
  have d1 : decide ((s.most : Int) < (c : Int)) = true := decide_eq_true i1

  have KS := Lib.hid ks
  clear ks hs ha hc g0 g1
  go_enter Try.func16, Try.ntmps16
  go_upto_region 1 with fail
  generalize hw0 : World.alloc (World.alloc _ _) _ = w0
  have hS : RecAt w0 w.heap.size (Rec.vals s) 34 := by rw [← hw0]; exact (RecAt.new w (Rec.vals s) 34).up ((Below.refl _ _).alloc (Nat.le_refl _) _)
  have hN : RecAt w0 (w.heap.size + 1) (Rec.vals Sta.zero) 34 := by
    rw [← hw0]
    have := RecAt.new (w.alloc (.cells (Rec.vals s) 34)) (Rec.vals Sta.zero) 34
    rw [World.size_alloc] at this
    exact this
  have hB : Below w.heap.size w w0 := by rw [← hw0]; exact ((Below.refl _ _).alloc (Nat.le_refl _) _).alloc (by simp) _
  clear hw0
  have c25 : w0.cell? ⟨w.heap.size, 25, none⟩ = some (.int .u64 (s.gen : Int)) := hS.cell 25
  have c26 : w0.cell? ⟨w.heap.size, 26, none⟩ = some (.int .u64 (s.mint : Int)) := hS.cell 26
  go_wp2_with (first
    | (go_at_call 21; refine (KS.out _).mono ?_; clear KS; rintro e w1 ⟨rfl, rfl⟩; have hb := (Below.refl w0.heap.size w0).alloc (Nat.le_refl _) (.cells #[.int .u64 (s.gen : Int), .int .u64 (s.mint : Int), .int .u64 (a : Int)] 22); have hS := hS.up hb; have hN := hN.up hb; have hB := Below.then hB hb; clear hb; generalize (w0.alloc (.cells #[.int .u64 (s.gen : Int), .int .u64 (s.mint : Int), .int .u64 (a : Int)] 22)) = w1 at hS hN hB ⊢; have c24 : w1.cell? ⟨w.heap.size, 24, none⟩ = some (.int .u64 (s.most : Int)) := hS.cell 24; have c28 : w1.cell? ⟨w.heap.size, 28, none⟩ = some (.int .u64 (s.treas : Int)) := hS.cell 28)
    | (refine build_rec 34 #[] rfl rfl (Rec.vals Sta.zero) ?_ ?_; · kernel_rfl)
    | (refine store_rec 34 _ _ rfl rfl _ (Rec.vals Sta.zero) (Rec.vals Sta.zero) 34 rfl rfl hN size_sta rfl (Rec.one Sta.zero) ?_; intro w5 hR hb5 hz5 hk5; have hB := hB.trans (hb5.mono (Nat.le_succ _)); clear hz5 hk5 hb5))
  refine bodyPost_ret (res_rec2 _ Try.results16 rfl hR Try.underlying34 size_sta) rfl ⟨by first | rfl | simp, hB⟩

set_option maxRecDepth 100000 in
set_option maxHeartbeats 1000000 in
theorem mint_no2 (s : Sta) (a : Nat) (w : World) (hs : StaAt w s) (ha : a ≤ 18446744073709551615) (c : Nat) (hc : s.gen + (s.mint + (a + 0)) = c) (g0 : c ≤ 18446744073709551615) (g1 : c ≤ s.most) (g2 : 4611686018427387904 < c) :
    Calls Try.prog 16 #[.agg (Rec.vals s), .int .u64 (a : Int)] w fun e w' => e = .returned (.tuple #[.agg (Rec.vals Sta.zero), .int .i64 210]) ∧ Below w.heap.size w w' := by
  have ks : ∀ W : World, Calls Try.prog 21 #[.slice (some ⟨W.heap.size, 0, none⟩) 3 3] (W.alloc (.cells #[.int .u64 (s.gen : Int), .int .u64 (s.mint : Int), .int .u64 (a : Int)] 22)) fun e w' => e = .returned (.tuple #[.int .u64 (tx c : Nat), .int .i64 (te c : Nat)]) ∧ W.alloc (.cells #[.int .u64 (s.gen : Int), .int .u64 (s.mint : Int), .int .u64 (a : Int)] 22) = w' := fun W => by
    have h := sum_told [s.gen, s.mint, a] _ 3 _ _ (row_new W [s.gen, s.mint, a] 22) (by show 3 ≤ maxLen; decide) (by
      intro n hn
      simp only [List.mem_cons, List.not_mem_nil, or_false] at hn
      have := hs.gen
      have := hs.mint
      rcases hn with rfl | rfl | rfl <;> omega)
    rw [show tot [s.gen, s.mint, a] = c from hc] at h
    exact h
  rw [tx_in g0, te_in g0, show ((0 : Nat) : Int) = 0 from rfl] at ks
  have i1 : ¬ (s.most : Int) < (c : Int) := by omega
  have d1 : decide ((s.most : Int) < (c : Int)) = false := decide_eq_false i1
  have i2 : (4611686018427387904 : Int) < (c : Int) := by omega
  have d2 : decide ((4611686018427387904 : Int) < (c : Int)) = true := decide_eq_true i2

  have KS := Lib.hid ks
  clear ks hs ha hc g0 g1 g2
  go_enter Try.func16, Try.ntmps16
  go_upto_region 1 with fail
  generalize hw0 : World.alloc (World.alloc _ _) _ = w0
  have hS : RecAt w0 w.heap.size (Rec.vals s) 34 := by rw [← hw0]; exact (RecAt.new w (Rec.vals s) 34).up ((Below.refl _ _).alloc (Nat.le_refl _) _)
  have hN : RecAt w0 (w.heap.size + 1) (Rec.vals Sta.zero) 34 := by
    rw [← hw0]
    have := RecAt.new (w.alloc (.cells (Rec.vals s) 34)) (Rec.vals Sta.zero) 34
    rw [World.size_alloc] at this
    exact this
  have hB : Below w.heap.size w w0 := by rw [← hw0]; exact ((Below.refl _ _).alloc (Nat.le_refl _) _).alloc (by simp) _
  clear hw0
  have c25 : w0.cell? ⟨w.heap.size, 25, none⟩ = some (.int .u64 (s.gen : Int)) := hS.cell 25
  have c26 : w0.cell? ⟨w.heap.size, 26, none⟩ = some (.int .u64 (s.mint : Int)) := hS.cell 26
  go_wp2_with (first
    | (go_at_call 21; refine (KS.out _).mono ?_; clear KS; rintro e w1 ⟨rfl, rfl⟩; have hb := (Below.refl w0.heap.size w0).alloc (Nat.le_refl _) (.cells #[.int .u64 (s.gen : Int), .int .u64 (s.mint : Int), .int .u64 (a : Int)] 22); have hS := hS.up hb; have hN := hN.up hb; have hB := Below.then hB hb; clear hb; generalize (w0.alloc (.cells #[.int .u64 (s.gen : Int), .int .u64 (s.mint : Int), .int .u64 (a : Int)] 22)) = w1 at hS hN hB ⊢; have c24 : w1.cell? ⟨w.heap.size, 24, none⟩ = some (.int .u64 (s.most : Int)) := hS.cell 24; have c28 : w1.cell? ⟨w.heap.size, 28, none⟩ = some (.int .u64 (s.treas : Int)) := hS.cell 28)
    | (refine build_rec 34 #[] rfl rfl (Rec.vals Sta.zero) ?_ ?_; · kernel_rfl)
    | (refine store_rec 34 _ _ rfl rfl _ (Rec.vals Sta.zero) (Rec.vals Sta.zero) 34 rfl rfl hN size_sta rfl (Rec.one Sta.zero) ?_; intro w5 hR hb5 hz5 hk5; have hB := hB.trans (hb5.mono (Nat.le_succ _)); clear hz5 hk5 hb5))
  refine bodyPost_ret (res_rec2 _ Try.results16 rfl hR Try.underlying34 size_sta) rfl ⟨by first | rfl | simp, hB⟩

set_option maxRecDepth 100000 in
set_option maxHeartbeats 1000000 in
theorem mint_no3 (s : Sta) (a : Nat) (w : World) (hs : StaAt w s) (ha : a ≤ 18446744073709551615) (c : Nat) (hc : s.gen + (s.mint + (a + 0)) = c) (g0 : c ≤ 18446744073709551615) (g1 : c ≤ s.most) (g2 : c ≤ 4611686018427387904) (g3 : 18446744073709551615 < s.treas + a) :
    Calls Try.prog 16 #[.agg (Rec.vals s), .int .u64 (a : Int)] w fun e w' => e = .returned (.tuple #[.agg (Rec.vals Sta.zero), .int .i64 210]) ∧ Below w.heap.size w w' := by
  have ks : ∀ W : World, Calls Try.prog 21 #[.slice (some ⟨W.heap.size, 0, none⟩) 3 3] (W.alloc (.cells #[.int .u64 (s.gen : Int), .int .u64 (s.mint : Int), .int .u64 (a : Int)] 22)) fun e w' => e = .returned (.tuple #[.int .u64 (tx c : Nat), .int .i64 (te c : Nat)]) ∧ W.alloc (.cells #[.int .u64 (s.gen : Int), .int .u64 (s.mint : Int), .int .u64 (a : Int)] 22) = w' := fun W => by
    have h := sum_told [s.gen, s.mint, a] _ 3 _ _ (row_new W [s.gen, s.mint, a] 22) (by show 3 ≤ maxLen; decide) (by
      intro n hn
      simp only [List.mem_cons, List.not_mem_nil, or_false] at hn
      have := hs.gen
      have := hs.mint
      rcases hn with rfl | rfl | rfl <;> omega)
    rw [show tot [s.gen, s.mint, a] = c from hc] at h
    exact h
  rw [tx_in g0, te_in g0, show ((0 : Nat) : Int) = 0 from rfl] at ks
  have i1 : ¬ (s.most : Int) < (c : Int) := by omega
  have d1 : decide ((s.most : Int) < (c : Int)) = false := decide_eq_false i1
  have i2 : ¬ (4611686018427387904 : Int) < (c : Int) := by omega
  have d2 : decide ((4611686018427387904 : Int) < (c : Int)) = false := decide_eq_false i2

  have kt := fun W => money_add_over (s.treas : Int) (a : Int) W (by omega) (by have := hs.treas; omega) (by omega) (by omega) (by omega)
  have KT := Lib.hid kt
  clear kt
  have KS := Lib.hid ks
  clear ks hs ha hc g0 g1 g2 g3
  go_enter Try.func16, Try.ntmps16
  go_upto_region 1 with fail
  generalize hw0 : World.alloc (World.alloc _ _) _ = w0
  have hS : RecAt w0 w.heap.size (Rec.vals s) 34 := by rw [← hw0]; exact (RecAt.new w (Rec.vals s) 34).up ((Below.refl _ _).alloc (Nat.le_refl _) _)
  have hN : RecAt w0 (w.heap.size + 1) (Rec.vals Sta.zero) 34 := by
    rw [← hw0]
    have := RecAt.new (w.alloc (.cells (Rec.vals s) 34)) (Rec.vals Sta.zero) 34
    rw [World.size_alloc] at this
    exact this
  have hB : Below w.heap.size w w0 := by rw [← hw0]; exact ((Below.refl _ _).alloc (Nat.le_refl _) _).alloc (by simp) _
  clear hw0
  have c25 : w0.cell? ⟨w.heap.size, 25, none⟩ = some (.int .u64 (s.gen : Int)) := hS.cell 25
  have c26 : w0.cell? ⟨w.heap.size, 26, none⟩ = some (.int .u64 (s.mint : Int)) := hS.cell 26
  go_wp2_with (first
    | (go_at_call 21; refine (KS.out _).mono ?_; clear KS; rintro e w1 ⟨rfl, rfl⟩; have hb := (Below.refl w0.heap.size w0).alloc (Nat.le_refl _) (.cells #[.int .u64 (s.gen : Int), .int .u64 (s.mint : Int), .int .u64 (a : Int)] 22); have hS := hS.up hb; have hN := hN.up hb; have hB := Below.then hB hb; clear hb; generalize (w0.alloc (.cells #[.int .u64 (s.gen : Int), .int .u64 (s.mint : Int), .int .u64 (a : Int)] 22)) = w1 at hS hN hB ⊢; have c24 : w1.cell? ⟨w.heap.size, 24, none⟩ = some (.int .u64 (s.most : Int)) := hS.cell 24; have c28 : w1.cell? ⟨w.heap.size, 28, none⟩ = some (.int .u64 (s.treas : Int)) := hS.cell 28)
    | (go_at_call 29; refine (KT.out _).mono ?_; clear KT; rintro e w2 ⟨rfl, rfl⟩)
    | (refine build_rec 34 #[] rfl rfl (Rec.vals Sta.zero) ?_ ?_; · kernel_rfl)
    | (refine store_rec 34 _ _ rfl rfl _ (Rec.vals Sta.zero) (Rec.vals Sta.zero) 34 rfl rfl hN size_sta rfl (Rec.one Sta.zero) ?_; intro w5 hR hb5 hz5 hk5; have hB := hB.trans (hb5.mono (Nat.le_succ _)); clear hz5 hk5 hb5))
  refine bodyPost_ret (res_rec2 _ Try.results16 rfl hR Try.underlying34 size_sta) rfl ⟨by first | rfl | simp, hB⟩

/-- What may not be minted isn't. -/
theorem mint_no (s : Sta) (a : Nat) (w : World) (hs : StaAt w s) (ha : a ≤ 18446744073709551615) (h : s.most < s.gen + s.mint + a ∨ 4611686018427387904 < s.gen + s.mint + a ∨ 18446744073709551615 < s.treas + a) :
    Calls Try.prog 16 #[.agg (Rec.vals s), .int .u64 (a : Int)] w fun e w' => e = .returned (.tuple #[.agg (Rec.vals Sta.zero), .int .i64 210]) ∧ Below w.heap.size w w' := by
  by_cases g0 : 18446744073709551615 < s.gen + (s.mint + (a + 0))
  · exact mint_no0 s a w hs ha _ rfl g0
  by_cases g1 : s.most < s.gen + (s.mint + (a + 0))
  · exact mint_no1 s a w hs ha _ rfl (by omega) g1
  by_cases g2 : 4611686018427387904 < s.gen + (s.mint + (a + 0))
  · exact mint_no2 s a w hs ha _ rfl (by omega) (by omega) g2
  · exact mint_no3 s a w hs ha _ rfl (by omega) (by omega) (by omega) (by omega)

set_option maxRecDepth 100000 in
set_option maxHeartbeats 1000000 in
theorem burn_no0 (s : Sta) (a : Nat) (w : World) (hs : StaAt w s) (ha : a ≤ 18446744073709551615) (g0 : s.treas < a) :
    Calls Try.prog 17 #[.agg (Rec.vals s), .int .u64 (a : Int)] w fun e w' => e = .returned (.tuple #[.agg (Rec.vals Sta.zero), .int .i64 171]) ∧ Below w.heap.size w w' := by
  have kt := fun W => money_sub_under (s.treas : Int) (a : Int) W (by omega)
  have KT := Lib.hid kt
  clear kt hs ha g0
  go_enter Try.func17, Try.ntmps17
  go_upto_region 1 with fail
  generalize hw0 : World.alloc (World.alloc _ _) _ = w0
  have hS : RecAt w0 w.heap.size (Rec.vals s) 34 := by rw [← hw0]; exact (RecAt.new w (Rec.vals s) 34).up ((Below.refl _ _).alloc (Nat.le_refl _) _)
  have hN : RecAt w0 (w.heap.size + 1) (Rec.vals Sta.zero) 34 := by
    rw [← hw0]
    have := RecAt.new (w.alloc (.cells (Rec.vals s) 34)) (Rec.vals Sta.zero) 34
    rw [World.size_alloc] at this
    exact this
  have hB : Below w.heap.size w w0 := by rw [← hw0]; exact ((Below.refl _ _).alloc (Nat.le_refl _) _).alloc (by simp) _
  clear hw0
  have c27 : w0.cell? ⟨w.heap.size, 27, none⟩ = some (.int .u64 (s.burn : Int)) := hS.cell 27
  have c28 : w0.cell? ⟨w.heap.size, 28, none⟩ = some (.int .u64 (s.treas : Int)) := hS.cell 28
  go_wp2_with (first
    | (go_at_call 22; refine (KT.out _).mono ?_; clear KT; rintro e w2 ⟨rfl, rfl⟩)
    | (refine build_rec 34 #[] rfl rfl (Rec.vals Sta.zero) ?_ ?_; · kernel_rfl)
    | (refine store_rec 34 _ _ rfl rfl _ (Rec.vals Sta.zero) (Rec.vals Sta.zero) 34 rfl rfl hN size_sta rfl (Rec.one Sta.zero) ?_; intro w5 hR hb5 hz5 hk5; have hB := hB.trans (hb5.mono (Nat.le_succ _)); clear hz5 hk5 hb5))
  refine bodyPost_ret (res_rec2 _ Try.results17 rfl hR Try.underlying34 size_sta) rfl ⟨by first | rfl | simp, hB⟩

set_option maxRecDepth 100000 in
set_option maxHeartbeats 1000000 in
theorem burn_no1 (s : Sta) (a : Nat) (w : World) (hs : StaAt w s) (ha : a ≤ 18446744073709551615) (g0 : a ≤ s.treas) (g1 : 18446744073709551615 < s.burn + a) :
    Calls Try.prog 17 #[.agg (Rec.vals s), .int .u64 (a : Int)] w fun e w' => e = .returned (.tuple #[.agg (Rec.vals Sta.zero), .int .i64 10]) ∧ Below w.heap.size w w' := by
  have kt := fun W => money_sub_ok (s.treas : Int) (a : Int) W (by omega) (by have := hs.treas; omega) (by omega)
  have ku := fun W => money_add_over (s.burn : Int) (a : Int) W (by omega) (by have := hs.burn; omega) (by omega) (by omega) (by omega)
  have KT := Lib.hid kt
  have KU := Lib.hid ku
  clear kt ku hs ha g0 g1
  go_enter Try.func17, Try.ntmps17
  go_upto_region 1 with fail
  generalize hw0 : World.alloc (World.alloc _ _) _ = w0
  have hS : RecAt w0 w.heap.size (Rec.vals s) 34 := by rw [← hw0]; exact (RecAt.new w (Rec.vals s) 34).up ((Below.refl _ _).alloc (Nat.le_refl _) _)
  have hN : RecAt w0 (w.heap.size + 1) (Rec.vals Sta.zero) 34 := by
    rw [← hw0]
    have := RecAt.new (w.alloc (.cells (Rec.vals s) 34)) (Rec.vals Sta.zero) 34
    rw [World.size_alloc] at this
    exact this
  have hB : Below w.heap.size w w0 := by rw [← hw0]; exact ((Below.refl _ _).alloc (Nat.le_refl _) _).alloc (by simp) _
  clear hw0
  have c27 : w0.cell? ⟨w.heap.size, 27, none⟩ = some (.int .u64 (s.burn : Int)) := hS.cell 27
  have c28 : w0.cell? ⟨w.heap.size, 28, none⟩ = some (.int .u64 (s.treas : Int)) := hS.cell 28
  go_wp2_with (first
    | (go_at_call 22; refine (KT.out _).mono ?_; clear KT; rintro e w2 ⟨rfl, rfl⟩)
    | (go_at_call 29; refine (KU.out _).mono ?_; clear KU; rintro e w3 ⟨rfl, rfl⟩)
    | (refine build_rec 34 #[] rfl rfl (Rec.vals Sta.zero) ?_ ?_; · kernel_rfl)
    | (refine store_rec 34 _ _ rfl rfl _ (Rec.vals Sta.zero) (Rec.vals Sta.zero) 34 rfl rfl hN size_sta rfl (Rec.one Sta.zero) ?_; intro w5 hR hb5 hz5 hk5; have hB := hB.trans (hb5.mono (Nat.le_succ _)); clear hz5 hk5 hb5))
  refine bodyPost_ret (res_rec2 _ Try.results17 rfl hR Try.underlying34 size_sta) rfl ⟨by first | rfl | simp, hB⟩

/-- The example's state, where its one list lies. -/
def exS (g : Nat) : Sta := ⟨Par.none, 20, 10, 0, 0, 6, 0, 0, false, ⟨[4], some ⟨g, 0, none⟩, 1⟩, ⟨[], none, 0⟩, ⟨[], none, 0⟩, ⟨[], none, 0⟩, ⟨[], none, 0⟩, ⟨[], none, 0⟩, ⟨[], none, 0⟩, ⟨none, [], 0⟩, ⟨[], none, 0⟩⟩
/-- .. and one of nothing but what came. -/
def exT : Sta := ⟨Par.none, 20, 10, 0, 0, 0, 0, 0, false, ⟨[], none, 0⟩, ⟨[], none, 0⟩, ⟨[], none, 0⟩, ⟨[], none, 0⟩, ⟨[], none, 0⟩, ⟨[], none, 0⟩, ⟨[], none, 0⟩, ⟨none, [], 0⟩, ⟨[], none, 0⟩⟩
theorem par_none_fits : Par.none.Fits := ⟨by intro x hx; simp [Par.us, Par.none] at hx; omega, by intro x hx; simp [Par.is, Par.none] at hx; omega⟩
theorem exT_at (w : World) : StaAt w exT :=
  ⟨par_none_fits, by decide, by decide, by decide, by decide, by decide, by decide, by decide, SlAt.nil _ _, by simp [exT], SlAt.nil _ _, by simp [exT], SlAt.nil _ _, SlAt.nil _ _, SlAt.nil _ _, by simp [exT], SlAt.nil _ _, by simp [exT], SlAt.nil _ _, by simp [exT], BvAt.nil _, SlAt.nil _ _, by simp [exT]⟩
theorem exS_at {w : World} {g : Nat} (h : Row w w.heap.size (some ⟨g, 0, none⟩) (u64s [4])) : StaAt w (exS g) :=
  ⟨par_none_fits, by show 20 < _; decide, by show 10 < _; decide, by show 0 < _; decide, by show 0 < _; decide, by show 6 < _; decide, ⟨by show (-9223372036854775808 : Int) ≤ 0; decide, by show (0 : Int) ≤ 9223372036854775807; decide⟩, ⟨by show (-9223372036854775808 : Int) ≤ 0; decide, by show (0 : Int) ≤ 9223372036854775807; decide⟩, ⟨by show 1 * 8 ≤ _; decide, Nat.le_refl _, by show 1 ≤ maxLen; decide, by simp [exS], h⟩, by simp [exS], SlAt.nil _ _, by simp [exS], SlAt.nil _ _, SlAt.nil _ _, SlAt.nil _ _, by simp [exS], SlAt.nil _ _, by simp [exS], SlAt.nil _ _, by simp [exS], BvAt.nil _, SlAt.nil _ _, by simp [exS]⟩
theorem exS_holds (g : Nat) : (exS g).Holds := by unfold Sta.Holds Sta.whole exS; simp [bals, tot, totDep, totDue]
theorem exT_holds : ¬ exT.Holds := by unfold Sta.Holds Sta.whole; decide

set_option maxRecDepth 100000 in
set_option maxHeartbeats 2000000 in
theorem supply_awake (w : World) : Calls Try.prog 5 #[] w fun e w' => e = .returned (.bool true) ∧ Below w.heap.size w w' := by
  have hrow : ∀ W, Below (w.heap.size + 1) (w.alloc (.cells #[.int .u64 4] 22)) W → StaAt W (exS w.heap.size) := fun W hB => exS_at (row_kept (by
    have h := row_new w [4] 22
    rw [World.size_alloc]
    exact h) (by rw [World.size_alloc]; exact hB))
  have km := fun W hB => mint_no (exS w.heap.size) 11 W (hrow W hB) (by decide) (.inl (show 20 < 10 + 0 + 11 by decide))
  have kh := fun W hB => holds_is (exS w.heap.size) W (hrow W hB) (show 0 ≤ 1000000 by decide) (show 0 ≤ 1000000 by decide) (show 0 ≤ 1000000 by decide)
  have kn := fun W => holds_is exT W (exT_at W) (by decide) (by decide) (by decide)
  rw [decide_eq_true (exS_holds _)] at kh
  rw [decide_eq_false exT_holds] at kn
  rw [show ((11 : Nat) : Int) = 11 from rfl] at km
  have KM := Lib.hid km
  have KH := Lib.hid kh
  have KN := Lib.hid kn
  have hN0 : RecAt ((w.alloc (.cells #[.int .u64 4] 22)).alloc (.cells (Rec.vals Sta.zero) 34)) (w.heap.size + 1) (Rec.vals Sta.zero) 34 := by
    have h := RecAt.new (w.alloc (.cells #[.int .u64 4] 22)) (Rec.vals Sta.zero) 34
    rw [World.size_alloc] at h
    exact h
  have hB0 : Below (w.heap.size + 1) (w.alloc (.cells #[.int .u64 4] 22)) ((w.alloc (.cells #[.int .u64 4] 22)).alloc (.cells (Rec.vals Sta.zero) 34)) := (Below.refl _ _).alloc (by simp) _
  clear km kh kn hrow
  go_enter Try.func5, Try.ntmps5
  go_wp2_with (first
    | (refine build_rec 34 #[(1, .const (.int .u64 20)), (2, .const (.int .u64 10)), (9, .tmp 4), (5, .const (.int .u64 6))] rfl rfl (Rec.vals (exS w.heap.size)) ?_ ?_; · kernel_rfl)
    | (refine build_rec 34 #[(1, .const (.int .u64 20)), (2, .const (.int .u64 10))] rfl rfl (Rec.vals exT) ?_ ?_; · kernel_rfl)
    | (refine store_rec 34 _ _ rfl rfl _ (Rec.vals (exS w.heap.size)) (Rec.vals Sta.zero) 34 rfl rfl hN0 size_sta rfl (Rec.one (exS w.heap.size)) ?_; intro w1 hS hb1 hz1 hk1; have hB := hB0.trans hb1; clear hz1 hk1 hb1 hB0 hN0)
    | ((with_reducible refine slot_is 7 rfl ?_); refine load_rec 34 _ rfl rfl _ (Rec.vals (exS w.heap.size)) rfl hS.lies Try.underlying34 size_sta ?_)
    | (go_at_call 16; refine (KM.out w1 hB).mono ?_; clear KM; rintro e w2 ⟨rfl, hb⟩; have hS := hS.up hb; have hB := hB.trans (hb.mono (Nat.le_trans (Nat.le_of_eq (World.size_alloc _ _).symm) hB.size)); clear hb)
    | (refine store_rec 34 _ _ rfl rfl _ (Rec.vals Sta.zero) (Rec.vals Sta.zero) 34 rfl rfl (RecAt.new _ _ _) size_sta rfl (Rec.one Sta.zero) ?_; intro w3 hT hb3 hz3 hk3; have hb3 := rec_made (Below.refl _ _) hb3; have hS := hS.up hb3; have hB := hB.trans (hb3.mono (Nat.le_trans (Nat.le_of_eq (World.size_alloc _ _).symm) hB.size)); clear hz3 hk3 hb3)
    | ((with_reducible refine slot_is 11 rfl ?_); refine load_rec 34 _ rfl rfl _ (Rec.vals (exS w.heap.size)) rfl hS.lies Try.underlying34 size_sta ?_)
    | (go_at_call 9; refine (KH.out w3 hB).mono ?_; clear KH; rintro e w4 ⟨rfl, hb⟩; have hT := hT.up hb; have hB := hB.trans (hb.mono (Nat.le_trans (Nat.le_of_eq (World.size_alloc _ _).symm) hB.size)); clear hb hS; have c25 : w4.cell? ⟨w2.heap.size, 25, none⟩ = some (.int .u64 0) := hT.cell 25)
    | (go_at_call 9; refine (KN.out _).mono ?_; clear KN; rintro e w5 ⟨rfl, hb⟩; have hB := hB.trans (hb.mono (Nat.le_trans (Nat.le_of_eq (World.size_alloc _ _).symm) hB.size)); clear hb))
  go_ret
  exact ⟨by first | rfl | simp, Below.trans ((Below.refl _ w).alloc (Nat.le_refl _) _) (hB.mono (Nat.le_succ _))⟩
end Go.Proofs.Ytoaeckfppoaljaa
