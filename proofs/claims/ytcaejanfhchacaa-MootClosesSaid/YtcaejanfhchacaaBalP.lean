/- Layer 22 (ballot): what passes; the chapter's example. By contracts. -/
import Derived.Test.YtcaejanfhchacaaBal
import Derived.Test.YtcaejanfhchacaaMooN
namespace Go.Proofs.Ytcaejanfhchacaa
open Go.RowKit Go.Deep
set_option linter.unusedVariables false
set_option linter.unusedSimpArgs false

set_option maxRecDepth 100000 in
set_option maxHeartbeats 1000000 in
theorem passes_over (p : Par) (t : Tly) (h : 18446744073709551615 < t.yes + t.no) (w : World) (ht : t.Fits) : Calls Try.prog 95 #[.agg p.vals, .agg (Rec.vals t)] w fun e w' => e = .returned (.bool false) ∧ Below w.heap.size w w' := by
  have ks := fun (W : World) => sum_told [t.yes, t.no] (some ⟨W.heap.size, 0, none⟩) 2 (W.heap.size + 1) (W.alloc (.cells (u64s [t.yes, t.no]).toArray 35)) (row_new W _ _) (by simp [maxLen]) (by simp; exact ⟨ht.yes, ht.no⟩)
  rw [show tot [t.yes, t.no] = t.yes + t.no by simp [tot]] at ks
  rw [tx_out (by omega), te_out (by omega), show ((0 : Nat) : Int) = 0 from rfl, show ((10 : Nat) : Int) = 10 from rfl] at ks
  clear h
  have KS := Lib.hid ks
  clear ks
  go_enter Try.func95, Try.ntmps95
  go_upto_region 1 with fail
  generalize hw0 : World.alloc (World.alloc _ _) _ = w0
  have hP : ParAt w0 w.heap.size p 37 := by rw [← hw0]; exact (ParAt.new w p 37).up ((Below.refl _ _).alloc (Nat.le_refl _) _)
  have hT : RecAt w0 (w.heap.size + 1) (Rec.vals t) 148 := by
    rw [← hw0]
    have := RecAt.new (w.alloc (.cells p.vals 37)) (Rec.vals t) 148
    rw [World.size_alloc] at this
    exact this
  have hB : Below w.heap.size w w0 := by rw [← hw0]; exact ((Below.refl _ _).alloc (Nat.le_refl _) _).alloc (by simp) _
  clear hw0
  have c0 : w0.cell? ⟨w.heap.size + 1, 0, none⟩ = some (.int .u64 (t.yes : Int)) := hT.cell 0
  have c1 : w0.cell? ⟨w.heap.size + 1, 1, none⟩ = some (.int .u64 (t.no : Int)) := hT.cell 1
  go_wp2_with (first
    | (go_at_call 110; refine (KS.out w0).mono ?_; clear KS; rintro e w1 ⟨rfl, rfl⟩; have hb1 : Below w0.heap.size w0 (w0.alloc (.cells (u64s [t.yes, t.no]).toArray 35)) := (Below.refl _ _).alloc (Nat.le_refl _) _; generalize w0.alloc (.cells (u64s [t.yes, t.no]).toArray 35) = W1 at *; have hP := hP.up hb1; have hT := hT.up hb1; have hB := Below.then hB hb1; clear hb1 c0 c1))
  go_ret
  exact ⟨by first | rfl | simp, hB⟩

set_option maxRecDepth 100000 in
set_option maxHeartbeats 1000000 in
theorem passes_minus (p : Par) (t : Tly) (h : t.yes + t.no ≤ 18446744073709551615) (hq : p.quorum < 0) (w : World) (ht : t.Fits) : Calls Try.prog 95 #[.agg p.vals, .agg (Rec.vals t)] w fun e w' => e = .returned (.bool false) ∧ Below w.heap.size w w' := by
  have ks := fun (W : World) => sum_told [t.yes, t.no] (some ⟨W.heap.size, 0, none⟩) 2 (W.heap.size + 1) (W.alloc (.cells (u64s [t.yes, t.no]).toArray 35)) (row_new W _ _) (by simp [maxLen]) (by simp; exact ⟨ht.yes, ht.no⟩)
  rw [show tot [t.yes, t.no] = t.yes + t.no by simp [tot]] at ks
  obtain ⟨s, hs⟩ : ∃ s, t.yes + t.no = s := ⟨_, rfl⟩
  rw [tx_in (by omega), te_in (by omega), hs, show ((0 : Nat) : Int) = 0 from rfl] at ks
  have d1 : decide (p.quorum < 0) = true := decide_eq_true hq
  clear h hs
  have KS := Lib.hid ks
  clear ks
  go_enter Try.func95, Try.ntmps95
  go_upto_region 1 with fail
  generalize hw0 : World.alloc (World.alloc _ _) _ = w0
  have hP : ParAt w0 w.heap.size p 37 := by rw [← hw0]; exact (ParAt.new w p 37).up ((Below.refl _ _).alloc (Nat.le_refl _) _)
  have hT : RecAt w0 (w.heap.size + 1) (Rec.vals t) 148 := by
    rw [← hw0]
    have := RecAt.new (w.alloc (.cells p.vals 37)) (Rec.vals t) 148
    rw [World.size_alloc] at this
    exact this
  have hB : Below w.heap.size w w0 := by rw [← hw0]; exact ((Below.refl _ _).alloc (Nat.le_refl _) _).alloc (by simp) _
  clear hw0
  have c0 : w0.cell? ⟨w.heap.size + 1, 0, none⟩ = some (.int .u64 (t.yes : Int)) := hT.cell 0
  have c1 : w0.cell? ⟨w.heap.size + 1, 1, none⟩ = some (.int .u64 (t.no : Int)) := hT.cell 1
  go_wp2_with (first
    | (go_at_call 110; refine (KS.out w0).mono ?_; clear KS; rintro e w1 ⟨rfl, rfl⟩; have hb1 : Below w0.heap.size w0 (w0.alloc (.cells (u64s [t.yes, t.no]).toArray 35)) := (Below.refl _ _).alloc (Nat.le_refl _) _; generalize w0.alloc (.cells (u64s [t.yes, t.no]).toArray 35) = W1 at *; have hP := hP.up hb1; have hT := hT.up hb1; have hB := Below.then hB hb1; clear hb1 c0 c1; have c23 : W1.cell? ⟨w.heap.size, 23, none⟩ = some (.int .i64 p.quorum) := hP.cell 23))
  go_ret
  exact ⟨by first | rfl | simp, hB⟩

set_option maxRecDepth 100000 in
set_option maxHeartbeats 1000000 in
theorem passes_none (p : Par) (t : Tly) (h : t.yes + t.no ≤ 18446744073709551615) (h0 : 0 ≤ p.quorum) (ha : t.act = 0) (w : World) (ht : t.Fits) : Calls Try.prog 95 #[.agg p.vals, .agg (Rec.vals t)] w fun e w' => e = .returned (.bool false) ∧ Below w.heap.size w w' := by
  have ks := fun (W : World) => sum_told [t.yes, t.no] (some ⟨W.heap.size, 0, none⟩) 2 (W.heap.size + 1) (W.alloc (.cells (u64s [t.yes, t.no]).toArray 35)) (row_new W _ _) (by simp [maxLen]) (by simp; exact ⟨ht.yes, ht.no⟩)
  rw [show tot [t.yes, t.no] = t.yes + t.no by simp [tot]] at ks
  obtain ⟨s, hs⟩ : ∃ s, t.yes + t.no = s := ⟨_, rfl⟩
  rw [tx_in (by omega), te_in (by omega), hs, show ((0 : Nat) : Int) = 0 from rfl] at ks
  obtain ⟨q, hq⟩ : ∃ q : Nat, p.quorum = (q : Int) := Int.eq_ofNat_of_zero_le h0
  have d1 : decide ((q : Int) < 0) = false := decide_eq_false (by omega)
  have d1' : ((q : Int) < 0) = False := eq_false (by omega)
  have v2 : (Rec.vals t)[2]? = some (Value.int .u64 (0 : Int)) := by show some (Value.int .u64 (t.act : Int)) = _; rw [ha]; rfl
  clear h hs h0
  have KS := Lib.hid ks
  clear ks
  go_enter Try.func95, Try.ntmps95
  go_upto_region 1 with fail
  generalize hw0 : World.alloc (World.alloc _ _) _ = w0
  have hP : ParAt w0 w.heap.size p 37 := by rw [← hw0]; exact (ParAt.new w p 37).up ((Below.refl _ _).alloc (Nat.le_refl _) _)
  have hT : RecAt w0 (w.heap.size + 1) (Rec.vals t) 148 := by
    rw [← hw0]
    have := RecAt.new (w.alloc (.cells p.vals 37)) (Rec.vals t) 148
    rw [World.size_alloc] at this
    exact this
  have hB : Below w.heap.size w w0 := by rw [← hw0]; exact ((Below.refl _ _).alloc (Nat.le_refl _) _).alloc (by simp) _
  clear hw0
  have c0 : w0.cell? ⟨w.heap.size + 1, 0, none⟩ = some (.int .u64 (t.yes : Int)) := hT.cell 0
  have c1 : w0.cell? ⟨w.heap.size + 1, 1, none⟩ = some (.int .u64 (t.no : Int)) := hT.cell 1
  go_wp2_with (first
    | (go_at_call 110; refine (KS.out w0).mono ?_; clear KS; rintro e w1 ⟨rfl, rfl⟩; have hb1 : Below w0.heap.size w0 (w0.alloc (.cells (u64s [t.yes, t.no]).toArray 35)) := (Below.refl _ _).alloc (Nat.le_refl _) _; generalize w0.alloc (.cells (u64s [t.yes, t.no]).toArray 35) = W1 at *; have hP := hP.up hb1; have hT := hT.up hb1; have hB := Below.then hB hb1; clear hb1 c0 c1; have c23 : W1.cell? ⟨w.heap.size, 23, none⟩ = some (.int .i64 (q : Int)) := hq ▸ hP.cell 23; have c0 : W1.cell? ⟨w.heap.size + 1, 0, none⟩ = some (.int .u64 (t.yes : Int)) := hT.cell 0; have c1 : W1.cell? ⟨w.heap.size + 1, 1, none⟩ = some (.int .u64 (t.no : Int)) := hT.cell 1; have c2 : W1.cell? ⟨w.heap.size + 1, 2, none⟩ = some (.int .u64 (0 : Int)) := (hT.cell 2).trans v2))
  go_ret
  exact ⟨by first | rfl | simp, hB⟩

set_option maxRecDepth 100000 in
set_option maxHeartbeats 1000000 in
theorem passes_few (p : Par) (t : Tly) (h : t.yes + t.no ≤ 18446744073709551615) (h0 : 0 ≤ p.quorum) (ha : 0 < t.act) (hy : t.yes ≤ t.no) (w : World) (ht : t.Fits) : Calls Try.prog 95 #[.agg p.vals, .agg (Rec.vals t)] w fun e w' => e = .returned (.bool false) ∧ Below w.heap.size w w' := by
  have ks := fun (W : World) => sum_told [t.yes, t.no] (some ⟨W.heap.size, 0, none⟩) 2 (W.heap.size + 1) (W.alloc (.cells (u64s [t.yes, t.no]).toArray 35)) (row_new W _ _) (by simp [maxLen]) (by simp; exact ⟨ht.yes, ht.no⟩)
  rw [show tot [t.yes, t.no] = t.yes + t.no by simp [tot]] at ks
  obtain ⟨s, hs⟩ : ∃ s, t.yes + t.no = s := ⟨_, rfl⟩
  rw [tx_in (by omega), te_in (by omega), hs, show ((0 : Nat) : Int) = 0 from rfl] at ks
  obtain ⟨q, hq⟩ : ∃ q : Nat, p.quorum = (q : Int) := Int.eq_ofNat_of_zero_le h0
  have d1 : decide ((q : Int) < 0) = false := decide_eq_false (by omega)
  have d1' : ((q : Int) < 0) = False := eq_false (by omega)
  have d2 : decide ((0 : Int) < (t.act : Int)) = true := decide_eq_true (by omega)
  have d3 : decide ((t.no : Int) < (t.yes : Int)) = false := decide_eq_false (by omega)
  have d4 : decide (t.no < t.yes) = false := decide_eq_false (by omega)
  have d5 : decide (0 < t.act) = true := decide_eq_true ha
  clear h hs h0 ha hy
  have KS := Lib.hid ks
  clear ks
  go_enter Try.func95, Try.ntmps95
  go_upto_region 1 with fail
  generalize hw0 : World.alloc (World.alloc _ _) _ = w0
  have hP : ParAt w0 w.heap.size p 37 := by rw [← hw0]; exact (ParAt.new w p 37).up ((Below.refl _ _).alloc (Nat.le_refl _) _)
  have hT : RecAt w0 (w.heap.size + 1) (Rec.vals t) 148 := by
    rw [← hw0]
    have := RecAt.new (w.alloc (.cells p.vals 37)) (Rec.vals t) 148
    rw [World.size_alloc] at this
    exact this
  have hB : Below w.heap.size w w0 := by rw [← hw0]; exact ((Below.refl _ _).alloc (Nat.le_refl _) _).alloc (by simp) _
  clear hw0
  have c0 : w0.cell? ⟨w.heap.size + 1, 0, none⟩ = some (.int .u64 (t.yes : Int)) := hT.cell 0
  have c1 : w0.cell? ⟨w.heap.size + 1, 1, none⟩ = some (.int .u64 (t.no : Int)) := hT.cell 1
  go_wp2_with (first
    | (go_at_call 110; refine (KS.out w0).mono ?_; clear KS; rintro e w1 ⟨rfl, rfl⟩; have hb1 : Below w0.heap.size w0 (w0.alloc (.cells (u64s [t.yes, t.no]).toArray 35)) := (Below.refl _ _).alloc (Nat.le_refl _) _; generalize w0.alloc (.cells (u64s [t.yes, t.no]).toArray 35) = W1 at *; have hP := hP.up hb1; have hT := hT.up hb1; have hB := Below.then hB hb1; clear hb1 c0 c1; have c23 : W1.cell? ⟨w.heap.size, 23, none⟩ = some (.int .i64 (q : Int)) := hq ▸ hP.cell 23; have c0 : W1.cell? ⟨w.heap.size + 1, 0, none⟩ = some (.int .u64 (t.yes : Int)) := hT.cell 0; have c1 : W1.cell? ⟨w.heap.size + 1, 1, none⟩ = some (.int .u64 (t.no : Int)) := hT.cell 1; have c2 : W1.cell? ⟨w.heap.size + 1, 2, none⟩ = some (.int .u64 (t.act : Int)) := hT.cell 2))
  go_ret
  exact ⟨by first | rfl | simp, hB⟩

set_option maxRecDepth 100000 in
set_option maxHeartbeats 1000000 in
theorem passes_weigh (p : Par) (t : Tly) (b : Bool) (hp : p.Fits) (h : t.yes + t.no ≤ 18446744073709551615) (h0 : 0 ≤ p.quorum) (ha : 0 < t.act) (hy : t.no < t.yes) (hb : Hid (decide ((t.yes + t.no) * 10000 < p.quorum.toNat * t.act) = b)) (w : World) (ht : t.Fits) : Calls Try.prog 95 #[.agg p.vals, .agg (Rec.vals t)] w fun e w' => e = .returned (.bool (!b)) ∧ Below w.heap.size w w' := by
  have ks := fun (W : World) => sum_told [t.yes, t.no] (some ⟨W.heap.size, 0, none⟩) 2 (W.heap.size + 1) (W.alloc (.cells (u64s [t.yes, t.no]).toArray 35)) (row_new W _ _) (by simp [maxLen]) (by simp; exact ⟨ht.yes, ht.no⟩)
  rw [show tot [t.yes, t.no] = t.yes + t.no by simp [tot]] at ks
  obtain ⟨s, hs⟩ : ∃ s, t.yes + t.no = s := ⟨_, rfl⟩
  rw [tx_in (by omega), te_in (by omega), hs, show ((0 : Nat) : Int) = 0 from rfl] at ks
  obtain ⟨q, hq⟩ : ∃ q : Nat, p.quorum = (q : Int) := Int.eq_ofNat_of_zero_le h0
  have d1 : decide ((q : Int) < 0) = false := decide_eq_false (by omega)
  have d1' : ((q : Int) < 0) = False := eq_false (by omega)
  have d2 : decide ((0 : Int) < (t.act : Int)) = true := decide_eq_true (by omega)
  have d3 : decide ((t.no : Int) < (t.yes : Int)) = true := decide_eq_true (by omega)
  have d4 : decide (t.no < t.yes) = true := decide_eq_true (by omega)
  have d5 : decide (0 < t.act) = true := decide_eq_true ha
  have hq1 : q < 18446744073709551616 := by
    have := (hp.is p.quorum (by simp [Par.is])).2
    omega
  have e1 : IntKind.u64.wrap (q : Int) = (q : Int) := IntWalk.u64_in _ (by omega)
  have kl := fun W => ratio_less s 10000 q t.act W (by omega) (by omega) hq1 (by have := ht.act; omega)
  have hb2 := hb.out
  rw [hs, show p.quorum.toNat = q by rw [hq]; rfl] at hb2
  rw [hb2, show ((10000 : Nat) : Int) = 10000 from rfl] at kl
  have KL := Lib.hid kl
  clear h hs h0 ha hy hq1 kl hb2 hb
  have KS := Lib.hid ks
  clear ks
  go_enter Try.func95, Try.ntmps95
  go_upto_region 1 with fail
  generalize hw0 : World.alloc (World.alloc _ _) _ = w0
  have hP : ParAt w0 w.heap.size p 37 := by rw [← hw0]; exact (ParAt.new w p 37).up ((Below.refl _ _).alloc (Nat.le_refl _) _)
  have hT : RecAt w0 (w.heap.size + 1) (Rec.vals t) 148 := by
    rw [← hw0]
    have := RecAt.new (w.alloc (.cells p.vals 37)) (Rec.vals t) 148
    rw [World.size_alloc] at this
    exact this
  have hB : Below w.heap.size w w0 := by rw [← hw0]; exact ((Below.refl _ _).alloc (Nat.le_refl _) _).alloc (by simp) _
  clear hw0
  have c0 : w0.cell? ⟨w.heap.size + 1, 0, none⟩ = some (.int .u64 (t.yes : Int)) := hT.cell 0
  have c1 : w0.cell? ⟨w.heap.size + 1, 1, none⟩ = some (.int .u64 (t.no : Int)) := hT.cell 1
  go_wp2_with (first
    | (go_at_call 110; refine (KS.out w0).mono ?_; clear KS; rintro e w1 ⟨rfl, rfl⟩; have hb1 : Below w0.heap.size w0 (w0.alloc (.cells (u64s [t.yes, t.no]).toArray 35)) := (Below.refl _ _).alloc (Nat.le_refl _) _; generalize w0.alloc (.cells (u64s [t.yes, t.no]).toArray 35) = W1 at *; have hP := hP.up hb1; have hT := hT.up hb1; have hB := Below.then hB hb1; clear hb1 c0 c1; have c23 : W1.cell? ⟨w.heap.size, 23, none⟩ = some (.int .i64 (q : Int)) := hq ▸ hP.cell 23; have c0 : W1.cell? ⟨w.heap.size + 1, 0, none⟩ = some (.int .u64 (t.yes : Int)) := hT.cell 0; have c1 : W1.cell? ⟨w.heap.size + 1, 1, none⟩ = some (.int .u64 (t.no : Int)) := hT.cell 1; have c2 : W1.cell? ⟨w.heap.size + 1, 2, none⟩ = some (.int .u64 (t.act : Int)) := hT.cell 2)
    | (go_at_call 111; refine (KL.out W1).mono ?_; clear KL; rintro e w2 ⟨rfl, hb2⟩; have hB := Below.then hB hb2; clear hb2))
  go_ret
  exact ⟨by first | rfl | simp, hB⟩

theorem passes_is (p : Par) (t : Tly) (w : World) (hp : p.Fits) (ht : t.Fits) : Calls Try.prog 95 #[.agg p.vals, .agg (Rec.vals t)] w fun e w' => e = .returned (.bool (passes p.quorum t)) ∧ Below w.heap.size w w' := by
  by_cases h : t.yes + t.no ≤ 18446744073709551615
  · by_cases h0 : 0 ≤ p.quorum
    · by_cases ha : 0 < t.act
      · by_cases hy : t.no < t.yes
        · have := passes_weigh p t _ hp h h0 ha hy (Lib.hid rfl) w ht
          simpa [passes, h, h0, ha, hy] using this
        · have := passes_few p t h h0 ha (Nat.not_lt.1 hy) w ht
          simpa [passes, hy] using this
      · have := passes_none p t h h0 (by omega) w ht
        simpa [passes, ha] using this
    · have := passes_minus p t h (by omega) w ht
      simpa [passes, h0] using this
  · have := passes_over p t (by omega) w ht
    simpa [passes, h] using this

end Go.Proofs.Ytcaejanfhchacaa
