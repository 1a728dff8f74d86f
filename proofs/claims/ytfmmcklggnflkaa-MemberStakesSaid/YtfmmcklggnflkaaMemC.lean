/- Layer 19 (member): what a member has is right for its status; a member that fits. By contracts. -/
import Derived.Test.YtfmmcklggnflkaaMemB
import Derived.Test.YtfmmcklggnflkaaScoC
import Derived.Test.YtfmmcklggnflkaaSeq
namespace Go.Proofs.Ytfmmcklggnflkaa
open Go.RowKit Go.Deep
set_option linter.unusedVariables false
set_option linter.unusedSimpArgs false

theorem mem_two (w : World) (p : Par) (m : Mem) : ParAt (World.alloc (w.alloc (.cells p.vals 42)) (.cells (Rec.vals m) 33)) w.heap.size p 42 ∧ RecAt (World.alloc (w.alloc (.cells p.vals 42)) (.cells (Rec.vals m) 33)) (w.heap.size + 1) (Rec.vals m) 33 ∧ Below w.heap.size w (World.alloc (w.alloc (.cells p.vals 42)) (.cells (Rec.vals m) 33)) :=
  ⟨(ParAt.new w p _).up ((Below.refl _ _).alloc (Nat.le_refl _) _), by have := RecAt.new (w.alloc (.cells p.vals 42)) (Rec.vals m) 33; simpa using this, ((Below.refl _ _).alloc (Nat.le_refl _) _).alloc (by simp) _⟩


set_option maxRecDepth 100000 in
set_option maxHeartbeats 1000000 in
theorem holds_yes (p : Par) (m : Mem) (r : Bool) (w : World) (hq : CheckIs p 0) (h0 : 1 ≤ p.inc) (hf : m.s.Fits) (hc : m.counts = true) (hs : m.staked p = true) (hr : Hid (p.fit m.s.eff m.s.bal = r)) : Calls Try.prog 29 #[.agg p.vals, .agg (Rec.vals m)] w fun e w' => e = .returned (.bool r) ∧ Below w.heap.size w w' := by
  have hP : ParAt (World.alloc (w.alloc (.cells p.vals 42)) (.cells (Rec.vals m) 33)) w.heap.size p 42 := (mem_two w p m).1
  have hS : RecAt (World.alloc (w.alloc (.cells p.vals 42)) (.cells (Rec.vals m) 33)) (w.heap.size + 1) (Rec.vals m) 33 := (mem_two w p m).2.1
  have hB : Below w.heap.size w (World.alloc (w.alloc (.cells p.vals 42)) (.cells (Rec.vals m) 33)) := (mem_two w p m).2.2
  have kc := fun w => counts_is m w
  rw [hc] at kc
  have ks := fun w => staked_is p m w
  rw [hs] at ks
  have kf := fun w => gfits_ok p m.s.eff m.s.bal r w hq h0 hf.eff hf.bal hr
  clear hq h0 hf hc hs hr
  go_enter Try.func29, Try.ntmps29
  go_wp2_with (first
    | (refine load_par _ rfl rfl _ p _ rfl (by assumption) ?_)
    | (refine load_rec 33 _ rfl rfl _ (Rec.vals m) rfl hS.lies Try.underlying33 size_mem ?_)
    | (go_at_call 15; refine (kc _).mono ?_; rintro e w1 ⟨rfl, hb1⟩; have hP := hP.up hb1; have hS := hS.up hb1; have hB := Below.then hB hb1; clear hb1)
    | (go_at_call 30; refine (ks _).mono ?_; rintro e w1 ⟨rfl, hb1⟩; have hP := hP.up hb1; have hS := hS.up hb1; have hB := Below.then hB hb1; clear hb1; have x0 : _ = some (Value.int .u64 (m.s.bal : Int)) := hS.cell 0; have x1 : _ = some (Value.int .u64 (m.s.eff : Int)) := hS.cell 1)
    | (go_at_call 49; refine (kf _).mono ?_; rintro e w1 ⟨rfl, hb1⟩; have hP := hP.up hb1; have hS := hS.up hb1; have hB := Below.then hB hb1; clear hb1))
  go_ret
  exact ⟨by first | rfl | simp, hB⟩


set_option maxRecDepth 100000 in
set_option maxHeartbeats 1000000 in
theorem holds_unstaked (p : Par) (m : Mem) (w : World) (hc : m.counts = true) (hs : m.staked p = false) : Calls Try.prog 29 #[.agg p.vals, .agg (Rec.vals m)] w fun e w' => e = .returned (.bool false) ∧ Below w.heap.size w w' := by
  have hP : ParAt (World.alloc (w.alloc (.cells p.vals 42)) (.cells (Rec.vals m) 33)) w.heap.size p 42 := (mem_two w p m).1
  have hS : RecAt (World.alloc (w.alloc (.cells p.vals 42)) (.cells (Rec.vals m) 33)) (w.heap.size + 1) (Rec.vals m) 33 := (mem_two w p m).2.1
  have hB : Below w.heap.size w (World.alloc (w.alloc (.cells p.vals 42)) (.cells (Rec.vals m) 33)) := (mem_two w p m).2.2
  have kc := fun w => counts_is m w
  rw [hc] at kc
  have ks := fun w => staked_is p m w
  rw [hs] at ks
  have HL := Lib.hid True.intro
  clear hc hs
  go_enter Try.func29, Try.ntmps29
  go_wp2_with (first
    | (clear HL; refine load_par _ rfl rfl _ p _ rfl (by assumption) ?_)
    | (refine load_rec 33 _ rfl rfl _ (Rec.vals m) rfl hS.lies Try.underlying33 size_mem ?_)
    | (go_at_call 15; refine (kc _).mono ?_; rintro e w1 ⟨rfl, hb1⟩; have hP := hP.up hb1; have hS := hS.up hb1; have hB := Below.then hB hb1; clear hb1)
    | (go_at_call 30; refine (ks _).mono ?_; rintro e w1 ⟨rfl, hb1⟩; have hP := hP.up hb1; have hS := hS.up hb1; have hB := Below.then hB hb1; clear hb1; have x0 : _ = some (Value.int .u64 (m.s.bal : Int)) := hS.cell 0; have x1 : _ = some (Value.int .u64 (m.s.eff : Int)) := hS.cell 1))
  go_ret
  exact ⟨by first | rfl | simp, hB⟩


set_option maxRecDepth 100000 in
set_option maxHeartbeats 1000000 in
theorem pend_none (p : Par) (e c : Nat) (s o : Int) (w : World) : Calls Try.prog 29 #[.agg p.vals, .agg (Rec.vals (⟨⟨0, e, c, s⟩, o, 1⟩ : Mem))] w fun e w' => e = .returned (.bool false) ∧ Below w.heap.size w w' := by
  have hP : ParAt (World.alloc (w.alloc (.cells p.vals 42)) (.cells (Rec.vals (⟨⟨0, e, c, s⟩, o, 1⟩ : Mem)) 33)) w.heap.size p 42 := (mem_two w p (⟨⟨0, e, c, s⟩, o, 1⟩ : Mem)).1
  have hS : RecAt (World.alloc (w.alloc (.cells p.vals 42)) (.cells (Rec.vals (⟨⟨0, e, c, s⟩, o, 1⟩ : Mem)) 33)) (w.heap.size + 1) (Rec.vals (⟨⟨0, e, c, s⟩, o, 1⟩ : Mem)) 33 := (mem_two w p (⟨⟨0, e, c, s⟩, o, 1⟩ : Mem)).2.1
  have hB : Below w.heap.size w (World.alloc (w.alloc (.cells p.vals 42)) (.cells (Rec.vals (⟨⟨0, e, c, s⟩, o, 1⟩ : Mem)) 33)) := (mem_two w p (⟨⟨0, e, c, s⟩, o, 1⟩ : Mem)).2.2
  have kc := fun w => counts_is (⟨⟨0, e, c, s⟩, o, 1⟩ : Mem) w
  rw [show Mem.counts (⟨⟨0, e, c, s⟩, o, 1⟩ : Mem) = false from rfl] at kc
  go_enter Try.func29, Try.ntmps29
  go_wp2_with (first
    | (refine load_par _ rfl rfl _ p _ rfl (by assumption) ?_)
    | (refine load_rec 33 _ rfl rfl _ (Rec.vals (⟨⟨0, e, c, s⟩, o, 1⟩ : Mem)) rfl hS.lies Try.underlying33 size_mem ?_)
    | (go_at_call 15; refine (kc _).mono ?_; rintro e w1 ⟨rfl, hb1⟩; have hP := hP.up hb1; have hS := hS.up hb1; have hB := Below.then hB hb1; clear hb1; have x0 : _ = some (Value.int .u64 0) := hS.cell 0; have x1 : _ = some (Value.int .u64 (e : Int)) := hS.cell 1; have x5 : _ = some (Value.int .i64 1) := hS.cell 5; have p3 := (hP.cell 3).trans p.v3))
  go_ret
  exact ⟨by first | rfl | simp, hB⟩


set_option maxRecDepth 100000 in
set_option maxHeartbeats 1000000 in
theorem pend_much (p : Par) (b e c : Nat) (s o : Int) (w : World) (h1 : 0 < b) (h2 : p.cap < b) : Calls Try.prog 29 #[.agg p.vals, .agg (Rec.vals (⟨⟨b, e, c, s⟩, o, 1⟩ : Mem))] w fun e w' => e = .returned (.bool false) ∧ Below w.heap.size w w' := by
  have hP : ParAt (World.alloc (w.alloc (.cells p.vals 42)) (.cells (Rec.vals (⟨⟨b, e, c, s⟩, o, 1⟩ : Mem)) 33)) w.heap.size p 42 := (mem_two w p (⟨⟨b, e, c, s⟩, o, 1⟩ : Mem)).1
  have hS : RecAt (World.alloc (w.alloc (.cells p.vals 42)) (.cells (Rec.vals (⟨⟨b, e, c, s⟩, o, 1⟩ : Mem)) 33)) (w.heap.size + 1) (Rec.vals (⟨⟨b, e, c, s⟩, o, 1⟩ : Mem)) 33 := (mem_two w p (⟨⟨b, e, c, s⟩, o, 1⟩ : Mem)).2.1
  have hB : Below w.heap.size w (World.alloc (w.alloc (.cells p.vals 42)) (.cells (Rec.vals (⟨⟨b, e, c, s⟩, o, 1⟩ : Mem)) 33)) := (mem_two w p (⟨⟨b, e, c, s⟩, o, 1⟩ : Mem)).2.2
  have kc := fun w => counts_is (⟨⟨b, e, c, s⟩, o, 1⟩ : Mem) w
  rw [show Mem.counts (⟨⟨b, e, c, s⟩, o, 1⟩ : Mem) = false from rfl] at kc
  have d1 : decide ((0 : Int) < (b : Int)) = true := decide_eq_true (by omega)
  have d2 : decide (0 < b) = true := decide_eq_true h1
  have d3 : decide ((b : Int) ≤ (p.cap : Int)) = false := decide_eq_false (by omega)
  have d4 : decide (b ≤ p.cap) = false := decide_eq_false (by omega)
  clear h1 h2
  go_enter Try.func29, Try.ntmps29
  go_wp2_with (first
    | (refine load_par _ rfl rfl _ p _ rfl (by assumption) ?_)
    | (refine load_rec 33 _ rfl rfl _ (Rec.vals (⟨⟨b, e, c, s⟩, o, 1⟩ : Mem)) rfl hS.lies Try.underlying33 size_mem ?_)
    | (go_at_call 15; refine (kc _).mono ?_; rintro e w1 ⟨rfl, hb1⟩; have hP := hP.up hb1; have hS := hS.up hb1; have hB := Below.then hB hb1; clear hb1; have x0 : _ = some (Value.int .u64 (b : Int)) := hS.cell 0; have x1 : _ = some (Value.int .u64 (e : Int)) := hS.cell 1; have x5 : _ = some (Value.int .i64 1) := hS.cell 5; have p3 := (hP.cell 3).trans p.v3))
  go_ret
  exact ⟨by first | rfl | simp, hB⟩


set_option maxRecDepth 100000 in
set_option maxHeartbeats 1000000 in
theorem pend_eff (p : Par) (b e c : Nat) (s o : Int) (w : World) (h1 : 0 < b) (h2 : b ≤ p.cap) (h3 : 0 < e) : Calls Try.prog 29 #[.agg p.vals, .agg (Rec.vals (⟨⟨b, e, c, s⟩, o, 1⟩ : Mem))] w fun e w' => e = .returned (.bool false) ∧ Below w.heap.size w w' := by
  have hP : ParAt (World.alloc (w.alloc (.cells p.vals 42)) (.cells (Rec.vals (⟨⟨b, e, c, s⟩, o, 1⟩ : Mem)) 33)) w.heap.size p 42 := (mem_two w p (⟨⟨b, e, c, s⟩, o, 1⟩ : Mem)).1
  have hS : RecAt (World.alloc (w.alloc (.cells p.vals 42)) (.cells (Rec.vals (⟨⟨b, e, c, s⟩, o, 1⟩ : Mem)) 33)) (w.heap.size + 1) (Rec.vals (⟨⟨b, e, c, s⟩, o, 1⟩ : Mem)) 33 := (mem_two w p (⟨⟨b, e, c, s⟩, o, 1⟩ : Mem)).2.1
  have hB : Below w.heap.size w (World.alloc (w.alloc (.cells p.vals 42)) (.cells (Rec.vals (⟨⟨b, e, c, s⟩, o, 1⟩ : Mem)) 33)) := (mem_two w p (⟨⟨b, e, c, s⟩, o, 1⟩ : Mem)).2.2
  have kc := fun w => counts_is (⟨⟨b, e, c, s⟩, o, 1⟩ : Mem) w
  rw [show Mem.counts (⟨⟨b, e, c, s⟩, o, 1⟩ : Mem) = false from rfl] at kc
  have d1 : decide ((0 : Int) < (b : Int)) = true := decide_eq_true (by omega)
  have d2 : decide (0 < b) = true := decide_eq_true h1
  have d3 : decide ((b : Int) ≤ (p.cap : Int)) = true := decide_eq_true (by omega)
  have d4 : decide (b ≤ p.cap) = true := decide_eq_true (by omega)
  have d5 : ((e : Int) == 0) = false := by simp; omega
  have d6 : decide (e = 0) = false := by simp; omega
  clear h1 h2 h3
  go_enter Try.func29, Try.ntmps29
  go_wp2_with (first
    | (refine load_par _ rfl rfl _ p _ rfl (by assumption) ?_)
    | (refine load_rec 33 _ rfl rfl _ (Rec.vals (⟨⟨b, e, c, s⟩, o, 1⟩ : Mem)) rfl hS.lies Try.underlying33 size_mem ?_)
    | (go_at_call 15; refine (kc _).mono ?_; rintro e w1 ⟨rfl, hb1⟩; have hP := hP.up hb1; have hS := hS.up hb1; have hB := Below.then hB hb1; clear hb1; have x0 : _ = some (Value.int .u64 (b : Int)) := hS.cell 0; have x1 : _ = some (Value.int .u64 (e : Int)) := hS.cell 1; have x5 : _ = some (Value.int .i64 1) := hS.cell 5; have p3 := (hP.cell 3).trans p.v3))
  go_ret
  exact ⟨by first | rfl | simp, hB⟩


set_option maxRecDepth 100000 in
set_option maxHeartbeats 1000000 in
theorem pend_ok (p : Par) (b c : Nat) (s o : Int) (w : World) (h1 : 0 < b) (h2 : b ≤ p.cap) : Calls Try.prog 29 #[.agg p.vals, .agg (Rec.vals (⟨⟨b, 0, c, s⟩, o, 1⟩ : Mem))] w fun e w' => e = .returned (.bool true) ∧ Below w.heap.size w w' := by
  have hP : ParAt (World.alloc (w.alloc (.cells p.vals 42)) (.cells (Rec.vals (⟨⟨b, 0, c, s⟩, o, 1⟩ : Mem)) 33)) w.heap.size p 42 := (mem_two w p (⟨⟨b, 0, c, s⟩, o, 1⟩ : Mem)).1
  have hS : RecAt (World.alloc (w.alloc (.cells p.vals 42)) (.cells (Rec.vals (⟨⟨b, 0, c, s⟩, o, 1⟩ : Mem)) 33)) (w.heap.size + 1) (Rec.vals (⟨⟨b, 0, c, s⟩, o, 1⟩ : Mem)) 33 := (mem_two w p (⟨⟨b, 0, c, s⟩, o, 1⟩ : Mem)).2.1
  have hB : Below w.heap.size w (World.alloc (w.alloc (.cells p.vals 42)) (.cells (Rec.vals (⟨⟨b, 0, c, s⟩, o, 1⟩ : Mem)) 33)) := (mem_two w p (⟨⟨b, 0, c, s⟩, o, 1⟩ : Mem)).2.2
  have kc := fun w => counts_is (⟨⟨b, 0, c, s⟩, o, 1⟩ : Mem) w
  rw [show Mem.counts (⟨⟨b, 0, c, s⟩, o, 1⟩ : Mem) = false from rfl] at kc
  have d1 : decide ((0 : Int) < (b : Int)) = true := decide_eq_true (by omega)
  have d2 : decide (0 < b) = true := decide_eq_true h1
  have d3 : decide ((b : Int) ≤ (p.cap : Int)) = true := decide_eq_true (by omega)
  have d4 : decide (b ≤ p.cap) = true := decide_eq_true (by omega)
  clear h1 h2
  go_enter Try.func29, Try.ntmps29
  go_wp2_with (first
    | (refine load_par _ rfl rfl _ p _ rfl (by assumption) ?_)
    | (refine load_rec 33 _ rfl rfl _ (Rec.vals (⟨⟨b, 0, c, s⟩, o, 1⟩ : Mem)) rfl hS.lies Try.underlying33 size_mem ?_)
    | (go_at_call 15; refine (kc _).mono ?_; rintro e w1 ⟨rfl, hb1⟩; have hP := hP.up hb1; have hS := hS.up hb1; have hB := Below.then hB hb1; clear hb1; have x0 : _ = some (Value.int .u64 (b : Int)) := hS.cell 0; have x1 : _ = some (Value.int .u64 0) := hS.cell 1; have x5 : _ = some (Value.int .i64 1) := hS.cell 5; have p3 := (hP.cell 3).trans p.v3))
  go_ret
  exact ⟨by first | rfl | simp, hB⟩


set_option maxRecDepth 100000 in
set_option maxHeartbeats 1000000 in
theorem gone_ok (p : Par) (c : Nat) (s o st : Int) (w : World) (hc : Mem.counts (⟨⟨0, 0, c, s⟩, o, st⟩ : Mem) = false) (h5 : ¬ st = 1) (hg : Mem.gone (⟨⟨0, 0, c, s⟩, o, st⟩ : Mem) = true) : Calls Try.prog 29 #[.agg p.vals, .agg (Rec.vals (⟨⟨0, 0, c, s⟩, o, st⟩ : Mem))] w fun e w' => e = .returned (.bool true) ∧ Below w.heap.size w w' := by
  have hP : ParAt (World.alloc (w.alloc (.cells p.vals 42)) (.cells (Rec.vals (⟨⟨0, 0, c, s⟩, o, st⟩ : Mem)) 33)) w.heap.size p 42 := (mem_two w p (⟨⟨0, 0, c, s⟩, o, st⟩ : Mem)).1
  have hS : RecAt (World.alloc (w.alloc (.cells p.vals 42)) (.cells (Rec.vals (⟨⟨0, 0, c, s⟩, o, st⟩ : Mem)) 33)) (w.heap.size + 1) (Rec.vals (⟨⟨0, 0, c, s⟩, o, st⟩ : Mem)) 33 := (mem_two w p (⟨⟨0, 0, c, s⟩, o, st⟩ : Mem)).2.1
  have hB : Below w.heap.size w (World.alloc (w.alloc (.cells p.vals 42)) (.cells (Rec.vals (⟨⟨0, 0, c, s⟩, o, st⟩ : Mem)) 33)) := (mem_two w p (⟨⟨0, 0, c, s⟩, o, st⟩ : Mem)).2.2
  have kc := fun w => counts_is (⟨⟨0, 0, c, s⟩, o, st⟩ : Mem) w
  rw [hc] at kc
  have kg := fun w => gone_is (⟨⟨0, 0, c, s⟩, o, st⟩ : Mem) w
  rw [hg] at kg
  have q1 : (st == 1) = false := by simp [h5]
  have q2 : decide (st = 1) = false := by simp [h5]
  clear hc h5 hg
  go_enter Try.func29, Try.ntmps29
  go_wp2_with (first
    | (refine load_par _ rfl rfl _ p _ rfl (by assumption) ?_)
    | (refine load_rec 33 _ rfl rfl _ (Rec.vals (⟨⟨0, 0, c, s⟩, o, st⟩ : Mem)) rfl hS.lies Try.underlying33 size_mem ?_)
    | (go_at_call 15; refine (kc _).mono ?_; rintro e w1 ⟨rfl, hb1⟩; have hP := hP.up hb1; have hS := hS.up hb1; have hB := Below.then hB hb1; clear hb1; have x0 : _ = some (Value.int .u64 0) := hS.cell 0; have x1 : _ = some (Value.int .u64 0) := hS.cell 1; have x5 : _ = some (Value.int .i64 st) := hS.cell 5)
    | (go_at_call 34; refine (kg _).mono ?_; rintro e w1 ⟨rfl, hb1⟩; have hP := hP.up hb1; have hS := hS.up hb1; have hB := Below.then hB hb1; clear hb1; have x0 : _ = some (Value.int .u64 0) := hS.cell 0; have x1 : _ = some (Value.int .u64 0) := hS.cell 1; have x5 : _ = some (Value.int .i64 st) := hS.cell 5))
  go_ret
  exact ⟨by first | rfl | simp, hB⟩


set_option maxRecDepth 100000 in
set_option maxHeartbeats 1000000 in
theorem gone_eff (p : Par) (e c : Nat) (s o st : Int) (w : World) (h3 : 0 < e) (hc : Mem.counts (⟨⟨0, e, c, s⟩, o, st⟩ : Mem) = false) (h5 : ¬ st = 1) (hg : Mem.gone (⟨⟨0, e, c, s⟩, o, st⟩ : Mem) = true) : Calls Try.prog 29 #[.agg p.vals, .agg (Rec.vals (⟨⟨0, e, c, s⟩, o, st⟩ : Mem))] w fun e w' => e = .returned (.bool false) ∧ Below w.heap.size w w' := by
  have hP : ParAt (World.alloc (w.alloc (.cells p.vals 42)) (.cells (Rec.vals (⟨⟨0, e, c, s⟩, o, st⟩ : Mem)) 33)) w.heap.size p 42 := (mem_two w p (⟨⟨0, e, c, s⟩, o, st⟩ : Mem)).1
  have hS : RecAt (World.alloc (w.alloc (.cells p.vals 42)) (.cells (Rec.vals (⟨⟨0, e, c, s⟩, o, st⟩ : Mem)) 33)) (w.heap.size + 1) (Rec.vals (⟨⟨0, e, c, s⟩, o, st⟩ : Mem)) 33 := (mem_two w p (⟨⟨0, e, c, s⟩, o, st⟩ : Mem)).2.1
  have hB : Below w.heap.size w (World.alloc (w.alloc (.cells p.vals 42)) (.cells (Rec.vals (⟨⟨0, e, c, s⟩, o, st⟩ : Mem)) 33)) := (mem_two w p (⟨⟨0, e, c, s⟩, o, st⟩ : Mem)).2.2
  have kc := fun w => counts_is (⟨⟨0, e, c, s⟩, o, st⟩ : Mem) w
  rw [hc] at kc
  have kg := fun w => gone_is (⟨⟨0, e, c, s⟩, o, st⟩ : Mem) w
  rw [hg] at kg
  have q1 : (st == 1) = false := by simp [h5]
  have q2 : decide (st = 1) = false := by simp [h5]
  have d5 : ((e : Int) == 0) = false := by simp; omega
  have d6 : decide (e = 0) = false := by simp; omega
  clear h3
  clear hc h5 hg
  go_enter Try.func29, Try.ntmps29
  go_wp2_with (first
    | (refine load_par _ rfl rfl _ p _ rfl (by assumption) ?_)
    | (refine load_rec 33 _ rfl rfl _ (Rec.vals (⟨⟨0, e, c, s⟩, o, st⟩ : Mem)) rfl hS.lies Try.underlying33 size_mem ?_)
    | (go_at_call 15; refine (kc _).mono ?_; rintro e w1 ⟨rfl, hb1⟩; have hP := hP.up hb1; have hS := hS.up hb1; have hB := Below.then hB hb1; clear hb1; have x0 : _ = some (Value.int .u64 0) := hS.cell 0; have x1 : _ = some (Value.int .u64 (e : Int)) := hS.cell 1; have x5 : _ = some (Value.int .i64 st) := hS.cell 5)
    | (go_at_call 34; refine (kg _).mono ?_; rintro e w1 ⟨rfl, hb1⟩; have hP := hP.up hb1; have hS := hS.up hb1; have hB := Below.then hB hb1; clear hb1; have x0 : _ = some (Value.int .u64 0) := hS.cell 0; have x1 : _ = some (Value.int .u64 (e : Int)) := hS.cell 1; have x5 : _ = some (Value.int .i64 st) := hS.cell 5))
  go_ret
  exact ⟨by first | rfl | simp, hB⟩


set_option maxRecDepth 100000 in
set_option maxHeartbeats 1000000 in
theorem gone_bal (p : Par) (b e c : Nat) (s o st : Int) (w : World) (h1 : 0 < b) (hc : Mem.counts (⟨⟨b, e, c, s⟩, o, st⟩ : Mem) = false) (h5 : ¬ st = 1) (hg : Mem.gone (⟨⟨b, e, c, s⟩, o, st⟩ : Mem) = true) : Calls Try.prog 29 #[.agg p.vals, .agg (Rec.vals (⟨⟨b, e, c, s⟩, o, st⟩ : Mem))] w fun e w' => e = .returned (.bool false) ∧ Below w.heap.size w w' := by
  have hP : ParAt (World.alloc (w.alloc (.cells p.vals 42)) (.cells (Rec.vals (⟨⟨b, e, c, s⟩, o, st⟩ : Mem)) 33)) w.heap.size p 42 := (mem_two w p (⟨⟨b, e, c, s⟩, o, st⟩ : Mem)).1
  have hS : RecAt (World.alloc (w.alloc (.cells p.vals 42)) (.cells (Rec.vals (⟨⟨b, e, c, s⟩, o, st⟩ : Mem)) 33)) (w.heap.size + 1) (Rec.vals (⟨⟨b, e, c, s⟩, o, st⟩ : Mem)) 33 := (mem_two w p (⟨⟨b, e, c, s⟩, o, st⟩ : Mem)).2.1
  have hB : Below w.heap.size w (World.alloc (w.alloc (.cells p.vals 42)) (.cells (Rec.vals (⟨⟨b, e, c, s⟩, o, st⟩ : Mem)) 33)) := (mem_two w p (⟨⟨b, e, c, s⟩, o, st⟩ : Mem)).2.2
  have kc := fun w => counts_is (⟨⟨b, e, c, s⟩, o, st⟩ : Mem) w
  rw [hc] at kc
  have kg := fun w => gone_is (⟨⟨b, e, c, s⟩, o, st⟩ : Mem) w
  rw [hg] at kg
  have q1 : (st == 1) = false := by simp [h5]
  have q2 : decide (st = 1) = false := by simp [h5]
  have d5 : ((b : Int) == 0) = false := by simp; omega
  have d6 : decide (b = 0) = false := by simp; omega
  clear h1
  clear hc h5 hg
  go_enter Try.func29, Try.ntmps29
  go_wp2_with (first
    | (refine load_par _ rfl rfl _ p _ rfl (by assumption) ?_)
    | (refine load_rec 33 _ rfl rfl _ (Rec.vals (⟨⟨b, e, c, s⟩, o, st⟩ : Mem)) rfl hS.lies Try.underlying33 size_mem ?_)
    | (go_at_call 15; refine (kc _).mono ?_; rintro e w1 ⟨rfl, hb1⟩; have hP := hP.up hb1; have hS := hS.up hb1; have hB := Below.then hB hb1; clear hb1; have x0 : _ = some (Value.int .u64 (b : Int)) := hS.cell 0; have x1 : _ = some (Value.int .u64 (e : Int)) := hS.cell 1; have x5 : _ = some (Value.int .i64 st) := hS.cell 5)
    | (go_at_call 34; refine (kg _).mono ?_; rintro e w1 ⟨rfl, hb1⟩; have hP := hP.up hb1; have hS := hS.up hb1; have hB := Below.then hB hb1; clear hb1; have x0 : _ = some (Value.int .u64 (b : Int)) := hS.cell 0; have x1 : _ = some (Value.int .u64 (e : Int)) := hS.cell 1; have x5 : _ = some (Value.int .i64 st) := hS.cell 5))
  go_ret
  exact ⟨by first | rfl | simp, hB⟩


set_option maxRecDepth 100000 in
set_option maxHeartbeats 1000000 in
theorem holds_none (p : Par) (m : Mem) (w : World) (hc : m.counts = false) (h5 : ¬ m.status = 1) (hg : m.gone = false) : Calls Try.prog 29 #[.agg p.vals, .agg (Rec.vals m)] w fun e w' => e = .returned (.bool false) ∧ Below w.heap.size w w' := by
  have hP : ParAt (World.alloc (w.alloc (.cells p.vals 42)) (.cells (Rec.vals m) 33)) w.heap.size p 42 := (mem_two w p m).1
  have hS : RecAt (World.alloc (w.alloc (.cells p.vals 42)) (.cells (Rec.vals m) 33)) (w.heap.size + 1) (Rec.vals m) 33 := (mem_two w p m).2.1
  have hB : Below w.heap.size w (World.alloc (w.alloc (.cells p.vals 42)) (.cells (Rec.vals m) 33)) := (mem_two w p m).2.2
  have kc := fun w => counts_is m w
  rw [hc] at kc
  have kg := fun w => gone_is m w
  rw [hg] at kg
  have q1 : (m.status == 1) = false := by simp [h5]
  have q2 : decide (m.status = 1) = false := by simp [h5]
  clear hc h5 hg
  go_enter Try.func29, Try.ntmps29
  go_wp2_with (first
    | (refine load_par _ rfl rfl _ p _ rfl (by assumption) ?_)
    | (refine load_rec 33 _ rfl rfl _ (Rec.vals m) rfl hS.lies Try.underlying33 size_mem ?_)
    | (go_at_call 15; refine (kc _).mono ?_; rintro e w1 ⟨rfl, hb1⟩; have hP := hP.up hb1; have hS := hS.up hb1; have hB := Below.then hB hb1; clear hb1; have x5 : _ = some (Value.int .i64 m.status) := hS.cell 5)
    | (go_at_call 34; refine (kg _).mono ?_; rintro e w1 ⟨rfl, hb1⟩; have hP := hP.up hb1; have hS := hS.up hb1; have hB := Below.then hB hb1; clear hb1; have x5 : _ = some (Value.int .i64 m.status) := hS.cell 5))
  go_ret
  exact ⟨by first | rfl | simp, hB⟩


theorem holds_is (p : Par) (m : Mem) (w : World) (hq : CheckIs p 0) (h0 : 1 ≤ p.inc) (hf : m.s.Fits) : Calls Try.prog 29 #[.agg p.vals, .agg (Rec.vals m)] w fun e w' => e = .returned (.bool (m.holds p)) ∧ Below w.heap.size w w' := by
  cases hc : m.counts with
  | true =>
    rw [Mem.holds_counts hc]
    cases hs : m.staked p with
    | true => exact holds_yes p m _ w hq h0 hf hc hs (Lib.hid (by simp))
    | false => exact holds_unstaked p m w hc hs
  | false =>
    by_cases h1 : m.status = 1
    · rw [Mem.holds_one h1]
      obtain ⟨⟨b, e, c, s⟩, o, st⟩ := m
      obtain rfl : st = 1 := h1
      show Calls Try.prog 29 _ w fun e2 w' => e2 = .returned (.bool (decide (0 < b) && (decide (b ≤ p.cap) && decide (e = 0)))) ∧ Below w.heap.size w w'
      rcases Nat.eq_zero_or_pos b with rfl | hb
      · exact pend_none p e c s o w
      · by_cases h2 : b ≤ p.cap
        · rcases Nat.eq_zero_or_pos e with rfl | he
          · rw [show (decide (0 < b) && (decide (b ≤ p.cap) && decide ((0 : Nat) = 0))) = true by simp [hb, h2]]
            exact pend_ok p b c s o w hb h2
          · rw [show (decide (0 < b) && (decide (b ≤ p.cap) && decide (e = 0))) = false by simp; omega]
            exact pend_eff p b e c s o w hb h2 he
        · rw [show (decide (0 < b) && (decide (b ≤ p.cap) && decide (e = 0))) = false by simp; omega]
          exact pend_much p b e c s o w hb (by omega)
    · cases hg : m.gone with
      | true =>
        rw [Mem.holds_gone hg]
        obtain ⟨⟨b, e, c, s⟩, o, st⟩ := m
        show Calls Try.prog 29 _ w fun e2 w' => e2 = .returned (.bool (decide (b = 0) && decide (e = 0))) ∧ Below w.heap.size w w'
        rcases Nat.eq_zero_or_pos b with rfl | hb
        · rcases Nat.eq_zero_or_pos e with rfl | he
          · exact gone_ok p c s o st w hc h1 hg
          · rw [show (decide ((0 : Nat) = 0) && decide (e = 0)) = false by simp; omega]
            exact gone_eff p e c s o st w he hc h1 hg
        · rw [show (decide (b = 0) && decide (e = 0)) = false by simp; omega]
          exact gone_bal p b e c s o st w hb hc h1 hg
      | false =>
        rw [Mem.holds_else hc h1 hg]
        exact holds_none p m w hc h1 hg
end Go.Proofs.Ytfmmcklggnflkaa
