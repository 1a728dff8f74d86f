/- Layer 19 (member): one that starts, ends, is credited. By contracts. -/
import Derived.Test.YtfmmcklggnflkaaMemD
namespace Go.Proofs.Ytfmmcklggnflkaa
open Go.RowKit Go.Deep
set_option linter.unusedVariables false
set_option linter.unusedSimpArgs false

theorem mem_zero_new (w : World) (T : TypeId) {b : Nat} (hb : b = w.heap.size) : RecAt (w.alloc (.cells #[.int .u64 0, .int .u64 0, .int .u64 0, .int .i64 0, .int .i64 0, .int .i64 0] T)) b (Rec.vals Mem.zero) T := by
  subst hb
  exact RecAt.new w (Rec.vals Mem.zero) T


set_option maxRecDepth 100000 in
set_option maxHeartbeats 1000000 in
theorem start_yes (p : Par) (m : Mem) (n : Nat) (w : World) (hc : CheckIs p 0) (h0 : 1 ≤ p.inc) (hb : m.s.bal < 18446744073709551616) (h1 : m.status = 1) (hs : m.staked p = true) (hn : Hid (p.whole m.s.bal = n)) : Calls Try.prog 12 #[.agg p.vals, .agg (Rec.vals m)] w fun e w' => e = .returned (.tuple #[.agg (Rec.vals (⟨⟨m.s.bal, n, m.s.score, 0⟩, m.owner, 2⟩ : Mem)), .bool true]) ∧ Below w.heap.size w w' := by
  have kc := hc
  have ks := fun w => staked_is p m w
  rw [hs] at ks
  have kw := fun w => gwhole_ok p m.s.bal n w hc h0 hb hn
  clear hc h0 hb hs hn
  go_enter Try.func12, Try.ntmps12
  go_upto_region 1 with fail
  generalize hw0 : World.alloc _ _ = w0
  have hP : ParAt w0 w.heap.size p 42 := by rw [← hw0]; exact (mem_two w p m).1.up ((Below.refl _ _).alloc (Nat.le_refl _) _)
  have hS : RecAt w0 (w.heap.size + 1) (Rec.vals m) 33 := by rw [← hw0]; exact (mem_two w p m).2.1.up ((Below.refl _ _).alloc (Nat.le_refl _) _)
  have hN : RecAt w0 (w.heap.size + 1 + 1) (Rec.vals Mem.zero) 33 := by rw [← hw0]; exact mem_zero_new _ _ (by simp)
  have hB : Below w.heap.size w w0 := by rw [← hw0]; exact (mem_two w p m).2.2.alloc (mem_two w p m).2.2.size _
  clear hw0
  have x5 : _ = some (Value.int .i64 m.status) := hS.cell 5
  rw [h1] at x5
  go_wp2_with (first
    | (refine load_par _ rfl rfl _ p _ rfl (by assumption) ?_)
    | (refine load_rec 33 _ rfl rfl _ (Rec.vals m) rfl hS.lies Try.underlying33 size_mem ?_)
    | (go_at_call 26; refine (kc _).mono ?_; clear kc; rintro e w1 ⟨rfl, hb1⟩; have hP := hP.up hb1; have hS := hS.up hb1; have hN := hN.up hb1; have hB := Below.then hB hb1; clear hb1; have x5 : _ = some (Value.int .i64 m.status) := hS.cell 5; rw [h1] at x5)
    | (go_at_call 30; refine (ks _).mono ?_; clear ks; rintro e w1 ⟨rfl, hb1⟩; have hP := hP.up hb1; have hS := hS.up hb1; have hN := hN.up hb1; have hB := Below.then hB hb1; clear hb1; have x0 : _ = some (Value.int .u64 (m.s.bal : Int)) := hS.cell 0)
    | (go_at_call 31; refine (kw _).mono ?_; clear kw; rintro e w1 ⟨rfl, hb1⟩; have hP := hP.up hb1; have hS := hS.up hb1; have hN := hN.up hb1; have hB := Below.then hB hb1; clear hb1)
    | (refine store_int _ _ rfl rfl _ 5 (Rec.vals m) (Rec.vals (⟨m.s, m.owner, 2⟩ : Mem)) _ 2 m.status rfl rfl hS rfl rfl ?_; intro w2 hS hb2 hz2 hk2; have hP := hP.below hb2 (Nat.lt_succ_self _); have hN : RecAt w2 _ _ _ := (hk2 _ (by omega)).trans hN; have hB := hB.trans (hb2.mono (Nat.le_succ _)); clear hb2 hk2 hz2)
    | (refine store_word _ _ rfl rfl _ 1 (Rec.vals (⟨m.s, m.owner, 2⟩ : Mem)) (Rec.vals (⟨⟨m.s.bal, n, m.s.score, m.s.streak⟩, m.owner, 2⟩ : Mem)) _ (n : Int) (m.s.eff : Int) rfl rfl hS rfl rfl ?_; intro w2 hS hb2 hz2 hk2; have hP := hP.below hb2 (Nat.lt_succ_self _); have hN : RecAt w2 _ _ _ := (hk2 _ (by omega)).trans hN; have hB := hB.trans (hb2.mono (Nat.le_succ _)); clear hb2 hk2 hz2)
    | (refine store_int _ _ rfl rfl _ 3 (Rec.vals (⟨⟨m.s.bal, n, m.s.score, m.s.streak⟩, m.owner, 2⟩ : Mem)) (Rec.vals (⟨⟨m.s.bal, n, m.s.score, 0⟩, m.owner, 2⟩ : Mem)) _ 0 m.s.streak rfl rfl hS rfl rfl ?_; intro w2 hS hb2 hz2 hk2; have hP := hP.below hb2 (Nat.lt_succ_self _); have hN : RecAt w2 _ _ _ := (hk2 _ (by omega)).trans hN; have hB := hB.trans (hb2.mono (Nat.le_succ _)); clear hb2 hk2 hz2)
    | (refine load_rec 33 _ rfl rfl _ (Rec.vals (⟨⟨m.s.bal, n, m.s.score, 0⟩, m.owner, 2⟩ : Mem)) rfl hS.lies Try.underlying33 size_mem ?_)
    | (refine store_rec 33 _ _ rfl rfl _ (Rec.vals (⟨⟨m.s.bal, n, m.s.score, 0⟩, m.owner, 2⟩ : Mem)) (Rec.vals Mem.zero) 33 rfl rfl hN size_mem rfl (Rec.one (⟨⟨m.s.bal, n, m.s.score, 0⟩, m.owner, 2⟩ : Mem)) ?_; intro w4 hR hb4 hz4 hk4; have hB := hB.trans (hb4.mono (Nat.le_trans (Nat.le_succ _) (Nat.le_succ _))); clear hz4 hk4 hb4))
  refine bodyPost_ret (res_mem2 Try.results12 rfl hR) rfl ⟨by first | rfl | simp, hB⟩


set_option maxRecDepth 100000 in
set_option maxHeartbeats 1000000 in
theorem start_wait (p : Par) (m : Mem) (w : World) (hc : CheckIs p 0) (h1 : m.status = 1) (hs : m.staked p = false) : Calls Try.prog 12 #[.agg p.vals, .agg (Rec.vals m)] w fun e w' => e = .returned (.tuple #[.agg (Rec.vals m), .bool false]) ∧ Below w.heap.size w w' := by
  have kc := hc
  have ks := fun w => staked_is p m w
  rw [hs] at ks
  clear hc hs
  go_enter Try.func12, Try.ntmps12
  go_upto_region 1 with fail
  generalize hw0 : World.alloc _ _ = w0
  have hP : ParAt w0 w.heap.size p 42 := by rw [← hw0]; exact (mem_two w p m).1.up ((Below.refl _ _).alloc (Nat.le_refl _) _)
  have hS : RecAt w0 (w.heap.size + 1) (Rec.vals m) 33 := by rw [← hw0]; exact (mem_two w p m).2.1.up ((Below.refl _ _).alloc (Nat.le_refl _) _)
  have hN : RecAt w0 (w.heap.size + 1 + 1) (Rec.vals Mem.zero) 33 := by rw [← hw0]; exact mem_zero_new _ _ (by simp)
  have hB : Below w.heap.size w w0 := by rw [← hw0]; exact (mem_two w p m).2.2.alloc (mem_two w p m).2.2.size _
  clear hw0
  have x5 : _ = some (Value.int .i64 m.status) := hS.cell 5
  rw [h1] at x5
  go_wp2_with (first
    | (refine load_par _ rfl rfl _ p _ rfl (by assumption) ?_)
    | (refine load_rec 33 _ rfl rfl _ (Rec.vals m) rfl hS.lies Try.underlying33 size_mem ?_)
    | (go_at_call 26; refine (kc _).mono ?_; clear kc; rintro e w1 ⟨rfl, hb1⟩; have hP := hP.up hb1; have hS := hS.up hb1; have hN := hN.up hb1; have hB := Below.then hB hb1; clear hb1; have x5 : _ = some (Value.int .i64 m.status) := hS.cell 5; rw [h1] at x5)
    | (go_at_call 30; refine (ks _).mono ?_; clear ks; rintro e w1 ⟨rfl, hb1⟩; have hP := hP.up hb1; have hS := hS.up hb1; have hN := hN.up hb1; have hB := Below.then hB hb1; clear hb1)
    | (refine store_rec 33 _ _ rfl rfl _ (Rec.vals m) (Rec.vals Mem.zero) 33 rfl rfl hN size_mem rfl (Rec.one m) ?_; intro w4 hR hb4 hz4 hk4; have hB := hB.trans (hb4.mono (Nat.le_trans (Nat.le_succ _) (Nat.le_succ _))); clear hz4 hk4 hb4))
  refine bodyPost_ret (res_mem2 Try.results12 rfl hR) rfl ⟨by first | rfl | simp, hB⟩


set_option maxRecDepth 100000 in
set_option maxHeartbeats 1000000 in
theorem start_not (p : Par) (m : Mem) (w : World) (hc : CheckIs p 0) (h1 : ¬ m.status = 1) : Calls Try.prog 12 #[.agg p.vals, .agg (Rec.vals m)] w fun e w' => e = .returned (.tuple #[.agg (Rec.vals m), .bool false]) ∧ Below w.heap.size w w' := by
  have kc := hc
  have q1 : (m.status == 1) = false := by simp [h1]
  have q2 : decide (m.status = 1) = false := by simp [h1]
  have q3 : (m.status != 1) = true := by simp [h1]
  have HL := Lib.hid True.intro
  clear hc h1
  go_enter Try.func12, Try.ntmps12
  go_upto_region 1 with fail
  generalize hw0 : World.alloc _ _ = w0
  have hP : ParAt w0 w.heap.size p 42 := by rw [← hw0]; exact (mem_two w p m).1.up ((Below.refl _ _).alloc (Nat.le_refl _) _)
  have hS : RecAt w0 (w.heap.size + 1) (Rec.vals m) 33 := by rw [← hw0]; exact (mem_two w p m).2.1.up ((Below.refl _ _).alloc (Nat.le_refl _) _)
  have hN : RecAt w0 (w.heap.size + 1 + 1) (Rec.vals Mem.zero) 33 := by rw [← hw0]; exact mem_zero_new _ _ (by simp)
  have hB : Below w.heap.size w w0 := by rw [← hw0]; exact (mem_two w p m).2.2.alloc (mem_two w p m).2.2.size _
  clear hw0
  go_wp2_with (first
    | (clear HL; refine load_par _ rfl rfl _ p _ rfl (by assumption) ?_)
    | (refine load_rec 33 _ rfl rfl _ (Rec.vals m) rfl hS.lies Try.underlying33 size_mem ?_)
    | (go_at_call 26; refine (kc _).mono ?_; clear kc; rintro e w1 ⟨rfl, hb1⟩; have hP := hP.up hb1; have hS := hS.up hb1; have hN := hN.up hb1; have hB := Below.then hB hb1; clear hb1; have x5 : _ = some (Value.int .i64 m.status) := hS.cell 5)
    | (refine store_rec 33 _ _ rfl rfl _ (Rec.vals m) (Rec.vals Mem.zero) 33 rfl rfl hN size_mem rfl (Rec.one m) ?_; intro w4 hR hb4 hz4 hk4; have hB := hB.trans (hb4.mono (Nat.le_trans (Nat.le_succ _) (Nat.le_succ _))); clear hz4 hk4 hb4))
  refine bodyPost_ret (res_mem2 Try.results12 rfl hR) rfl ⟨by first | rfl | simp, hB⟩


theorem start_is (p : Par) (m : Mem) (w : World) (hc : CheckIs p 0) (hp : Par.Spans p) (hf : m.s.Fits) :
    Calls Try.prog 12 #[.agg p.vals, .agg (Rec.vals m)] w fun e w' => e = .returned (.tuple #[.agg (Rec.vals (bif m.starts p then m.begun p else m)), .bool (m.starts p)]) ∧ Below w.heap.size w w' := by
  by_cases h1 : m.status = 1
  · cases hs : m.staked p with
    | true =>
      rw [show m.starts p = true by simp [Mem.starts, h1, hs]]
      exact start_yes p m _ w hc hp.inc0 hf.bal h1 hs (Lib.hid rfl)
    | false =>
      rw [show m.starts p = false by simp [Mem.starts, hs]]
      exact start_wait p m w hc h1 hs
  · rw [show m.starts p = false by simp [Mem.starts, h1]]
    exact start_not p m w hc h1


set_option maxRecDepth 100000 in
set_option maxHeartbeats 1000000 in
theorem end_is (m : Mem) (k : Int) (w : World) :
    Calls Try.prog 13 #[.agg (Rec.vals m), .int .i64 k] w fun e w' => e = .returned (.tuple #[.agg (Rec.vals (m.ended k)), .int .u64 (m.s.bal : Int)]) ∧ Below w.heap.size w w' := by
  go_enter Try.func13, Try.ntmps13
  go_upto_region 1 with fail
  generalize hw0 : World.alloc _ _ = w0
  have hS : RecAt w0 w.heap.size (Rec.vals m) 33 := by rw [← hw0]; exact (mem_new w m _).1.up ((Below.refl _ _).alloc (Nat.le_refl _) _)
  have hN : RecAt w0 (w.heap.size + 1) (Rec.vals Mem.zero) 33 := by rw [← hw0]; exact mem_zero_new _ _ (by simp)
  have hB : Below w.heap.size w w0 := by rw [← hw0]; exact (mem_new w m _).2.alloc (mem_new w m _).2.size _
  clear hw0
  have x0 : _ = some (Value.int .u64 (m.s.bal : Int)) := hS.cell 0
  go_wp2_with (first
    | (refine load_rec 33 _ rfl rfl _ (Rec.vals (m.ended k)) rfl hS.lies Try.underlying33 size_mem ?_)
    | (refine store_int _ _ rfl rfl _ 5 (Rec.vals m) (Rec.vals (⟨m.s, m.owner, k⟩ : Mem)) _ k m.status rfl rfl hS rfl rfl ?_; intro w2 hS hb2 hz2 hk2; have hN : RecAt w2 _ _ _ := (hk2 _ (by omega)).trans hN; have hB := hB.trans (hb2.mono (Nat.le_refl _)); clear hb2 hk2 hz2)
    | (refine store_word _ _ rfl rfl _ 0 (Rec.vals (⟨m.s, m.owner, k⟩ : Mem)) (Rec.vals (⟨⟨0, m.s.eff, m.s.score, m.s.streak⟩, m.owner, k⟩ : Mem)) _ 0 (m.s.bal : Int) rfl rfl hS rfl rfl ?_; intro w2 hS hb2 hz2 hk2; have hN : RecAt w2 _ _ _ := (hk2 _ (by omega)).trans hN; have hB := hB.trans (hb2.mono (Nat.le_refl _)); clear hb2 hk2 hz2)
    | (refine store_word _ _ rfl rfl _ 1 (Rec.vals (⟨⟨0, m.s.eff, m.s.score, m.s.streak⟩, m.owner, k⟩ : Mem)) (Rec.vals (⟨⟨0, 0, m.s.score, m.s.streak⟩, m.owner, k⟩ : Mem)) _ 0 (m.s.eff : Int) rfl rfl hS rfl rfl ?_; intro w2 hS hb2 hz2 hk2; have hN : RecAt w2 _ _ _ := (hk2 _ (by omega)).trans hN; have hB := hB.trans (hb2.mono (Nat.le_refl _)); clear hb2 hk2 hz2)
    | (refine store_int _ _ rfl rfl _ 3 (Rec.vals (⟨⟨0, 0, m.s.score, m.s.streak⟩, m.owner, k⟩ : Mem)) (Rec.vals (m.ended k)) _ 0 m.s.streak rfl rfl hS rfl rfl ?_; intro w2 hS hb2 hz2 hk2; have hN : RecAt w2 _ _ _ := (hk2 _ (by omega)).trans hN; have hB := hB.trans (hb2.mono (Nat.le_refl _)); clear hb2 hk2 hz2)
    | (refine store_rec 33 _ _ rfl rfl _ (Rec.vals (m.ended k)) (Rec.vals Mem.zero) 33 rfl rfl hN size_mem rfl (Rec.one (m.ended k)) ?_; intro w4 hR hb4 hz4 hk4; have hB := hB.trans (hb4.mono (Nat.le_succ _)); clear hz4 hk4 hb4))
  refine bodyPost_ret (res_mem2 Try.results13 rfl hR) rfl ⟨by first | rfl | simp, hB⟩


set_option maxRecDepth 100000 in
set_option maxHeartbeats 1000000 in
theorem credit_stay (p : Par) (m : Mem) (a : Nat) (b : Nat) (w : World) (hc : CheckIs p 0) (hcap : p.cap < 18446744073709551616) (hb : m.s.bal < 18446744073709551616) (ha : a < 18446744073709551616) (hg : m.gone = false) (hr : Hid (m.s.bal + m.room p a = b)) : Calls Try.prog 14 #[.agg p.vals, .agg (Rec.vals m), .int .u64 (a : Int)] w fun e w' => e = .returned (.tuple #[.agg (Rec.vals (⟨⟨b, m.s.eff, m.s.score, m.s.streak⟩, m.owner, m.status⟩ : Mem)), .int .u64 ((a - (p.cap - m.s.bal) : Nat) : Int)]) ∧ Below w.heap.size w w' := by
  have kc := hc
  have kf := fun w => fall_is p.cap m.s.bal w hcap hb
  have kt := fun w => take_is a (p.cap - m.s.bal) w ha (by omega)
  have v3 := p.v3
  have e1 : IntKind.u64.wrap ((m.s.bal : Int) + ((min a (p.cap - m.s.bal) : Nat) : Int)) = (b : Int) := by rw [show (m.s.bal : Int) + ((min a (p.cap - m.s.bal) : Nat) : Int) = (b : Int) by have := hr.out; unfold Mem.room at this; omega]; exact IntWalk.u64_in _ (by have := hr.out; unfold Mem.room at this; omega)
  generalize min a (p.cap - m.s.bal) = r at *
  generalize a - (p.cap - m.s.bal) = q at *
  generalize p.cap - m.s.bal = f at *
  have kg := fun w => gone_is (⟨⟨b, m.s.eff, m.s.score, m.s.streak⟩, m.owner, m.status⟩ : Mem) w
  rw [show Mem.gone (⟨⟨b, m.s.eff, m.s.score, m.s.streak⟩, m.owner, m.status⟩ : Mem) = false from hg] at kg
  clear hg hr
  clear hc hcap hb ha
  go_enter Try.func14, Try.ntmps14
  go_upto_region 1 with fail
  generalize hw0 : World.alloc _ _ = w0
  have hP : ParAt w0 w.heap.size p 42 := by rw [← hw0]; exact (mem_two w p m).1.up ((Below.refl _ _).alloc (Nat.le_refl _) _)
  have hS : RecAt w0 (w.heap.size + 1) (Rec.vals m) 33 := by rw [← hw0]; exact (mem_two w p m).2.1.up ((Below.refl _ _).alloc (Nat.le_refl _) _)
  have hN : RecAt w0 (w.heap.size + 1 + 1) (Rec.vals Mem.zero) 33 := by rw [← hw0]; exact mem_zero_new _ _ (by simp)
  have hB : Below w.heap.size w w0 := by rw [← hw0]; exact (mem_two w p m).2.2.alloc (mem_two w p m).2.2.size _
  clear hw0
  go_wp2_with (first
    | (refine load_par _ rfl rfl _ p _ rfl (by assumption) ?_)
    | (go_at_call 26; refine (kc _).mono ?_; clear kc; rintro e w1 ⟨rfl, hb1⟩; have hP := hP.up hb1; have hS := hS.up hb1; have hN := hN.up hb1; have hB := Below.then hB hb1; clear hb1; have x0 : _ = some (Value.int .u64 (m.s.bal : Int)) := hS.cell 0; have c3 := (hP.cell 3).trans v3)
    | (go_at_call 33; refine (kf _).mono ?_; clear kf; rintro e w1 ⟨rfl, rfl⟩)
    | (go_at_call 32; refine (kt _).mono ?_; clear kt; rintro e w1 ⟨rfl, rfl⟩)
    | (refine store_word _ _ rfl rfl _ 0 (Rec.vals m) (Rec.vals (⟨⟨b, m.s.eff, m.s.score, m.s.streak⟩, m.owner, m.status⟩ : Mem)) _ (b : Int) (m.s.bal : Int) rfl rfl hS rfl rfl ?_; intro w2 hS hb2 hz2 hk2; have hP := hP.below hb2 (Nat.lt_succ_self _); have hN : RecAt w2 _ _ _ := (hk2 _ (by omega)).trans hN; have hB := hB.trans (hb2.mono (Nat.le_succ _)); clear hb2 hk2 hz2)
    | (refine load_rec 33 _ rfl rfl _ (Rec.vals (⟨⟨b, m.s.eff, m.s.score, m.s.streak⟩, m.owner, m.status⟩ : Mem)) rfl hS.lies Try.underlying33 size_mem ?_)
    | (go_at_call 34; refine (kg _).mono ?_; clear kg; rintro e w1 ⟨rfl, hb1⟩; have hP := hP.up hb1; have hS := hS.up hb1; have hN := hN.up hb1; have hB := Below.then hB hb1; clear hb1)
    | (refine store_rec 33 _ _ rfl rfl _ (Rec.vals (⟨⟨b, m.s.eff, m.s.score, m.s.streak⟩, m.owner, m.status⟩ : Mem)) (Rec.vals Mem.zero) 33 rfl rfl hN size_mem rfl (Rec.one (⟨⟨b, m.s.eff, m.s.score, m.s.streak⟩, m.owner, m.status⟩ : Mem)) ?_; intro w4 hR hb4 hz4 hk4; have hB := hB.trans (hb4.mono (Nat.le_trans (Nat.le_succ _) (Nat.le_succ _))); clear hz4 hk4 hb4))
  refine bodyPost_ret (res_mem2 Try.results14 rfl hR) rfl ⟨by first | rfl | simp, hB⟩


set_option maxRecDepth 100000 in
set_option maxHeartbeats 1000000 in
theorem credit_again (p : Par) (m : Mem) (a : Nat) (b : Nat) (w : World) (hc : CheckIs p 0) (hcap : p.cap < 18446744073709551616) (hb : m.s.bal < 18446744073709551616) (ha : a < 18446744073709551616) (hg : m.gone = true) (h0 : 0 < b) (hr : Hid (m.s.bal + m.room p a = b)) : Calls Try.prog 14 #[.agg p.vals, .agg (Rec.vals m), .int .u64 (a : Int)] w fun e w' => e = .returned (.tuple #[.agg (Rec.vals (⟨⟨b, 0, m.s.score, m.s.streak⟩, m.owner, 1⟩ : Mem)), .int .u64 ((a - (p.cap - m.s.bal) : Nat) : Int)]) ∧ Below w.heap.size w w' := by
  have kc := hc
  have kf := fun w => fall_is p.cap m.s.bal w hcap hb
  have kt := fun w => take_is a (p.cap - m.s.bal) w ha (by omega)
  have v3 := p.v3
  have e1 : IntKind.u64.wrap ((m.s.bal : Int) + ((min a (p.cap - m.s.bal) : Nat) : Int)) = (b : Int) := by rw [show (m.s.bal : Int) + ((min a (p.cap - m.s.bal) : Nat) : Int) = (b : Int) by have := hr.out; unfold Mem.room at this; omega]; exact IntWalk.u64_in _ (by have := hr.out; unfold Mem.room at this; omega)
  generalize min a (p.cap - m.s.bal) = r at *
  generalize a - (p.cap - m.s.bal) = q at *
  generalize p.cap - m.s.bal = f at *
  have kg := fun w => gone_is (⟨⟨b, m.s.eff, m.s.score, m.s.streak⟩, m.owner, m.status⟩ : Mem) w
  rw [show Mem.gone (⟨⟨b, m.s.eff, m.s.score, m.s.streak⟩, m.owner, m.status⟩ : Mem) = true from hg] at kg
  have d1 : decide ((0 : Int) < (b : Int)) = true := decide_eq_true (by omega)
  have d2 : decide (0 < b) = true := decide_eq_true h0
  clear hg hr h0
  clear hc hcap hb ha
  go_enter Try.func14, Try.ntmps14
  go_upto_region 1 with fail
  generalize hw0 : World.alloc _ _ = w0
  have hP : ParAt w0 w.heap.size p 42 := by rw [← hw0]; exact (mem_two w p m).1.up ((Below.refl _ _).alloc (Nat.le_refl _) _)
  have hS : RecAt w0 (w.heap.size + 1) (Rec.vals m) 33 := by rw [← hw0]; exact (mem_two w p m).2.1.up ((Below.refl _ _).alloc (Nat.le_refl _) _)
  have hN : RecAt w0 (w.heap.size + 1 + 1) (Rec.vals Mem.zero) 33 := by rw [← hw0]; exact mem_zero_new _ _ (by simp)
  have hB : Below w.heap.size w w0 := by rw [← hw0]; exact (mem_two w p m).2.2.alloc (mem_two w p m).2.2.size _
  clear hw0
  go_wp2_with (first
    | (refine load_par _ rfl rfl _ p _ rfl (by assumption) ?_)
    | (go_at_call 26; refine (kc _).mono ?_; clear kc; rintro e w1 ⟨rfl, hb1⟩; have hP := hP.up hb1; have hS := hS.up hb1; have hN := hN.up hb1; have hB := Below.then hB hb1; clear hb1; have x0 : _ = some (Value.int .u64 (m.s.bal : Int)) := hS.cell 0; have c3 := (hP.cell 3).trans v3)
    | (go_at_call 33; refine (kf _).mono ?_; clear kf; rintro e w1 ⟨rfl, rfl⟩)
    | (go_at_call 32; refine (kt _).mono ?_; clear kt; rintro e w1 ⟨rfl, rfl⟩)
    | (refine store_word _ _ rfl rfl _ 0 (Rec.vals m) (Rec.vals (⟨⟨b, m.s.eff, m.s.score, m.s.streak⟩, m.owner, m.status⟩ : Mem)) _ (b : Int) (m.s.bal : Int) rfl rfl hS rfl rfl ?_; intro w2 hS hb2 hz2 hk2; have hP := hP.below hb2 (Nat.lt_succ_self _); have hN : RecAt w2 _ _ _ := (hk2 _ (by omega)).trans hN; have hB := hB.trans (hb2.mono (Nat.le_succ _)); clear hb2 hk2 hz2)
    | (refine load_rec 33 _ rfl rfl _ (Rec.vals (⟨⟨b, m.s.eff, m.s.score, m.s.streak⟩, m.owner, m.status⟩ : Mem)) rfl hS.lies Try.underlying33 size_mem ?_)
    | (go_at_call 34; refine (kg _).mono ?_; clear kg; rintro e w1 ⟨rfl, hb1⟩; have hP := hP.up hb1; have hS := hS.up hb1; have hN := hN.up hb1; have hB := Below.then hB hb1; clear hb1; have x0 : _ = some (Value.int .u64 (b : Int)) := hS.cell 0)
    | (refine store_int _ _ rfl rfl _ 5 (Rec.vals (⟨⟨b, m.s.eff, m.s.score, m.s.streak⟩, m.owner, m.status⟩ : Mem)) (Rec.vals (⟨⟨b, m.s.eff, m.s.score, m.s.streak⟩, m.owner, 1⟩ : Mem)) _ 1 m.status rfl rfl hS rfl rfl ?_; intro w2 hS hb2 hz2 hk2; have hP := hP.below hb2 (Nat.lt_succ_self _); have hN : RecAt w2 _ _ _ := (hk2 _ (by omega)).trans hN; have hB := hB.trans (hb2.mono (Nat.le_succ _)); clear hb2 hk2 hz2)
    | (refine store_word _ _ rfl rfl _ 1 (Rec.vals (⟨⟨b, m.s.eff, m.s.score, m.s.streak⟩, m.owner, 1⟩ : Mem)) (Rec.vals (⟨⟨b, 0, m.s.score, m.s.streak⟩, m.owner, 1⟩ : Mem)) _ 0 (m.s.eff : Int) rfl rfl hS rfl rfl ?_; intro w2 hS hb2 hz2 hk2; have hP := hP.below hb2 (Nat.lt_succ_self _); have hN : RecAt w2 _ _ _ := (hk2 _ (by omega)).trans hN; have hB := hB.trans (hb2.mono (Nat.le_succ _)); clear hb2 hk2 hz2)
    | (refine load_rec 33 _ rfl rfl _ (Rec.vals (⟨⟨b, 0, m.s.score, m.s.streak⟩, m.owner, 1⟩ : Mem)) rfl hS.lies Try.underlying33 size_mem ?_)
    | (refine store_rec 33 _ _ rfl rfl _ (Rec.vals (⟨⟨b, 0, m.s.score, m.s.streak⟩, m.owner, 1⟩ : Mem)) (Rec.vals Mem.zero) 33 rfl rfl hN size_mem rfl (Rec.one (⟨⟨b, 0, m.s.score, m.s.streak⟩, m.owner, 1⟩ : Mem)) ?_; intro w4 hR hb4 hz4 hk4; have hB := hB.trans (hb4.mono (Nat.le_trans (Nat.le_succ _) (Nat.le_succ _))); clear hz4 hk4 hb4))
  refine bodyPost_ret (res_mem2 Try.results14 rfl hR) rfl ⟨by first | rfl | simp, hB⟩


set_option maxRecDepth 100000 in
set_option maxHeartbeats 1000000 in
theorem credit_none (p : Par) (m : Mem) (a : Nat) (w : World) (hc : CheckIs p 0) (hcap : p.cap < 18446744073709551616) (hb : m.s.bal < 18446744073709551616) (ha : a < 18446744073709551616) (hg : m.gone = true) (hr : Hid (m.s.bal + m.room p a = 0)) : Calls Try.prog 14 #[.agg p.vals, .agg (Rec.vals m), .int .u64 (a : Int)] w fun e w' => e = .returned (.tuple #[.agg (Rec.vals (⟨⟨0, m.s.eff, m.s.score, m.s.streak⟩, m.owner, m.status⟩ : Mem)), .int .u64 ((a - (p.cap - m.s.bal) : Nat) : Int)]) ∧ Below w.heap.size w w' := by
  have kc := hc
  have kf := fun w => fall_is p.cap m.s.bal w hcap hb
  have kt := fun w => take_is a (p.cap - m.s.bal) w ha (by omega)
  have v3 := p.v3
  have e1 : IntKind.u64.wrap ((m.s.bal : Int) + ((min a (p.cap - m.s.bal) : Nat) : Int)) = 0 := by rw [show (m.s.bal : Int) + ((min a (p.cap - m.s.bal) : Nat) : Int) = 0 by have := hr.out; unfold Mem.room at this; omega]; exact IntWalk.u64_in _ (by have := hr.out; unfold Mem.room at this; omega)
  generalize min a (p.cap - m.s.bal) = r at *
  generalize a - (p.cap - m.s.bal) = q at *
  generalize p.cap - m.s.bal = f at *
  have kg := fun w => gone_is (⟨⟨0, m.s.eff, m.s.score, m.s.streak⟩, m.owner, m.status⟩ : Mem) w
  rw [show Mem.gone (⟨⟨0, m.s.eff, m.s.score, m.s.streak⟩, m.owner, m.status⟩ : Mem) = true from hg] at kg
  clear hg hr
  clear hc hcap hb ha
  go_enter Try.func14, Try.ntmps14
  go_upto_region 1 with fail
  generalize hw0 : World.alloc _ _ = w0
  have hP : ParAt w0 w.heap.size p 42 := by rw [← hw0]; exact (mem_two w p m).1.up ((Below.refl _ _).alloc (Nat.le_refl _) _)
  have hS : RecAt w0 (w.heap.size + 1) (Rec.vals m) 33 := by rw [← hw0]; exact (mem_two w p m).2.1.up ((Below.refl _ _).alloc (Nat.le_refl _) _)
  have hN : RecAt w0 (w.heap.size + 1 + 1) (Rec.vals Mem.zero) 33 := by rw [← hw0]; exact mem_zero_new _ _ (by simp)
  have hB : Below w.heap.size w w0 := by rw [← hw0]; exact (mem_two w p m).2.2.alloc (mem_two w p m).2.2.size _
  clear hw0
  go_wp2_with (first
    | (refine load_par _ rfl rfl _ p _ rfl (by assumption) ?_)
    | (go_at_call 26; refine (kc _).mono ?_; clear kc; rintro e w1 ⟨rfl, hb1⟩; have hP := hP.up hb1; have hS := hS.up hb1; have hN := hN.up hb1; have hB := Below.then hB hb1; clear hb1; have x0 : _ = some (Value.int .u64 (m.s.bal : Int)) := hS.cell 0; have c3 := (hP.cell 3).trans v3)
    | (go_at_call 33; refine (kf _).mono ?_; clear kf; rintro e w1 ⟨rfl, rfl⟩)
    | (go_at_call 32; refine (kt _).mono ?_; clear kt; rintro e w1 ⟨rfl, rfl⟩)
    | (refine store_word _ _ rfl rfl _ 0 (Rec.vals m) (Rec.vals (⟨⟨0, m.s.eff, m.s.score, m.s.streak⟩, m.owner, m.status⟩ : Mem)) _ 0 (m.s.bal : Int) rfl rfl hS rfl rfl ?_; intro w2 hS hb2 hz2 hk2; have hP := hP.below hb2 (Nat.lt_succ_self _); have hN : RecAt w2 _ _ _ := (hk2 _ (by omega)).trans hN; have hB := hB.trans (hb2.mono (Nat.le_succ _)); clear hb2 hk2 hz2)
    | (refine load_rec 33 _ rfl rfl _ (Rec.vals (⟨⟨0, m.s.eff, m.s.score, m.s.streak⟩, m.owner, m.status⟩ : Mem)) rfl hS.lies Try.underlying33 size_mem ?_)
    | (go_at_call 34; refine (kg _).mono ?_; clear kg; rintro e w1 ⟨rfl, hb1⟩; have hP := hP.up hb1; have hS := hS.up hb1; have hN := hN.up hb1; have hB := Below.then hB hb1; clear hb1; have x0 : _ = some (Value.int .u64 0) := hS.cell 0)
    | (refine store_rec 33 _ _ rfl rfl _ (Rec.vals (⟨⟨0, m.s.eff, m.s.score, m.s.streak⟩, m.owner, m.status⟩ : Mem)) (Rec.vals Mem.zero) 33 rfl rfl hN size_mem rfl (Rec.one (⟨⟨0, m.s.eff, m.s.score, m.s.streak⟩, m.owner, m.status⟩ : Mem)) ?_; intro w4 hR hb4 hz4 hk4; have hB := hB.trans (hb4.mono (Nat.le_trans (Nat.le_succ _) (Nat.le_succ _))); clear hz4 hk4 hb4))
  refine bodyPost_ret (res_mem2 Try.results14 rfl hR) rfl ⟨by first | rfl | simp, hB⟩


/-- Of right parameters: one with more, and what there is no room for. -/
theorem credit_is (p : Par) (m : Mem) (a : Nat) (w : World) (hc : CheckIs p 0) (hcap : p.cap < 18446744073709551616) (hb : m.s.bal < 18446744073709551616) (ha : a < 18446744073709551616) : Calls Try.prog 14 #[.agg p.vals, .agg (Rec.vals m), .int .u64 (a : Int)] w fun e w' => e = .returned (.tuple #[.agg (Rec.vals (m.credited p a)), .int .u64 ((a - (p.cap - m.s.bal) : Nat) : Int)]) ∧ Below w.heap.size w w' := by
  cases hg : m.gone with
  | false =>
    rw [show m.credited p a = ⟨⟨m.s.bal + m.room p a, m.s.eff, m.s.score, m.s.streak⟩, m.owner, m.status⟩ by simp [Mem.credited, Mem.again, hg]]
    exact credit_stay p m a _ w hc hcap hb ha hg (Lib.hid rfl)
  | true =>
    rcases Nat.eq_zero_or_pos (m.s.bal + m.room p a) with h0 | h0
    · rw [show m.credited p a = ⟨⟨0, m.s.eff, m.s.score, m.s.streak⟩, m.owner, m.status⟩ by simp [Mem.credited, Mem.again, h0]]
      exact credit_none p m a w hc hcap hb ha hg (Lib.hid h0)
    · rw [show m.credited p a = ⟨⟨m.s.bal + m.room p a, 0, m.s.score, m.s.streak⟩, m.owner, 1⟩ by unfold Mem.credited Mem.again; rw [hg, decide_eq_true h0]; rfl]
      exact credit_again p m a _ w hc hcap hb ha hg h0 (Lib.hid rfl)
end Go.Proofs.Ytfmmcklggnflkaa
