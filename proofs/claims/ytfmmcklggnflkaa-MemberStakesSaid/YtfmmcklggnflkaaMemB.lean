/- Layer 19 (member): whose a member is, whether it is gone, what it has. By contracts. -/
import Derived.Test.YtfmmcklggnflkaaMemA
namespace Go.Proofs.Ytfmmcklggnflkaa
open Go.RowKit Go.Deep
set_option linter.unusedVariables false
set_option linter.unusedSimpArgs false

set_option maxRecDepth 100000 in
set_option maxHeartbeats 1000000 in
theorem owned_is (m : Mem) (w : World) : Calls Try.prog 28 #[.agg (Rec.vals m)] w fun e w' => e = .returned (.bool m.owned) ∧ Below w.heap.size w w' := by
  obtain ⟨hS, hB⟩ := mem_new w m 33
  have x4 : (World.alloc w (.cells (Rec.vals m) 33)).cell? ⟨w.heap.size, 4, none⟩ = some (.int .i64 m.owner) := hS.cell 4
  unfold Mem.owned
  generalize m.owner = z at *
  clear hS
  by_cases h0 : (0 : Int) ≤ z
  · have d0 : decide ((0 : Int) ≤ z) = true := decide_eq_true h0
    by_cases h1 : z < 64
    · have d1 : decide (z < 64) = true := decide_eq_true h1
      rw [d0, d1]
      clear h0 h1
      go_enter Try.func28, Try.ntmps28
      go_wp2
      go_ret
      exact ⟨by first | rfl | simp, hB⟩
    · have d1 : decide (z < 64) = false := decide_eq_false h1
      rw [d0, d1]
      clear h0 h1
      go_enter Try.func28, Try.ntmps28
      go_wp2
      go_ret
      exact ⟨by first | rfl | simp, hB⟩
  · have d0 : decide ((0 : Int) ≤ z) = false := decide_eq_false h0
    rw [d0, Bool.false_and]
    clear h0
    go_enter Try.func28, Try.ntmps28
    go_wp2
    go_ret
    exact ⟨by first | rfl | simp, hB⟩

set_option maxRecDepth 100000 in
set_option maxHeartbeats 1000000 in
theorem gone_is (m : Mem) (w : World) : Calls Try.prog 34 #[.agg (Rec.vals m)] w fun e w' => e = .returned (.bool m.gone) ∧ Below w.heap.size w w' := by
  obtain ⟨hS, hB⟩ := mem_new w m 33
  have x5 : (World.alloc w (.cells (Rec.vals m) 33)).cell? ⟨w.heap.size, 5, none⟩ = some (.int .i64 m.status) := hS.cell 5
  unfold Mem.gone
  generalize m.status = z at *
  clear hS
  by_cases h4 : z = 4
  · subst h4
    rw [show (decide ((4 : Int) = 4) || decide ((4 : Int) = 5)) = true from rfl]
    go_enter Try.func34, Try.ntmps34
    go_wp2
    go_ret
    exact ⟨by first | rfl | simp, hB⟩
  · by_cases h5 : z = 5
    · subst h5
      rw [show (decide ((5 : Int) = 4) || decide ((5 : Int) = 5)) = true from rfl]
      go_enter Try.func34, Try.ntmps34
      go_wp2
      go_ret
      exact ⟨by first | rfl | simp, hB⟩
    · have d2 : (z == 4) = false := by simp [h4]
      have d3 : (z == 5) = false := by simp [h5]
      have d4 : decide (z = 4) = false := by simp [h4]
      have d5 : decide (z = 5) = false := by simp [h5]
      rw [d4, d5]
      clear h4 h5
      go_enter Try.func34, Try.ntmps34
      go_wp2
      go_ret
      exact ⟨by first | rfl | simp, hB⟩

set_option maxRecDepth 100000 in
set_option maxHeartbeats 1000000 in
theorem staked_is (p : Par) (m : Mem) (w : World) : Calls Try.prog 30 #[.agg p.vals, .agg (Rec.vals m)] w fun e w' => e = .returned (.bool (m.staked p)) ∧ Below w.heap.size w w' := by
  have hP0 := ParAt.new w p 42
  obtain ⟨W, hW⟩ : ∃ W, W = w.alloc (.cells p.vals 42) := ⟨_, rfl⟩
  have hP : ParAt (World.alloc (w.alloc (.cells p.vals 42)) (.cells (Rec.vals m) 33)) w.heap.size p 42 := hP0.up ((Below.refl _ _).alloc (Nat.le_refl _) _)
  have hS : RecAt (World.alloc (w.alloc (.cells p.vals 42)) (.cells (Rec.vals m) 33)) (w.heap.size + 1) (Rec.vals m) 33 := by have := RecAt.new (w.alloc (.cells p.vals 42)) (Rec.vals m) 33; simpa using this
  have hB : Below w.heap.size w (World.alloc (w.alloc (.cells p.vals 42)) (.cells (Rec.vals m) 33)) := ((Below.refl _ _).alloc (Nat.le_refl _) _).alloc (by simp) _
  have x0 : (World.alloc (w.alloc (.cells p.vals 42)) (.cells (Rec.vals m) 33)).cell? ⟨w.heap.size + 1, 0, none⟩ = some (.int .u64 (m.s.bal : Int)) := hS.cell 0
  have p2 := (hP.cell 2).trans p.v2
  have p3 := (hP.cell 3).trans p.v3
  unfold Mem.staked
  generalize m.s.bal = b at *
  clear hS hP hP0 hW
  by_cases h0 : p.floor < b
  · have d0 : decide ((p.floor : Int) < (b : Int)) = true := decide_eq_true (by omega)
    have e0 : decide (p.floor < b) = true := decide_eq_true h0
    by_cases h1 : b ≤ p.cap
    · have d1 : decide ((b : Int) ≤ (p.cap : Int)) = true := decide_eq_true (by omega)
      have e1 : decide (b ≤ p.cap) = true := decide_eq_true h1
      rw [e0, e1]
      clear h0 h1
      go_enter Try.func30, Try.ntmps30
      go_wp2
      go_ret
      exact ⟨by first | rfl | simp, hB⟩
    · have d1 : decide ((b : Int) ≤ (p.cap : Int)) = false := decide_eq_false (by omega)
      have e1 : decide (b ≤ p.cap) = false := decide_eq_false h1
      rw [e0, e1]
      clear h0 h1
      go_enter Try.func30, Try.ntmps30
      go_wp2
      go_ret
      exact ⟨by first | rfl | simp, hB⟩
  · have d0 : decide ((p.floor : Int) < (b : Int)) = false := decide_eq_false (by omega)
    have e0 : decide (p.floor < b) = false := decide_eq_false h0
    rw [e0, Bool.false_and]
    clear h0
    go_enter Try.func30, Try.ntmps30
    go_wp2
    go_ret
    exact ⟨by first | rfl | simp, hB⟩
end Go.Proofs.Ytfmmcklggnflkaa
