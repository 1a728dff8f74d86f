/- Layer 11 (score): the methods of a working copy. By contracts. -/
import Derived.Test.YtfdjpaaahekkbaaScoA
import Derived.Test.YtfdjpaaahekkbaaMoneyB
namespace Go.Proofs.Ytfdjpaaahekkbaa
open Go.RowKit
set_option linter.unusedVariables false
set_option linter.unusedSimpArgs false

theorem leaks11_is (m : Int) (w : World) :
    Calls Try.prog 9 #[.int .i64 m] w fun e w' => e = .returned (.bool (Std.leaky m)) ∧ w = w' := by
  by_cases h3 : m = 3
  · subst h3
    go_enter Try.func9, Try.ntmps9
    go_wp2
    go_ret
    exact ⟨rfl, rfl⟩
  · have e1 : (m == 3) = false := by simpa using h3
    have e2 : Std.leaky m = (m == 4) := by unfold Std.leaky; rw [e1]; rfl
    rw [e2]
    clear e2
    go_enter Try.func9, Try.ntmps9
    go_wp2
    go_ret
    exact ⟨by first | rfl | simp [e1], rfl⟩
theorem bias_is (s : Std) (p : Par) (b : Nat) (m : Int) (w : World) (hW : WorkAt w b s p 48) :
    Calls Try.prog 33 #[.pointer (some ⟨b, 0, none⟩), .int .i64 m] w fun e w' => e = .returned (.int .u64 (Std.gain p m : Int)) ∧ w = w' := by
  have c6 := hW.bias
  have c8 := hW.biasEm
  by_cases h4 : m = 4
  · subst h4
    go_enter Try.func33, Try.ntmps33
    go_wp2
    go_ret
    exact ⟨rfl, rfl⟩
  · have e1 : (m == 4) = false := by simpa using h4
    have e2 : Std.gain p m = p.bias := by unfold Std.gain; rw [e1]; rfl
    rw [e2]
    clear e2
    go_enter Try.func33, Try.ntmps33
    go_wp2
    go_ret
    exact ⟨rfl, rfl⟩

theorem WorkAt.setStreak {w : World} {b : Nat} {s t : Std} {p : Par} {T : TypeId} {x : Int} (h : WorkAt w b s p T) (ht : t = ⟨s.bal, s.eff, s.score, x⟩) : WorkAt (w.setCell ⟨b, 3, none⟩ (.int .i64 x)) b t p T := by
  subst ht; exact heap_setCell_same w b 3 _ _ _ h
theorem WorkAt.setScore {w : World} {b : Nat} {s t : Std} {p : Par} {T : TypeId} {x : Int} (h : WorkAt w b s p T) (ht : (t.score : Int) = x ∧ t.bal = s.bal ∧ t.eff = s.eff ∧ t.streak = s.streak) : WorkAt (w.setCell ⟨b, 2, none⟩ (.int .u64 x)) b t p T := by
  obtain ⟨rfl, h1, h2, h3⟩ := ht
  have := heap_setCell_same w b 2 _ _ (.int .u64 (t.score : Int)) h
  unfold WorkAt
  rw [this]
  obtain ⟨x0, x1, x2, x3⟩ := t
  obtain ⟨y0, y1, y2, y3⟩ := s
  simp only at h1 h2 h3
  subst h1 h2 h3
  rfl
theorem WorkAt.froz {w : World} {b : Nat} {s : Std} {p : Par} {T : TypeId} (h : WorkAt w b s p T) (k : Nat) : w.frozen? ⟨b, k, none⟩ = false := frozen_of_row w b k _ _ h

set_option maxRecDepth 100000 in
set_option maxHeartbeats 1000000 in
theorem there_is (s : Std) (p : Par) (b : Nat) (w : World) (hW : WorkAt w b s p 48) (hf : s.Fits) (h0 : 0 ≤ p.streak) (h1 : p.streak ≤ 64) (hr : p.recover < 18446744073709551616) :
    Calls Try.prog 18 #[.pointer (some ⟨b, 0, none⟩)] w fun e w' => e = .returned (.tuple #[]) ∧ WorkAt w' b (Std.there p s) p 48 ∧ Below b w w' := by
  have c3 := hW.streak
  have c19 := hW.most
  have f3 := hW.froz 3
  have e1 : IntKind.i64.wrap (p.streak - 1) = p.streak - 1 := IntWalk.i64_in _ (by omega)
  have e2 : IntKind.i64.wrap (min (max s.streak 0) (p.streak - 1) + 1) = min (max s.streak 0) (p.streak - 1) + 1 := IntWalk.i64_in _ (by omega)
  have k := fun w => fall_is s.score p.recover w hf.score hr
  clear hf h0 h1 hr
  go_enter Try.func18, Try.ntmps18
  go_wp2
  go_region
  generalize hw1 : World.setCell _ _ _ = w1
  have hW1 : WorkAt w1 b ⟨s.bal, s.eff, s.score, min (max s.streak 0) (p.streak - 1) + 1⟩ p 48 := by rw [← hw1]; exact WorkAt.setStreak hW rfl
  have hB1 : Below b w w1 := by rw [← hw1]; exact Below.setCell (p := ⟨b, 3, none⟩) (Below.refl b w) (Nat.le_refl _) _
  clear hw1 hW c3 c19 f3 e1 e2
  have c2 := hW1.score
  have c14 := hW1.recover
  have f2 := hW1.froz 2
  go_wp2
  go_region_with (go_at_call 31; refine (k _).mono ?_; rintro e w' ⟨rfl, rfl⟩)
  all_goals
    go_end0
    exact ⟨rfl, WorkAt.setScore hW1 ⟨rfl, rfl, rfl, rfl⟩, (hB1.setCell (p := ⟨b, 2, none⟩) (Nat.le_refl _) _).drew.drew⟩

set_option maxRecDepth 100000 in
set_option maxHeartbeats 1000000 in
theorem strim_is (s : Std) (p : Par) (b : Nat) (w : World) (hW : WorkAt w b s p 48) :
    Calls Try.prog 20 #[.pointer (some ⟨b, 0, none⟩)] w fun e w' => e = .returned (.tuple #[]) ∧ WorkAt w' b (Std.trim p s) p 48 ∧ Below b w w' := by
  have c3 := hW.streak
  have c19 := hW.most
  have f3 := hW.froz 3
  go_enter Try.func20, Try.ntmps20
  go_wp2
  go_region
  generalize hw1 : World.setCell _ _ _ = w1
  have hW1 : WorkAt w1 b ⟨s.bal, s.eff, s.score, min (max s.streak 0) p.streak⟩ p 48 := by rw [← hw1]; exact WorkAt.setStreak hW rfl
  have hB1 : Below b w w1 := by rw [← hw1]; exact Below.setCell (p := ⟨b, 3, none⟩) (Below.refl b w) (Nat.le_refl _) _
  clear hw1 hW c3 c19 f3
  have c2 := hW1.score
  have c15 := hW1.scoreCap
  have f2 := hW1.froz 2
  go_wp2
  go_region
  go_end0
  exact ⟨rfl, WorkAt.setScore hW1 ⟨by simp only [Std.trim]; omega, rfl, rfl, rfl⟩, (hB1.setCell (p := ⟨b, 2, none⟩) (Nat.le_refl _) _).drew.drew⟩

set_option maxRecDepth 100000 in
set_option maxHeartbeats 1000000 in
theorem away_is (s : Std) (p : Par) (b : Nat) (m : Int) (w : World) (hW : WorkAt w b s p 48) (hf : s.Fits) (hg : Std.gain p m < 18446744073709551616) (hc : p.scoreCap < 18446744073709551616) :
    Calls Try.prog 19 #[.pointer (some ⟨b, 0, none⟩), .int .i64 m] w fun e w' => e = .returned (.tuple #[]) ∧ WorkAt w' b (Std.away p m s) p 48 ∧ Below b w w' := by
  have c3 := hW.streak
  have f3 := hW.froz 3
  have kl := fun w => leaks11_is m w
  have kr := fun w => rise_is s.score (Std.gain p m) p.scoreCap w hf.score hg hc
  have hsc := hf.score
  clear hf hg hc
  cases hm : Std.leaky m with
  | false =>
    rw [hm] at kl
    have ht : Std.away p m s = ⟨s.bal, s.eff, s.score, 0⟩ := by simp only [Std.away, hm, cond_false]
    rw [ht]
    clear hm ht kr
    go_enter Try.func19, Try.ntmps19
    go_wp2_with (first
      | (go_at_call 9; refine (kl _).mono ?_; rintro e w' ⟨rfl, rfl⟩))
    first | go_end0 | go_ret
    exact ⟨rfl, WorkAt.setStreak hW rfl, Below.setCell (p := ⟨b, 3, none⟩) (Below.refl b w) (Nat.le_refl _) _⟩
  | true =>
    rw [hm] at kl
    have ht : Std.away p m s = ⟨s.bal, s.eff, min (s.score + Std.gain p m) p.scoreCap, 0⟩ := by simp only [Std.away, hm, cond_true]
    rw [ht]
    clear hm ht
    generalize hG : Std.gain p m = G at *
    go_enter Try.func19, Try.ntmps19
    go_upto_region 1 with fail
    generalize hw1 : World.setCell _ _ _ = w1
    have hW1 : WorkAt w1 b ⟨s.bal, s.eff, s.score, 0⟩ p 48 := by rw [← hw1]; exact WorkAt.setStreak hW rfl
    have hB1 : Below b w w1 := by rw [← hw1]; exact Below.setCell (p := ⟨b, 3, none⟩) (Below.refl b w) (Nat.le_refl _) _
    have kb := fun w' (h : WorkAt w' b ⟨s.bal, s.eff, s.score, 0⟩ p 48) => bias_is _ p b m w' h
    rw [hG] at kb
    clear hw1 hW c3 f3
    have c2 := hW1.score
    have c15 := hW1.scoreCap
    have f2 := hW1.froz 2
    go_wp2_with (first
      | (go_at_call 9; refine (kl _).mono ?_; rintro e w' ⟨rfl, rfl⟩))
    go_region_with (first
      | (go_at_call 33; refine (kb _ (by exact hW1)).mono ?_; rintro e w' ⟨rfl, rfl⟩)
      | (go_at_call 32; refine (kr _).mono ?_; rintro e w' ⟨rfl, rfl⟩))
    all_goals
      go_end0
      exact ⟨rfl, WorkAt.setScore hW1 ⟨rfl, rfl, rfl, rfl⟩, (hB1.setCell (p := ⟨b, 2, none⟩) (Nat.le_refl _) _).drew⟩
end Go.Proofs.Ytfdjpaaahekkbaa
