/- Layer 11 (score): the methods of a working copy. By contracts. -/
import Derived.Test.YtfmmcklggnflkaaScoS
import Derived.Test.YtfmmcklggnflkaaLeaky
import Derived.Test.YtfmmcklggnflkaaMoneyB
namespace Go.Proofs.Ytfmmcklggnflkaa
open Go.RowKit
set_option linter.unusedVariables false
set_option linter.unusedSimpArgs false

theorem WorkAt.setStreak {w : World} {b : Nat} {s t : Std} {p : Par} {T : TypeId} {x : Int} (h : WorkAt w b s p T) (ht : t = ⟨s.bal, s.eff, s.score, x⟩) : WorkAt (w.setCell ⟨b, 3, none⟩ (.int .i64 x)) b t p T := by
  subst ht; exact heap_setCell_same w b 3 _ _ _ h
theorem WorkAt.setScore {w : World} {b : Nat} {s t : Std} {p : Par} {T : TypeId} {x : Int} (h : WorkAt w b s p T) (ht : (t.score : Int) = x ∧ t.bal = s.bal ∧ t.eff = s.eff ∧ t.streak = s.streak) : WorkAt (w.setCell ⟨b, 2, none⟩ (.int .u64 x)) b t p T := by
  obtain ⟨rfl, h1, h2, h3⟩ := ht
  have := heap_setCell_same w b 2 _ _ (.int .u64 (t.score : Int)) h
  unfold WorkAt
  rw [this]
  obtain ⟨x0, x1, x2, x3⟩ := t
  obtain ⟨y0, y1, y2, y3⟩ := s
  simp only at h1 h2 h3
  subst h1 h2 h3
  rfl
theorem WorkAt.froz {w : World} {b : Nat} {s : Std} {p : Par} {T : TypeId} (h : WorkAt w b s p T) (k : Nat) : w.frozen? ⟨b, k, none⟩ = false := frozen_of_row w b k _ _ h

set_option maxRecDepth 100000 in
set_option maxHeartbeats 1000000 in
theorem strim_is (s : Std) (p : Par) (b : Nat) (w : World) (hW : WorkAt w b s p 89) :
    Calls Try.prog 48 #[.pointer (some ⟨b, 0, none⟩)] w fun e w' => e = .returned (.tuple #[]) ∧ WorkAt w' b (Std.trim p s) p 89 ∧ Below b w w' := by
  have c3 := hW.streak
  have c19 := hW.most
  have f3 := hW.froz 3
  go_enter Try.func48, Try.ntmps48
  go_wp2
  go_region
  generalize hw1 : World.setCell _ _ _ = w1
  have hW1 : WorkAt w1 b ⟨s.bal, s.eff, s.score, min (max s.streak 0) p.streak⟩ p 89 := by rw [← hw1]; exact WorkAt.setStreak hW rfl
  have hB1 : Below b w w1 := by rw [← hw1]; exact Below.setCell (p := ⟨b, 3, none⟩) (Below.refl b w) (Nat.le_refl _) _
  clear hw1 hW c3 c19 f3
  have c2 := hW1.score
  have c15 := hW1.scoreCap
  have f2 := hW1.froz 2
  go_wp2
  go_region
  go_end0
  exact ⟨rfl, WorkAt.setScore hW1 ⟨by simp only [Std.trim]; omega, rfl, rfl, rfl⟩, (hB1.setCell (p := ⟨b, 2, none⟩) (Nat.le_refl _) _).drew.drew⟩

end Go.Proofs.Ytfmmcklggnflkaa
