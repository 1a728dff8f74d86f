/- Layer 11 (score): the methods of a working copy. By contracts. · Layer 11 (score): After, Trim. By contracts. -/
import Derived.Test.YtcggcnegagogkaaScoS
import Derived.Test.YtcggcnegagogkaaLeaky
import Derived.Test.YtcggcnegagogkaaMoneySum
import Derived.Test.YtcggcnegagogkaaCheck
namespace Go.Proofs.Ytcggcnegagogkaa
open Go.RowKit
set_option linter.unusedVariables false
set_option linter.unusedSimpArgs false

theorem WorkAt.setStreak {w : World} {b : Nat} {s t : Std} {p : Par} {T : TypeId} {x : Int} (h : WorkAt w b s p T) (ht : t = ⟨s.bal, s.eff, s.score, x⟩) : WorkAt (w.setCell ⟨b, 3, none⟩ (.int .i64 x)) b t p T := by
  subst ht; exact heap_setCell_same w b 3 _ _ _ h
theorem WorkAt.setScore {w : World} {b : Nat} {s t : Std} {p : Par} {T : TypeId} {x : Int} (h : WorkAt w b s p T) (ht : (t.score : Int) = x ∧ t.bal = s.bal ∧ t.eff = s.eff ∧ t.streak = s.streak) : WorkAt (w.setCell ⟨b, 2, none⟩ (.int .u64 x)) b t p T := by
  obtain ⟨rfl, h1, h2, h3⟩ := ht
  have := heap_setCell_same w b 2 _ _ (.int .u64 (t.score : Int)) h
  unfold WorkAt
  rw [this]
  obtain ⟨x0, x1, x2, x3⟩ := t
  obtain ⟨y0, y1, y2, y3⟩ := s
  simp only at h1 h2 h3
  subst h1 h2 h3
  rfl
theorem WorkAt.froz {w : World} {b : Nat} {s : Std} {p : Par} {T : TypeId} (h : WorkAt w b s p T) (k : Nat) : w.frozen? ⟨b, k, none⟩ = false := frozen_of_row w b k _ _ h

end Go.Proofs.Ytcggcnegagogkaa
namespace Go.Proofs.Ytcggcnegagogkaa
open Go.RowKit
set_option linter.unusedVariables false
set_option linter.unusedSimpArgs false


end Go.Proofs.Ytcggcnegagogkaa
