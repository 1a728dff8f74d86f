/- The chapter's examples of layer 4 hold, as every law of the layer asks first. -/
import Derived.Test.YtcmfoioljnkcbaaShareD
import Derived.Test.YtcmfoioljnkcbaaRef4
namespace Go.Proofs.Ytcmfoioljnkcbaa
open Go.RowKit Go.Shelf
set_option linter.unusedVariables false

theorem row_lit (w : World) (cs : Array Value) (t : TypeId) : Row (w.alloc (.cells cs t)) (w.heap.size + 1) (some ⟨w.heap.size, 0, none⟩) cs.toList := by
  intro k v hv
  refine ⟨⟨w.heap.size, 0, none⟩, rfl, by simp, ?_⟩
  have h := World.alloc_heap_new w (.cells cs t)
  have hadd : (⟨w.heap.size, 0, none⟩ : Addr).add k = ⟨w.heap.size, k, none⟩ := by
    unfold Addr.add
    by_cases hk : k = 0
    · subst hk; rfl
    · rw [if_neg hk]; simp
  rw [hadd, World.cell?_alloc_at _ _ _ _ rfl]
  simpa using hv

theorem split_ex (A : Option Addr) (c : Nat) (w : World) (hr : Row w w.heap.size A (u64s [1, 1, 1])) :
    Calls Try.prog 11 #[.int .u64 10, .slice A 3 c] w fun e w' => ∃ A' c', e = .returned (.tuple #[.slice A' 3 c', .int .u64 1, .int .i64 0]) ∧ Row w' w'.heap.size A' (u64s [3, 3, 3]) ∧ Below w.heap.size w w' := by
  refine (share_split_ok 10 [1, 1, 1] A c w (by decide) hr (by unfold Fits; decide)).mono ?_
  rintro e w' ⟨v, rfl, hown, hb⟩
  obtain ⟨A', c', rfl, _, _, hrow⟩ := Row.of_own hown
  exact ⟨A', c', rfl, hrow, hb⟩

theorem spread_ex (A : Option Addr) (c : Nat) (w : World) (hr : Row w w.heap.size A (u64s [0, 1, 1, 1])) :
    Calls Try.prog 14 #[.int .u64 10, .slice A 4 c] w fun e w' => ∃ A' c', e = .returned (.tuple #[.slice A' 4 c', .int .i64 0]) ∧ Row w' w'.heap.size A' (u64s [0, 4, 3, 3]) ∧ Below w.heap.size w w' := by
  refine (share_spread_ok 10 [0, 1, 1, 1] A c w (by decide) hr (by unfold Fits; decide) (by decide)).mono ?_
  rintro e w' ⟨v, rfl, hown, hb⟩
  obtain ⟨A', c', rfl, _, _, hrow⟩ := Row.of_own hown
  exact ⟨A', c', rfl, hrow, hb⟩

set_option maxHeartbeats 1000000 in
theorem share_awake (w : World) : Calls Try.prog 8 #[] w fun e w' => e = .returned (.bool true) ∧ Below w.heap.size w w' := by
  have k1 : ∀ W, W = w.alloc (.cells #[.int .u64 1, .int .u64 1, .int .u64 1] 22) → Calls Try.prog 11 #[.int .u64 10, .slice (some ⟨w.heap.size, 0, none⟩) 3 3] W fun e w' =>
      ∃ A' c', e = .returned (.tuple #[.slice A' 3 c', .int .u64 1, .int .i64 0]) ∧ Row w' w'.heap.size A' (u64s [3, 3, 3]) ∧ Below w.heap.size w w' := by
    rintro W rfl
    refine (split_ex _ 3 _ ((row_lit w _ _).up (by simp))).mono ?_
    rintro e w' ⟨A', c', h1, h2, h3⟩
    exact ⟨A', c', h1, h2, ((Below.refl _ _).alloc (Nat.le_refl _) _).trans (h3.mono (by simp))⟩
  have k2 : ∀ (w1 W : World), W = w1.alloc (.cells #[.int .u64 0, .int .u64 1, .int .u64 1, .int .u64 1] 22) → Calls Try.prog 14 #[.int .u64 10, .slice (some ⟨w1.heap.size, 0, none⟩) 4 4] W fun e w' =>
      ∃ A' c', e = .returned (.tuple #[.slice A' 4 c', .int .i64 0]) ∧ Row w' w'.heap.size A' (u64s [0, 4, 3, 3]) ∧ Below w1.heap.size w1 w' := by
    rintro w1 W rfl
    refine (spread_ex _ 4 _ ((row_lit w1 _ _).up (by simp))).mono ?_
    rintro e w' ⟨A', c', h1, h2, h3⟩
    exact ⟨A', c', h1, h2, ((Below.refl _ _).alloc (Nat.le_refl _) _).trans (h3.mono (by simp))⟩
  have k3 : ∀ (A : Option Addr) (c : Nat) (w1 W : World), Row w1 w1.heap.size A (u64s [3, 3, 3]) → W = w1.alloc (.cells #[.int .u64 3, .int .u64 3, .int .u64 3] 22) → Calls Try.prog 13 #[.slice A 3 c, .slice (some ⟨w1.heap.size, 0, none⟩) 3 3] W fun e w' =>
      e = .returned (.bool true) ∧ Below w1.heap.size w1 w' := by
    rintro A c w1 W hr rfl
    refine (same_true [3, 3, 3] A _ c 3 _ ((hr.alloc (Nat.le_refl _) _).up (by simp)) ((row_lit w1 _ _).up (by simp)) (by decide)).mono ?_
    rintro e w' ⟨h1, h3⟩
    exact ⟨h1, ((Below.refl _ _).alloc (Nat.le_refl _) _).trans (h3.mono (by simp))⟩
  have k4 : ∀ (A : Option Addr) (c : Nat) (w1 W : World), Row w1 w1.heap.size A (u64s [0, 4, 3, 3]) → W = w1.alloc (.cells #[.int .u64 0, .int .u64 4, .int .u64 3, .int .u64 3] 22) → Calls Try.prog 13 #[.slice A 4 c, .slice (some ⟨w1.heap.size, 0, none⟩) 4 4] W fun e w' =>
      e = .returned (.bool true) ∧ Below w1.heap.size w1 w' := by
    rintro A c w1 W hr rfl
    refine (same_true [0, 4, 3, 3] A _ c 4 _ ((hr.alloc (Nat.le_refl _) _).up (by simp)) ((row_lit w1 _ _).up (by simp)) (by decide)).mono ?_
    rintro e w' ⟨h1, h3⟩
    exact ⟨h1, ((Below.refl _ _).alloc (Nat.le_refl _) _).trans (h3.mono (by simp))⟩
  go_enter Try.func8, Try.ntmps8
  go_wp2_with (first
    | (go_at_call 11; refine (k1 _ rfl).mono ?_; clear k1; rintro e w1 ⟨A1, c1, rfl, hr1, hb1⟩)
    | (go_at_call 14; refine (k2 w1 _ rfl).mono ?_; clear k2; rintro e w2 ⟨A2, c2, rfl, hr2, hb2⟩)
    | (go_at_call 13; refine (k3 A1 c1 w2 _ ((hr1.below hb2).up hb2.size) rfl).mono ?_; clear k3; rintro e w3 ⟨rfl, hb3⟩)
    | (go_at_call 13; refine (k4 A2 c2 w3 _ ((hr2.below hb3).up hb3.size) rfl).mono ?_; clear k4; rintro e w4 ⟨rfl, hb4⟩))
  go_ret
  exact ⟨rfl, Below.then (Below.then (Below.then hb1 hb2) hb3) hb4⟩
end Go.Proofs.Ytcmfoioljnkcbaa
