/- Layer 12 (mode): Step and Of. By contracts. -/
import Derived.Test.YtioghkkpdkkedaaDoorRatioB
import Derived.Test.YtioghkkpdkkedaaDoorParNew
namespace Go.Proofs.YtioghkkpdkkedaaDoor
open Go.RowKit
set_option linter.unusedVariables false
set_option linter.unusedSimpArgs false

/-- How calm it is behind a tick without a quorum. -/
def calmer (c : Int) : Int := if c < 0 then 1 else if 1073741824 ≤ c then 1073741824 else c + 1
theorem calmer_nat {n : Nat} (h : n < 1073741824) : calmer (n : Int) = ((n + 1 : Nat) : Int) := by
  unfold calmer; rw [if_neg (by omega), if_neg (by omega)]; rfl
/-- The mode. -/
def modeOf (delay calm : Int) (em : Bool) : Int := if em = true then 4 else if delay < calm then 3 else if 0 < calm then 2 else 1

set_option maxRecDepth 100000 in
theorem mode_step_yes (p : Par) (c : Int) (pr ac : Nat) (w : World) (hp : pr < 18446744073709551616) (ha : ac < 18446744073709551616) (h : Hid (decide (0 < ac ∧ 2 * ac < 3 * pr) = true)) :
    Calls Tryd.prog 5 #[.agg p.vals, .int .i64 c, .int .u64 (pr : Int), .int .u64 (ac : Int)] w fun e w' => e = .returned (.tuple #[.int .i64 0, .bool true]) ∧ Below w.heap.size w w' := by
  have hB : Below w.heap.size w (w.alloc (.cells p.vals 24)) := (Below.refl _ _).alloc (Nat.le_refl _) _
  have k := fun w => ratio_two pr ac w hp ha
  rw [h.out] at k
  clear h hp ha
  go_enter Tryd.func5, Tryd.ntmps5
  go_wp2_with (go_at_call 12; refine (k _).mono ?_; rintro e w1 ⟨rfl, hb1⟩)
  go_ret2
  exact ⟨rfl, Below.then hB hb1⟩

set_option maxRecDepth 100000 in
theorem mode_step_no (p : Par) (c n : Int) (pr ac : Nat) (w : World) (hp : pr < 18446744073709551616) (ha : ac < 18446744073709551616) (h : Hid (decide (0 < ac ∧ 2 * ac < 3 * pr) = false)) (hn : Hid (calmer c = n)) :
    Calls Tryd.prog 5 #[.agg p.vals, .int .i64 c, .int .u64 (pr : Int), .int .u64 (ac : Int)] w fun e w' => e = .returned (.tuple #[.int .i64 n, .bool false]) ∧ Below w.heap.size w w' := by
  have hB : Below w.heap.size w (w.alloc (.cells p.vals 24)) := (Below.refl _ _).alloc (Nat.le_refl _) _
  have k := fun w => ratio_two pr ac w hp ha
  rw [h.out] at k
  have e1 : min (max c 0) 1073741823 + 1 = n := by
    rw [← hn.out]; unfold calmer
    split
    · omega
    · split <;> omega
  have e2 : IntKind.i64.wrap n = n := by
    rw [← hn.out]; unfold calmer
    split
    · rfl
    · split
      · rfl
      · exact IntWalk.i64_in _ (by omega)
  clear h hp ha hn
  go_enter Tryd.func5, Tryd.ntmps5
  go_wp2_with (go_at_call 12; refine (k _).mono ?_; rintro e w1 ⟨rfl, hb1⟩)
  go_ret2
  exact ⟨by first | rfl | simp [e1, e2], Below.then hB hb1⟩

set_option maxRecDepth 100000 in
theorem mode_of (p : Par) (c m : Int) (em : Bool) (w : World) (h : Hid (modeOf p.delay c em = m)) :
    Calls Tryd.prog 7 #[.agg p.vals, .int .i64 c, .bool em] w fun e w' => e = .returned (.int .i64 m) ∧ Below w.heap.size w w' := by
  have hP := ParAt.new w p 24
  have hB : Below w.heap.size w (w.alloc (.cells p.vals 24)) := (Below.refl _ _).alloc (Nat.le_refl _) _
  have hm := h.out
  unfold modeOf at hm
  cases em with
  | true =>
    rw [if_pos rfl] at hm
    subst hm
    clear h hP
    go_enter Tryd.func7, Tryd.ntmps7
    go_wp2_with fail
    go_ret
    exact ⟨rfl, hB⟩
  | false =>
    rw [if_neg (by decide)] at hm
    have c14 : (w.alloc (.cells p.vals 24)).cell? ⟨w.heap.size, 14, none⟩ = some (.int .i64 p.delay) := hP.cell 14
    clear h hP
    by_cases h1 : p.delay < c
    · rw [if_pos h1] at hm
      subst hm
      go_enter Tryd.func7, Tryd.ntmps7
      go_wp2_with fail
      go_ret
      exact ⟨rfl, hB⟩
    · rw [if_neg h1] at hm
      by_cases h2 : 0 < c
      · rw [if_pos h2] at hm
        subst hm
        go_enter Tryd.func7, Tryd.ntmps7
        go_wp2_with fail
        go_ret
        exact ⟨rfl, hB⟩
      · rw [if_neg h2] at hm
        subst hm
        go_enter Tryd.func7, Tryd.ntmps7
        go_wp2_with fail
        go_ret
        exact ⟨rfl, hB⟩
end Go.Proofs.YtioghkkpdkkedaaDoor
