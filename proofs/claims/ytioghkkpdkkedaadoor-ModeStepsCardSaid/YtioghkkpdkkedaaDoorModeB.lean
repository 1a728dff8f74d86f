/- Layer 12 (mode): Word, and the document's Step, Of and Word. By contracts. -/
import Derived.Test.YtioghkkpdkkedaaDoorModeA
import Derived.Test.YtioghkkpdkkedaaDoorRef2B
namespace Go.Proofs.YtioghkkpdkkedaaDoor
open Go.RowKit
set_option linter.unusedVariables false
set_option linter.unusedSimpArgs false

/-- Step by what is asked of it: whether there is a quorum. -/
theorem mode_step (p : Par) (c n : Int) (pr ac : Nat) (q : Bool) (w : World) (hp : pr < 18446744073709551616) (ha : ac < 18446744073709551616) (h : Hid (decide (0 < ac ∧ 2 * ac < 3 * pr) = q)) (hn : Hid ((if q = true then 0 else calmer c) = n)) :
    Calls Tryd.prog 5 #[.agg p.vals, .int .i64 c, .int .u64 (pr : Int), .int .u64 (ac : Int)] w fun e w' => e = .returned (.tuple #[.int .i64 n, .bool q]) ∧ Below w.heap.size w w' := by
  cases q with
  | true => obtain rfl : 0 = n := hn.out; exact mode_step_yes p c pr ac w hp ha h
  | false => exact mode_step_no p c n pr ac w hp ha h hn

set_option maxRecDepth 100000 in
theorem refmode_step (c n : Int) (pr ac : Nat) (q : Bool) (w : World) (hp : pr < 18446744073709551616) (ha : ac < 18446744073709551616) (h : Hid (decide (0 < ac ∧ 2 * ac < 3 * pr) = q)) (hn : Hid ((if q = true then 0 else calmer c) = n)) :
    Calls Tryd.prog 6 #[.int .i64 c, .int .u64 (pr : Int), .int .u64 (ac : Int)] w fun e w' => e = .returned (.tuple #[.int .i64 n, .bool q]) ∧ Below w.heap.size w w' := by
  have k := fun w => ref_two pr ac w hp ha
  rw [h.out] at k
  have hm := hn.out
  clear h hp ha hn
  cases q with
  | true =>
    rw [if_pos rfl] at hm
    subst hm
    go_enter Tryd.func6, Tryd.ntmps6
    go_wp2_with (go_at_call 13; refine (k _).mono ?_; rintro e w1 ⟨rfl, hb1⟩)
    go_ret2
    exact ⟨rfl, hb1⟩
  | false =>
    rw [if_neg (by decide)] at hm
    unfold calmer at hm
    by_cases h1 : c < 0
    · rw [if_pos h1] at hm
      subst hm
      go_enter Tryd.func6, Tryd.ntmps6
      go_wp2_with (go_at_call 13; refine (k _).mono ?_; rintro e w1 ⟨rfl, hb1⟩)
      go_ret2
      exact ⟨rfl, hb1⟩
    · rw [if_neg h1] at hm
      by_cases h2 : 1073741824 ≤ c
      · rw [if_pos h2] at hm
        subst hm
        go_enter Tryd.func6, Tryd.ntmps6
        go_wp2_with (go_at_call 13; refine (k _).mono ?_; rintro e w1 ⟨rfl, hb1⟩)
        go_ret2
        exact ⟨rfl, hb1⟩
      · rw [if_neg h2] at hm
        have e1 : IntKind.i64.wrap (c + 1) = n := by rw [hm]; exact IntWalk.i64_in _ (by omega)
        clear hm
        go_enter Tryd.func6, Tryd.ntmps6
        go_wp2_with (go_at_call 13; refine (k _).mono ?_; rintro e w1 ⟨rfl, hb1⟩)
        go_ret2
        exact ⟨by first | rfl | simp [e1], hb1⟩

set_option maxRecDepth 100000 in
theorem refmode_of (d c m : Int) (em : Bool) (w : World) (h : Hid (modeOf d c em = m)) :
    Calls Tryd.prog 8 #[.int .i64 d, .int .i64 c, .bool em] w fun e w' => e = .returned (.int .i64 m) ∧ Below w.heap.size w w' := by
  have hm := h.out
  clear h
  unfold modeOf at hm
  cases em with
  | true =>
    rw [if_pos rfl] at hm
    subst hm
    go_enter Tryd.func8, Tryd.ntmps8
    go_wp2_with fail
    go_ret
    exact ⟨rfl, Below.refl _ _⟩
  | false =>
    rw [if_neg (by decide)] at hm
    by_cases h1 : d < c
    · rw [if_pos h1] at hm
      subst hm
      go_enter Tryd.func8, Tryd.ntmps8
      go_wp2_with fail
      go_ret
      exact ⟨rfl, Below.refl _ _⟩
    · rw [if_neg h1] at hm
      by_cases h2 : 0 < c
      · rw [if_pos h2] at hm
        subst hm
        go_enter Tryd.func8, Tryd.ntmps8
        go_wp2_with fail
        go_ret
        exact ⟨rfl, Below.refl _ _⟩
      · rw [if_neg h2] at hm
        subst hm
        go_enter Tryd.func8, Tryd.ntmps8
        go_wp2_with fail
        go_ret
        exact ⟨rfl, Below.refl _ _⟩

/-- The modes' words. -/
def word (c : Int) : ByteArray :=
  if c = 1 then ⟨#[110, 111, 114, 109, 97, 108]⟩ else if c = 2 then ⟨#[100, 101, 108, 97, 121]⟩ else if c = 3 then ⟨#[108, 101, 97, 107]⟩ else if c = 4 then ⟨#[101, 109, 101, 114, 103, 101, 110, 99, 121]⟩ else ⟨#[]⟩
/-- The program's table holds them. -/
def WordsIn (w : World) : Prop := ∀ i : Nat, i < 5 → w.cell? ⟨0, i, none⟩ = some (.string (word (i : Int)))
theorem WordsIn.up {w w' : World} (h : WordsIn w) (hb : Below w.heap.size w w') : WordsIn w' := fun i hi => (hb.cell (World.block_lt_of_cell? w _ (h i hi))).trans (h i hi)

set_option maxRecDepth 100000 in
theorem refmode_word (c : Int) (s : ByteArray) (w : World) (h : Hid (word c = s)) :
    Calls Tryd.prog 10 #[.int .i64 c] w fun e w' => e = .returned (.string s) ∧ Below w.heap.size w w' := by
  have hm := h.out
  clear h
  unfold word at hm
  by_cases h1 : c = 1
  · rw [if_pos h1] at hm
    subst hm h1
    go_enter Tryd.func10, Tryd.ntmps10
    go_wp2_with fail
    go_ret
    exact ⟨rfl, Below.refl _ _⟩
  rw [if_neg h1] at hm
  by_cases h2 : c = 2
  · rw [if_pos h2] at hm
    subst hm h2
    go_enter Tryd.func10, Tryd.ntmps10
    go_wp2_with fail
    go_ret
    exact ⟨rfl, Below.refl _ _⟩
  rw [if_neg h2] at hm
  by_cases h3 : c = 3
  · rw [if_pos h3] at hm
    subst hm h3
    go_enter Tryd.func10, Tryd.ntmps10
    go_wp2_with fail
    go_ret
    exact ⟨rfl, Below.refl _ _⟩
  rw [if_neg h3] at hm
  by_cases h4 : c = 4
  · rw [if_pos h4] at hm
    subst hm h4
    go_enter Tryd.func10, Tryd.ntmps10
    go_wp2_with fail
    go_ret
    exact ⟨rfl, Below.refl _ _⟩
  rw [if_neg h4] at hm
  subst hm
  go_enter Tryd.func10, Tryd.ntmps10
  go_wp2_with fail
  go_ret
  exact ⟨rfl, Below.refl _ _⟩

set_option maxRecDepth 100000 in
theorem mode_word_out (c : Int) (w : World) (h : c < 0 ∨ 5 ≤ c) :
    Calls Tryd.prog 9 #[.int .i64 c] w fun e w' => e = .returned (.string ⟨#[]⟩) ∧ Below w.heap.size w w' := by
  by_cases h1 : c < 0
  · clear h
    go_enter Tryd.func9, Tryd.ntmps9
    go_wp2_with fail
    go_ret
    exact ⟨rfl, Below.refl _ _⟩
  · have h2 : 5 ≤ c := by omega
    clear h
    go_enter Tryd.func9, Tryd.ntmps9
    go_wp2_with fail
    go_ret
    exact ⟨rfl, Below.refl _ _⟩

set_option maxRecDepth 100000 in
theorem mode_word0 (s : ByteArray) (w : World) (hc : w.cell? ⟨0, 0, none⟩ = some (.string s)) :
    Calls Tryd.prog 9 #[.int .i64 0] w fun e w' => e = .returned (.string s) ∧ Below w.heap.size w w' := by
  go_enter Tryd.func9, Tryd.ntmps9
  go_wp2_with fail
  go_ret
  exact ⟨rfl, Below.refl _ _⟩

set_option maxRecDepth 100000 in
theorem mode_word1 (s : ByteArray) (w : World) (hc : w.cell? ⟨0, 1, none⟩ = some (.string s)) :
    Calls Tryd.prog 9 #[.int .i64 1] w fun e w' => e = .returned (.string s) ∧ Below w.heap.size w w' := by
  go_enter Tryd.func9, Tryd.ntmps9
  go_wp2_with fail
  go_ret
  exact ⟨rfl, Below.refl _ _⟩

set_option maxRecDepth 100000 in
theorem mode_word2 (s : ByteArray) (w : World) (hc : w.cell? ⟨0, 2, none⟩ = some (.string s)) :
    Calls Tryd.prog 9 #[.int .i64 2] w fun e w' => e = .returned (.string s) ∧ Below w.heap.size w w' := by
  go_enter Tryd.func9, Tryd.ntmps9
  go_wp2_with fail
  go_ret
  exact ⟨rfl, Below.refl _ _⟩

set_option maxRecDepth 100000 in
theorem mode_word3 (s : ByteArray) (w : World) (hc : w.cell? ⟨0, 3, none⟩ = some (.string s)) :
    Calls Tryd.prog 9 #[.int .i64 3] w fun e w' => e = .returned (.string s) ∧ Below w.heap.size w w' := by
  go_enter Tryd.func9, Tryd.ntmps9
  go_wp2_with fail
  go_ret
  exact ⟨rfl, Below.refl _ _⟩

set_option maxRecDepth 100000 in
theorem mode_word4 (s : ByteArray) (w : World) (hc : w.cell? ⟨0, 4, none⟩ = some (.string s)) :
    Calls Tryd.prog 9 #[.int .i64 4] w fun e w' => e = .returned (.string s) ∧ Below w.heap.size w w' := by
  go_enter Tryd.func9, Tryd.ntmps9
  go_wp2_with fail
  go_ret
  exact ⟨rfl, Below.refl _ _⟩

theorem mode_word (c : Int) (s : ByteArray) (w : World) (hW : WordsIn w) (h : Hid (word c = s)) :
    Calls Tryd.prog 9 #[.int .i64 c] w fun e w' => e = .returned (.string s) ∧ Below w.heap.size w w' := by
  have hm := h.out
  by_cases ho : c < 0 ∨ 5 ≤ c
  · have e : word c = ⟨#[]⟩ := by unfold word; rw [if_neg (by omega), if_neg (by omega), if_neg (by omega), if_neg (by omega)]
    rw [e] at hm
    subst hm
    exact mode_word_out c w ho
  · rcases (by omega : c = 0 ∨ c = 1 ∨ c = 2 ∨ c = 3 ∨ c = 4) with rfl | rfl | rfl | rfl | rfl
    · exact mode_word0 s w (by rw [← hm]; exact hW 0 (by decide))
    · exact mode_word1 s w (by rw [← hm]; exact hW 1 (by decide))
    · exact mode_word2 s w (by rw [← hm]; exact hW 2 (by decide))
    · exact mode_word3 s w (by rw [← hm]; exact hW 3 (by decide))
    · exact mode_word4 s w (by rw [← hm]; exact hW 4 (by decide))
end Go.Proofs.YtioghkkpdkkedaaDoor
