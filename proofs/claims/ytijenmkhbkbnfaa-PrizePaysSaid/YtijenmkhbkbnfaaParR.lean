/- Layer 7 (param), the document's: which parameters are right. By contracts. -/
import Derived.Test.YtijenmkhbkbnfaaParA
import Derived.Deep.QuietTactic
import Derived.BigQuiet
namespace Go.Proofs.Ytijenmkhbkbnfaa
open Go.RowKit
set_option linter.unusedVariables false

theorem wide_is (n lo hi : Nat) (r : Bool) (w : World) (h : Hid (Par.okW (n, lo, hi) = r)) :
    Calls Try.prog 22 #[.int .u64 (n : Int), .int .u64 (lo : Int), .int .u64 (hi : Int)] w fun e w' => e = .returned (.bool r) ∧ w = w' := by
  have h' : (decide (lo ≤ n) && decide (n ≤ hi)) = r := h.out
  clear h
  by_cases h1 : lo ≤ n
  · by_cases h2 : n ≤ hi
    · obtain rfl : r = true := by rw [← h']; simp [h1, h2]
      clear h'
      have d1 : decide (lo ≤ n) = true := by simpa using h1
      have d2 : decide (n ≤ hi) = true := by simpa using h2
      go_enter Try.func22, Try.ntmps22
      go_wp2
      go_ret
      exact ⟨rfl, rfl⟩
    · obtain rfl : r = false := by rw [← h']; simp [h2]
      clear h'
      have d1 : decide (lo ≤ n) = true := by simpa using h1
      have d2 : decide (n ≤ hi) = false := by simpa using h2
      go_enter Try.func22, Try.ntmps22
      go_wp2
      go_ret
      exact ⟨rfl, rfl⟩
  · obtain rfl : r = false := by rw [← h']; simp [h1]
    clear h'
    have d1 : decide (lo ≤ n) = false := by simpa using h1
    go_enter Try.func22, Try.ntmps22
    go_wp2
    go_ret
    exact ⟨rfl, rfl⟩
theorem in_is (n lo hi : Int) (r : Bool) (w : World) (h : Hid (Par.okI (n, lo, hi) = r)) :
    Calls Try.prog 23 #[.int .i64 n, .int .i64 lo, .int .i64 hi] w fun e w' => e = .returned (.bool r) ∧ w = w' := by
  have h' : (decide (lo ≤ n) && decide (n ≤ hi)) = r := h.out
  clear h
  by_cases h1 : lo ≤ n
  · by_cases h2 : n ≤ hi
    · obtain rfl : r = true := by rw [← h']; simp [h1, h2]
      clear h'
      have d1 : decide (lo ≤ n) = true := by simpa using h1
      have d2 : decide (n ≤ hi) = true := by simpa using h2
      go_enter Try.func23, Try.ntmps23
      go_wp2
      go_ret
      exact ⟨rfl, rfl⟩
    · obtain rfl : r = false := by rw [← h']; simp [h2]
      clear h'
      have d1 : decide (lo ≤ n) = true := by simpa using h1
      have d2 : decide (n ≤ hi) = false := by simpa using h2
      go_enter Try.func23, Try.ntmps23
      go_wp2
      go_ret
      exact ⟨rfl, rfl⟩
  · obtain rfl : r = false := by rw [← h']; simp [h1]
    clear h'
    have d1 : decide (lo ≤ n) = false := by simpa using h1
    go_enter Try.func23, Try.ntmps23
    go_wp2
    go_ret
    exact ⟨rfl, rfl⟩

/-- All of them at once, out of their block: the document's. -/
theorem load_ref {ops : Array Oper} {rest : List Oper} {o : Oper} {a : Act} {w : World} {Q : Exit → Act → World → Prop} (x : Operand) (ho : o.op = .load 31 x) (hgd : Region.wanted o (yielded ops a.tmps) = true) (b : Nat) (p : Par) (T : TypeId) (hx : a.eval x = .pointer (some ⟨b, 0, none⟩)) (hP : ParAt w b p T)
    (h : wpList Try.prog ops Q rest (a.put o.dst (.agg p.vals)) w) : wpList Try.prog ops Q (o :: rest) a w :=
  wpList_step fun K hK => by
    rw [if_pos hgd]
    exact wp_load_row 31 x ho b hx T p.vals (0, 0) _ hP Try.underlying31 rfl (by kernel_rfl) (hK _ _ h)
end Go.Proofs.Ytijenmkhbkbnfaa
