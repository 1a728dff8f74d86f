/- The calls of layer 3 (root) over Root, and the chapter's examples. -/
import Derived.Test.YtcofdpcngklblaaRoot
namespace Go.Proofs.Ytcofdpcngklblaa
open Go.RowKit
set_option linter.unusedVariables false

theorem ret_two {k l : IntKind} {a b c d : Int} (h : a = b) (h' : c = d) : Ending.returned (.tuple #[.int k a, .int l c]) = .returned (.tuple #[.int k b, .int l d]) := by rw [h, h']

theorem sq_name (m : Nat) (hm : m ≤ 4294967295) : ∃ M : Nat, Hid (m * m = M) ∧ (m : Int) * (m : Int) = (M : Int) ∧ M < 18446744073709551616 := by
  refine ⟨m * m, rfl, by simp, ?_⟩
  have := Nat.mul_le_mul hm hm
  omega

theorem near_is (n r b a : Nat) (w : World) (hn : n < 18446744073709551616) (h : Hid (IsRoot n r)) (hb : Hid (r * r + b = n)) (ha : Hid (if r = 4294967295 then a = 0 else n + a = (r + 1) * (r + 1))) :
    Calls Try.prog 7 #[.int .u64 n] w fun e w' => e = .returned (.tuple #[.int .u64 b, .int .u64 a]) ∧ w = w' := by
  have hr := h.out.word hn
  have k := fun w => root_is n r w hn h
  by_cases hl : r = 4294967295
  · subst hl
    obtain rfl : a = 0 := by have := ha.out; rwa [if_pos rfl] at this
    have hb1 : n = 18446744065119617025 + b := by have := hb.out; omega
    have HB := Lib.hid hb1
    have hb2 : 18446744065119617025 ≤ (n : Int) := by omega
    clear hb1 ha hb
    go_enter Try.func7, Try.ntmps7
    go_wp2_with (go_at_call 8; refine (k _).mono ?_; rintro e w' ⟨rfl, rfl⟩)
    go_ret2
    refine ⟨ret_two ?_ ?_, rfl⟩
    · have := HB.out; omega
    · rfl
  · obtain ⟨R, HR, eR, hR⟩ := sq_name r (by omega)
    have hRb : R + b = n := by rw [← HR.out]; exact hb.out
    obtain rfl : n = R + b := hRb.symm
    obtain ⟨S, HS, eS, hS⟩ := sq_name (r + 1) (by omega)
    have hSa : R + b + a = S := by have := ha.out; rw [if_neg hl] at this; rw [← HS.out]; exact this
    have z : ((r : Int) == 4294967295) = false := by simp; omega
    have eS' : ((r : Int) + 1) * ((r : Int) + 1) = (S : Int) := by rw [← eS]; simp
    clear eS ha hRb
    have HSA := Lib.hid hSa
    have hs2 : (R : Int) + b ≤ S := by omega
    clear hSa
    go_enter Try.func7, Try.ntmps7
    go_wp2_with (go_at_call 8; refine (k _).mono ?_; rintro e w' ⟨rfl, rfl⟩)
    go_ret2
    refine ⟨ret_two ?_ ?_, rfl⟩
    · omega
    · have := HSA.out; omega

theorem square_is (n r b : Nat) (w : World) (hn : n < 18446744073709551616) (h : Hid (IsRoot n r)) (hb : Hid (r * r + b = n)) :
    Calls Try.prog 12 #[.int .u64 n] w fun e w' => e = .returned (.bool ((b : Int) == 0)) ∧ w = w' := by
  obtain ⟨a, ha⟩ : ∃ a, Hid (if r = 4294967295 then a = 0 else n + a = (r + 1) * (r + 1)) := by
    by_cases hl : r = 4294967295
    · exact ⟨0, by show ite _ _ _; rw [if_pos hl]⟩
    · exact ⟨(r + 1) * (r + 1) - n, by show ite _ _ _; rw [if_neg hl]; have := h.out.high; omega⟩
  have k := fun w => near_is n r b a w hn h hb ha
  go_enter Try.func12, Try.ntmps12
  go_wp2_with (go_at_call 7; refine (k _).mono ?_; rintro e w' ⟨rfl, rfl⟩)
  go_ret
  exact ⟨rfl, rfl⟩

theorem root_awake (w : World) : Calls Try.prog 6 #[] w fun e w' => e = .returned (.bool true) ∧ w = w' := by
  have k1 : ∀ w, Calls Try.prog 7 #[.int .u64 10] w fun e w' => e = .returned (.tuple #[.int .u64 1, .int .u64 6]) ∧ w = w' :=
    fun w => near_is 10 3 1 6 w (by omega) (isRoot_mk 1 rfl (by omega)) rfl rfl
  have k2 : ∀ w, Calls Try.prog 8 #[.int .u64 15] w fun e w' => e = .returned (.int .u64 3) ∧ w = w' :=
    fun w => root_is 15 3 w (by omega) (isRoot_mk 6 rfl (by omega))
  have k3 : ∀ w, Calls Try.prog 8 #[.int .u64 18446744073709551615] w fun e w' => e = .returned (.int .u64 4294967295) ∧ w = w' :=
    fun w => root_is 18446744073709551615 4294967295 w (by omega) (isRoot_mk 8589934590 rfl (by omega))
  go_enter Try.func6, Try.ntmps6
  go_wp2_with (first
    | (go_at_call 7; refine (k1 _).mono ?_; clear k1; rintro e w' ⟨rfl, rfl⟩)
    | (go_at_call 8; refine (k2 _).mono ?_; clear k2; rintro e w' ⟨rfl, rfl⟩)
    | (go_at_call 8; refine (k3 _).mono ?_; clear k3; rintro e w' ⟨rfl, rfl⟩))
  go_ret
  exact ⟨rfl, rfl⟩
end Go.Proofs.Ytcofdpcngklblaa
