/- The reference of layer 2 (ratio): down, up, what is left; products held against each other. By contracts. -/
import Derived.Test.YtijenmkhbkbnfaaRefNumC
import Derived.Test.YtijenmkhbkbnfaaTell
namespace Go.Proofs.Ytijenmkhbkbnfaa
open Go.RowKit
set_option linter.unusedVariables false

theorem part_is (a b c n r : Nat) (w : World) (ha : a < 18446744073709551616) (hb : b < 18446744073709551616) (hc : c < 18446744073709551616) (h : Hid (a * b = n * c + r)) (hr : r < c) :
    Calls Try.prog 54 #[.int .u64 a, .int .u64 b, .int .u64 c] w fun e w' => ∃ A k A' k', e = .returned (.tuple #[.agg #[.slice A (digs n).length k], .agg #[.slice A' (digs r).length k']]) ∧
      NatV w' w'.heap.size (.agg #[.slice A (digs n).length k]) n ∧ NatV w' w'.heap.size (.agg #[.slice A' (digs r).length k']) r ∧ Below w.heap.size w w' := by
  obtain ⟨e1, e2⟩ := div_of (X := a * b) (Y := c) (q := n) (r := r) (by rw [h.out, Nat.mul_comm, Nat.add_comm]) hr
  have k := part_nat a b c w ha hb hc (by omega)
  rw [e1, e2] at k
  refine k.mono ?_
  rintro e w' ⟨u, v, rfl, hu, hv, hfu, hfv, hb⟩
  obtain ⟨A, k, rfl, _⟩ := id hu
  obtain ⟨A', k', rfl, _⟩ := id hv
  exact ⟨A, k, A', k', rfl, hu, hv, hb⟩

theorem ref_down_zero (a b : Nat) (w : World) :
    Calls Try.prog 41 #[.int .u64 a, .int .u64 b, .int .u64 0] w fun e w' => e = .returned (.tuple #[.int .u64 0, .int .i64 20]) ∧ Below w.heap.size w w' := by
  go_enter Try.func41, Try.ntmps41
  go_wp2
  go_ret2
  exact ⟨rfl, Below.refl _ _⟩

theorem ref_down (a b c n r : Nat) (w : World) (ha : a < 18446744073709551616) (hb : b < 18446744073709551616) (hc : c < 18446744073709551616) (h : Hid (a * b = n * c + r)) (hr : r < c) :
    Calls Try.prog 41 #[.int .u64 a, .int .u64 b, .int .u64 c] w fun e w' => e = .returned (.tuple #[.int .u64 (tx n : Nat), .int .i64 (te n : Nat)]) ∧ Below w.heap.size w w' := by
  have z : ((c : Int) == 0) = false := by simp; omega
  go_enter Try.func41, Try.ntmps41
  go_wp2_with (first
    | (go_at_call 54; refine (part_is a b c n r _ ha hb hc h hr).mono ?_; rintro e w1 ⟨Au, ku, Av, kv, rfl, hu, hv, hb1⟩)
    | (go_at_call 55; refine (told_num n _ w1.heap.size _ (hu.below (((Below.refl _ _).alloc (Nat.le_refl _) _).alloc (by simp) _)) (by simp <;> omega)).mono ?_; rintro e w2 ⟨rfl, hb2⟩))
  go_ret2
  exact ⟨rfl, (hb1.trans ((((Below.refl _ _).alloc (Nat.le_refl _) _).alloc (by simp) _).mono hb1.size)).trans (hb2.mono (by have := hb1.size; simp; omega))⟩

theorem of_one (w : World) :
    Calls Try.prog 38 #[.int .u64 1] w fun e w' => ∃ v, e = .returned v ∧ NatV w' w'.heap.size v 1 ∧ Fresh w.heap.size v ∧ Below w.heap.size w w' := of_any 1 w (by omega)

end Go.Proofs.Ytijenmkhbkbnfaa
