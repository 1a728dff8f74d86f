/- What the reference tells of a whole number, under one name each: a number of 64 bits, or the error. · The reference of layer 2 (ratio): down, up, what is left; products held against each other. By contracts. -/
import Derived.Test.YtklempnebhcoiaaRefNumB
import Derived.Test.YtklempnebhcoiaaRefNumC
namespace Go.Proofs.Ytklempnebhcoiaa
open Go.RowKit
set_option linter.unusedVariables false

theorem told_big (a : Nat) (va : Value) (B : Nat) (w : World) (ha : NatV w B va a) (hB : B ≤ w.heap.size) (h : 18446744073709551615 < a) :
    Calls Try.prog 41 #[va] w fun e w' => e = .returned (.tuple #[.int .u64 0, .int .i64 10]) ∧ Below w.heap.size w w' := by
  have ha0 := ha
  obtain ⟨A, c, rfl, hlc, hcm, hra⟩ := ha
  go_enter Try.func41, Try.ntmps41
  go_wp2_with (go_at_call 55; refine (uint_big a _ B _ (ha0.below ((Below.refl _ _).alloc hB _)) (Nat.le_trans hB (by simp)) h).mono ?_; rintro e w' ⟨rfl, hbt⟩)
  go_ret2
  exact ⟨rfl, ((Below.refl _ _).alloc (Nat.le_refl _) _).trans (hbt.mono (by simp))⟩

theorem told_fits (a : Nat) (va : Value) (B : Nat) (w : World) (ha : NatV w B va a) (hB : B ≤ w.heap.size) (h : a ≤ 18446744073709551615) :
    Calls Try.prog 41 #[va] w fun e w' => e = .returned (.tuple #[.int .u64 (a : Int), .int .i64 0]) ∧ Below w.heap.size w w' := by
  have ha0 := ha
  obtain ⟨A, c, rfl, hlc, hcm, hra⟩ := ha
  go_enter Try.func41, Try.ntmps41
  go_wp2_with (go_at_call 55; refine (uint_fits a _ B _ (ha0.below ((Below.refl _ _).alloc hB _)) (Nat.le_trans hB (by simp)) h).mono ?_; rintro e w' ⟨rfl, hbt⟩)
  go_ret2
  exact ⟨rfl, ((Below.refl _ _).alloc (Nat.le_refl _) _).trans (hbt.mono (by simp))⟩
/-- The number, if it is one of 64 bits. -/
def tx (N : Nat) : Nat := if N ≤ 18446744073709551615 then N else 0
/-- The error's number, if it is none. -/
def te (N : Nat) : Nat := if N ≤ 18446744073709551615 then 0 else 10
theorem tx_in {N : Nat} (h : N ≤ 18446744073709551615) : tx N = N := by unfold tx; rw [if_pos h]
theorem te_in {N : Nat} (h : N ≤ 18446744073709551615) : te N = 0 := by unfold te; rw [if_pos h]
theorem tx_out {N : Nat} (h : 18446744073709551615 < N) : tx N = 0 := by unfold tx; rw [if_neg (Nat.not_le_of_lt h)]
theorem te_out {N : Nat} (h : 18446744073709551615 < N) : te N = 10 := by unfold te; rw [if_neg (Nat.not_le_of_lt h)]

theorem told_num (a : Nat) (va : Value) (B : Nat) (w : World) (ha : NatV w B va a) (hB : B ≤ w.heap.size) :
    Calls Try.prog 41 #[va] w fun e w' => e = .returned (.tuple #[.int .u64 (tx a : Nat), .int .i64 (te a : Nat)]) ∧ Below w.heap.size w w' := by
  by_cases h : a ≤ 18446744073709551615
  · rw [tx_in h, te_in h]
    exact told_fits a va B w ha hB h
  · rw [tx_out (by omega), te_out (by omega)]
    exact told_big a va B w ha hB (by omega)
end Go.Proofs.Ytklempnebhcoiaa
namespace Go.Proofs.Ytklempnebhcoiaa
open Go.RowKit
set_option linter.unusedVariables false

theorem part_is (a b c n r : Nat) (w : World) (ha : a < 18446744073709551616) (hb : b < 18446744073709551616) (hc : c < 18446744073709551616) (h : Hid (a * b = n * c + r)) (hr : r < c) :
    Calls Try.prog 40 #[.int .u64 a, .int .u64 b, .int .u64 c] w fun e w' => ∃ A k A' k', e = .returned (.tuple #[.agg #[.slice A (digs n).length k], .agg #[.slice A' (digs r).length k']]) ∧
      NatV w' w'.heap.size (.agg #[.slice A (digs n).length k]) n ∧ NatV w' w'.heap.size (.agg #[.slice A' (digs r).length k']) r ∧ Below w.heap.size w w' := by
  obtain ⟨e1, e2⟩ := div_of (X := a * b) (Y := c) (q := n) (r := r) (by rw [h.out, Nat.mul_comm, Nat.add_comm]) hr
  have k := part_nat a b c w ha hb hc (by omega)
  rw [e1, e2] at k
  refine k.mono ?_
  rintro e w' ⟨u, v, rfl, hu, hv, hfu, hfv, hb⟩
  obtain ⟨A, k, rfl, _⟩ := id hu
  obtain ⟨A', k', rfl, _⟩ := id hv
  exact ⟨A, k, A', k', rfl, hu, hv, hb⟩

theorem ref_down_zero (a b : Nat) (w : World) :
    Calls Try.prog 23 #[.int .u64 a, .int .u64 b, .int .u64 0] w fun e w' => e = .returned (.tuple #[.int .u64 0, .int .i64 20]) ∧ Below w.heap.size w w' := by
  go_enter Try.func23, Try.ntmps23
  go_wp2
  go_ret2
  exact ⟨rfl, Below.refl _ _⟩

theorem ref_up_zero (a b : Nat) (w : World) :
    Calls Try.prog 24 #[.int .u64 a, .int .u64 b, .int .u64 0] w fun e w' => e = .returned (.tuple #[.int .u64 0, .int .i64 20]) ∧ Below w.heap.size w w' := by
  go_enter Try.func24, Try.ntmps24
  go_wp2
  go_ret2
  exact ⟨rfl, Below.refl _ _⟩

theorem ref_down (a b c n r : Nat) (w : World) (ha : a < 18446744073709551616) (hb : b < 18446744073709551616) (hc : c < 18446744073709551616) (h : Hid (a * b = n * c + r)) (hr : r < c) :
    Calls Try.prog 23 #[.int .u64 a, .int .u64 b, .int .u64 c] w fun e w' => e = .returned (.tuple #[.int .u64 (tx n : Nat), .int .i64 (te n : Nat)]) ∧ Below w.heap.size w w' := by
  have z : ((c : Int) == 0) = false := by simp; omega
  go_enter Try.func23, Try.ntmps23
  go_wp2_with (first
    | (go_at_call 40; refine (part_is a b c n r _ ha hb hc h hr).mono ?_; rintro e w1 ⟨Au, ku, Av, kv, rfl, hu, hv, hb1⟩)
    | (go_at_call 41; refine (told_num n _ w1.heap.size _ (hu.below (((Below.refl _ _).alloc (Nat.le_refl _) _).alloc (by simp) _)) (by simp <;> omega)).mono ?_; rintro e w2 ⟨rfl, hb2⟩))
  go_ret2
  exact ⟨rfl, (hb1.trans ((((Below.refl _ _).alloc (Nat.le_refl _) _).alloc (by simp) _).mono hb1.size)).trans (hb2.mono (by have := hb1.size; simp; omega))⟩

set_option maxHeartbeats 1000000 in
theorem ref_up_whole (a b c n : Nat) (w : World) (ha : a < 18446744073709551616) (hb : b < 18446744073709551616) (hc : c < 18446744073709551616) (h : Hid (a * b = n * c + 0)) (hr : 0 < c) :
    Calls Try.prog 24 #[.int .u64 a, .int .u64 b, .int .u64 c] w fun e w' => e = .returned (.tuple #[.int .u64 (tx n : Nat), .int .i64 (te n : Nat)]) ∧ Below w.heap.size w w' := by
  have z : ((c : Int) == 0) = false := by simp; omega
  have hl : (digs 0).length = 0 := by rw [digs_zero]; rfl
  have k := fun w => part_is a b c n 0 w ha hb hc h hr
  rw [hl] at k
  go_enter Try.func24, Try.ntmps24
  go_wp2_with (first
    | (go_at_call 40; refine (k _).mono ?_; rintro e w1 ⟨Au, ku, Av, kv, rfl, hu, hv, hb1⟩)
    | (go_at_call 41; refine (told_num n _ w1.heap.size _ (hu.below (((Below.refl _ _).alloc (Nat.le_refl _) _).alloc (by simp) _)) (by simp <;> omega)).mono ?_; rintro e w2 ⟨rfl, hb2⟩))
  go_ret2
  exact ⟨rfl, (hb1.trans ((((Below.refl _ _).alloc (Nat.le_refl _) _).alloc (by simp) _).mono hb1.size)).trans (hb2.mono (by have := hb1.size; simp; omega))⟩

theorem of_one (w : World) :
    Calls Try.prog 38 #[.int .u64 1] w fun e w' => ∃ v, e = .returned v ∧ NatV w' w'.heap.size v 1 ∧ Fresh w.heap.size v ∧ Below w.heap.size w w' := of_any 1 w (by omega)

set_option maxRecDepth 100000 in
set_option maxHeartbeats 2000000 in
theorem ref_up_next (a b c n r : Nat) (w : World) (ha : a < 18446744073709551616) (hb : b < 18446744073709551616) (hc : c < 18446744073709551616) (h : Hid (a * b = n * c + r)) (hr : r < c) (h0 : 0 < r) :
    Calls Try.prog 24 #[.int .u64 a, .int .u64 b, .int .u64 c] w fun e w' => e = .returned (.tuple #[.int .u64 (tx (n + 1) : Nat), .int .i64 (te (n + 1) : Nat)]) ∧ Below w.heap.size w w' := by
  have z : ((c : Int) == 0) = false := by simp; omega
  have hl : 0 < (digs r).length := by rw [digs_pos (by omega)]; simp
  have hn : (digs n).length ≤ 1000000 := by
    refine Nat.le_trans (digs_len (k := 40) ?_) (by omega)
    have h1 : n ≤ n * c := Nat.le_mul_of_pos_right n (by omega)
    have h2 := Nat.mul_lt_mul'' ha hb
    have h3 := h.out
    omega
  have h1d : (digs 1).length ≤ 1000000 := Nat.le_trans (word_digs (by omega)) (by omega)
  go_enter Try.func24, Try.ntmps24
  go_upto_region 5 with (go_at_call 40; refine (part_is a b c n r _ ha hb hc h hr).mono ?_; rintro e w1 ⟨Au, ku, Av, kv, rfl, hu, hv, hb1⟩)
  obtain ⟨W, hWe⟩ : ∃ W, W = (w1.alloc (.cells #[.slice Au (digs n).length ku] 73)).alloc (.cells #[.slice Av (digs r).length kv] 73) := ⟨_, rfl⟩
  obtain ⟨⟨hcu, hfu⟩, _, hW, hsW⟩ := boxed2 (Below.refl _ ((w1.alloc (.cells #[.slice Au (digs n).length ku] 73)).alloc (.cells #[.slice Av (digs r).length kv] 73)))
  rw [← hWe] at hcu hfu hW hsW ⊢
  clear hWe
  have huW := (hu.below hW).up hW.size
  have hlt : (⟨w1.heap.size, 0, none⟩ : Addr).block < W.heap.size := by show w1.heap.size < _; omega
  go_region_with (first
    | (go_at_call 38; refine (of_one _).mono ?_; rintro e w2 ⟨v2, rfl, hv2, hf2, hb2⟩; have hcu1 := (hb2.cell (p := ⟨w1.heap.size, 0, none⟩) hlt).trans hcu; have hfu1 := (hb2.frozen (p := ⟨w1.heap.size, 0, none⟩) hlt).trans hfu)
    | (go_at_call 42; refine (add_nat n 1 _ _ w2.heap.size w2 ((NatV.below (w := W.drew) (B := W.heap.size) huW hb2).up hb2.size) hv2 (Nat.le_refl _) hn h1d).mono ?_; rintro e w3 ⟨v3, rfl, hv3, hf3, hb3⟩; obtain ⟨A3, c3, rfl, _⟩ := id hv3; have hcu2 := (hb3.cell (p := ⟨w1.heap.size, 0, none⟩) (Nat.lt_of_lt_of_le hlt hb2.size)).trans hcu1; have hfu2 := (hb3.frozen (p := ⟨w1.heap.size, 0, none⟩) (Nat.lt_of_lt_of_le hlt hb2.size)).trans hfu1))
  all_goals
    have hs2 : W.heap.size ≤ w2.heap.size := hb2.size
    have hs3 : w2.heap.size ≤ w3.heap.size := hb3.size
    have hs1 : w.heap.size ≤ w1.heap.size := hb1.size
    have hall : Below w.heap.size w w3 := ((hb1.trans (hW.mono hs1)).trans (show Below w.heap.size W w2 from (below_drewN (Below.refl W.heap.size W) 1 |>.trans hb2).mono (by omega))).trans (hb3.mono (by omega))
    go_wp2_with (go_at_call 41; refine (told_num (n + 1) _ w3.heap.size _ (hv3.setCell hf3 (by show w1.heap.size < w2.heap.size; omega) _) (by simp [World.setCell])).mono ?_; rintro e w4 ⟨rfl, hb4⟩)
    go_ret2
    exact ⟨rfl, (hall.setCell (by show w.heap.size ≤ w1.heap.size; omega) _).trans (hb4.mono (by simp [World.setCell]; omega))⟩

end Go.Proofs.Ytklempnebhcoiaa
