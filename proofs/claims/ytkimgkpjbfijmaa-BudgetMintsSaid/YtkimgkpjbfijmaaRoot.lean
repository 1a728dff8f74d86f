/- The calls of layer 3 (root), each by a contract. -/
import Derived.Test.YtkimgkpjbfijmaaCore
import Derived.Test.YtkimgkpjbfijmaaMathR
import Derived.Test.YtkimgkpjbfijmaaProg
import Derived.Laws.BitsLemmas
import Derived.IntWalk
namespace Go.Proofs.Ytkimgkpjbfijmaa
open Go.RowKit
set_option linter.unusedVariables false

theorem or_join (x i : Nat) (hx : x % 2 ^ i = 0) (hx1 : x < 18446744073709551616) (hi : 2 ^ i < 18446744073709551616) (h0 : x % 2 ^ (i + 1) = 0) :
    bits .or .u64 (x : Int) ((2 ^ i : Nat) : Int) = ((x + 2 ^ i : Nat) : Int) := by
  have h := bits_join .u64 64 (by decide) (fun n h1 h2 => IntWalk.u64_in _ (by omega)) (i + 1) (x : Int) ((2 ^ i : Nat) : Int) (by omega) (by rw [show (2 : Int) ^ (i + 1) = ((2 ^ (i + 1) : Nat) : Int) by simp]; omega) (by omega) (by omega) (by rw [show (2 : Int) ^ (i + 1) = ((2 ^ (i + 1) : Nat) : Int) by simp]; have := Nat.two_pow_pos i; rw [Nat.pow_succ]; omega) (by omega)
  rw [h]; omega

set_option maxRecDepth 100000 in
theorem root_is (n r : Nat) (w : World) (hn : n < 18446744073709551616) (h : Hid (IsRoot n r)) :
    Calls Try.prog 19 #[.int .u64 n] w fun e w' => e = .returned (.int .u64 r) ∧ w = w' := by
  have hr := h.out.word hn
  go_enter Try.func19, Try.ntmps19
  go_wp2
  go_step3
  go_wp2
  go_step3
  go_wp2
  go_loop [3, 4] (fun rv bv => ∃ (j x p : Nat), j ≤ 32 ∧ Hid (p = 2 ^ j) ∧ Hid (x % p = 0) ∧ x ≤ r ∧ r < x + p ∧ rv = .int .u64 (x : Int) ∧ bv = .int .u64 ((p / 2 : Nat) : Int)) (fun _ bv => (intOf bv).toNat)
  case atStart => exact ⟨32, 0, 4294967296, by omega, rfl, rfl, by omega, by omega, rfl, rfl⟩
  case round =>
    obtain ⟨j, x, p, hj, HP, HX, hx, hrx, rfl, rfl⟩ := hrel
    rcases Nat.eq_zero_or_pos j with rfl | hpos
    · have e : p = 1 := HP.out
      subst e
      obtain rfl : x = r := by omega
      go_wp2
      go_ret
      exact ⟨rfl, rfl⟩
    · obtain ⟨i, rfl⟩ : ∃ i, j = i + 1 := ⟨j - 1, by omega⟩
      have hroom := room HP.out (by omega) HX.out (by omega)
      obtain ⟨hb, hb1, hb2⟩ := half_mod HP.out HX.out
      obtain ⟨b, HB⟩ : ∃ b : Nat, Hid ((2 : Nat) ^ i = b) := ⟨2 ^ i, Lib.hid rfl⟩
      have hp : p = 2 * b := by have := HP.out; rw [Nat.pow_succ, HB.out] at this; omega
      have hb0 : 0 < b := by rw [← HB.out]; exact Nat.two_pow_pos _
      have hor := or_join x i hb1 (by omega) (by rw [HB.out]; omega) (by rw [← HP.out]; exact HX.out)
      rw [hb, HB.out]
      rw [HB.out] at hor hb1 hb2
      subst hp
      obtain ⟨m, HM⟩ : ∃ m, Hid (x + b = m) := ⟨_, rfl⟩
      rw [HM.out] at hor hb2
      have hm : m < 4294967296 := by have := HM.out; omega
      have hrm : r < m + b := by have := HM.out; omega
      obtain ⟨M, HMM⟩ : ∃ M, Hid (m * m = M) := ⟨_, rfl⟩
      have hmm : (m : Int) * (m : Int) = (M : Int) := by rw [← HMM.out]; simp
      have hM : M < 18446744073709551616 := by
        have := Nat.mul_le_mul (show m ≤ 4294967295 by omega) (show m ≤ 4294967295 by omega)
        rw [← HMM.out]; omega
      clear hroom hb
      have HB1 := Lib.hid hb1
      have HB2 := Lib.hid hb2
      clear hb1 hb2
      by_cases hc : M ≤ n
      · have hup : m ≤ r := h.out.upto (by rw [HMM.out]; exact hc)
        go_wp2
        go_round
        case rel => exact ⟨i, m, b, by omega, HB.out.symm, HB2, hup, hrm, rfl, by go_num⟩
        case measure => simp [intOf]; omega
      · have hlo : r < m := h.out.less (by rw [HMM.out]; omega)
        have hrx2 : r < x + b := by have := HM.out; omega
        go_wp2
        go_round
        case rel => exact ⟨i, x, b, by omega, HB.out.symm, HB1, hx, hrx2, rfl, by go_num⟩
        case measure => simp [intOf]; omega
end Go.Proofs.Ytkimgkpjbfijmaa
