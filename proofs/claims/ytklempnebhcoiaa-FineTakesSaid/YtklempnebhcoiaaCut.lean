/- Layer 4 (share): a part in ten thousandths. By contracts. -/
import Derived.Test.YtklempnebhcoiaaShareC
namespace Go.Proofs.Ytklempnebhcoiaa
open Go.RowKit
set_option linter.unusedVariables false

theorem share_cut_ok (T m n : Nat) (w : World) (hT : T < 18446744073709551616) (hm : m ≤ 10000) (hn : Hid (prt T 10000 m = n)) :
    Calls Try.prog 25 #[.int .u64 T, .int .i64 m] w fun e w' => e = .returned (.tuple #[.int .u64 n, .int .u64 ((T : Int) - n), .int .i64 0]) ∧ Below w.heap.size w w' := by
  have hle : n ≤ T := by rw [← hn.out]; exact prt_le hm
  have k := fun v => share_down T m 10000 n v hT hm (by omega) hn
  have hm0 : (0 : Int) ≤ (m : Int) := by omega
  have hm1 : (m : Int) ≤ 10000 := by omega
  have hnT : (n : Int) ≤ (T : Int) := by omega
  have hTM : (T : Int) ≤ 18446744073709551615 := by omega
  go_enter Try.func25, Try.ntmps25
  go_wp2_with (go_at_call 43; refine (k _).mono ?_; rintro e w1 ⟨rfl, hb1⟩)
  refine bodyPost_ret (v := .tuple #[.int .u64 n, .int .u64 ((T : Int) - n), .int .i64 0]) (by simp [results, Try.results25, go_sem]) rfl ⟨rfl, hb1⟩

theorem share_cut_low (T : Nat) (m : Int) (w : World) (hm : m < 0) :
    Calls Try.prog 25 #[.int .u64 T, .int .i64 m] w fun e w' => e = .returned (.tuple #[.int .u64 0, .int .u64 0, .int .i64 2]) ∧ Below w.heap.size w w' := by
  go_enter Try.func25, Try.ntmps25
  go_wp2_with fail
  refine bodyPost_ret (v := .tuple #[.int .u64 0, .int .u64 0, .int .i64 2]) (by simp [results, Try.results25, go_sem]) rfl ⟨rfl, Below.refl _ _⟩

theorem share_cut_high (T : Nat) (m : Int) (w : World) (hm : 10000 < m) :
    Calls Try.prog 25 #[.int .u64 T, .int .i64 m] w fun e w' => e = .returned (.tuple #[.int .u64 0, .int .u64 0, .int .i64 2]) ∧ Below w.heap.size w w' := by
  have h0 : ¬ m < 0 := by omega
  go_enter Try.func25, Try.ntmps25
  go_wp2_with fail
  refine bodyPost_ret (v := .tuple #[.int .u64 0, .int .u64 0, .int .i64 2]) (by simp [results, Try.results25, go_sem]) rfl ⟨rfl, Below.refl _ _⟩
end Go.Proofs.Ytklempnebhcoiaa
