/- The calls of layer 1 (money) on single numbers, each by a contract: what they answer, and that the world stays. · Layer 1 (money) over natural numbers: Fall, Take, Rise whatever comes out. By contracts. · The sum of a list (layer 1), by a contract: the sum of all where it is a number of 64 bits, else the error. -/
import Derived.Test.YtcggcnegagogkaaProg
import Derived.WalkKit
import Derived.ProofKit
import Derived.Test.YtcggcnegagogkaaCore
import Derived.Laws.Rows
namespace Go.Proofs.Ytcggcnegagogkaa
open Go.RowKit
set_option linter.unusedVariables false

theorem money_add_ok (a b : Int) (w : World) (ha : 0 ≤ a) (hb : 0 ≤ b) (h : a + b ≤ 18446744073709551615) :
    Calls Try.prog 30 #[.int .u64 a, .int .u64 b] w fun e w' => e = .returned (.tuple #[.int .u64 (a + b), .int .i64 0]) ∧ w = w' := by
  go_enter Try.func30, Try.ntmps30
  go_wp2
  go_ret2
  exact ⟨rfl, rfl⟩

theorem money_add_over (a b : Int) (w : World) (ha : 0 ≤ a) (ha' : a ≤ 18446744073709551615) (hb : 0 ≤ b) (hb' : b ≤ 18446744073709551615) (h : 18446744073709551615 < a + b) :
    Calls Try.prog 30 #[.int .u64 a, .int .u64 b] w fun e w' => e = .returned (.tuple #[.int .u64 0, .int .i64 10]) ∧ w = w' := by
  go_enter Try.func30, Try.ntmps30
  go_wp2
  go_ret2
  exact ⟨rfl, rfl⟩



end Go.Proofs.Ytcggcnegagogkaa
namespace Go.Proofs.Ytcggcnegagogkaa
set_option linter.unusedVariables false
end Go.Proofs.Ytcggcnegagogkaa
namespace Go.Proofs.Ytcggcnegagogkaa
open Go.RowKit
set_option linter.unusedVariables false

/-- The sum of a list of whole numbers. -/
def tot : List Nat → Nat
  | [] => 0
  | n :: r => n + tot r
theorem tot_append (a b : List Nat) : tot (a ++ b) = tot a + tot b := by
  induction a with
  | nil => simp [tot]
  | cons x a ih => show x + tot (a ++ b) = x + tot a + tot b; rw [ih]; omega
theorem tot_take_succ (l : List Nat) (k : Nat) (h : k < l.length) : tot (l.take (k + 1)) = tot (l.take k) + l[k] := by
  rw [List.take_succ_eq_append_getElem h, tot_append]; simp [tot]
theorem tot_take_le (l : List Nat) (k : Nat) : tot (l.take k) ≤ tot l := by
  have h := tot_append (l.take k) (l.drop k)
  rw [List.take_append_drop] at h
  omega
/-- A list of numbers of 64 bits, as values. -/
def u64s (ns : List Nat) : List Value := ns.map fun (n : Nat) => Value.int .u64 (n : Int)
theorem u64s_len (ns : List Nat) : (u64s ns).length = ns.length := by simp [u64s]
theorem u64s_one {l : List Nat} : ∀ v ∈ u64s l, v.oneCell' = true := by
  intro v hv
  obtain ⟨x, _, rfl⟩ := List.mem_map.1 hv
  rfl

/-- Numbers made at once. -/
theorem row_new (w : World) (ns : List Nat) (T : TypeId) : Row (w.alloc (.cells (u64s ns).toArray T)) (w.heap.size + 1) (some ⟨w.heap.size, 0, none⟩) (u64s ns) := fun k v hk => by
  refine ⟨_, rfl, by show w.heap.size < _; omega, ?_⟩
  rw [show (⟨w.heap.size, 0, none⟩ : Addr).add k = ⟨w.heap.size, k, none⟩ by unfold Addr.add; by_cases h : k = 0 <;> simp [h], cell_of_row _ _ _ _ _ _ (heap_alloc_new w _)]
  simpa using hk
set_option maxRecDepth 100000 in
theorem sum_ok (ns : List Nat) (A : Option Addr) (c B : Nat) (w : World) (hr : Row w B A (u64s ns)) (hlen : ns.length ≤ maxLen) (h : tot ns ≤ 18446744073709551615) :
    Calls Try.prog 18 #[.slice A ns.length c] w fun e w' => e = .returned (.tuple #[.int .u64 (tot ns : Nat), .int .i64 0]) ∧ w = w' := by
  unfold maxLen at hlen
  go_enter Try.func18, Try.ntmps18
  go_wp2
  go_loop [4, 11] (fun s i => ∃ k : Nat, k ≤ ns.length ∧ i = .int .i64 k ∧ s = .int .u64 (tot (ns.take k) : Nat)) (fun _ i => ns.length - (intOf i).toNat)
  case atStart => exact ⟨0, Nat.zero_le _, rfl, rfl⟩
  case round =>
    obtain ⟨k, hk, rfl, rfl⟩ := hrel
    by_cases hlt : k < ns.length
    · obtain ⟨a, rfl, hb, hc⟩ := hr.get (k := k) (by rw [u64s_len]; exact hlt)
      simp only [u64s, List.getElem_map] at hc
      have h1 := tot_take_succ ns k hlt
      have h2 := tot_take_le ns (k + 1)
      have h3 : tot (ns.take k) + ns[k] ≤ 18446744073709551615 := by omega
      have H1 := Lib.hid h1
      clear h1 h2 h
      go_wp2_with (go_at_call 30; refine (money_add_ok _ _ _ (by omega) (by omega) (by omega)).mono ?_; rintro e w' ⟨rfl, rfl⟩)
      go_round
      case rel => exact ⟨k + 1, by omega, by go_num, by rw [H1.out]; go_num⟩
      case measure => simp [intOf]; omega
    · obtain rfl : k = ns.length := by omega
      go_wp2
      go_ret2
      exact ⟨rfl, rfl⟩

set_option maxRecDepth 100000 in
theorem sum_over (ns : List Nat) (A : Option Addr) (c B : Nat) (w : World) (hr : Row w B A (u64s ns)) (hlen : ns.length ≤ maxLen) (hn : ∀ n ∈ ns, n ≤ 18446744073709551615) (h : 18446744073709551615 < tot ns) :
    Calls Try.prog 18 #[.slice A ns.length c] w fun e w' => e = .returned (.tuple #[.int .u64 0, .int .i64 10]) ∧ w = w' := by
  unfold maxLen at hlen
  have HN := Lib.hid hn
  clear hn
  go_enter Try.func18, Try.ntmps18
  go_wp2
  go_loop [4, 11] (fun s i => ∃ k : Nat, k ≤ ns.length ∧ tot (ns.take k) ≤ 18446744073709551615 ∧ i = .int .i64 k ∧ s = .int .u64 (tot (ns.take k) : Nat)) (fun _ i => ns.length - (intOf i).toNat)
  case atStart => exact ⟨0, Nat.zero_le _, by simp [tot], rfl, rfl⟩
  case round =>
    obtain ⟨k, hk, hs, rfl, rfl⟩ := hrel
    by_cases hlt : k < ns.length
    · obtain ⟨a, rfl, hb, hc⟩ := hr.get (k := k) (by rw [u64s_len]; exact hlt)
      simp only [u64s, List.getElem_map] at hc
      have h1 := tot_take_succ ns k hlt
      have h4 := HN.out ns[k] (List.getElem_mem hlt)
      have H1 := Lib.hid h1
      clear h1 h
      by_cases h3 : tot (ns.take k) + ns[k] ≤ 18446744073709551615
      · go_wp2_with (go_at_call 30; refine (money_add_ok _ _ _ (by omega) (by omega) (by omega)).mono ?_; rintro e w' ⟨rfl, rfl⟩)
        go_round
        case rel => exact ⟨k + 1, by omega, by rw [H1.out]; exact h3, by go_num, by rw [H1.out]; go_num⟩
        case measure => simp [intOf]; omega
      · go_wp2_with (go_at_call 30; refine (money_add_over _ _ _ (by omega) (by omega) (by omega) (by omega) (by omega)).mono ?_; rintro e w' ⟨rfl, rfl⟩)
        go_ret2
        exact ⟨rfl, rfl⟩
    · obtain rfl : k = ns.length := by omega
      rw [List.take_length] at hs
      omega

theorem sum_none (w : World) : Calls Try.prog 18 #[.slice none 0 0] w fun e w' => e = .returned (.tuple #[.int .u64 0, .int .i64 0]) ∧ w = w' :=
  sum_ok [] none 0 0 w (Row.nil _ _ _) (by simp) (by simp [tot])
end Go.Proofs.Ytcggcnegagogkaa
