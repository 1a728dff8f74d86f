/- The reference of layer 4 (share): what weights are together; a sum shared out; two lists. By contracts. -/
import Derived.Test.YtkophckfmdimbaaShareC
import Derived.Test.YtkophckfmdimbaaNatG
import Derived.Test.YtkophckfmdimbaaRef2B
namespace Go.Proofs.Ytkophckfmdimbaa
open Go.RowKit Go.Shelf
set_option linter.unusedVariables false

set_option maxRecDepth 100000 in
theorem same_words_true (xs : List Nat) (A A' : Option Addr) (c c' : Nat) (w : World) (hr : Row w w.heap.size A (u64s xs)) (hr' : Row w w.heap.size A' (u64s xs)) (hlen : xs.length ≤ maxLen) :
    Calls Try.prog 15 #[.slice A xs.length c, .slice A' xs.length c'] w fun e w' => e = .returned (.bool true) ∧ Below w.heap.size w w' := by
  unfold maxLen at hlen
  go_enter Try.func15, Try.ntmps15
  go_wp2
  go_loopw [5] (fun i wr => ∃ k : Nat, k ≤ xs.length ∧ i = .int .i64 k ∧ Below w.heap.size w wr) (fun i _ => xs.length - (intOf i).toNat)
  case atStart => exact ⟨0, Nat.zero_le _, rfl, Below.refl _ _⟩
  case round =>
    obtain ⟨k, hk, rfl, hB⟩ := hrel
    by_cases hlt : k < xs.length
    · obtain ⟨a, rfl, hb, hc⟩ := (hr.below hB).get (k := k) (by rw [u64s_len]; exact hlt)
      obtain ⟨a', rfl, hb', hc'⟩ := (hr'.below hB).get (k := k) (by rw [u64s_len]; exact hlt)
      simp only [u64s, List.getElem_map] at hc hc'
      have hki : (k : Int) < (xs.length : Int) := by omega
      have hk0 : (0 : Int) ≤ (k : Int) := by omega
      go_wp2
      go_quiet (fail)
      go_wp2
      go_roundw
      case rel => exact ⟨k + 1, by omega, by go_num, below_drewN hB _⟩
      case measure => simp [intOf]; omega
    · obtain rfl : k = xs.length := by omega
      go_wp2
      go_ret
      exact ⟨rfl, hB⟩

theorem own_below {w w' : World} {base n : Nat} {e : TypeId} {v : Value} {xs : List Value} (h : w.ownsRow base e 1 v n xs) (hb : Below w.heap.size w w') : w'.ownsRow base e 1 v n xs := by
  refine h.kept (grown_of_below hb) ?_
  by_cases h0 : v.ownBlock = none
  · exact .inl h0
  · exact .inr h0

end Go.Proofs.Ytkophckfmdimbaa
