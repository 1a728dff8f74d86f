/- The reference's numbers (layer 1): the sum of a list. By contracts. -/
import Derived.Test.YtcaejanfhchacaaRefNumB
import Derived.Test.YtcaejanfhchacaaMemM
import Derived.Deep.RegionWith
namespace Go.Proofs.Ytcaejanfhchacaa
open Go.RowKit
set_option linter.unusedVariables false

theorem tot_bound (l : List Nat) (M : Nat) (h : ∀ n ∈ l, n ≤ M) (k : Nat) : tot (l.take k) ≤ k * M := by
  induction k with
  | zero => simp [tot]
  | succ k ih =>
    rw [Nat.succ_mul]
    by_cases hk : k < l.length
    · rw [tot_take_succ l k hk]
      have := h l[k] (List.getElem_mem hk)
      omega
    · rw [List.take_of_length_le (by omega)] at ih ⊢
      omega
theorem tot_le (l : List Nat) (M : Nat) (h : ∀ n ∈ l, n ≤ M) : tot l ≤ l.length * M := by
  have := tot_bound l M h l.length
  rwa [List.take_length] at this
theorem tot_digs (l : List Nat) (h : ∀ n ∈ l, n ≤ 18446744073709551615) (k : Nat) (hk : k ≤ 100000) : (digs (tot (l.take k))).length ≤ 26 := by
  have h1 := tot_bound l (10 ^ 20) (fun n hn => Nat.le_trans (h n hn) (by decide)) k
  apply digs_len
  have h2 : k * 10 ^ 20 ≤ 100000 * 10 ^ 20 := Nat.mul_le_mul_right _ hk
  exact Nat.lt_of_le_of_lt (Nat.le_trans h1 h2) (by decide)

/-- The sum so far, in its cell. -/
def Acc (s : Nat) (wr : World) (N : Nat) : Prop :=
  ∃ A n c, wr.cell? ⟨s + 1, 0, none⟩ = some (.slice A n c) ∧ wr.frozen? ⟨s + 1, 0, none⟩ = false ∧ NatV wr wr.heap.size (.agg #[.slice A n c]) N ∧ Fresh (s + 2) (.agg #[.slice A n c])

theorem acc_next {s L n2 c2 N : Nat} {w2 : World} {A2 : Option Addr} {x : Value} (hv : NatV w2 w2.heap.size (.agg #[.slice A2 n2 c2]) N) (hf : Fresh L (.agg #[.slice A2 n2 c2])) (hL : s + 2 ≤ L)
    (hc : w2.cell? ⟨s + 1, 0, none⟩ = some x) (hz : w2.frozen? ⟨s + 1, 0, none⟩ = false) : Acc s (w2.setCell ⟨s + 1, 0, none⟩ (.slice A2 n2 c2)) N := by
  refine ⟨A2, n2, c2, ?_, ?_, ?_, hf.down hL⟩
  · exact World.cell?_setCell_same _ _ _ hc
  · rw [World.frozen?_setCell]; exact hz
  · exact (hv.setCell hf (by show s + 1 < L; omega) _).up (by simp [World.setCell])

end Go.Proofs.Ytcaejanfhchacaa
