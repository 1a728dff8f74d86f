/- Layer 5 (coder): a reader of bytes; two texts held against each other. By contracts. -/
import Derived.Test.YtagibkaonmpihaaBytesV
import Derived.Test.YtagibkaonmpihaaCoderS
import Derived.Test.YtagibkaonmpihaaCoderO
import Derived.Laws.AppendOwnNone
namespace Go.Proofs.Ytagibkaonmpihaa
open Go.RowKit
set_option linter.unusedVariables false
set_option linter.unusedSimpArgs false

theorem open_is (xs : List Nat) (S : Nat → Prop) (A : Option Addr) (c : Nat) (w : World) (hx : Lies w S A xs) (hl : xs.length ≤ 140737488355328) (hb : ∀ x ∈ xs, x < 256) :
    Calls Try.prog 35 #[.slice A xs.length c] w fun e w' => ∃ (b : Nat) (A' : Option Addr) (c' : Nat), e = .returned (.pointer (some ⟨b, 0, none⟩)) ∧ ReaderAt w' b (fun k => w.heap.size ≤ k ∧ k < b) xs (0, 0) A' c' ∧ w.heap.size ≤ b ∧ Below w.heap.size w w' := by
  have k := clone_is xs S A c w hx hl
  go_enter Try.func35, Try.ntmps35
  go_wp2_with (go_at_call 54; refine k.mono ?_; rintro e w1 ⟨v, rfl, hown, hb1⟩; obtain ⟨A', c', rfl, hl1, hl2, _, hL⟩ := Lies.own hown)
  refine bodyPost_ret (v := .pointer (some ⟨w1.heap.size, 0, none⟩)) (by simp [results, Try.results35, go_sem]) rfl ⟨w1.heap.size, A', c', rfl, ?_, hb1.size, hb1.alloc hb1.size _⟩
  refine ⟨heap_alloc_new w1 _, ?_, hl1, hl2, Nat.zero_le _, Nat.zero_le _, fun h => Nat.lt_irrefl _ h.2, hb⟩
  intro j x hj
  obtain ⟨a, hA, hS, hc⟩ := hL j x hj
  exact ⟨a, hA, ⟨hS.1, hS.2.1⟩, by rw [World.cell?_alloc_lt _ _ _ (World.block_lt_of_cell? w1 _ hc)]; exact hc⟩

end Go.Proofs.Ytagibkaonmpihaa
