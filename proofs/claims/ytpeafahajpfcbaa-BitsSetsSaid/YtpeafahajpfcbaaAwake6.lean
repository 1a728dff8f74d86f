/- The examples of layer 6 (bits). By contracts. -/
import Derived.Test.YtpeafahajpfcbaaBitD
namespace Go.Proofs.Ytpeafahajpfcbaa
open Go.RowKit
set_option linter.unusedVariables false
set_option linter.unusedSimpArgs false

theorem packed_101 : packed [true, false, true] = [5] := by decide
theorem not_field8 : ¬ FieldI [8] 3 := by
  intro h
  have := h.2.2.2 3 (by decide)
  revert this
  decide
theorem row_new (w : World) (l : List Bool) : Row (w.alloc (.cells (bools l).toArray 4)) (w.alloc (.cells (bools l).toArray 4)).heap.size (some ⟨w.heap.size, 0, none⟩) (bools l) := fun k v hv => by
  refine ⟨_, rfl, by simp, ?_⟩
  rw [Addr.add_mid, Nat.zero_add]
  exact new_row w _ _ k v (by simpa using hv)

set_option maxRecDepth 100000 in
set_option maxHeartbeats 1000000 in
theorem bits_awake (w : World) : Calls Try.prog 8 #[] w fun e w' => e = .returned (.bool true) ∧ Below w.heap.size w w' := by
  have k1 := pack_ok [true, false, true] (some ⟨w.heap.size, 0, none⟩) 3 _ (row_new w [true, false, true]) (by decide)
  rw [packed_101] at k1
  go_enter Try.func8, Try.ntmps8
  go_wp2_with (first
    | (go_at_call 9; refine k1.mono ?_; clear k1; rintro e w1 ⟨v, rfl, hown, hb1⟩; obtain ⟨g, cv, rfl, hg, hgl⟩ := own_cons hown (by decide); have hc := own_cell (j := 0) (v := .int .u8 5) hown rfl; have k2 := check_no [8] _ _ 1 3 _ (lies_new w1 [8]) (by decide) not_field8)
    | (go_at_call 15; refine k2.mono ?_; clear k2; rintro e w2 ⟨rfl, hb2⟩))
  go_ret
  have h1 : Below w.heap.size w w1 := ((Below.refl _ w).alloc (Nat.le_refl _) _).trans (hb1.mono (by simp))
  exact ⟨rfl, (h1.alloc h1.size _).trans (hb2.mono (Nat.le_trans h1.size (by simp)))⟩
end Go.Proofs.Ytpeafahajpfcbaa
