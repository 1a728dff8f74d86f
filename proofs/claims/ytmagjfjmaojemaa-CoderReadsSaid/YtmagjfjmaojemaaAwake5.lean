/- The examples of layer 5 (coder). By contracts. -/
import Derived.Test.YtmagjfjmaojemaaCoderU
import Derived.Test.YtmagjfjmaojemaaCoderV
namespace Go.Proofs.Ytmagjfjmaojemaa
open Go.RowKit
set_option linter.unusedVariables false
set_option linter.unusedSimpArgs false

theorem writer_zero : (Try.prog.info? 32).map (fun i => i.zero) = some (some (.agg (wcells 0 0 (.pointer none) (List.replicate 64 0)).toArray)) := by kernel_rfl
theorem run_writer_zero (V : World) : (zeroValue 32).run Try.prog V = .ok (.agg (wcells 0 0 (.pointer none) (List.replicate 64 0)).toArray) V := by
  have hi := writer_zero
  cases hit : Try.prog.info? 32 with
  | none => rw [hit] at hi; simp at hi
  | some it =>
    rw [hit] at hi
    have hz : it.zero = some (.agg (wcells 0 0 (.pointer none) (List.replicate 64 0)).toArray) := by simpa using hi
    simp [zeroValue, typeInfo, hit, hz]
/-- A writer's zero value, under a name. -/
def zeroWriter : Array Value := (wcells 0 0 (.pointer none) (List.replicate 64 0)).toArray
theorem run_zero (V : World) : (zeroValue 32).run Try.prog V = .ok (.agg zeroWriter) V := run_writer_zero V

/-- A new writer. -/
theorem writer_new (w : World) : Writes (w.alloc (.cells zeroWriter 32)) w.heap.size (fun _ => False) ([], 0) :=
  ⟨0, .pointer none, [], [], List.replicate 64 0, rfl, by simp, by simp, rfl, by simp, by simp, ⟨rfl, rfl⟩, fun _ h => h.elim, heap_alloc_new w _⟩

theorem written300 : wput ([], 0) (form 300) = ([172, 2], 0) := by
  rw [form_big (by omega), form_small (by omega)]; rfl
theorem read_form : rdNum [128, 0] (0, 0) 9 = (0, (0, 51)) := rfl
theorem read_end : rdNum [128] (0, 0) 9 = (0, (0, 50)) := rfl

/-- A row of bytes that was laid just now. -/
theorem lies_new (w : World) (xs : List Nat) : Lies (w.alloc (.cells (u8s xs).toArray 5)) (· = w.heap.size) (some ⟨w.heap.size, 0, none⟩) xs := fun k x hx => by
  have hk : k < xs.length := (List.getElem?_eq_some_iff.1 hx).1
  have e : xs[k] = x := (List.getElem?_eq_some_iff.1 hx).2
  refine ⟨_, rfl, rfl, ?_⟩
  rw [Addr.add_mid, Nat.zero_add]
  refine new_row w _ _ k _ ?_
  rw [← e]
  simpa using u8s_get hk

set_option maxRecDepth 100000 in
set_option maxHeartbeats 4000000 in
theorem coder_awake (w : World) : Calls Try.prog 8 #[] w fun e w' => e = .returned (.bool true) ∧ Below w.heap.size w w' := by
  have hz := run_zero
  have hnew := writer_new w
  have k1 := fun (F : Nat → Prop) (W : World) (h : Writes W w.heap.size F ([], 0)) => num_is w.heap.size F ([], 0) 300 W h (by omega)
  go_enter Try.func8, Try.ntmps8
  go_wp2_with (first
    | (go_at_call 10; refine (k1 _ _ hnew).mono ?_; rintro e w1 ⟨rfl, ⟨F1, hW1, _⟩, hg1⟩; rw [written300] at hW1; have ko := out_ok w.heap.size F1 [172, 2] w1 hW1; clear k1 hnew)
    | (go_at_call 18; refine ko.mono ?_; clear ko; rintro e w2 ⟨v, rfl, hown, hb2⟩; have hB2 := Lib.hid (((below_of_grown hg1 (Nat.le_refl _) (by simp)).trans (hb2.mono (Nat.le_trans (by simp) hg1.size))) : Below w.heap.size _ w2); obtain ⟨Av, cv, rfl, hl1, hl2, _, hLv⟩ := Lies.own hown; have kA := open_is [128, 0] _ _ 2 _ (lies_new w2 [128, 0]) (by simp) (by simp); have HLV := Lib.hid hLv; clear hLv hown)
    | (go_at_call 20; refine kA.mono ?_; clear kA; rintro e w3 ⟨b1, A1, c1, rfl, hR1, hb1, hb3⟩; have kB := open_is [128] _ _ 1 _ (lies_new w3 [128]) (by simp) (by simp))
    | (go_at_call 20; refine kB.mono ?_; clear kB; rintro e w4 ⟨b2, A2, c2, rfl, hR2, hb2', hb4⟩; have hR1' := (hR1.grown (grown_alloc w3 _ none) (by simp) (by simp)).grown (grown_below hb4 none) (by simp) (by simp); have kC := rnum_is b1 _ _ _ _ _ 9 _ hR1' (by omega); rw [read_form] at kC)
    | (go_at_call 21; refine kC.mono ?_; clear kC; rintro e w5 ⟨rfl, hR3, hg5⟩; have hb1l := hR1.lt; have hsz3 : w3.heap.size ≤ (w3.alloc (.cells (u8s [128]).toArray 5)).heap.size := (grown_alloc w3 _ none).size; have hR2' := hR2.grown hg5 (by intro e; injection e with e; omega) (fun k hk e => by injection e with e; have := hk.1; omega); have kD := rnum_is b2 _ _ _ _ _ 9 _ hR2' (by omega); rw [read_end] at kD)
    | (go_at_call 21; refine kD.mono ?_; clear kD; rintro e w6 ⟨rfl, hR4, hg6⟩; have hb2l := hR2.lt; have hsz2 : w2.heap.size + 1 ≤ b1 := Nat.le_trans (by simp) hb1; have hL6 := ((((((HLV.out.grown (grown_alloc w2 _ none) (by simp)).grown (grown_below hb3 none) (by simp)).grown (grown_alloc w3 _ none) (by simp)).grown (grown_below hb4 none) (by simp)).grown hg5 (fun k hk e => by injection e with e; have := hk.2.1; omega)).grown hg6 (fun k hk e => by injection e with e; have := hk.2.1; omega)).grown (grown_alloc w6 (.cells (u8s [172, 2]).toArray 5) none) (by simp); have kS := same_true [172, 2] _ _ _ _ cv 2 _ hL6 (lies_new w6 [172, 2]) (by simp [maxLen]); have hR3' := hR3.grown hg6 (by intro e; injection e with e; omega) (fun k hk e => by injection e with e; have := hk.2; omega))
    | (go_at_call 19; refine kS.mono ?_; clear kS; rintro e w7 ⟨rfl, hb7⟩; have kE := rerr_is b1 _ _ _ _ _ _ ((hR3'.grown (grown_alloc w6 _ none) (by simp) (by simp)).grown (grown_below hb7 none) (by simp) (by simp)); have kF := rerr_is b2 _ _ _ _ _ _ ((hR4.grown (grown_alloc w6 _ none) (by simp) (by simp)).grown (grown_below hb7 none) (by simp) (by simp)))
    | (go_at_call 29; refine kE.mono ?_; clear kE; rintro e w8 ⟨rfl, rfl⟩)
    | (go_at_call 29; refine kF.mono ?_; clear kF; rintro e w8 ⟨rfl, rfl⟩))
  go_ret
  have hq2 : w.heap.size ≤ w2.heap.size := Nat.le_trans (by simp) hB2.out.size
  refine ⟨rfl, ?_⟩
  have h0 : Below w.heap.size w w2 := ((Below.refl _ w).alloc (Nat.le_refl _) _).trans hB2.out
  have h3 : Below w.heap.size w2 w3 := ((Below.refl _ w2).alloc hq2 _).trans (hb3.mono (Nat.le_trans hq2 (by simp)))
  have hq3 : w.heap.size ≤ w3.heap.size := Nat.le_trans hq2 h3.size
  have h4 : Below w.heap.size w3 w4 := ((Below.refl _ w3).alloc hq3 _).trans (hb4.mono (Nat.le_trans hq3 (by simp)))
  have hq4 : w.heap.size ≤ w4.heap.size := Nat.le_trans hq3 h4.size
  have h5 := below_of_grown hg5 (by omega : w.heap.size ≤ b1) hq4
  have hq5 : w.heap.size ≤ w5.heap.size := Nat.le_trans hq4 h5.size
  have h6 := below_of_grown hg6 (by omega : w.heap.size ≤ b2) hq5
  have hq6 : w.heap.size ≤ w6.heap.size := Nat.le_trans hq5 h6.size
  exact ((((h0.trans h3).trans h4).trans h5).trans h6).trans (((Below.refl _ w6).alloc hq6 _).trans (hb7.mono (Nat.le_trans hq6 (by simp))))
end Go.Proofs.Ytmagjfjmaojemaa
