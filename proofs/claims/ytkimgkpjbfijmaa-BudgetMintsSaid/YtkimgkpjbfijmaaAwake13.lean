/- Layer 13 (budget): the chapter's examples, which every law of the layer asks for first. -/
import Derived.Test.YtkimgkpjbfijmaaBudA
import Derived.Test.YtkimgkpjbfijmaaCheckS
import Derived.Test.YtkimgkpjbfijmaaParNew
namespace Go.Proofs.Ytkimgkpjbfijmaa
open Go.RowKit
set_option linter.unusedVariables false
set_option linter.unusedSimpArgs false

theorem root_ten : IsRoot 100 10 := ⟨by decide, by decide⟩
theorem root_two : IsRoot 2 1 := ⟨by decide, by decide⟩

set_option maxRecDepth 100000 in
set_option maxHeartbeats 1000000 in
theorem bud_awake (w : World) :
    Calls Try.prog 6 #[] w fun e w' => e = .returned (.bool true) ∧ Below w.heap.size w w' := by
  have k1 := of_is Par.simple 100 10 10 0 simple_checks (by decide) (by decide) (by decide) ⟨root_ten, by decide, by decide⟩
  have k2 := of_none Par.simple 0 (.inl rfl)
  have k3 := of_is Par.simple 2 2 1 0 simple_checks (by decide) (by decide) (by decide) ⟨root_two, by decide, by decide⟩
  have k4 := mint_in 5 15 1 k1 rfl (by decide) (by decide) (by decide) (by decide)
  have k5 := mint_over 6 15 1 k1 rfl (by decide) (by decide) (by decide) (by decide)
  unfold OfIs at k1 k2 k3
  unfold MintIs at k4 k5
  rw [show ((100 : Nat) : Int) = 100 from rfl, show ((10 : Nat) : Int) = 10 from rfl] at k1
  rw [show ((0 : Nat) : Int) = 0 from rfl] at k2
  rw [show ((2 : Nat) : Int) = 2 from rfl] at k3
  rw [show ((100 : Nat) : Int) = 100 from rfl, show ((10 : Nat) : Int) = 10 from rfl, show ((5 : Nat) : Int) = 5 from rfl, show ((15 : Nat) : Int) = 15 from rfl] at k4
  rw [show ((100 : Nat) : Int) = 100 from rfl, show ((0 : Nat) : Int) = 0 from rfl, show ((6 : Nat) : Int) = 6 from rfl, show ((15 : Nat) : Int) = 15 from rfl] at k5
  go_enter Try.func6, Try.ntmps6
  go_wp2_with (first
    | (refine load_par _ rfl rfl _ Par.simple _ rfl (by assumption) ?_)
    | (refine store_par_new _ _ rfl rfl _ Par.simple Par.none 24 rfl rfl (ParAt.new _ Par.none _) ?_; intro w2 hS hb2; have hB := below_made hb1 hb2; clear hb2)
    | (go_at_call 16; refine (simple_is _).mono ?_; rintro e w1 ⟨rfl, hb1⟩)
    | (go_at_call 7; refine (k1 _).mono ?_; clear k1; rintro e w1 ⟨rfl, hb1⟩; have hS := hS.up hb1; have hB := Below.then hB hb1; clear hb1)
    | (go_at_call 7; refine (k2 _).mono ?_; clear k2; rintro e w1 ⟨rfl, hb1⟩; have hS := hS.up hb1; have hB := Below.then hB hb1; clear hb1)
    | (go_at_call 7; refine (k3 _).mono ?_; clear k3; rintro e w1 ⟨rfl, hb1⟩; have hS := hS.up hb1; have hB := Below.then hB hb1; clear hb1)
    | (go_at_call 8; refine (k4 _).mono ?_; clear k4; rintro e w1 ⟨rfl, hb1⟩; have hS := hS.up hb1; have hB := Below.then hB hb1; clear hb1)
    | (go_at_call 8; refine (k5 _).mono ?_; clear k5; rintro e w1 ⟨rfl, hb1⟩; have hS := hS.up hb1; have hB := Below.then hB hb1; clear hb1)
    )
  go_ret
  exact ⟨rfl, hB⟩
/-- Of any parameters there is a budget, and it isn't great. -/
theorem of_some (p : Par) (a : Nat) (hf : p.Fits) : ∃ n, OfIs p a n ∧ n ≤ 17592186044416 := by
  by_cases h : a = 0 ∨ 4611686018427387904 < a
  · exact ⟨0, of_none p a h, by omega⟩
  by_cases hR : ∃ N, Par.Right p N
  · obtain ⟨N, hN⟩ := hR
    obtain ⟨n, r, k, hb⟩ := bud_ex p.rate (a := a) (by omega)
    exact ⟨n, of_is p a n r k (fun w => check_ok p N w hN) (by omega) (by omega) hN.spans.rate1 hb, hb.most (by omega) (by omega) hN.spans.rate1⟩
  · exact ⟨0, of_no p a (fun w => check_no p w hf hR), by omega⟩

end Go.Proofs.Ytkimgkpjbfijmaa
