/- Layer 19 (member): the chapter's examples, which every law of the layer asks for first. -/
import Derived.Test.YtfmmcklggnflkaaMemE
import Derived.Test.YtfmmcklggnflkaaCheckS
import Derived.Test.YtfmmcklggnflkaaParL
namespace Go.Proofs.Ytfmmcklggnflkaa
open Go.RowKit Go.Deep
set_option linter.unusedVariables false
set_option linter.unusedSimpArgs false

section
variable {ops : Array Oper} {rest : List Oper} {o : Oper} {a : Act} {w : World} {Q : Exit → Act → World → Prop}
set_option maxRecDepth 100000 in
theorem built_mem (s : Std) (k : Int) : Try.prog.built 33 [(0, .agg s.vals), (2, .int .i64 k)] = some (Rec.vals (⟨s, 0, k⟩ : Mem)) := by kernel_rfl
set_option maxRecDepth 100000 in
/-- A member out of its standing, of account 0. -/
theorem build_mem (x : Operand) (k : Int) (ho : o.op = .build 33 #[(0, x), (2, .const (.int .i64 k))]) (hgd : Region.wanted o (yielded ops a.tmps) = true) (s : Std) (hx : a.eval x = .agg s.vals)
    (h : wpList Try.prog ops Q rest (a.put o.dst (.agg (Rec.vals (⟨s, 0, k⟩ : Mem)))) w) : wpList Try.prog ops Q (o :: rest) a w := by
  have hc : a.eval (.const (.int .i64 k)) = .int .i64 k := rfl
  refine build_rec 33 _ ho hgd _ ?_ h
  simp only [List.map_toArray, List.map_cons, List.map_nil, hx, hc]
  exact built_mem s k
end

set_option maxRecDepth 100000 in
theorem ex_whole : Par.whole Par.simple 27 = 20 := by decide
set_option maxRecDepth 100000 in
theorem ex_staked : (⟨⟨27, 0, 0, 0⟩, 0, 1⟩ : Mem).staked Par.simple = true := by decide
set_option maxRecDepth 100000 in
theorem ex_credited : (⟨⟨30, 30, 0, 0⟩, 0, 2⟩ : Mem).credited Par.simple 20 = ⟨⟨40, 30, 0, 0⟩, 0, 2⟩ := by kernel_rfl
set_option maxRecDepth 100000 in
theorem ex_rest : 20 - (Par.simple.cap - 30) = 10 := by decide

set_option maxRecDepth 100000 in
set_option maxHeartbeats 1000000 in
theorem member_awake (w : World) :
    Calls Try.prog 5 #[] w fun e w' => e = .returned (.bool true) ∧ Below w.heap.size w w' := by
  have ks := fun w => start_yes Par.simple ⟨⟨27, 0, 0, 0⟩, 0, 1⟩ 20 w simple_checks simple_right.spans.inc0 (by decide) rfl ex_staked (Lib.hid ex_whole)
  have kr := fun w => credit_is Par.simple ⟨⟨30, 30, 0, 0⟩, 0, 2⟩ 20 w simple_checks (by decide) (by decide) (by decide)
  rw [ex_credited] at kr
  simp only [ex_rest] at kr
  rw [show ((20 : Nat) : Int) = 20 from rfl, show ((10 : Nat) : Int) = 10 from rfl] at kr
  go_enter Try.func5, Try.ntmps5
  go_wp2_with (first
    | (refine load_par _ rfl rfl _ Par.simple _ rfl (by assumption) ?_)
    | (refine store_par_new _ _ rfl rfl _ Par.simple Par.none 42 rfl rfl (ParAt.new _ Par.none _) ?_; intro w2 hP hb2; have hB := below_made hb1 hb2; clear hb2 hb1)
    | (go_at_call 16; refine (simple_is _).mono ?_; rintro e w1 ⟨rfl, hb1⟩)
    | (refine build_std #[(0, .const (.int .u64 27))] rfl rfl (⟨27, 0, 0, 0⟩ : Std) ?_ ?_; · kernel_rfl)
    | (refine build_std #[(0, .const (.int .u64 30)), (1, .const (.int .u64 30))] rfl rfl (⟨30, 30, 0, 0⟩ : Std) ?_ ?_; · kernel_rfl)
    | (refine build_mem _ 1 rfl rfl (⟨27, 0, 0, 0⟩ : Std) rfl ?_)
    | (refine build_mem _ 2 rfl rfl (⟨30, 30, 0, 0⟩ : Std) rfl ?_)
    | (go_at_call 12; refine (ks _).mono ?_; clear ks; rintro e w3 ⟨rfl, hb3⟩; have hP := hP.up hb3; have hB := Below.then hB hb3; clear hb3)
    | (go_at_call 14; refine (kr _).mono ?_; clear kr; rintro e w5 ⟨rfl, hb3⟩; have hA := hA.up hb3; have hB := Below.then hB hb3; clear hb3)
    | (refine store_rec 33 _ _ rfl rfl _ (Rec.vals (⟨⟨27, 20, 0, 0⟩, 0, 2⟩ : Mem)) (Rec.vals Mem.zero) 33 rfl rfl (mem_zero_new _ _ rfl) size_mem rfl (Rec.one (⟨⟨27, 20, 0, 0⟩, 0, 2⟩ : Mem)) ?_; intro w4 hA hb4 hz4 hk4; have hb3 := rec_made (Below.refl _ _) hb4; have hP := hP.up hb3; have hB := Below.then hB hb3; clear hz4 hk4 hb4 hb3)
    | (refine store_rec 33 _ _ rfl rfl _ (Rec.vals (⟨⟨40, 30, 0, 0⟩, 0, 2⟩ : Mem)) (Rec.vals Mem.zero) 33 rfl rfl (mem_zero_new _ _ rfl) size_mem rfl (Rec.one (⟨⟨40, 30, 0, 0⟩, 0, 2⟩ : Mem)) ?_; intro w6 hC hb4 hz4 hk4; have hb3 := rec_made (Below.refl _ _) hb4; have hA := hA.up hb3; have hB := Below.then hB hb3; clear hz4 hk4 hb4 hb3; have x1 : _ = some (Value.int IntKind.u64 20) := hA.cell 1; have x5 : _ = some (Value.int IntKind.i64 2) := hA.cell 5; have y0 : _ = some (Value.int IntKind.u64 40) := hC.cell 0))
  go_ret
  exact ⟨by first | rfl | simp, hB⟩
end Go.Proofs.Ytfmmcklggnflkaa
