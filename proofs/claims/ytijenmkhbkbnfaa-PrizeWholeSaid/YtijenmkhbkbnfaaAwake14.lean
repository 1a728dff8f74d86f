/- Layer 14 (prize): the chapter's examples, which every law of the layer asks for first. -/
import Derived.Test.YtijenmkhbkbnfaaPriB
import Derived.Test.YtijenmkhbkbnfaaCheckS
import Derived.Test.YtijenmkhbkbnfaaParNew
import Derived.Great.BuildSlice
namespace Go.Proofs.Ytijenmkhbkbnfaa
open Go.RowKit Go.Shelf
set_option linter.unusedVariables false
set_option linter.unusedSimpArgs false

theorem std_info : (Try.prog.info? 36).map (fun i => (i.zero, i.size, i.bytes)) = some (some (.agg Std.none.vals), 4, 32) := by kernel_rfl
theorem fill_two (a b : Std) : Instr.fill (fun i => some (i * 4, 4)) ((Array.range (2 * 4)).map ((Value.agg Std.none.vals).cells[· % (Value.agg Std.none.vals).cells.size]!)) [(0, .agg a.vals), (1, .agg b.vals)] = some (sflat [a, b]).toArray := by kernel_rfl
section
variable {ops : Array Oper} {rest : List Oper} {o : Oper} {a : Act} {w : World} {Q : Exit → Act → World → Prop}
/-- A list of two standings. -/
theorem list_two_std (hgd : o.guard = none) (x y : Operand) (t e : TypeId) (ho : o.op = .buildSlice t 2 #[(0, x), (1, y)]) (hu : Try.prog.underlying t = some (.slice e)) (he : (Try.prog.info? e).map (fun i => (i.zero, i.size, i.bytes)) = some (some (.agg Std.none.vals), 4, 32)) (s r : Std) (hx : a.eval x = .agg s.vals) (hy : a.eval y = .agg r.vals)
    (h : wpList Try.prog ops Q rest (a.put o.dst (.slice (some ⟨w.heap.size, 0, none⟩) 2 2)) (w.alloc (.cells (sflat [s, r]).toArray e))) : wpList Try.prog ops Q (o :: rest) a w := by
  obtain ⟨i0, hi0, hz0, hz1, hz2⟩ := info_parts he
  refine wpList_buildSlice hgd t e 2 #[(0, x), (1, y)] ho (sflat [s, r]).toArray i0 _ hu hi0 hz0 (by rw [hz1]; decide) (by rw [hz1]; decide) ?_ h
  rw [hz1]
  simp only [List.map_toArray, List.map_cons, List.map_nil, hx, hy]
  exact fill_two s r
end
theorem row_std_new (w : World) (l : List Std) (T : TypeId) : Row (w.alloc (.cells (sflat l).toArray T)) (w.heap.size + 1) (some ⟨w.heap.size, 0, none⟩) (sflat l) := fun k v hk => by
  refine ⟨_, rfl, Nat.lt_succ_self _, ?_⟩
  rw [Addr.add_mid, Nat.zero_add, cell_of_row _ _ _ _ _ _ (heap_alloc_new w _), ← hk]
  simp
theorem exs : prizesOf Par.simple 10 [⟨0, 10, 0, 0⟩, ⟨0, 10, 0, 5⟩] = [4, 5] := by decide
theorem exw : Std.weight Par.simple ⟨0, 10, 0, 2⟩ = 12000 := by decide

set_option maxRecDepth 100000 in
set_option maxHeartbeats 1000000 in
theorem prize_awake (w : World) :
    Calls Try.prog 7 #[] w fun e w' => e = .returned (.bool true) ∧ Below w.heap.size w w' := by
  have kp := fun (A : Option Addr) (c : Nat) (w : World) (hr : Row w w.heap.size A (sflat [⟨0, 10, 0, 0⟩, ⟨0, 10, 0, 5⟩])) => prizes_ok Par.simple 10 [⟨0, 10, 0, 0⟩, ⟨0, 10, 0, 5⟩] A c w simple_checks simple_right.spans (by decide) hr (by decide)
  have kw := weight_ok Par.simple ⟨0, 10, 0, 2⟩ simple_checks simple_right.spans
  unfold WeightIs at kw
  simp only [exs] at kp
  rw [exw] at kw
  rw [show ((12000 : Nat) : Int) = 12000 from rfl] at kw
  rw [show ((10 : Nat) : Int) = 10 from rfl, show 10 - tot [4, 5] = 1 from rfl, show ((1 : Nat) : Int) = 1 from rfl] at kp
  have ks := fun (A : Option Addr) (c : Nat) (w : World) (hr : Row w w.heap.size A (u64s [4, 5])) (A' : Option Addr) (hr' : Row w w.heap.size A' (u64s [4, 5])) => same_words_true [4, 5] A A' c 2 w hr hr' (by decide)
  go_enter Try.func7, Try.ntmps7
  go_wp2_with (first
    | (refine load_par _ rfl rfl _ Par.simple _ rfl (by assumption) ?_)
    | (refine store_par_new _ _ rfl rfl _ Par.simple Par.none 24 rfl rfl (ParAt.new _ Par.none _) ?_; intro w2 hS hb2; have hB := below_made hb1 hb2; clear hb2)
    | (go_at_call 17; refine (simple_is _).mono ?_; rintro e w1 ⟨rfl, hb1⟩)
    | (refine build_std #[(1, .const (.int .u64 10))] rfl rfl (⟨0, 10, 0, 0⟩ : Std) ?_ ?_; · kernel_rfl)
    | (refine build_std #[(1, .const (.int .u64 10)), (3, .const (.int .i64 5))] rfl rfl (⟨0, 10, 0, 5⟩ : Std) ?_ ?_; · kernel_rfl)
    | (refine build_std #[(1, .const (.int .u64 10)), (3, .const (.int .i64 2))] rfl rfl (⟨0, 10, 0, 2⟩ : Std) ?_ ?_; · kernel_rfl)
    | (refine list_two_std rfl _ _ _ _ rfl Try.underlying25 std_info (⟨0, 10, 0, 0⟩ : Std) (⟨0, 10, 0, 5⟩ : Std) rfl rfl ?_; have hr := row_std_new w2 [(⟨0, 10, 0, 0⟩ : Std), (⟨0, 10, 0, 5⟩ : Std)] 36; have hS := hS.up ((Below.refl _ w2).alloc (Nat.le_refl _) (.cells (sflat [(⟨0, 10, 0, 0⟩ : Std), (⟨0, 10, 0, 5⟩ : Std)]).toArray 36)); have hB := hB.alloc hB.size (.cells (sflat [(⟨0, 10, 0, 0⟩ : Std), (⟨0, 10, 0, 5⟩ : Std)]).toArray 36))
    | (go_at_call 8; have hr := hr.up (Nat.le_of_eq (World.size_alloc w2 (.cells (sflat [(⟨0, 10, 0, 0⟩ : Std), (⟨0, 10, 0, 5⟩ : Std)]).toArray 36)).symm); refine (kp _ _ _ hr).mono ?_; clear kp hr; rintro e w3 ⟨v3, rfl, hown, hb3⟩; obtain ⟨A3, c3, rfl, -, -, hr3⟩ := Row.of_own hown; clear hown; have hS := hS.up hb3; have hB := Below.then hB hb3; clear hb3)
    | (go_at_call 11; refine (kw _).mono ?_; clear kw; rintro e w4 ⟨rfl, hb4⟩; have hr4 := (hr3.below hb4).up hb4.size; have hB := Below.then hB hb4; clear hb4 hr3)
    | (go_at_call 14; have hq := (row_new w4 [4, 5] 22).up (Nat.le_of_eq (World.size_alloc w4 (.cells (u64s [4, 5]).toArray 22)).symm); have hq5 := (hr4.alloc (Nat.le_refl _) (.cells (u64s [4, 5]).toArray 22)).up (Nat.le_trans (Nat.le_succ _) (Nat.le_of_eq (World.size_alloc w4 (.cells (u64s [4, 5]).toArray 22)).symm)); rw [show (u64s [4, 5]).toArray = #[.int .u64 4, .int .u64 5] from rfl] at hq hq5; have hB := hB.alloc hB.size (.cells #[.int .u64 4, .int .u64 5] 22); refine (ks _ _ _ hq5 _ hq).mono ?_; clear ks; rintro e w5 ⟨rfl, hb5⟩; have hB := Below.then hB hb5; clear hb5))
  go_ret
  exact ⟨by first | rfl | simp, hB⟩

end Go.Proofs.Ytijenmkhbkbnfaa
