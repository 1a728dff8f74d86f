/- Layer 10 (grain): the chapter's examples, which every law of the layer asks for first. -/
import Derived.Test.YtfaocjgelhefjaaGraB
import Derived.Test.YtfaocjgelhefjaaAwake7
namespace Go.Proofs.Ytfaocjgelhefjaa
open Go.RowKit
set_option linter.unusedVariables false

section
variable {ops : Array Oper} {rest : List Oper} {o : Oper} {a : Act} {w : World} {Q : Exit → Act → World → Prop}
/-- A whole block written over; the world behind it has a new name. -/
theorem store_par_new (x y : Operand) (ho : o.op = .store 24 x y) (hgd : Region.wanted o (yielded ops a.tmps) = true) (g : Nat) (p old : Par) (T : TypeId) (hx : a.eval x = .pointer (some ⟨g, 0, none⟩)) (hy : a.eval y = .agg p.vals) (hP : ParAt w g old T)
    (h : ∀ w', ParAt w' g p T → Below g w w' → wpList Try.prog ops Q rest (a.put o.dst undef) w') : wpList Try.prog ops Q (o :: rest) a w :=
  store_par x y ho hgd g p old T hx hy hP (h _ (ParAt.set hP) (below_setRow (Below.refl _ _) (Nat.le_refl _) _))
theorem store_ref_new (x y : Operand) (ho : o.op = .store 28 x y) (hgd : Region.wanted o (yielded ops a.tmps) = true) (g : Nat) (p old : Par) (T : TypeId) (hx : a.eval x = .pointer (some ⟨g, 0, none⟩)) (hy : a.eval y = .agg p.vals) (hP : ParAt w g old T)
    (h : ∀ w', ParAt w' g p T → Below g w w' → wpList Try.prog ops Q rest (a.put o.dst undef) w') : wpList Try.prog ops Q (o :: rest) a w :=
  store_ref x y ho hgd g p old T hx hy hP (h _ (ParAt.set hP) (below_setRow (Below.refl _ _) (Nat.le_refl _) _))
end
/-- Made and written at once. -/
theorem below_made {w0 w w' : World} {o : Obj} (hB : Below w0.heap.size w0 w) (h : Below w.heap.size (w.alloc o) w') : Below w0.heap.size w0 w' :=
  hB.trans ((((Below.refl _ _).alloc (Nat.le_refl _) _).trans h).mono hB.size)

theorem simple_checks : CheckIs Par.simple 0 := fun w => check_ok Par.simple 12 w simple_right

set_option maxRecDepth 100000 in
set_option maxHeartbeats 1000000 in
theorem grain_awake (w : World) :
    Calls Try.prog 6 #[] w fun e w' => e = .returned (.bool true) ∧ Below w.heap.size w w' := by
  have kw := fun w => gwhole_ok Par.simple 27 20 w simple_checks (by decide) (by decide) (Lib.hid (by decide))
  have k1 := fun w => gnext_ok Par.simple 20 30 20 w simple_checks (by decide) (by decide) (by decide) (Lib.hid (by decide))
  have k2 := fun w => gnext_ok Par.simple 20 31 30 w simple_checks (by decide) (by decide) (by decide) (Lib.hid (by decide))
  have k3 := fun w => gnext_ok Par.simple 30 24 20 w simple_checks (by decide) (by decide) (by decide) (Lib.hid (by decide))
  rw [show ((27 : Nat) : Int) = 27 from rfl, show ((20 : Nat) : Int) = 20 from rfl] at kw
  rw [show ((30 : Nat) : Int) = 30 from rfl, show ((20 : Nat) : Int) = 20 from rfl] at k1
  rw [show ((31 : Nat) : Int) = 31 from rfl, show ((30 : Nat) : Int) = 30 from rfl, show ((20 : Nat) : Int) = 20 from rfl] at k2
  rw [show ((24 : Nat) : Int) = 24 from rfl, show ((30 : Nat) : Int) = 30 from rfl, show ((20 : Nat) : Int) = 20 from rfl] at k3
  go_enter Try.func6, Try.ntmps6
  go_wp2_with (first
    | (refine load_par _ rfl rfl _ Par.simple _ rfl (by assumption) ?_)
    | (refine store_par_new _ _ rfl rfl _ Par.simple Par.none 24 rfl rfl (ParAt.new _ Par.none _) ?_; intro w2 hS hb2; have hB := below_made hb1 hb2; clear hb2)
    | (go_at_call 16; refine (simple_is _).mono ?_; rintro e w1 ⟨rfl, hb1⟩)
    | (go_at_call 10; refine (kw _).mono ?_; clear kw; rintro e w1 ⟨rfl, hb1⟩; have hS := hS.up hb1; have hB := Below.then hB hb1; clear hb1)
    | (go_at_call 11; refine (k1 _).mono ?_; clear k1; rintro e w1 ⟨rfl, hb1⟩; have hS := hS.up hb1; have hB := Below.then hB hb1; clear hb1)
    | (go_at_call 11; refine (k2 _).mono ?_; clear k2; rintro e w1 ⟨rfl, hb1⟩; have hS := hS.up hb1; have hB := Below.then hB hb1; clear hb1)
    | (go_at_call 11; refine (k3 _).mono ?_; clear k3; rintro e w1 ⟨rfl, hb1⟩; have hS := hS.up hb1; have hB := Below.then hB hb1; clear hb1))
  go_ret
  exact ⟨rfl, hB⟩
end Go.Proofs.Ytfaocjgelhefjaa
