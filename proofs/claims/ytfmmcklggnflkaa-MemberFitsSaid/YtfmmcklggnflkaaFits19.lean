/- Law MemberFits (P19.5): of right parameters, who fits and starts fits; who fits and ends fits; who fits and is credited has that much more, at most the cap, and fits if it is pending then. No condition. -/
import Derived.Test.YtfmmcklggnflkaaAwake19
import Derived.Test.YtfmmcklggnflkaaLawM
import Derived.Test.YtfmmcklggnflkaaParP
import Derived.Test.YtfmmcklggnflkaaParSb
import Derived.Test.YtfmmcklggnflkaaLawP
import Derived.Test.YtfmmcklggnflkaaRows
namespace Go.Proofs.Ytfmmcklggnflkaa.MemberFits
open Go.RowKit Go.ChangeShapes Go.WideShapes Go.ChangeAt Go.Deep
set_option linter.unusedVariables false
set_option linter.unusedSimpArgs false

section
variable {ops : Array Oper} {rest : List Oper} {o : Oper} {a : Act} {w : World} {Q : Exit → Act → World → Prop}
/-- An operation by the slot that it fills. -/
theorem slot_is {P : Program} {ops : Array Oper} {rest : List Oper} {o : Oper} {a : Act} {w : World} {Q : Exit → Act → World → Prop} (k : Nat) (hd : o.dst = some k) (h : wpList P ops Q (o :: rest) a w) : wpList P ops Q (o :: rest) a w := h
end


set_option maxRecDepth 100000 in
set_option maxHeartbeats 2000000 in
theorem walk_wrong (p : Par) (m : Mem) (x : Nat) (w : World) (kr : ∀ w, Calls Try.prog 9 #[.agg p.vals] w fun e w' => e = .returned (.bool false) ∧ Below w.heap.size w w') : Calls Try.prog 4 #[.agg p.vals, .agg (Rec.vals m), .int .u64 (x : Int)] w fun e w' => e = .returned (.bool true) ∧ Below w.heap.size w w' := by
  have hP : ParAt (World.alloc (w.alloc (.cells p.vals 42)) (.cells (Rec.vals m) 33)) w.heap.size p 42 := (mem_two w p m).1
  have hS : RecAt (World.alloc (w.alloc (.cells p.vals 42)) (.cells (Rec.vals m) 33)) (w.heap.size + 1) (Rec.vals m) 33 := (mem_two w p m).2.1
  have hB : Below w.heap.size w (World.alloc (w.alloc (.cells p.vals 42)) (.cells (Rec.vals m) 33)) := (mem_two w p m).2.2
  go_enter Try.func4, Try.ntmps4
  go_wp2_with (first
    | (go_at_call 5; refine (member_awake _).mono ?_; rintro e w1 ⟨rfl, hb1⟩; replace hP := hP.up hb1; replace hB := Below.then hB hb1; replace hS := hS.up hb1; clear hb1; replace x0 : _ = some (Value.int IntKind.u64 (m.s.bal : Int)) := hS.cell 0)
    | ((with_reducible refine slot_is 15 rfl ?_); refine load_par _ rfl rfl _ p _ rfl hP ?_)
    | (go_at_call 10; refine (plain_is p _).mono ?_; rintro e w1 ⟨rfl, hb1⟩; replace hP := hP.up hb1; replace hB := Below.then hB hb1; replace hS := hS.up hb1; clear hb1; replace x0 : _ = some (Value.int IntKind.u64 (m.s.bal : Int)) := hS.cell 0)
    | (go_at_call 9; refine (kr _).mono ?_; clear kr; rintro e w1 ⟨rfl, hb1⟩; replace hP := hP.up hb1; replace hB := Below.then hB hb1; replace hS := hS.up hb1; clear hb1; replace x0 : _ = some (Value.int IntKind.u64 (m.s.bal : Int)) := hS.cell 0))
  go_ret
  exact ⟨by first | rfl | simp, hB⟩


set_option maxRecDepth 100000 in
set_option maxHeartbeats 2000000 in
theorem walk_unfit (p : Par) (m : Mem) (x : Nat) (w : World) (kr : ∀ w, Calls Try.prog 9 #[.agg p.vals] w fun e w' => e = .returned (.bool true) ∧ Below w.heap.size w w') (kf : ∀ w, Calls Try.prog 11 #[.agg p.vals, .agg (Rec.vals m)] w fun e w' => e = .returned (.bool false) ∧ Below w.heap.size w w') : Calls Try.prog 4 #[.agg p.vals, .agg (Rec.vals m), .int .u64 (x : Int)] w fun e w' => e = .returned (.bool true) ∧ Below w.heap.size w w' := by
  have hP : ParAt (World.alloc (w.alloc (.cells p.vals 42)) (.cells (Rec.vals m) 33)) w.heap.size p 42 := (mem_two w p m).1
  have hS : RecAt (World.alloc (w.alloc (.cells p.vals 42)) (.cells (Rec.vals m) 33)) (w.heap.size + 1) (Rec.vals m) 33 := (mem_two w p m).2.1
  have hB : Below w.heap.size w (World.alloc (w.alloc (.cells p.vals 42)) (.cells (Rec.vals m) 33)) := (mem_two w p m).2.2
  go_enter Try.func4, Try.ntmps4
  go_wp2_with (first
    | (go_at_call 5; refine (member_awake _).mono ?_; rintro e w1 ⟨rfl, hb1⟩; replace hP := hP.up hb1; replace hB := Below.then hB hb1; replace hS := hS.up hb1; clear hb1; replace x0 : _ = some (Value.int IntKind.u64 (m.s.bal : Int)) := hS.cell 0)
    | ((with_reducible refine slot_is 15 rfl ?_); refine load_par _ rfl rfl _ p _ rfl hP ?_)
    | (go_at_call 10; refine (plain_is p _).mono ?_; rintro e w1 ⟨rfl, hb1⟩; replace hP := hP.up hb1; replace hB := Below.then hB hb1; replace hS := hS.up hb1; clear hb1; replace x0 : _ = some (Value.int IntKind.u64 (m.s.bal : Int)) := hS.cell 0)
    | (go_at_call 9; refine (kr _).mono ?_; clear kr; rintro e w1 ⟨rfl, hb1⟩; replace hP := hP.up hb1; replace hB := Below.then hB hb1; replace hS := hS.up hb1; clear hb1; replace x0 : _ = some (Value.int IntKind.u64 (m.s.bal : Int)) := hS.cell 0)
    | ((with_reducible refine slot_is 20 rfl ?_); refine load_par _ rfl rfl _ p _ rfl hP ?_)
    | ((with_reducible refine slot_is 21 rfl ?_); refine load_rec 33 _ rfl rfl _ (Rec.vals m) rfl hS.lies Try.underlying33 size_mem ?_)
    | (go_at_call 11; refine (kf _).mono ?_; clear kf; rintro e w1 ⟨rfl, hb1⟩; replace hP := hP.up hb1; replace hB := Below.then hB hb1; replace hS := hS.up hb1; clear hb1; replace x0 : _ = some (Value.int IntKind.u64 (m.s.bal : Int)) := hS.cell 0))
  go_ret
  exact ⟨by first | rfl | simp, hB⟩


set_option maxRecDepth 100000 in
set_option maxHeartbeats 2000000 in
theorem walk_s_other (p : Par) (m a b c : Mem) (x q r : Nat) (w : World)
    (kr : ∀ w, Calls Try.prog 9 #[.agg p.vals] w fun e w' => e = .returned (.bool true) ∧ Below w.heap.size w w')
    (kf : ∀ w, Calls Try.prog 11 #[.agg p.vals, .agg (Rec.vals m)] w fun e w' => e = .returned (.bool true) ∧ Below w.heap.size w w')
    (ks : ∀ w, Calls Try.prog 12 #[.agg p.vals, .agg (Rec.vals m)] w fun e w' => e = .returned (.tuple #[.agg (Rec.vals a), .bool true]) ∧ Below w.heap.size w w')
    (ke : ∀ w, Calls Try.prog 13 #[.agg (Rec.vals m), .int .i64 4] w fun e w' => e = .returned (.tuple #[.agg (Rec.vals b), .int .u64 (m.s.bal : Int)]) ∧ Below w.heap.size w w')
    (kc : ∀ w, Calls Try.prog 14 #[.agg p.vals, .agg (Rec.vals m), .int .u64 (x : Int)] w fun e w' => e = .returned (.tuple #[.agg (Rec.vals c), .int .u64 (q : Int)]) ∧ Below w.heap.size w w')
    (kfa : ∀ w, Calls Try.prog 11 #[.agg p.vals, .agg (Rec.vals a)] w fun e w' => e = .returned (.bool true) ∧ Below w.heap.size w w')
    (kca : ∀ w, Calls Try.prog 15 #[.agg (Rec.vals a)] w fun e w' => e = .returned (.bool true) ∧ Below w.heap.size w w')
    (kfb : ∀ w, Calls Try.prog 11 #[.agg p.vals, .agg (Rec.vals b)] w fun e w' => e = .returned (.bool true) ∧ Below w.heap.size w w')
    (kcm : ∀ w, Calls Try.prog 15 #[.agg (Rec.vals m)] w fun e w' => e = .returned (.bool false) ∧ Below w.heap.size w w')
    (h1 : ¬ c.status = 1)
    (HA : Hid (a.s.bal = m.s.bal))
    (hr : c.s.bal = m.s.bal + r) (hq : q + r = x) (hcap : c.s.bal ≤ p.cap) (hb : c.s.bal < 18446744073709551616) (hx : x < 18446744073709551616) :
    Calls Try.prog 4 #[.agg p.vals, .agg (Rec.vals m), .int .u64 (x : Int)] w fun e w' => e = .returned (.bool true) ∧ Below w.heap.size w w' := by
  have hP : ParAt (World.alloc (w.alloc (.cells p.vals 42)) (.cells (Rec.vals m) 33)) w.heap.size p 42 := (mem_two w p m).1
  have hS : RecAt (World.alloc (w.alloc (.cells p.vals 42)) (.cells (Rec.vals m) 33)) (w.heap.size + 1) (Rec.vals m) 33 := (mem_two w p m).2.1
  have hB : Below w.heap.size w (World.alloc (w.alloc (.cells p.vals 42)) (.cells (Rec.vals m) 33)) := (mem_two w p m).2.2
  have v3 := p.v3
  have e1 : IntKind.u64.wrap ((c.s.bal : Int) - (m.s.bal : Int)) = (r : Int) := by rw [show (c.s.bal : Int) - (m.s.bal : Int) = (r : Int) by omega]; exact IntWalk.u64_in _ (by omega)
  have e2 : IntKind.u64.wrap ((x : Int) - (q : Int)) = (r : Int) := by rw [show (x : Int) - (q : Int) = (r : Int) by omega]; exact IntWalk.u64_in _ (by omega)
  have d1 : decide ((x : Int) < (q : Int)) = false := decide_eq_false (by omega)
  have d2 : decide (x < q) = false := decide_eq_false (by omega)
  have d3 : decide ((p.cap : Int) < (c.s.bal : Int)) = false := decide_eq_false (by omega)
  have d4 : decide (p.cap < c.s.bal) = false := decide_eq_false (by omega)
  have z1 : (c.status == 1) = false := by simp [h1]
  have z2 : (c.status != 1) = true := by simp [h1]
  have z3 : decide (c.status = 1) = false := by simp [h1]
  clear h1
  clear hr hq hcap hb hx
  go_enter Try.func4, Try.ntmps4
  go_upto_region 3 with (first
    | (go_at_call 5; refine (member_awake _).mono ?_; rintro e w1 ⟨rfl, hb1⟩; replace hP := hP.up hb1; replace hB := Below.then hB hb1; replace hS := hS.up hb1; clear hb1; replace x0 : _ = some (Value.int IntKind.u64 (m.s.bal : Int)) := hS.cell 0))
  go_upto_region 5 with (first
    | ((with_reducible refine slot_is 15 rfl ?_); refine load_par _ rfl rfl _ p _ rfl hP ?_)
    | (go_at_call 10; refine (plain_is p _).mono ?_; rintro e w1 ⟨rfl, hb1⟩; replace hP := hP.up hb1; replace hB := Below.then hB hb1; replace hS := hS.up hb1; clear hb1; replace x0 : _ = some (Value.int IntKind.u64 (m.s.bal : Int)) := hS.cell 0)
    | (go_at_call 9; refine (kr _).mono ?_; clear kr; rintro e w1 ⟨rfl, hb1⟩; replace hP := hP.up hb1; replace hB := Below.then hB hb1; replace hS := hS.up hb1; clear hb1; replace x0 : _ = some (Value.int IntKind.u64 (m.s.bal : Int)) := hS.cell 0)
    | ((with_reducible refine slot_is 20 rfl ?_); refine load_par _ rfl rfl _ p _ rfl hP ?_)
    | ((with_reducible refine slot_is 21 rfl ?_); refine load_rec 33 _ rfl rfl _ (Rec.vals m) rfl hS.lies Try.underlying33 size_mem ?_)
    | (go_at_call 11; refine (kf _).mono ?_; clear kf; rintro e w1 ⟨rfl, hb1⟩; replace hP := hP.up hb1; replace hB := Below.then hB hb1; replace hS := hS.up hb1; clear hb1; replace x0 : _ = some (Value.int IntKind.u64 (m.s.bal : Int)) := hS.cell 0))
  go_upto_region 6 with (first
    | ((with_reducible refine slot_is 26 rfl ?_); refine load_par _ rfl rfl _ p _ rfl hP ?_)
    | ((with_reducible refine slot_is 27 rfl ?_); refine load_rec 33 _ rfl rfl _ (Rec.vals m) rfl hS.lies Try.underlying33 size_mem ?_)
    | (go_at_call 12; refine (ks _).mono ?_; clear ks; rintro e w1 ⟨rfl, hb1⟩; replace hP := hP.up hb1; replace hB := Below.then hB hb1; replace hS := hS.up hb1; clear hb1; replace x0 : _ = some (Value.int IntKind.u64 (m.s.bal : Int)) := hS.cell 0)
    | (refine store_rec 33 _ _ rfl rfl _ (Rec.vals a) (Rec.vals Mem.zero) 33 rfl rfl (mem_zero_new _ _ rfl) size_mem rfl (Rec.one a) ?_; intro w4 hA hb4 hz4 hk4; have hb1 := rec_made (Below.refl _ _) hb4; clear hz4 hk4 hb4; replace hP := hP.up hb1; replace hB := Below.then hB hb1; replace hS := hS.up hb1; clear hb1; replace x0 : _ = some (Value.int IntKind.u64 (m.s.bal : Int)) := hS.cell 0; have a0 : _ = some (Value.int IntKind.u64 (a.s.bal : Int)) := hA.cell 0; rw [HA.out] at a0))
  go_upto_region 7 with (first
    | ((with_reducible refine slot_is 32 rfl ?_); refine load_rec 33 _ rfl rfl _ (Rec.vals m) rfl hS.lies Try.underlying33 size_mem ?_)
    | (go_at_call 13; refine (ke _).mono ?_; clear ke; rintro e w1 ⟨rfl, hb1⟩; replace hP := hP.up hb1; replace hB := Below.then hB hb1; replace hS := hS.up hb1; replace hA := hA.up hb1; clear hb1; replace x0 : _ = some (Value.int IntKind.u64 (m.s.bal : Int)) := hS.cell 0; replace a0 : _ = some (Value.int IntKind.u64 (a.s.bal : Int)) := hA.cell 0; rw [HA.out] at a0)
    | (refine store_rec 33 _ _ rfl rfl _ (Rec.vals b) (Rec.vals Mem.zero) 33 rfl rfl (mem_zero_new _ _ rfl) size_mem rfl (Rec.one b) ?_; intro w4 hE hb4 hz4 hk4; have hb1 := rec_made (Below.refl _ _) hb4; clear hz4 hk4 hb4; replace hP := hP.up hb1; replace hB := Below.then hB hb1; replace hS := hS.up hb1; replace hA := hA.up hb1; clear hb1; replace x0 : _ = some (Value.int IntKind.u64 (m.s.bal : Int)) := hS.cell 0; replace a0 : _ = some (Value.int IntKind.u64 (a.s.bal : Int)) := hA.cell 0; rw [HA.out] at a0))
  go_upto_region 8 with (first
    | ((with_reducible refine slot_is 37 rfl ?_); refine load_par _ rfl rfl _ p _ rfl hP ?_)
    | ((with_reducible refine slot_is 38 rfl ?_); refine load_rec 33 _ rfl rfl _ (Rec.vals m) rfl hS.lies Try.underlying33 size_mem ?_)
    | (go_at_call 14; refine (kc _).mono ?_; clear kc; rintro e w1 ⟨rfl, hb1⟩; replace hP := hP.up hb1; replace hB := Below.then hB hb1; replace hS := hS.up hb1; replace hA := hA.up hb1; replace hE := hE.up hb1; clear hb1; replace x0 : _ = some (Value.int IntKind.u64 (m.s.bal : Int)) := hS.cell 0; replace a0 : _ = some (Value.int IntKind.u64 (a.s.bal : Int)) := hA.cell 0; rw [HA.out] at a0)
    | (refine store_rec 33 _ _ rfl rfl _ (Rec.vals c) (Rec.vals Mem.zero) 33 rfl rfl (mem_zero_new _ _ rfl) size_mem rfl (Rec.one c) ?_; intro w4 hC hb4 hz4 hk4; have hb1 := rec_made (Below.refl _ _) hb4; clear hz4 hk4 hb4; replace hP := hP.up hb1; replace hB := Below.then hB hb1; replace hS := hS.up hb1; replace hA := hA.up hb1; replace hE := hE.up hb1; clear hb1; replace x0 : _ = some (Value.int IntKind.u64 (m.s.bal : Int)) := hS.cell 0; replace a0 : _ = some (Value.int IntKind.u64 (a.s.bal : Int)) := hA.cell 0; rw [HA.out] at a0; have c0 : _ = some (Value.int IntKind.u64 (c.s.bal : Int)) := hC.cell 0; have c5 : _ = some (Value.int IntKind.i64 c.status) := hC.cell 5; replace c3 := (hP.cell 3).trans v3))
  go_upto_region 10 with (first
    | ((with_reducible refine slot_is 45 rfl ?_); refine load_par _ rfl rfl _ p _ rfl hP ?_)
    | ((with_reducible refine slot_is 46 rfl ?_); refine load_rec 33 _ rfl rfl _ (Rec.vals a) rfl hA.lies Try.underlying33 size_mem ?_)
    | (go_at_call 11; refine (kfa _).mono ?_; clear kfa; rintro e w1 ⟨rfl, hb1⟩; replace hP := hP.up hb1; replace hB := Below.then hB hb1; replace hS := hS.up hb1; replace hA := hA.up hb1; replace hE := hE.up hb1; replace hC := hC.up hb1; clear hb1; replace x0 : _ = some (Value.int IntKind.u64 (m.s.bal : Int)) := hS.cell 0; replace a0 : _ = some (Value.int IntKind.u64 (a.s.bal : Int)) := hA.cell 0; rw [HA.out] at a0; replace c0 : _ = some (Value.int IntKind.u64 (c.s.bal : Int)) := hC.cell 0; replace c5 : _ = some (Value.int IntKind.i64 c.status) := hC.cell 5; replace c3 := (hP.cell 3).trans v3)
    | ((with_reducible refine slot_is 59 rfl ?_); refine load_rec 33 _ rfl rfl _ (Rec.vals a) rfl hA.lies Try.underlying33 size_mem ?_)
    | (go_at_call 15; refine (kca _).mono ?_; clear kca; rintro e w1 ⟨rfl, hb1⟩; replace hP := hP.up hb1; replace hB := Below.then hB hb1; replace hS := hS.up hb1; replace hA := hA.up hb1; replace hE := hE.up hb1; replace hC := hC.up hb1; clear hb1; replace x0 : _ = some (Value.int IntKind.u64 (m.s.bal : Int)) := hS.cell 0; replace a0 : _ = some (Value.int IntKind.u64 (a.s.bal : Int)) := hA.cell 0; rw [HA.out] at a0; replace c0 : _ = some (Value.int IntKind.u64 (c.s.bal : Int)) := hC.cell 0; replace c5 : _ = some (Value.int IntKind.i64 c.status) := hC.cell 5; replace c3 := (hP.cell 3).trans v3)
    | ((with_reducible refine slot_is 65 rfl ?_); refine load_par _ rfl rfl _ p _ rfl hP ?_)
    | ((with_reducible refine slot_is 66 rfl ?_); refine load_rec 33 _ rfl rfl _ (Rec.vals b) rfl hE.lies Try.underlying33 size_mem ?_)
    | (go_at_call 11; refine (kfb _).mono ?_; clear kfb; rintro e w1 ⟨rfl, hb1⟩; replace hP := hP.up hb1; replace hB := Below.then hB hb1; replace hS := hS.up hb1; replace hA := hA.up hb1; replace hE := hE.up hb1; replace hC := hC.up hb1; clear hb1; replace x0 : _ = some (Value.int IntKind.u64 (m.s.bal : Int)) := hS.cell 0; replace a0 : _ = some (Value.int IntKind.u64 (a.s.bal : Int)) := hA.cell 0; rw [HA.out] at a0; replace c0 : _ = some (Value.int IntKind.u64 (c.s.bal : Int)) := hC.cell 0; replace c5 : _ = some (Value.int IntKind.i64 c.status) := hC.cell 5; replace c3 := (hP.cell 3).trans v3))
  clear hA a0 HA hE
  go_upto_region 12 with fail
  go_wp2_with (first
    | ((with_reducible refine slot_is 101 rfl ?_); refine load_rec 33 _ rfl rfl _ (Rec.vals m) rfl hS.lies Try.underlying33 size_mem ?_)
    | (go_at_call 15; refine (kcm _).mono ?_; clear kcm; rintro e w1 ⟨rfl, hb1⟩; replace hP := hP.up hb1; replace hB := Below.then hB hb1; replace hS := hS.up hb1; replace hC := hC.up hb1; clear hb1; replace x0 : _ = some (Value.int IntKind.u64 (m.s.bal : Int)) := hS.cell 0; replace c0 : _ = some (Value.int IntKind.u64 (c.s.bal : Int)) := hC.cell 0; replace c5 : _ = some (Value.int IntKind.i64 c.status) := hC.cell 5; replace c3 := (hP.cell 3).trans v3))
  go_ret
  exact ⟨by first | rfl | simp, hB⟩


set_option maxRecDepth 100000 in
set_option maxHeartbeats 2000000 in
theorem walk_s_pend (p : Par) (m a b c : Mem) (x q r : Nat) (w : World)
    (kr : ∀ w, Calls Try.prog 9 #[.agg p.vals] w fun e w' => e = .returned (.bool true) ∧ Below w.heap.size w w')
    (kf : ∀ w, Calls Try.prog 11 #[.agg p.vals, .agg (Rec.vals m)] w fun e w' => e = .returned (.bool true) ∧ Below w.heap.size w w')
    (ks : ∀ w, Calls Try.prog 12 #[.agg p.vals, .agg (Rec.vals m)] w fun e w' => e = .returned (.tuple #[.agg (Rec.vals a), .bool true]) ∧ Below w.heap.size w w')
    (ke : ∀ w, Calls Try.prog 13 #[.agg (Rec.vals m), .int .i64 4] w fun e w' => e = .returned (.tuple #[.agg (Rec.vals b), .int .u64 (m.s.bal : Int)]) ∧ Below w.heap.size w w')
    (kc : ∀ w, Calls Try.prog 14 #[.agg p.vals, .agg (Rec.vals m), .int .u64 (x : Int)] w fun e w' => e = .returned (.tuple #[.agg (Rec.vals c), .int .u64 (q : Int)]) ∧ Below w.heap.size w w')
    (kfa : ∀ w, Calls Try.prog 11 #[.agg p.vals, .agg (Rec.vals a)] w fun e w' => e = .returned (.bool true) ∧ Below w.heap.size w w')
    (kca : ∀ w, Calls Try.prog 15 #[.agg (Rec.vals a)] w fun e w' => e = .returned (.bool true) ∧ Below w.heap.size w w')
    (kfb : ∀ w, Calls Try.prog 11 #[.agg p.vals, .agg (Rec.vals b)] w fun e w' => e = .returned (.bool true) ∧ Below w.heap.size w w')
    (kcm : ∀ w, Calls Try.prog 15 #[.agg (Rec.vals m)] w fun e w' => e = .returned (.bool false) ∧ Below w.heap.size w w')
    (kfc : ∀ w, Calls Try.prog 11 #[.agg p.vals, .agg (Rec.vals c)] w fun e w' => e = .returned (.bool true) ∧ Below w.heap.size w w')
    (h1 : c.status = 1)
    (HA : Hid (a.s.bal = m.s.bal))
    (hr : c.s.bal = m.s.bal + r) (hq : q + r = x) (hcap : c.s.bal ≤ p.cap) (hb : c.s.bal < 18446744073709551616) (hx : x < 18446744073709551616) :
    Calls Try.prog 4 #[.agg p.vals, .agg (Rec.vals m), .int .u64 (x : Int)] w fun e w' => e = .returned (.bool true) ∧ Below w.heap.size w w' := by
  have hP : ParAt (World.alloc (w.alloc (.cells p.vals 42)) (.cells (Rec.vals m) 33)) w.heap.size p 42 := (mem_two w p m).1
  have hS : RecAt (World.alloc (w.alloc (.cells p.vals 42)) (.cells (Rec.vals m) 33)) (w.heap.size + 1) (Rec.vals m) 33 := (mem_two w p m).2.1
  have hB : Below w.heap.size w (World.alloc (w.alloc (.cells p.vals 42)) (.cells (Rec.vals m) 33)) := (mem_two w p m).2.2
  have v3 := p.v3
  have e1 : IntKind.u64.wrap ((c.s.bal : Int) - (m.s.bal : Int)) = (r : Int) := by rw [show (c.s.bal : Int) - (m.s.bal : Int) = (r : Int) by omega]; exact IntWalk.u64_in _ (by omega)
  have e2 : IntKind.u64.wrap ((x : Int) - (q : Int)) = (r : Int) := by rw [show (x : Int) - (q : Int) = (r : Int) by omega]; exact IntWalk.u64_in _ (by omega)
  have d1 : decide ((x : Int) < (q : Int)) = false := decide_eq_false (by omega)
  have d2 : decide (x < q) = false := decide_eq_false (by omega)
  have d3 : decide ((p.cap : Int) < (c.s.bal : Int)) = false := decide_eq_false (by omega)
  have d4 : decide (p.cap < c.s.bal) = false := decide_eq_false (by omega)
  clear hr hq hcap hb hx
  go_enter Try.func4, Try.ntmps4
  go_upto_region 3 with (first
    | (go_at_call 5; refine (member_awake _).mono ?_; rintro e w1 ⟨rfl, hb1⟩; replace hP := hP.up hb1; replace hB := Below.then hB hb1; replace hS := hS.up hb1; clear hb1; replace x0 : _ = some (Value.int IntKind.u64 (m.s.bal : Int)) := hS.cell 0))
  go_upto_region 5 with (first
    | ((with_reducible refine slot_is 15 rfl ?_); refine load_par _ rfl rfl _ p _ rfl hP ?_)
    | (go_at_call 10; refine (plain_is p _).mono ?_; rintro e w1 ⟨rfl, hb1⟩; replace hP := hP.up hb1; replace hB := Below.then hB hb1; replace hS := hS.up hb1; clear hb1; replace x0 : _ = some (Value.int IntKind.u64 (m.s.bal : Int)) := hS.cell 0)
    | (go_at_call 9; refine (kr _).mono ?_; clear kr; rintro e w1 ⟨rfl, hb1⟩; replace hP := hP.up hb1; replace hB := Below.then hB hb1; replace hS := hS.up hb1; clear hb1; replace x0 : _ = some (Value.int IntKind.u64 (m.s.bal : Int)) := hS.cell 0)
    | ((with_reducible refine slot_is 20 rfl ?_); refine load_par _ rfl rfl _ p _ rfl hP ?_)
    | ((with_reducible refine slot_is 21 rfl ?_); refine load_rec 33 _ rfl rfl _ (Rec.vals m) rfl hS.lies Try.underlying33 size_mem ?_)
    | (go_at_call 11; refine (kf _).mono ?_; clear kf; rintro e w1 ⟨rfl, hb1⟩; replace hP := hP.up hb1; replace hB := Below.then hB hb1; replace hS := hS.up hb1; clear hb1; replace x0 : _ = some (Value.int IntKind.u64 (m.s.bal : Int)) := hS.cell 0))
  go_upto_region 6 with (first
    | ((with_reducible refine slot_is 26 rfl ?_); refine load_par _ rfl rfl _ p _ rfl hP ?_)
    | ((with_reducible refine slot_is 27 rfl ?_); refine load_rec 33 _ rfl rfl _ (Rec.vals m) rfl hS.lies Try.underlying33 size_mem ?_)
    | (go_at_call 12; refine (ks _).mono ?_; clear ks; rintro e w1 ⟨rfl, hb1⟩; replace hP := hP.up hb1; replace hB := Below.then hB hb1; replace hS := hS.up hb1; clear hb1; replace x0 : _ = some (Value.int IntKind.u64 (m.s.bal : Int)) := hS.cell 0)
    | (refine store_rec 33 _ _ rfl rfl _ (Rec.vals a) (Rec.vals Mem.zero) 33 rfl rfl (mem_zero_new _ _ rfl) size_mem rfl (Rec.one a) ?_; intro w4 hA hb4 hz4 hk4; have hb1 := rec_made (Below.refl _ _) hb4; clear hz4 hk4 hb4; replace hP := hP.up hb1; replace hB := Below.then hB hb1; replace hS := hS.up hb1; clear hb1; replace x0 : _ = some (Value.int IntKind.u64 (m.s.bal : Int)) := hS.cell 0; have a0 : _ = some (Value.int IntKind.u64 (a.s.bal : Int)) := hA.cell 0; rw [HA.out] at a0))
  go_upto_region 7 with (first
    | ((with_reducible refine slot_is 32 rfl ?_); refine load_rec 33 _ rfl rfl _ (Rec.vals m) rfl hS.lies Try.underlying33 size_mem ?_)
    | (go_at_call 13; refine (ke _).mono ?_; clear ke; rintro e w1 ⟨rfl, hb1⟩; replace hP := hP.up hb1; replace hB := Below.then hB hb1; replace hS := hS.up hb1; replace hA := hA.up hb1; clear hb1; replace x0 : _ = some (Value.int IntKind.u64 (m.s.bal : Int)) := hS.cell 0; replace a0 : _ = some (Value.int IntKind.u64 (a.s.bal : Int)) := hA.cell 0; rw [HA.out] at a0)
    | (refine store_rec 33 _ _ rfl rfl _ (Rec.vals b) (Rec.vals Mem.zero) 33 rfl rfl (mem_zero_new _ _ rfl) size_mem rfl (Rec.one b) ?_; intro w4 hE hb4 hz4 hk4; have hb1 := rec_made (Below.refl _ _) hb4; clear hz4 hk4 hb4; replace hP := hP.up hb1; replace hB := Below.then hB hb1; replace hS := hS.up hb1; replace hA := hA.up hb1; clear hb1; replace x0 : _ = some (Value.int IntKind.u64 (m.s.bal : Int)) := hS.cell 0; replace a0 : _ = some (Value.int IntKind.u64 (a.s.bal : Int)) := hA.cell 0; rw [HA.out] at a0))
  go_upto_region 8 with (first
    | ((with_reducible refine slot_is 37 rfl ?_); refine load_par _ rfl rfl _ p _ rfl hP ?_)
    | ((with_reducible refine slot_is 38 rfl ?_); refine load_rec 33 _ rfl rfl _ (Rec.vals m) rfl hS.lies Try.underlying33 size_mem ?_)
    | (go_at_call 14; refine (kc _).mono ?_; clear kc; rintro e w1 ⟨rfl, hb1⟩; replace hP := hP.up hb1; replace hB := Below.then hB hb1; replace hS := hS.up hb1; replace hA := hA.up hb1; replace hE := hE.up hb1; clear hb1; replace x0 : _ = some (Value.int IntKind.u64 (m.s.bal : Int)) := hS.cell 0; replace a0 : _ = some (Value.int IntKind.u64 (a.s.bal : Int)) := hA.cell 0; rw [HA.out] at a0)
    | (refine store_rec 33 _ _ rfl rfl _ (Rec.vals c) (Rec.vals Mem.zero) 33 rfl rfl (mem_zero_new _ _ rfl) size_mem rfl (Rec.one c) ?_; intro w4 hC hb4 hz4 hk4; have hb1 := rec_made (Below.refl _ _) hb4; clear hz4 hk4 hb4; replace hP := hP.up hb1; replace hB := Below.then hB hb1; replace hS := hS.up hb1; replace hA := hA.up hb1; replace hE := hE.up hb1; clear hb1; replace x0 : _ = some (Value.int IntKind.u64 (m.s.bal : Int)) := hS.cell 0; replace a0 : _ = some (Value.int IntKind.u64 (a.s.bal : Int)) := hA.cell 0; rw [HA.out] at a0; have c0 : _ = some (Value.int IntKind.u64 (c.s.bal : Int)) := hC.cell 0; have c5 : _ = some (Value.int IntKind.i64 c.status) := hC.cell 5; rw [h1] at c5; replace c3 := (hP.cell 3).trans v3))
  go_upto_region 10 with (first
    | ((with_reducible refine slot_is 45 rfl ?_); refine load_par _ rfl rfl _ p _ rfl hP ?_)
    | ((with_reducible refine slot_is 46 rfl ?_); refine load_rec 33 _ rfl rfl _ (Rec.vals a) rfl hA.lies Try.underlying33 size_mem ?_)
    | (go_at_call 11; refine (kfa _).mono ?_; clear kfa; rintro e w1 ⟨rfl, hb1⟩; replace hP := hP.up hb1; replace hB := Below.then hB hb1; replace hS := hS.up hb1; replace hA := hA.up hb1; replace hE := hE.up hb1; replace hC := hC.up hb1; clear hb1; replace x0 : _ = some (Value.int IntKind.u64 (m.s.bal : Int)) := hS.cell 0; replace a0 : _ = some (Value.int IntKind.u64 (a.s.bal : Int)) := hA.cell 0; rw [HA.out] at a0; replace c0 : _ = some (Value.int IntKind.u64 (c.s.bal : Int)) := hC.cell 0; replace c5 : _ = some (Value.int IntKind.i64 c.status) := hC.cell 5; rw [h1] at c5; replace c3 := (hP.cell 3).trans v3)
    | ((with_reducible refine slot_is 59 rfl ?_); refine load_rec 33 _ rfl rfl _ (Rec.vals a) rfl hA.lies Try.underlying33 size_mem ?_)
    | (go_at_call 15; refine (kca _).mono ?_; clear kca; rintro e w1 ⟨rfl, hb1⟩; replace hP := hP.up hb1; replace hB := Below.then hB hb1; replace hS := hS.up hb1; replace hA := hA.up hb1; replace hE := hE.up hb1; replace hC := hC.up hb1; clear hb1; replace x0 : _ = some (Value.int IntKind.u64 (m.s.bal : Int)) := hS.cell 0; replace a0 : _ = some (Value.int IntKind.u64 (a.s.bal : Int)) := hA.cell 0; rw [HA.out] at a0; replace c0 : _ = some (Value.int IntKind.u64 (c.s.bal : Int)) := hC.cell 0; replace c5 : _ = some (Value.int IntKind.i64 c.status) := hC.cell 5; rw [h1] at c5; replace c3 := (hP.cell 3).trans v3)
    | ((with_reducible refine slot_is 65 rfl ?_); refine load_par _ rfl rfl _ p _ rfl hP ?_)
    | ((with_reducible refine slot_is 66 rfl ?_); refine load_rec 33 _ rfl rfl _ (Rec.vals b) rfl hE.lies Try.underlying33 size_mem ?_)
    | (go_at_call 11; refine (kfb _).mono ?_; clear kfb; rintro e w1 ⟨rfl, hb1⟩; replace hP := hP.up hb1; replace hB := Below.then hB hb1; replace hS := hS.up hb1; replace hA := hA.up hb1; replace hE := hE.up hb1; replace hC := hC.up hb1; clear hb1; replace x0 : _ = some (Value.int IntKind.u64 (m.s.bal : Int)) := hS.cell 0; replace a0 : _ = some (Value.int IntKind.u64 (a.s.bal : Int)) := hA.cell 0; rw [HA.out] at a0; replace c0 : _ = some (Value.int IntKind.u64 (c.s.bal : Int)) := hC.cell 0; replace c5 : _ = some (Value.int IntKind.i64 c.status) := hC.cell 5; rw [h1] at c5; replace c3 := (hP.cell 3).trans v3))
  clear hA a0 HA hE
  go_upto_region 12 with fail
  go_wp2_with (first
    | ((with_reducible refine slot_is 101 rfl ?_); refine load_rec 33 _ rfl rfl _ (Rec.vals m) rfl hS.lies Try.underlying33 size_mem ?_)
    | (go_at_call 15; refine (kcm _).mono ?_; clear kcm; rintro e w1 ⟨rfl, hb1⟩; replace hP := hP.up hb1; replace hB := Below.then hB hb1; replace hS := hS.up hb1; replace hC := hC.up hb1; clear hb1; replace x0 : _ = some (Value.int IntKind.u64 (m.s.bal : Int)) := hS.cell 0; replace c0 : _ = some (Value.int IntKind.u64 (c.s.bal : Int)) := hC.cell 0; replace c5 : _ = some (Value.int IntKind.i64 c.status) := hC.cell 5; rw [h1] at c5; replace c3 := (hP.cell 3).trans v3)
    | ((with_reducible refine slot_is 109 rfl ?_); refine load_par _ rfl rfl _ p _ rfl hP ?_)
    | ((with_reducible refine slot_is 110 rfl ?_); refine load_rec 33 _ rfl rfl _ (Rec.vals c) rfl hC.lies Try.underlying33 size_mem ?_)
    | (go_at_call 11; refine (kfc _).mono ?_; clear kfc; rintro e w1 ⟨rfl, hb1⟩; replace hP := hP.up hb1; replace hB := Below.then hB hb1; replace hS := hS.up hb1; replace hC := hC.up hb1; clear hb1; replace x0 : _ = some (Value.int IntKind.u64 (m.s.bal : Int)) := hS.cell 0; replace c0 : _ = some (Value.int IntKind.u64 (c.s.bal : Int)) := hC.cell 0; replace c5 : _ = some (Value.int IntKind.i64 c.status) := hC.cell 5; rw [h1] at c5; replace c3 := (hP.cell 3).trans v3))
  go_ret
  exact ⟨by first | rfl | simp, hB⟩


set_option maxRecDepth 100000 in
set_option maxHeartbeats 2000000 in
theorem walk_n_counts (p : Par) (m a b c : Mem) (x q r : Nat) (w : World)
    (kr : ∀ w, Calls Try.prog 9 #[.agg p.vals] w fun e w' => e = .returned (.bool true) ∧ Below w.heap.size w w')
    (kf : ∀ w, Calls Try.prog 11 #[.agg p.vals, .agg (Rec.vals m)] w fun e w' => e = .returned (.bool true) ∧ Below w.heap.size w w')
    (ks : ∀ w, Calls Try.prog 12 #[.agg p.vals, .agg (Rec.vals m)] w fun e w' => e = .returned (.tuple #[.agg (Rec.vals a), .bool false]) ∧ Below w.heap.size w w')
    (ke : ∀ w, Calls Try.prog 13 #[.agg (Rec.vals m), .int .i64 4] w fun e w' => e = .returned (.tuple #[.agg (Rec.vals b), .int .u64 (m.s.bal : Int)]) ∧ Below w.heap.size w w')
    (kc : ∀ w, Calls Try.prog 14 #[.agg p.vals, .agg (Rec.vals m), .int .u64 (x : Int)] w fun e w' => e = .returned (.tuple #[.agg (Rec.vals c), .int .u64 (q : Int)]) ∧ Below w.heap.size w w')
    (kfb : ∀ w, Calls Try.prog 11 #[.agg p.vals, .agg (Rec.vals b)] w fun e w' => e = .returned (.bool true) ∧ Below w.heap.size w w')
    (kcm : ∀ w, Calls Try.prog 15 #[.agg (Rec.vals m)] w fun e w' => e = .returned (.bool true) ∧ Below w.heap.size w w')
    (HA : Hid (a.s.bal = m.s.bal))
    (hr : c.s.bal = m.s.bal + r) (hq : q + r = x) (hcap : c.s.bal ≤ p.cap) (hb : c.s.bal < 18446744073709551616) (hx : x < 18446744073709551616) :
    Calls Try.prog 4 #[.agg p.vals, .agg (Rec.vals m), .int .u64 (x : Int)] w fun e w' => e = .returned (.bool true) ∧ Below w.heap.size w w' := by
  have hP : ParAt (World.alloc (w.alloc (.cells p.vals 42)) (.cells (Rec.vals m) 33)) w.heap.size p 42 := (mem_two w p m).1
  have hS : RecAt (World.alloc (w.alloc (.cells p.vals 42)) (.cells (Rec.vals m) 33)) (w.heap.size + 1) (Rec.vals m) 33 := (mem_two w p m).2.1
  have hB : Below w.heap.size w (World.alloc (w.alloc (.cells p.vals 42)) (.cells (Rec.vals m) 33)) := (mem_two w p m).2.2
  have v3 := p.v3
  have e1 : IntKind.u64.wrap ((c.s.bal : Int) - (m.s.bal : Int)) = (r : Int) := by rw [show (c.s.bal : Int) - (m.s.bal : Int) = (r : Int) by omega]; exact IntWalk.u64_in _ (by omega)
  have e2 : IntKind.u64.wrap ((x : Int) - (q : Int)) = (r : Int) := by rw [show (x : Int) - (q : Int) = (r : Int) by omega]; exact IntWalk.u64_in _ (by omega)
  have d1 : decide ((x : Int) < (q : Int)) = false := decide_eq_false (by omega)
  have d2 : decide (x < q) = false := decide_eq_false (by omega)
  have d3 : decide ((p.cap : Int) < (c.s.bal : Int)) = false := decide_eq_false (by omega)
  have d4 : decide (p.cap < c.s.bal) = false := decide_eq_false (by omega)
  clear hr hq hcap hb hx
  go_enter Try.func4, Try.ntmps4
  go_upto_region 3 with (first
    | (go_at_call 5; refine (member_awake _).mono ?_; rintro e w1 ⟨rfl, hb1⟩; replace hP := hP.up hb1; replace hB := Below.then hB hb1; replace hS := hS.up hb1; clear hb1; replace x0 : _ = some (Value.int IntKind.u64 (m.s.bal : Int)) := hS.cell 0))
  go_upto_region 5 with (first
    | ((with_reducible refine slot_is 15 rfl ?_); refine load_par _ rfl rfl _ p _ rfl hP ?_)
    | (go_at_call 10; refine (plain_is p _).mono ?_; rintro e w1 ⟨rfl, hb1⟩; replace hP := hP.up hb1; replace hB := Below.then hB hb1; replace hS := hS.up hb1; clear hb1; replace x0 : _ = some (Value.int IntKind.u64 (m.s.bal : Int)) := hS.cell 0)
    | (go_at_call 9; refine (kr _).mono ?_; clear kr; rintro e w1 ⟨rfl, hb1⟩; replace hP := hP.up hb1; replace hB := Below.then hB hb1; replace hS := hS.up hb1; clear hb1; replace x0 : _ = some (Value.int IntKind.u64 (m.s.bal : Int)) := hS.cell 0)
    | ((with_reducible refine slot_is 20 rfl ?_); refine load_par _ rfl rfl _ p _ rfl hP ?_)
    | ((with_reducible refine slot_is 21 rfl ?_); refine load_rec 33 _ rfl rfl _ (Rec.vals m) rfl hS.lies Try.underlying33 size_mem ?_)
    | (go_at_call 11; refine (kf _).mono ?_; clear kf; rintro e w1 ⟨rfl, hb1⟩; replace hP := hP.up hb1; replace hB := Below.then hB hb1; replace hS := hS.up hb1; clear hb1; replace x0 : _ = some (Value.int IntKind.u64 (m.s.bal : Int)) := hS.cell 0))
  go_upto_region 6 with (first
    | ((with_reducible refine slot_is 26 rfl ?_); refine load_par _ rfl rfl _ p _ rfl hP ?_)
    | ((with_reducible refine slot_is 27 rfl ?_); refine load_rec 33 _ rfl rfl _ (Rec.vals m) rfl hS.lies Try.underlying33 size_mem ?_)
    | (go_at_call 12; refine (ks _).mono ?_; clear ks; rintro e w1 ⟨rfl, hb1⟩; replace hP := hP.up hb1; replace hB := Below.then hB hb1; replace hS := hS.up hb1; clear hb1; replace x0 : _ = some (Value.int IntKind.u64 (m.s.bal : Int)) := hS.cell 0)
    | (refine store_rec 33 _ _ rfl rfl _ (Rec.vals a) (Rec.vals Mem.zero) 33 rfl rfl (mem_zero_new _ _ rfl) size_mem rfl (Rec.one a) ?_; intro w4 hA hb4 hz4 hk4; have hb1 := rec_made (Below.refl _ _) hb4; clear hz4 hk4 hb4; replace hP := hP.up hb1; replace hB := Below.then hB hb1; replace hS := hS.up hb1; clear hb1; replace x0 : _ = some (Value.int IntKind.u64 (m.s.bal : Int)) := hS.cell 0; have a0 : _ = some (Value.int IntKind.u64 (a.s.bal : Int)) := hA.cell 0; rw [HA.out] at a0))
  go_upto_region 7 with (first
    | ((with_reducible refine slot_is 32 rfl ?_); refine load_rec 33 _ rfl rfl _ (Rec.vals m) rfl hS.lies Try.underlying33 size_mem ?_)
    | (go_at_call 13; refine (ke _).mono ?_; clear ke; rintro e w1 ⟨rfl, hb1⟩; replace hP := hP.up hb1; replace hB := Below.then hB hb1; replace hS := hS.up hb1; replace hA := hA.up hb1; clear hb1; replace x0 : _ = some (Value.int IntKind.u64 (m.s.bal : Int)) := hS.cell 0; replace a0 : _ = some (Value.int IntKind.u64 (a.s.bal : Int)) := hA.cell 0; rw [HA.out] at a0)
    | (refine store_rec 33 _ _ rfl rfl _ (Rec.vals b) (Rec.vals Mem.zero) 33 rfl rfl (mem_zero_new _ _ rfl) size_mem rfl (Rec.one b) ?_; intro w4 hE hb4 hz4 hk4; have hb1 := rec_made (Below.refl _ _) hb4; clear hz4 hk4 hb4; replace hP := hP.up hb1; replace hB := Below.then hB hb1; replace hS := hS.up hb1; replace hA := hA.up hb1; clear hb1; replace x0 : _ = some (Value.int IntKind.u64 (m.s.bal : Int)) := hS.cell 0; replace a0 : _ = some (Value.int IntKind.u64 (a.s.bal : Int)) := hA.cell 0; rw [HA.out] at a0))
  go_upto_region 8 with (first
    | ((with_reducible refine slot_is 37 rfl ?_); refine load_par _ rfl rfl _ p _ rfl hP ?_)
    | ((with_reducible refine slot_is 38 rfl ?_); refine load_rec 33 _ rfl rfl _ (Rec.vals m) rfl hS.lies Try.underlying33 size_mem ?_)
    | (go_at_call 14; refine (kc _).mono ?_; clear kc; rintro e w1 ⟨rfl, hb1⟩; replace hP := hP.up hb1; replace hB := Below.then hB hb1; replace hS := hS.up hb1; replace hA := hA.up hb1; replace hE := hE.up hb1; clear hb1; replace x0 : _ = some (Value.int IntKind.u64 (m.s.bal : Int)) := hS.cell 0; replace a0 : _ = some (Value.int IntKind.u64 (a.s.bal : Int)) := hA.cell 0; rw [HA.out] at a0)
    | (refine store_rec 33 _ _ rfl rfl _ (Rec.vals c) (Rec.vals Mem.zero) 33 rfl rfl (mem_zero_new _ _ rfl) size_mem rfl (Rec.one c) ?_; intro w4 hC hb4 hz4 hk4; have hb1 := rec_made (Below.refl _ _) hb4; clear hz4 hk4 hb4; replace hP := hP.up hb1; replace hB := Below.then hB hb1; replace hS := hS.up hb1; replace hA := hA.up hb1; replace hE := hE.up hb1; clear hb1; replace x0 : _ = some (Value.int IntKind.u64 (m.s.bal : Int)) := hS.cell 0; replace a0 : _ = some (Value.int IntKind.u64 (a.s.bal : Int)) := hA.cell 0; rw [HA.out] at a0; have c0 : _ = some (Value.int IntKind.u64 (c.s.bal : Int)) := hC.cell 0; have c5 : _ = some (Value.int IntKind.i64 c.status) := hC.cell 5; replace c3 := (hP.cell 3).trans v3))
  go_upto_region 10 with (first
    | ((with_reducible refine slot_is 65 rfl ?_); refine load_par _ rfl rfl _ p _ rfl hP ?_)
    | ((with_reducible refine slot_is 66 rfl ?_); refine load_rec 33 _ rfl rfl _ (Rec.vals b) rfl hE.lies Try.underlying33 size_mem ?_)
    | (go_at_call 11; refine (kfb _).mono ?_; clear kfb; rintro e w1 ⟨rfl, hb1⟩; replace hP := hP.up hb1; replace hB := Below.then hB hb1; replace hS := hS.up hb1; replace hA := hA.up hb1; replace hE := hE.up hb1; replace hC := hC.up hb1; clear hb1; replace x0 : _ = some (Value.int IntKind.u64 (m.s.bal : Int)) := hS.cell 0; replace a0 : _ = some (Value.int IntKind.u64 (a.s.bal : Int)) := hA.cell 0; rw [HA.out] at a0; replace c0 : _ = some (Value.int IntKind.u64 (c.s.bal : Int)) := hC.cell 0; replace c5 : _ = some (Value.int IntKind.i64 c.status) := hC.cell 5; replace c3 := (hP.cell 3).trans v3))
  clear hA a0 HA hE
  go_upto_region 12 with fail
  go_wp2_with (first
    | ((with_reducible refine slot_is 101 rfl ?_); refine load_rec 33 _ rfl rfl _ (Rec.vals m) rfl hS.lies Try.underlying33 size_mem ?_)
    | (go_at_call 15; refine (kcm _).mono ?_; clear kcm; rintro e w1 ⟨rfl, hb1⟩; replace hP := hP.up hb1; replace hB := Below.then hB hb1; replace hS := hS.up hb1; replace hC := hC.up hb1; clear hb1; replace x0 : _ = some (Value.int IntKind.u64 (m.s.bal : Int)) := hS.cell 0; replace c0 : _ = some (Value.int IntKind.u64 (c.s.bal : Int)) := hC.cell 0; replace c5 : _ = some (Value.int IntKind.i64 c.status) := hC.cell 5; replace c3 := (hP.cell 3).trans v3))
  go_ret
  exact ⟨by first | rfl | simp, hB⟩


set_option maxRecDepth 100000 in
set_option maxHeartbeats 2000000 in
theorem walk_n_other (p : Par) (m a b c : Mem) (x q r : Nat) (w : World)
    (kr : ∀ w, Calls Try.prog 9 #[.agg p.vals] w fun e w' => e = .returned (.bool true) ∧ Below w.heap.size w w')
    (kf : ∀ w, Calls Try.prog 11 #[.agg p.vals, .agg (Rec.vals m)] w fun e w' => e = .returned (.bool true) ∧ Below w.heap.size w w')
    (ks : ∀ w, Calls Try.prog 12 #[.agg p.vals, .agg (Rec.vals m)] w fun e w' => e = .returned (.tuple #[.agg (Rec.vals a), .bool false]) ∧ Below w.heap.size w w')
    (ke : ∀ w, Calls Try.prog 13 #[.agg (Rec.vals m), .int .i64 4] w fun e w' => e = .returned (.tuple #[.agg (Rec.vals b), .int .u64 (m.s.bal : Int)]) ∧ Below w.heap.size w w')
    (kc : ∀ w, Calls Try.prog 14 #[.agg p.vals, .agg (Rec.vals m), .int .u64 (x : Int)] w fun e w' => e = .returned (.tuple #[.agg (Rec.vals c), .int .u64 (q : Int)]) ∧ Below w.heap.size w w')
    (kfb : ∀ w, Calls Try.prog 11 #[.agg p.vals, .agg (Rec.vals b)] w fun e w' => e = .returned (.bool true) ∧ Below w.heap.size w w')
    (kcm : ∀ w, Calls Try.prog 15 #[.agg (Rec.vals m)] w fun e w' => e = .returned (.bool false) ∧ Below w.heap.size w w')
    (h1 : ¬ c.status = 1)
    (HA : Hid (a.s.bal = m.s.bal))
    (hr : c.s.bal = m.s.bal + r) (hq : q + r = x) (hcap : c.s.bal ≤ p.cap) (hb : c.s.bal < 18446744073709551616) (hx : x < 18446744073709551616) :
    Calls Try.prog 4 #[.agg p.vals, .agg (Rec.vals m), .int .u64 (x : Int)] w fun e w' => e = .returned (.bool true) ∧ Below w.heap.size w w' := by
  have hP : ParAt (World.alloc (w.alloc (.cells p.vals 42)) (.cells (Rec.vals m) 33)) w.heap.size p 42 := (mem_two w p m).1
  have hS : RecAt (World.alloc (w.alloc (.cells p.vals 42)) (.cells (Rec.vals m) 33)) (w.heap.size + 1) (Rec.vals m) 33 := (mem_two w p m).2.1
  have hB : Below w.heap.size w (World.alloc (w.alloc (.cells p.vals 42)) (.cells (Rec.vals m) 33)) := (mem_two w p m).2.2
  have v3 := p.v3
  have e1 : IntKind.u64.wrap ((c.s.bal : Int) - (m.s.bal : Int)) = (r : Int) := by rw [show (c.s.bal : Int) - (m.s.bal : Int) = (r : Int) by omega]; exact IntWalk.u64_in _ (by omega)
  have e2 : IntKind.u64.wrap ((x : Int) - (q : Int)) = (r : Int) := by rw [show (x : Int) - (q : Int) = (r : Int) by omega]; exact IntWalk.u64_in _ (by omega)
  have d1 : decide ((x : Int) < (q : Int)) = false := decide_eq_false (by omega)
  have d2 : decide (x < q) = false := decide_eq_false (by omega)
  have d3 : decide ((p.cap : Int) < (c.s.bal : Int)) = false := decide_eq_false (by omega)
  have d4 : decide (p.cap < c.s.bal) = false := decide_eq_false (by omega)
  have z1 : (c.status == 1) = false := by simp [h1]
  have z2 : (c.status != 1) = true := by simp [h1]
  have z3 : decide (c.status = 1) = false := by simp [h1]
  clear h1
  clear hr hq hcap hb hx
  go_enter Try.func4, Try.ntmps4
  go_upto_region 3 with (first
    | (go_at_call 5; refine (member_awake _).mono ?_; rintro e w1 ⟨rfl, hb1⟩; replace hP := hP.up hb1; replace hB := Below.then hB hb1; replace hS := hS.up hb1; clear hb1; replace x0 : _ = some (Value.int IntKind.u64 (m.s.bal : Int)) := hS.cell 0))
  go_upto_region 5 with (first
    | ((with_reducible refine slot_is 15 rfl ?_); refine load_par _ rfl rfl _ p _ rfl hP ?_)
    | (go_at_call 10; refine (plain_is p _).mono ?_; rintro e w1 ⟨rfl, hb1⟩; replace hP := hP.up hb1; replace hB := Below.then hB hb1; replace hS := hS.up hb1; clear hb1; replace x0 : _ = some (Value.int IntKind.u64 (m.s.bal : Int)) := hS.cell 0)
    | (go_at_call 9; refine (kr _).mono ?_; clear kr; rintro e w1 ⟨rfl, hb1⟩; replace hP := hP.up hb1; replace hB := Below.then hB hb1; replace hS := hS.up hb1; clear hb1; replace x0 : _ = some (Value.int IntKind.u64 (m.s.bal : Int)) := hS.cell 0)
    | ((with_reducible refine slot_is 20 rfl ?_); refine load_par _ rfl rfl _ p _ rfl hP ?_)
    | ((with_reducible refine slot_is 21 rfl ?_); refine load_rec 33 _ rfl rfl _ (Rec.vals m) rfl hS.lies Try.underlying33 size_mem ?_)
    | (go_at_call 11; refine (kf _).mono ?_; clear kf; rintro e w1 ⟨rfl, hb1⟩; replace hP := hP.up hb1; replace hB := Below.then hB hb1; replace hS := hS.up hb1; clear hb1; replace x0 : _ = some (Value.int IntKind.u64 (m.s.bal : Int)) := hS.cell 0))
  go_upto_region 6 with (first
    | ((with_reducible refine slot_is 26 rfl ?_); refine load_par _ rfl rfl _ p _ rfl hP ?_)
    | ((with_reducible refine slot_is 27 rfl ?_); refine load_rec 33 _ rfl rfl _ (Rec.vals m) rfl hS.lies Try.underlying33 size_mem ?_)
    | (go_at_call 12; refine (ks _).mono ?_; clear ks; rintro e w1 ⟨rfl, hb1⟩; replace hP := hP.up hb1; replace hB := Below.then hB hb1; replace hS := hS.up hb1; clear hb1; replace x0 : _ = some (Value.int IntKind.u64 (m.s.bal : Int)) := hS.cell 0)
    | (refine store_rec 33 _ _ rfl rfl _ (Rec.vals a) (Rec.vals Mem.zero) 33 rfl rfl (mem_zero_new _ _ rfl) size_mem rfl (Rec.one a) ?_; intro w4 hA hb4 hz4 hk4; have hb1 := rec_made (Below.refl _ _) hb4; clear hz4 hk4 hb4; replace hP := hP.up hb1; replace hB := Below.then hB hb1; replace hS := hS.up hb1; clear hb1; replace x0 : _ = some (Value.int IntKind.u64 (m.s.bal : Int)) := hS.cell 0; have a0 : _ = some (Value.int IntKind.u64 (a.s.bal : Int)) := hA.cell 0; rw [HA.out] at a0))
  go_upto_region 7 with (first
    | ((with_reducible refine slot_is 32 rfl ?_); refine load_rec 33 _ rfl rfl _ (Rec.vals m) rfl hS.lies Try.underlying33 size_mem ?_)
    | (go_at_call 13; refine (ke _).mono ?_; clear ke; rintro e w1 ⟨rfl, hb1⟩; replace hP := hP.up hb1; replace hB := Below.then hB hb1; replace hS := hS.up hb1; replace hA := hA.up hb1; clear hb1; replace x0 : _ = some (Value.int IntKind.u64 (m.s.bal : Int)) := hS.cell 0; replace a0 : _ = some (Value.int IntKind.u64 (a.s.bal : Int)) := hA.cell 0; rw [HA.out] at a0)
    | (refine store_rec 33 _ _ rfl rfl _ (Rec.vals b) (Rec.vals Mem.zero) 33 rfl rfl (mem_zero_new _ _ rfl) size_mem rfl (Rec.one b) ?_; intro w4 hE hb4 hz4 hk4; have hb1 := rec_made (Below.refl _ _) hb4; clear hz4 hk4 hb4; replace hP := hP.up hb1; replace hB := Below.then hB hb1; replace hS := hS.up hb1; replace hA := hA.up hb1; clear hb1; replace x0 : _ = some (Value.int IntKind.u64 (m.s.bal : Int)) := hS.cell 0; replace a0 : _ = some (Value.int IntKind.u64 (a.s.bal : Int)) := hA.cell 0; rw [HA.out] at a0))
  go_upto_region 8 with (first
    | ((with_reducible refine slot_is 37 rfl ?_); refine load_par _ rfl rfl _ p _ rfl hP ?_)
    | ((with_reducible refine slot_is 38 rfl ?_); refine load_rec 33 _ rfl rfl _ (Rec.vals m) rfl hS.lies Try.underlying33 size_mem ?_)
    | (go_at_call 14; refine (kc _).mono ?_; clear kc; rintro e w1 ⟨rfl, hb1⟩; replace hP := hP.up hb1; replace hB := Below.then hB hb1; replace hS := hS.up hb1; replace hA := hA.up hb1; replace hE := hE.up hb1; clear hb1; replace x0 : _ = some (Value.int IntKind.u64 (m.s.bal : Int)) := hS.cell 0; replace a0 : _ = some (Value.int IntKind.u64 (a.s.bal : Int)) := hA.cell 0; rw [HA.out] at a0)
    | (refine store_rec 33 _ _ rfl rfl _ (Rec.vals c) (Rec.vals Mem.zero) 33 rfl rfl (mem_zero_new _ _ rfl) size_mem rfl (Rec.one c) ?_; intro w4 hC hb4 hz4 hk4; have hb1 := rec_made (Below.refl _ _) hb4; clear hz4 hk4 hb4; replace hP := hP.up hb1; replace hB := Below.then hB hb1; replace hS := hS.up hb1; replace hA := hA.up hb1; replace hE := hE.up hb1; clear hb1; replace x0 : _ = some (Value.int IntKind.u64 (m.s.bal : Int)) := hS.cell 0; replace a0 : _ = some (Value.int IntKind.u64 (a.s.bal : Int)) := hA.cell 0; rw [HA.out] at a0; have c0 : _ = some (Value.int IntKind.u64 (c.s.bal : Int)) := hC.cell 0; have c5 : _ = some (Value.int IntKind.i64 c.status) := hC.cell 5; replace c3 := (hP.cell 3).trans v3))
  go_upto_region 10 with (first
    | ((with_reducible refine slot_is 65 rfl ?_); refine load_par _ rfl rfl _ p _ rfl hP ?_)
    | ((with_reducible refine slot_is 66 rfl ?_); refine load_rec 33 _ rfl rfl _ (Rec.vals b) rfl hE.lies Try.underlying33 size_mem ?_)
    | (go_at_call 11; refine (kfb _).mono ?_; clear kfb; rintro e w1 ⟨rfl, hb1⟩; replace hP := hP.up hb1; replace hB := Below.then hB hb1; replace hS := hS.up hb1; replace hA := hA.up hb1; replace hE := hE.up hb1; replace hC := hC.up hb1; clear hb1; replace x0 : _ = some (Value.int IntKind.u64 (m.s.bal : Int)) := hS.cell 0; replace a0 : _ = some (Value.int IntKind.u64 (a.s.bal : Int)) := hA.cell 0; rw [HA.out] at a0; replace c0 : _ = some (Value.int IntKind.u64 (c.s.bal : Int)) := hC.cell 0; replace c5 : _ = some (Value.int IntKind.i64 c.status) := hC.cell 5; replace c3 := (hP.cell 3).trans v3))
  clear hA a0 HA hE
  go_upto_region 12 with fail
  go_wp2_with (first
    | ((with_reducible refine slot_is 101 rfl ?_); refine load_rec 33 _ rfl rfl _ (Rec.vals m) rfl hS.lies Try.underlying33 size_mem ?_)
    | (go_at_call 15; refine (kcm _).mono ?_; clear kcm; rintro e w1 ⟨rfl, hb1⟩; replace hP := hP.up hb1; replace hB := Below.then hB hb1; replace hS := hS.up hb1; replace hC := hC.up hb1; clear hb1; replace x0 : _ = some (Value.int IntKind.u64 (m.s.bal : Int)) := hS.cell 0; replace c0 : _ = some (Value.int IntKind.u64 (c.s.bal : Int)) := hC.cell 0; replace c5 : _ = some (Value.int IntKind.i64 c.status) := hC.cell 5; replace c3 := (hP.cell 3).trans v3))
  go_ret
  exact ⟨by first | rfl | simp, hB⟩


set_option maxRecDepth 100000 in
set_option maxHeartbeats 2000000 in
theorem walk_n_pend (p : Par) (m a b c : Mem) (x q r : Nat) (w : World)
    (kr : ∀ w, Calls Try.prog 9 #[.agg p.vals] w fun e w' => e = .returned (.bool true) ∧ Below w.heap.size w w')
    (kf : ∀ w, Calls Try.prog 11 #[.agg p.vals, .agg (Rec.vals m)] w fun e w' => e = .returned (.bool true) ∧ Below w.heap.size w w')
    (ks : ∀ w, Calls Try.prog 12 #[.agg p.vals, .agg (Rec.vals m)] w fun e w' => e = .returned (.tuple #[.agg (Rec.vals a), .bool false]) ∧ Below w.heap.size w w')
    (ke : ∀ w, Calls Try.prog 13 #[.agg (Rec.vals m), .int .i64 4] w fun e w' => e = .returned (.tuple #[.agg (Rec.vals b), .int .u64 (m.s.bal : Int)]) ∧ Below w.heap.size w w')
    (kc : ∀ w, Calls Try.prog 14 #[.agg p.vals, .agg (Rec.vals m), .int .u64 (x : Int)] w fun e w' => e = .returned (.tuple #[.agg (Rec.vals c), .int .u64 (q : Int)]) ∧ Below w.heap.size w w')
    (kfb : ∀ w, Calls Try.prog 11 #[.agg p.vals, .agg (Rec.vals b)] w fun e w' => e = .returned (.bool true) ∧ Below w.heap.size w w')
    (kcm : ∀ w, Calls Try.prog 15 #[.agg (Rec.vals m)] w fun e w' => e = .returned (.bool false) ∧ Below w.heap.size w w')
    (kfc : ∀ w, Calls Try.prog 11 #[.agg p.vals, .agg (Rec.vals c)] w fun e w' => e = .returned (.bool true) ∧ Below w.heap.size w w')
    (h1 : c.status = 1)
    (HA : Hid (a.s.bal = m.s.bal))
    (hr : c.s.bal = m.s.bal + r) (hq : q + r = x) (hcap : c.s.bal ≤ p.cap) (hb : c.s.bal < 18446744073709551616) (hx : x < 18446744073709551616) :
    Calls Try.prog 4 #[.agg p.vals, .agg (Rec.vals m), .int .u64 (x : Int)] w fun e w' => e = .returned (.bool true) ∧ Below w.heap.size w w' := by
  have hP : ParAt (World.alloc (w.alloc (.cells p.vals 42)) (.cells (Rec.vals m) 33)) w.heap.size p 42 := (mem_two w p m).1
  have hS : RecAt (World.alloc (w.alloc (.cells p.vals 42)) (.cells (Rec.vals m) 33)) (w.heap.size + 1) (Rec.vals m) 33 := (mem_two w p m).2.1
  have hB : Below w.heap.size w (World.alloc (w.alloc (.cells p.vals 42)) (.cells (Rec.vals m) 33)) := (mem_two w p m).2.2
  have v3 := p.v3
  have e1 : IntKind.u64.wrap ((c.s.bal : Int) - (m.s.bal : Int)) = (r : Int) := by rw [show (c.s.bal : Int) - (m.s.bal : Int) = (r : Int) by omega]; exact IntWalk.u64_in _ (by omega)
  have e2 : IntKind.u64.wrap ((x : Int) - (q : Int)) = (r : Int) := by rw [show (x : Int) - (q : Int) = (r : Int) by omega]; exact IntWalk.u64_in _ (by omega)
  have d1 : decide ((x : Int) < (q : Int)) = false := decide_eq_false (by omega)
  have d2 : decide (x < q) = false := decide_eq_false (by omega)
  have d3 : decide ((p.cap : Int) < (c.s.bal : Int)) = false := decide_eq_false (by omega)
  have d4 : decide (p.cap < c.s.bal) = false := decide_eq_false (by omega)
  clear hr hq hcap hb hx
  go_enter Try.func4, Try.ntmps4
  go_upto_region 3 with (first
    | (go_at_call 5; refine (member_awake _).mono ?_; rintro e w1 ⟨rfl, hb1⟩; replace hP := hP.up hb1; replace hB := Below.then hB hb1; replace hS := hS.up hb1; clear hb1; replace x0 : _ = some (Value.int IntKind.u64 (m.s.bal : Int)) := hS.cell 0))
  go_upto_region 5 with (first
    | ((with_reducible refine slot_is 15 rfl ?_); refine load_par _ rfl rfl _ p _ rfl hP ?_)
    | (go_at_call 10; refine (plain_is p _).mono ?_; rintro e w1 ⟨rfl, hb1⟩; replace hP := hP.up hb1; replace hB := Below.then hB hb1; replace hS := hS.up hb1; clear hb1; replace x0 : _ = some (Value.int IntKind.u64 (m.s.bal : Int)) := hS.cell 0)
    | (go_at_call 9; refine (kr _).mono ?_; clear kr; rintro e w1 ⟨rfl, hb1⟩; replace hP := hP.up hb1; replace hB := Below.then hB hb1; replace hS := hS.up hb1; clear hb1; replace x0 : _ = some (Value.int IntKind.u64 (m.s.bal : Int)) := hS.cell 0)
    | ((with_reducible refine slot_is 20 rfl ?_); refine load_par _ rfl rfl _ p _ rfl hP ?_)
    | ((with_reducible refine slot_is 21 rfl ?_); refine load_rec 33 _ rfl rfl _ (Rec.vals m) rfl hS.lies Try.underlying33 size_mem ?_)
    | (go_at_call 11; refine (kf _).mono ?_; clear kf; rintro e w1 ⟨rfl, hb1⟩; replace hP := hP.up hb1; replace hB := Below.then hB hb1; replace hS := hS.up hb1; clear hb1; replace x0 : _ = some (Value.int IntKind.u64 (m.s.bal : Int)) := hS.cell 0))
  go_upto_region 6 with (first
    | ((with_reducible refine slot_is 26 rfl ?_); refine load_par _ rfl rfl _ p _ rfl hP ?_)
    | ((with_reducible refine slot_is 27 rfl ?_); refine load_rec 33 _ rfl rfl _ (Rec.vals m) rfl hS.lies Try.underlying33 size_mem ?_)
    | (go_at_call 12; refine (ks _).mono ?_; clear ks; rintro e w1 ⟨rfl, hb1⟩; replace hP := hP.up hb1; replace hB := Below.then hB hb1; replace hS := hS.up hb1; clear hb1; replace x0 : _ = some (Value.int IntKind.u64 (m.s.bal : Int)) := hS.cell 0)
    | (refine store_rec 33 _ _ rfl rfl _ (Rec.vals a) (Rec.vals Mem.zero) 33 rfl rfl (mem_zero_new _ _ rfl) size_mem rfl (Rec.one a) ?_; intro w4 hA hb4 hz4 hk4; have hb1 := rec_made (Below.refl _ _) hb4; clear hz4 hk4 hb4; replace hP := hP.up hb1; replace hB := Below.then hB hb1; replace hS := hS.up hb1; clear hb1; replace x0 : _ = some (Value.int IntKind.u64 (m.s.bal : Int)) := hS.cell 0; have a0 : _ = some (Value.int IntKind.u64 (a.s.bal : Int)) := hA.cell 0; rw [HA.out] at a0))
  go_upto_region 7 with (first
    | ((with_reducible refine slot_is 32 rfl ?_); refine load_rec 33 _ rfl rfl _ (Rec.vals m) rfl hS.lies Try.underlying33 size_mem ?_)
    | (go_at_call 13; refine (ke _).mono ?_; clear ke; rintro e w1 ⟨rfl, hb1⟩; replace hP := hP.up hb1; replace hB := Below.then hB hb1; replace hS := hS.up hb1; replace hA := hA.up hb1; clear hb1; replace x0 : _ = some (Value.int IntKind.u64 (m.s.bal : Int)) := hS.cell 0; replace a0 : _ = some (Value.int IntKind.u64 (a.s.bal : Int)) := hA.cell 0; rw [HA.out] at a0)
    | (refine store_rec 33 _ _ rfl rfl _ (Rec.vals b) (Rec.vals Mem.zero) 33 rfl rfl (mem_zero_new _ _ rfl) size_mem rfl (Rec.one b) ?_; intro w4 hE hb4 hz4 hk4; have hb1 := rec_made (Below.refl _ _) hb4; clear hz4 hk4 hb4; replace hP := hP.up hb1; replace hB := Below.then hB hb1; replace hS := hS.up hb1; replace hA := hA.up hb1; clear hb1; replace x0 : _ = some (Value.int IntKind.u64 (m.s.bal : Int)) := hS.cell 0; replace a0 : _ = some (Value.int IntKind.u64 (a.s.bal : Int)) := hA.cell 0; rw [HA.out] at a0))
  go_upto_region 8 with (first
    | ((with_reducible refine slot_is 37 rfl ?_); refine load_par _ rfl rfl _ p _ rfl hP ?_)
    | ((with_reducible refine slot_is 38 rfl ?_); refine load_rec 33 _ rfl rfl _ (Rec.vals m) rfl hS.lies Try.underlying33 size_mem ?_)
    | (go_at_call 14; refine (kc _).mono ?_; clear kc; rintro e w1 ⟨rfl, hb1⟩; replace hP := hP.up hb1; replace hB := Below.then hB hb1; replace hS := hS.up hb1; replace hA := hA.up hb1; replace hE := hE.up hb1; clear hb1; replace x0 : _ = some (Value.int IntKind.u64 (m.s.bal : Int)) := hS.cell 0; replace a0 : _ = some (Value.int IntKind.u64 (a.s.bal : Int)) := hA.cell 0; rw [HA.out] at a0)
    | (refine store_rec 33 _ _ rfl rfl _ (Rec.vals c) (Rec.vals Mem.zero) 33 rfl rfl (mem_zero_new _ _ rfl) size_mem rfl (Rec.one c) ?_; intro w4 hC hb4 hz4 hk4; have hb1 := rec_made (Below.refl _ _) hb4; clear hz4 hk4 hb4; replace hP := hP.up hb1; replace hB := Below.then hB hb1; replace hS := hS.up hb1; replace hA := hA.up hb1; replace hE := hE.up hb1; clear hb1; replace x0 : _ = some (Value.int IntKind.u64 (m.s.bal : Int)) := hS.cell 0; replace a0 : _ = some (Value.int IntKind.u64 (a.s.bal : Int)) := hA.cell 0; rw [HA.out] at a0; have c0 : _ = some (Value.int IntKind.u64 (c.s.bal : Int)) := hC.cell 0; have c5 : _ = some (Value.int IntKind.i64 c.status) := hC.cell 5; rw [h1] at c5; replace c3 := (hP.cell 3).trans v3))
  go_upto_region 10 with (first
    | ((with_reducible refine slot_is 65 rfl ?_); refine load_par _ rfl rfl _ p _ rfl hP ?_)
    | ((with_reducible refine slot_is 66 rfl ?_); refine load_rec 33 _ rfl rfl _ (Rec.vals b) rfl hE.lies Try.underlying33 size_mem ?_)
    | (go_at_call 11; refine (kfb _).mono ?_; clear kfb; rintro e w1 ⟨rfl, hb1⟩; replace hP := hP.up hb1; replace hB := Below.then hB hb1; replace hS := hS.up hb1; replace hA := hA.up hb1; replace hE := hE.up hb1; replace hC := hC.up hb1; clear hb1; replace x0 : _ = some (Value.int IntKind.u64 (m.s.bal : Int)) := hS.cell 0; replace a0 : _ = some (Value.int IntKind.u64 (a.s.bal : Int)) := hA.cell 0; rw [HA.out] at a0; replace c0 : _ = some (Value.int IntKind.u64 (c.s.bal : Int)) := hC.cell 0; replace c5 : _ = some (Value.int IntKind.i64 c.status) := hC.cell 5; rw [h1] at c5; replace c3 := (hP.cell 3).trans v3))
  clear hA a0 HA hE
  go_upto_region 12 with fail
  go_wp2_with (first
    | ((with_reducible refine slot_is 101 rfl ?_); refine load_rec 33 _ rfl rfl _ (Rec.vals m) rfl hS.lies Try.underlying33 size_mem ?_)
    | (go_at_call 15; refine (kcm _).mono ?_; clear kcm; rintro e w1 ⟨rfl, hb1⟩; replace hP := hP.up hb1; replace hB := Below.then hB hb1; replace hS := hS.up hb1; replace hC := hC.up hb1; clear hb1; replace x0 : _ = some (Value.int IntKind.u64 (m.s.bal : Int)) := hS.cell 0; replace c0 : _ = some (Value.int IntKind.u64 (c.s.bal : Int)) := hC.cell 0; replace c5 : _ = some (Value.int IntKind.i64 c.status) := hC.cell 5; rw [h1] at c5; replace c3 := (hP.cell 3).trans v3)
    | ((with_reducible refine slot_is 109 rfl ?_); refine load_par _ rfl rfl _ p _ rfl hP ?_)
    | ((with_reducible refine slot_is 110 rfl ?_); refine load_rec 33 _ rfl rfl _ (Rec.vals c) rfl hC.lies Try.underlying33 size_mem ?_)
    | (go_at_call 11; refine (kfc _).mono ?_; clear kfc; rintro e w1 ⟨rfl, hb1⟩; replace hP := hP.up hb1; replace hB := Below.then hB hb1; replace hS := hS.up hb1; replace hC := hC.up hb1; clear hb1; replace x0 : _ = some (Value.int IntKind.u64 (m.s.bal : Int)) := hS.cell 0; replace c0 : _ = some (Value.int IntKind.u64 (c.s.bal : Int)) := hC.cell 0; replace c5 : _ = some (Value.int IntKind.i64 c.status) := hC.cell 5; rw [h1] at c5; replace c3 := (hP.cell 3).trans v3))
  go_ret
  exact ⟨by first | rfl | simp, hB⟩


theorem walk (p : Par) (m : Mem) (x : Nat) (w : World) (hf : p.Fits) (hm : m.s.Fits) (hx : x < 18446744073709551616) : Calls Try.prog 4 #[.agg p.vals, .agg (Rec.vals m), .int .u64 (x : Int)] w fun e w' => e = .returned (.bool true) ∧ Below w.heap.size w w' := by
  by_cases hR : ∃ N, Par.Right p N
  · obtain ⟨N, hN⟩ := hR
    have kc : CheckIs p 0 := fun w => check_ok p N w hN
    have hs := hN.spans
    have kr := fun w => refright_ok p N w hN
    have cap1 := hs.cap1
    cases h : m.fits p with
    | false =>
      have kf := fun w => fits_is p m w kc hs hm
      rw [h] at kf
      exact walk_unfit p m x w kr kf
    | true =>
      have kf := fun w => fits_is p m w kc hs hm
      rw [h] at kf
      have hcapm := Mem.holds_cap (Mem.fits_iff.1 h).2.2
      have ks := fun w => start_is p m w kc hs hm
      have ke := fun w => end_is m 4 w
      have kr2 := fun w => credit_is p m x w kc (by omega) hm.bal hx
      have hcb := Mem.credited_bal p m x
      have hroom : m.room p x = min x (p.cap - m.s.bal) := rfl
      have hfb : Std.Fits (m.ended 4).s := ⟨by show (0 : Nat) < _; omega, by show (0 : Nat) < _; omega, hm.score, by show (-9223372036854775808 : Int) ≤ 0; omega, by show (0 : Int) ≤ _; omega⟩
      have kfb := fun w => fits_is p (m.ended 4) w kc hs hfb
      rw [Mem.ended_fits hs h (.inl rfl)] at kfb
      have kcm := fun w => counts_is m w
      have hq : (x - (p.cap - m.s.bal)) + m.room p x = x := by omega
      have hcc : (m.credited p x).s.bal ≤ p.cap := by omega
      cases hc : m.counts with
      | true =>
        rw [hc] at kcm
        have hst : m.starts p = false := by
          cases h2 : m.starts p with
          | false => rfl
          | true =>
            have := (Mem.starts_iff.1 h2).1
            rcases Mem.counts_iff.1 hc with h3 | h3 <;> omega
        rw [hst] at ks
        exact walk_n_counts p m m (m.ended 4) (m.credited p x) x _ _ w kr kf ks ke kr2 kfb kcm (Lib.hid rfl) hcb hq hcc (by omega) hx
      | false =>
        rw [hc] at kcm
        have hfc : Std.Fits (m.credited p x).s := by
          have e : (m.credited p x).s.bal < 18446744073709551616 := by omega
          exact Mem.credited_words hm e
        have kfc := fun w => fits_is p (m.credited p x) w kc hs hfc
        by_cases h1 : (m.credited p x).status = 1
        · rw [Mem.credited_fits h hc h1] at kfc
          cases hst : m.starts p with
          | false =>
            rw [hst] at ks
            exact walk_n_pend p m m (m.ended 4) (m.credited p x) x _ _ w kr kf ks ke kr2 kfb kcm kfc h1 (Lib.hid rfl) hcb hq hcc (by omega) hx
          | true =>
            rw [hst] at ks
            obtain ⟨g1, g2⟩ := Mem.begun_fits hs h hst
            have hfa : Std.Fits (m.begun p).s := ⟨hm.bal, by show p.whole m.s.bal < _; have := Par.whole_le p m.s.bal; have := hm.bal; omega, hm.score, by show (-9223372036854775808 : Int) ≤ 0; omega, by show (0 : Int) ≤ _; omega⟩
            have kfa := fun w => fits_is p (m.begun p) w kc hs hfa
            have kca := fun w => counts_is (m.begun p) w
            rw [g1] at kfa
            rw [g2] at kca
            exact walk_s_pend p m (m.begun p) (m.ended 4) (m.credited p x) x _ _ w kr kf ks ke kr2 kfa kca kfb kcm kfc h1 (Lib.hid rfl) hcb hq hcc (by omega) hx
        · cases hst : m.starts p with
          | false =>
            rw [hst] at ks
            exact walk_n_other p m m (m.ended 4) (m.credited p x) x _ _ w kr kf ks ke kr2 kfb kcm h1 (Lib.hid rfl) hcb hq hcc (by omega) hx
          | true =>
            rw [hst] at ks
            obtain ⟨g1, g2⟩ := Mem.begun_fits hs h hst
            have hfa : Std.Fits (m.begun p).s := ⟨hm.bal, by show p.whole m.s.bal < _; have := Par.whole_le p m.s.bal; have := hm.bal; omega, hm.score, by show (-9223372036854775808 : Int) ≤ 0; omega, by show (0 : Int) ≤ _; omega⟩
            have kfa := fun w => fits_is p (m.begun p) w kc hs hfa
            have kca := fun w => counts_is (m.begun p) w
            rw [g1] at kfa
            rw [g2] at kca
            exact walk_s_other p m (m.begun p) (m.ended 4) (m.credited p x) x _ _ w kr kf ks ke kr2 kfa kca kfb kcm h1 (Lib.hid rfl) hcb hq hcc (by omega) hx
  · exact walk_wrong p m x w (fun w => refright_no p w hR)


theorem own : ownKnob Try.prog.godebug = none := by kernel_rfl
theorem laidOut : laidOutB Try.prog = true := by kernel_rfl

set_option maxRecDepth 100000 in
theorem lifted (os : Os) (started : os.Started) (H : Type) (enc : TypeId × Value → H) :
    ReturnsInHanded {} Try.checked os 4 .any (Rows.memberFitsSpec.pre6 enc Try.prog Try.f4 Rows.memberFitsRow.domain false) (Rows.memberFitsSpec.post enc Try.prog Try.f4 false true false false) := by
  refine returnsInHanded_of_change (C := Try.checked) own started (by kernel_rfl) Try.func4
    (ChangeSpec.witness6 (enc := enc) (C := Try.checked) false ⟨#[], #[.agg #[.int .u64 0, .int .u64 0, .int .u64 0, .int .u64 0, .int .u64 0, .int .u64 0, .int .u64 0, .int .u64 0, .int .u64 0, .int .u64 0, .int .u64 0, .int .u64 0, .int .u64 0, .int .u64 0, .int .i64 0, .int .i64 0, .int .i64 0, .int .i64 0, .int .i64 0, .int .i64 0, .int .i64 0, .int .i64 0, .int .i64 0, .int .i64 0], .agg #[.int .u64 0, .int .u64 0, .int .u64 0, .int .i64 0, .int .i64 0, .int .i64 0], .int .u64 0], []⟩ 8 (by kernel_rfl) (by kernel_rfl) (by kernel_rfl) (by kernel_rfl)) ?_
  intro W base args ds gs before hval0 hW hcnd _
  have hval : ∀ (j : Nat) t v, Try.f4.params[j]? = some t → args[j]? = some v → Value.okWide Try.prog W .any base t v := hval0
  have hW' := hW
  obtain ⟨p, q, hA0, hV, rfl, hfz, hnd⟩ := hW
  have hlt : ∀ x ∈ p ++ q, x.block < W.heap.size := fun x hx => hW'.lt x hx
  have hA : DataW.TrodAll enc Try.prog W 0 (fun _ => true) true Try.f4.params.toList args.toList ds p := hA0
  rw [Try.params4] at hA hval
  obtain ⟨v0, vs0, d0, ds0, p0, q0, hargs, rfl, rfl, h0, r0⟩ := trodAll_cons hA
  obtain ⟨v1, vs1, d1, ds1, p1, q1, rfl, rfl, rfl, h1, r1⟩ := trodAll_cons r0
  obtain ⟨v2, vs2, d2, ds2, p2, q2, rfl, rfl, rfl, h2, r2⟩ := trodAll_cons r1
  obtain ⟨rfl, rfl, rfl⟩ := trodAll_nil r2
  obtain rfl : args = #[v0, v1, v2] := by cases args; simp_all
  obtain ⟨rfl, rfl⟩ := trodVars_none hV
  obtain ⟨a0, rfl, f0⟩ := open_par (hval 0 42 v0 rfl rfl) h0
  obtain ⟨a1, rfl, f1⟩ := open_mem (hval 1 33 v1 rfl rfl) h1
  obtain ⟨a2, rfl, rfl, rfl, w2⟩ := open_int Try.underlying25 (hval 2 25 v2 rfl rfl) h2
  have b2 := u64_fits w2
  obtain ⟨n2, rfl⟩ := Int.eq_ofNat_of_zero_le b2.1
  clear hA0 hval0
  refine (walk a0 a1 n2 W f0 f1 (by have := b2.2; omega)).mono fun e W' ⟨he, hg⟩ => ?_
  subst he
  exact ⟨_, rfl, law_post laidOut (by kernel_rfl) rfl rfl Try.underlying4 rfl hW' hg⟩

theorem over : Rows.memberFitsRow.holds Try.pinned (OpenSpec.ofChange Rows.memberFitsSpec) :=
  OpenClaim.holds_of_wide 4 Try.f4 rfl rfl rfl rfl rfl rfl rfl ⟨rfl, rfl, rfl, rfl, rfl⟩ rfl rfl rfl rfl rfl (by kernel_rfl) Try.func4 (by kernel_rfl)
    (of_decide_eq_true (by kernel_rfl)) (by unfold Func.isWrapper; first | (rw [if_pos (by decide +kernel)]; kernel_rfl) | (rw [if_neg (by decide +kernel)]; exact ⟨rfl, rfl⟩))
    (fun os started H enc _ => lifted os started H enc)

/-- The statement. -/
theorem proved : Rows.MemberFitsSaid := over
#print axioms proved

end Go.Proofs.Ytfmmcklggnflkaa.MemberFits
