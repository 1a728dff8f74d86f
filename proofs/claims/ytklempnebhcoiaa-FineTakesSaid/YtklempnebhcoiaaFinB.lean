/- Layer 15 (fine), the document's: what is lost, and what of it is burned. By contracts. -/
import Derived.Test.YtklempnebhcoiaaFinM
import Derived.Test.YtklempnebhcoiaaStdW
import Derived.Test.YtklempnebhcoiaaParU
namespace Go.Proofs.Ytklempnebhcoiaa
open Go.RowKit
set_option linter.unusedVariables false
set_option linter.unusedSimpArgs false

theorem refup_told (a b c n : Nat) (w : World) (ha : a < 18446744073709551616) (hb : b < 18446744073709551616) (hc : c < 18446744073709551616) (h0 : 0 < c) (h : Ceil (a * b) c n) :
    Calls Try.prog 24 #[.int .u64 a, .int .u64 b, .int .u64 c] w fun e w' => e = .returned (.tuple #[.int .u64 (tx n : Nat), .int .i64 (te n : Nat)]) ∧ Below w.heap.size w w' := by
  rcases h.parts h0 with e | ⟨q, r, rfl, e, hr, hr0⟩
  · exact ref_up_whole a b c n w ha hb hc (Lib.hid e) h0
  · exact ref_up_next a b c q r w ha hb hc (Lib.hid e) hr hr0
theorem refdown_part (a b n : Nat) (w : World) (ha : a < 18446744073709551616) (hb : b ≤ 10000) (hn : prt a 10000 b = n) :
    Calls Try.prog 23 #[.int .u64 a, .int .u64 b, .int .u64 10000] w fun e w' => e = .returned (.tuple #[.int .u64 (n : Int), .int .i64 0]) ∧ Below w.heap.size w w' := by
  have hle : n ≤ a := hn ▸ prt_le hb
  have k := ref_down a b 10000 n (a * b % 10000) w ha (by omega) (by omega) (Lib.hid (by rw [← hn, prt]; exact (Nat.div_add_mod' _ _).symm)) (Nat.mod_lt _ (by omega))
  rw [(tell_fits (show n < 18446744073709551616 by omega)).1, (tell_fits (show n < 18446744073709551616 by omega)).2] at k
  exact k
/-- What they answer, in any world. -/
def RfineIs (p : Par) (s : Std) (m : Int) (n : Nat) : Prop := ∀ w, Calls Try.prog 12 #[.agg p.vals, .agg s.vals, .int .i64 m] w fun e w' => e = .returned (.int .u64 (n : Int)) ∧ Below w.heap.size w w'
def RburnIs (p : Par) (n x : Nat) : Prop := ∀ w, Calls Try.prog 13 #[.agg p.vals, .int .u64 (n : Int)] w fun e w' => e = .returned (.int .u64 (x : Int)) ∧ Below w.heap.size w w'
/-- What Up and Down answer, as numbers and an error. -/
def UpIs (a b c x e : Nat) : Prop := ∀ w, Calls Try.prog 24 #[.int .u64 a, .int .u64 b, .int .u64 c] w fun ev w' => ev = .returned (.tuple #[.int .u64 (x : Int), .int .i64 (e : Int)]) ∧ Below w.heap.size w w'
def DownIs (a b x : Nat) : Prop := ∀ w, Calls Try.prog 23 #[.int .u64 a, .int .u64 b, .int .u64 10000] w fun ev w' => ev = .returned (.tuple #[.int .u64 (x : Int), .int .i64 0]) ∧ Below w.heap.size w w'


set_option maxRecDepth 100000 in
set_option maxHeartbeats 1000000 in
theorem rof_3_in (p : Par) (s : Std) (a x y : Nat) (ha : p.absent = (a : Int)) (ha1 : a ≤ 10000) (kd : DownIs s.eff a y) (ku : UpIs s.eff s.score p.quot x 0) (h : x ≤ s.bal) : RfineIs p s 3 x := by
  intro w
  unfold DownIs at kd
  unfold UpIs at ku
  rw [show ((0 : Nat) : Int) = 0 from rfl] at ku
  have d1 : decide ((s.bal : Int) < (x : Int)) = false := decide_eq_false (by omega)
  have d2 : decide (s.bal < x) = false := decide_eq_false (by omega)
  clear h
  have v7 := p.v7
  have v9 := p.v9
  have v17 := p.v17
  rw [ha] at v17
  have ea : IntKind.u64.wrap (a : Int) = (a : Int) := IntWalk.u64_in _ (by omega)
  clear ha ha1
  have hP := (ParAt.new w p 31).up ((Below.refl _ _).alloc (Nat.le_refl _) (.cells s.vals 35))
  have hS : StdAt ((w.alloc (.cells p.vals 31)).alloc (.cells s.vals 35)) (w.heap.size + 1) s 35 := StdAt.new _ s _ (by simp)
  have hB : Below w.heap.size w ((w.alloc (.cells p.vals 31)).alloc (.cells s.vals 35)) := ((Below.refl _ _).alloc (Nat.le_refl _) _).alloc (by simp) _
  have s0 := hS.c0
  have s1 := hS.c1
  have s2 := hS.c2
  have p7 := (hP.cell 7).trans v7
  have p9 := (hP.cell 9).trans v9
  have p17 := (hP.cell 17).trans v17
  go_enter Try.func12, Try.ntmps12
  go_wp2_with (first
    | (go_at_call 23; refine (kd _).mono ?_; clear kd; rintro e w1 ⟨rfl, hb1⟩; have hP := hP.up hb1; have hS := hS.up hb1; have hB := Below.then hB hb1; clear hb1; have s0 := hS.c0; have s1 := hS.c1; have s2 := hS.c2; have p7 := (hP.cell 7).trans v7; have p9 := (hP.cell 9).trans v9; have p17 := (hP.cell 17).trans v17)
    | (go_at_call 24; refine (ku _).mono ?_; clear ku; rintro e w1 ⟨rfl, hb1⟩; have hP := hP.up hb1; have hS := hS.up hb1; have hB := Below.then hB hb1; clear hb1; have s0 := hS.c0; have s1 := hS.c1; have s2 := hS.c2; have p7 := (hP.cell 7).trans v7; have p9 := (hP.cell 9).trans v9; have p17 := (hP.cell 17).trans v17)
    )
  go_ret
  exact ⟨by first | rfl | simp, hB⟩


set_option maxRecDepth 100000 in
set_option maxHeartbeats 1000000 in
theorem rof_3_over (p : Par) (s : Std) (a x y : Nat) (ha : p.absent = (a : Int)) (ha1 : a ≤ 10000) (kd : DownIs s.eff a y) (ku : UpIs s.eff s.score p.quot x 0) (h : s.bal < x) : RfineIs p s 3 s.bal := by
  intro w
  unfold DownIs at kd
  unfold UpIs at ku
  rw [show ((0 : Nat) : Int) = 0 from rfl] at ku
  have d1 : decide ((s.bal : Int) < (x : Int)) = true := decide_eq_true (by omega)
  have d2 : decide (s.bal < x) = true := decide_eq_true h
  clear h
  have v7 := p.v7
  have v9 := p.v9
  have v17 := p.v17
  rw [ha] at v17
  have ea : IntKind.u64.wrap (a : Int) = (a : Int) := IntWalk.u64_in _ (by omega)
  clear ha ha1
  have hP := (ParAt.new w p 31).up ((Below.refl _ _).alloc (Nat.le_refl _) (.cells s.vals 35))
  have hS : StdAt ((w.alloc (.cells p.vals 31)).alloc (.cells s.vals 35)) (w.heap.size + 1) s 35 := StdAt.new _ s _ (by simp)
  have hB : Below w.heap.size w ((w.alloc (.cells p.vals 31)).alloc (.cells s.vals 35)) := ((Below.refl _ _).alloc (Nat.le_refl _) _).alloc (by simp) _
  have s0 := hS.c0
  have s1 := hS.c1
  have s2 := hS.c2
  have p7 := (hP.cell 7).trans v7
  have p9 := (hP.cell 9).trans v9
  have p17 := (hP.cell 17).trans v17
  go_enter Try.func12, Try.ntmps12
  go_wp2_with (first
    | (go_at_call 23; refine (kd _).mono ?_; clear kd; rintro e w1 ⟨rfl, hb1⟩; have hP := hP.up hb1; have hS := hS.up hb1; have hB := Below.then hB hb1; clear hb1; have s0 := hS.c0; have s1 := hS.c1; have s2 := hS.c2; have p7 := (hP.cell 7).trans v7; have p9 := (hP.cell 9).trans v9; have p17 := (hP.cell 17).trans v17)
    | (go_at_call 24; refine (ku _).mono ?_; clear ku; rintro e w1 ⟨rfl, hb1⟩; have hP := hP.up hb1; have hS := hS.up hb1; have hB := Below.then hB hb1; clear hb1; have s0 := hS.c0; have s1 := hS.c1; have s2 := hS.c2; have p7 := (hP.cell 7).trans v7; have p9 := (hP.cell 9).trans v9; have p17 := (hP.cell 17).trans v17)
    )
  go_ret
  exact ⟨by first | rfl | simp, hB⟩


set_option maxRecDepth 100000 in
set_option maxHeartbeats 1000000 in
theorem rof_3_err (p : Par) (s : Std) (a x y : Nat) (ha : p.absent = (a : Int)) (ha1 : a ≤ 10000) (kd : DownIs s.eff a y) (ku : UpIs s.eff s.score p.quot x 10)  : RfineIs p s 3 s.bal := by
  intro w
  unfold DownIs at kd
  unfold UpIs at ku
  rw [show ((10 : Nat) : Int) = 10 from rfl] at ku
  have v7 := p.v7
  have v9 := p.v9
  have v17 := p.v17
  rw [ha] at v17
  have ea : IntKind.u64.wrap (a : Int) = (a : Int) := IntWalk.u64_in _ (by omega)
  clear ha ha1
  have hP := (ParAt.new w p 31).up ((Below.refl _ _).alloc (Nat.le_refl _) (.cells s.vals 35))
  have hS : StdAt ((w.alloc (.cells p.vals 31)).alloc (.cells s.vals 35)) (w.heap.size + 1) s 35 := StdAt.new _ s _ (by simp)
  have hB : Below w.heap.size w ((w.alloc (.cells p.vals 31)).alloc (.cells s.vals 35)) := ((Below.refl _ _).alloc (Nat.le_refl _) _).alloc (by simp) _
  have s0 := hS.c0
  have s1 := hS.c1
  have s2 := hS.c2
  have p7 := (hP.cell 7).trans v7
  have p9 := (hP.cell 9).trans v9
  have p17 := (hP.cell 17).trans v17
  go_enter Try.func12, Try.ntmps12
  go_wp2_with (first
    | (go_at_call 23; refine (kd _).mono ?_; clear kd; rintro e w1 ⟨rfl, hb1⟩; have hP := hP.up hb1; have hS := hS.up hb1; have hB := Below.then hB hb1; clear hb1; have s0 := hS.c0; have s1 := hS.c1; have s2 := hS.c2; have p7 := (hP.cell 7).trans v7; have p9 := (hP.cell 9).trans v9; have p17 := (hP.cell 17).trans v17)
    | (go_at_call 24; refine (ku _).mono ?_; clear ku; rintro e w1 ⟨rfl, hb1⟩; have hP := hP.up hb1; have hS := hS.up hb1; have hB := Below.then hB hb1; clear hb1; have s0 := hS.c0; have s1 := hS.c1; have s2 := hS.c2; have p7 := (hP.cell 7).trans v7; have p9 := (hP.cell 9).trans v9; have p17 := (hP.cell 17).trans v17)
    )
  go_ret
  exact ⟨by first | rfl | simp, hB⟩


set_option maxRecDepth 100000 in
set_option maxHeartbeats 1000000 in
theorem rof_4_in (p : Par) (s : Std) (a x y : Nat) (ha : p.absent = (a : Int)) (ha1 : a ≤ 10000) (kd : DownIs s.eff a y) (ku : UpIs s.eff s.score p.quotEm x 0) (h : x ≤ s.bal) : RfineIs p s 4 x := by
  intro w
  unfold DownIs at kd
  unfold UpIs at ku
  rw [show ((0 : Nat) : Int) = 0 from rfl] at ku
  have d1 : decide ((s.bal : Int) < (x : Int)) = false := decide_eq_false (by omega)
  have d2 : decide (s.bal < x) = false := decide_eq_false (by omega)
  clear h
  have v7 := p.v7
  have v9 := p.v9
  have v17 := p.v17
  rw [ha] at v17
  have ea : IntKind.u64.wrap (a : Int) = (a : Int) := IntWalk.u64_in _ (by omega)
  clear ha ha1
  have hP := (ParAt.new w p 31).up ((Below.refl _ _).alloc (Nat.le_refl _) (.cells s.vals 35))
  have hS : StdAt ((w.alloc (.cells p.vals 31)).alloc (.cells s.vals 35)) (w.heap.size + 1) s 35 := StdAt.new _ s _ (by simp)
  have hB : Below w.heap.size w ((w.alloc (.cells p.vals 31)).alloc (.cells s.vals 35)) := ((Below.refl _ _).alloc (Nat.le_refl _) _).alloc (by simp) _
  have s0 := hS.c0
  have s1 := hS.c1
  have s2 := hS.c2
  have p7 := (hP.cell 7).trans v7
  have p9 := (hP.cell 9).trans v9
  have p17 := (hP.cell 17).trans v17
  go_enter Try.func12, Try.ntmps12
  go_wp2_with (first
    | (go_at_call 23; refine (kd _).mono ?_; clear kd; rintro e w1 ⟨rfl, hb1⟩; have hP := hP.up hb1; have hS := hS.up hb1; have hB := Below.then hB hb1; clear hb1; have s0 := hS.c0; have s1 := hS.c1; have s2 := hS.c2; have p7 := (hP.cell 7).trans v7; have p9 := (hP.cell 9).trans v9; have p17 := (hP.cell 17).trans v17)
    | (go_at_call 24; refine (ku _).mono ?_; clear ku; rintro e w1 ⟨rfl, hb1⟩; have hP := hP.up hb1; have hS := hS.up hb1; have hB := Below.then hB hb1; clear hb1; have s0 := hS.c0; have s1 := hS.c1; have s2 := hS.c2; have p7 := (hP.cell 7).trans v7; have p9 := (hP.cell 9).trans v9; have p17 := (hP.cell 17).trans v17)
    )
  go_ret
  exact ⟨by first | rfl | simp, hB⟩


set_option maxRecDepth 100000 in
set_option maxHeartbeats 1000000 in
theorem rof_4_over (p : Par) (s : Std) (a x y : Nat) (ha : p.absent = (a : Int)) (ha1 : a ≤ 10000) (kd : DownIs s.eff a y) (ku : UpIs s.eff s.score p.quotEm x 0) (h : s.bal < x) : RfineIs p s 4 s.bal := by
  intro w
  unfold DownIs at kd
  unfold UpIs at ku
  rw [show ((0 : Nat) : Int) = 0 from rfl] at ku
  have d1 : decide ((s.bal : Int) < (x : Int)) = true := decide_eq_true (by omega)
  have d2 : decide (s.bal < x) = true := decide_eq_true h
  clear h
  have v7 := p.v7
  have v9 := p.v9
  have v17 := p.v17
  rw [ha] at v17
  have ea : IntKind.u64.wrap (a : Int) = (a : Int) := IntWalk.u64_in _ (by omega)
  clear ha ha1
  have hP := (ParAt.new w p 31).up ((Below.refl _ _).alloc (Nat.le_refl _) (.cells s.vals 35))
  have hS : StdAt ((w.alloc (.cells p.vals 31)).alloc (.cells s.vals 35)) (w.heap.size + 1) s 35 := StdAt.new _ s _ (by simp)
  have hB : Below w.heap.size w ((w.alloc (.cells p.vals 31)).alloc (.cells s.vals 35)) := ((Below.refl _ _).alloc (Nat.le_refl _) _).alloc (by simp) _
  have s0 := hS.c0
  have s1 := hS.c1
  have s2 := hS.c2
  have p7 := (hP.cell 7).trans v7
  have p9 := (hP.cell 9).trans v9
  have p17 := (hP.cell 17).trans v17
  go_enter Try.func12, Try.ntmps12
  go_wp2_with (first
    | (go_at_call 23; refine (kd _).mono ?_; clear kd; rintro e w1 ⟨rfl, hb1⟩; have hP := hP.up hb1; have hS := hS.up hb1; have hB := Below.then hB hb1; clear hb1; have s0 := hS.c0; have s1 := hS.c1; have s2 := hS.c2; have p7 := (hP.cell 7).trans v7; have p9 := (hP.cell 9).trans v9; have p17 := (hP.cell 17).trans v17)
    | (go_at_call 24; refine (ku _).mono ?_; clear ku; rintro e w1 ⟨rfl, hb1⟩; have hP := hP.up hb1; have hS := hS.up hb1; have hB := Below.then hB hb1; clear hb1; have s0 := hS.c0; have s1 := hS.c1; have s2 := hS.c2; have p7 := (hP.cell 7).trans v7; have p9 := (hP.cell 9).trans v9; have p17 := (hP.cell 17).trans v17)
    )
  go_ret
  exact ⟨by first | rfl | simp, hB⟩


set_option maxRecDepth 100000 in
set_option maxHeartbeats 1000000 in
theorem rof_4_err (p : Par) (s : Std) (a x y : Nat) (ha : p.absent = (a : Int)) (ha1 : a ≤ 10000) (kd : DownIs s.eff a y) (ku : UpIs s.eff s.score p.quotEm x 10)  : RfineIs p s 4 s.bal := by
  intro w
  unfold DownIs at kd
  unfold UpIs at ku
  rw [show ((10 : Nat) : Int) = 10 from rfl] at ku
  have v7 := p.v7
  have v9 := p.v9
  have v17 := p.v17
  rw [ha] at v17
  have ea : IntKind.u64.wrap (a : Int) = (a : Int) := IntWalk.u64_in _ (by omega)
  clear ha ha1
  have hP := (ParAt.new w p 31).up ((Below.refl _ _).alloc (Nat.le_refl _) (.cells s.vals 35))
  have hS : StdAt ((w.alloc (.cells p.vals 31)).alloc (.cells s.vals 35)) (w.heap.size + 1) s 35 := StdAt.new _ s _ (by simp)
  have hB : Below w.heap.size w ((w.alloc (.cells p.vals 31)).alloc (.cells s.vals 35)) := ((Below.refl _ _).alloc (Nat.le_refl _) _).alloc (by simp) _
  have s0 := hS.c0
  have s1 := hS.c1
  have s2 := hS.c2
  have p7 := (hP.cell 7).trans v7
  have p9 := (hP.cell 9).trans v9
  have p17 := (hP.cell 17).trans v17
  go_enter Try.func12, Try.ntmps12
  go_wp2_with (first
    | (go_at_call 23; refine (kd _).mono ?_; clear kd; rintro e w1 ⟨rfl, hb1⟩; have hP := hP.up hb1; have hS := hS.up hb1; have hB := Below.then hB hb1; clear hb1; have s0 := hS.c0; have s1 := hS.c1; have s2 := hS.c2; have p7 := (hP.cell 7).trans v7; have p9 := (hP.cell 9).trans v9; have p17 := (hP.cell 17).trans v17)
    | (go_at_call 24; refine (ku _).mono ?_; clear ku; rintro e w1 ⟨rfl, hb1⟩; have hP := hP.up hb1; have hS := hS.up hb1; have hB := Below.then hB hb1; clear hb1; have s0 := hS.c0; have s1 := hS.c1; have s2 := hS.c2; have p7 := (hP.cell 7).trans v7; have p9 := (hP.cell 9).trans v9; have p17 := (hP.cell 17).trans v17)
    )
  go_ret
  exact ⟨by first | rfl | simp, hB⟩


set_option maxRecDepth 100000 in
set_option maxHeartbeats 1000000 in
theorem rof_0_in (p : Par) (s : Std) (m : Int) (h3 : ¬ m = 3) (h4 : ¬ m = 4) (a y : Nat) (ha : p.absent = (a : Int)) (ha1 : a ≤ 10000) (kd : DownIs s.eff a y) (h : y ≤ s.bal) : RfineIs p s m y := by
  intro w
  unfold DownIs at kd
  have z3 : (m == 3) = false := by simpa using h3
  have z4 : (m == 4) = false := by simpa using h4
  clear h3 h4
  have d1 : decide ((s.bal : Int) < (y : Int)) = false := decide_eq_false (by omega)
  have d2 : decide (s.bal < y) = false := decide_eq_false (by omega)
  clear h
  have v7 := p.v7
  have v9 := p.v9
  have v17 := p.v17
  rw [ha] at v17
  have ea : IntKind.u64.wrap (a : Int) = (a : Int) := IntWalk.u64_in _ (by omega)
  clear ha ha1
  have hP := (ParAt.new w p 31).up ((Below.refl _ _).alloc (Nat.le_refl _) (.cells s.vals 35))
  have hS : StdAt ((w.alloc (.cells p.vals 31)).alloc (.cells s.vals 35)) (w.heap.size + 1) s 35 := StdAt.new _ s _ (by simp)
  have hB : Below w.heap.size w ((w.alloc (.cells p.vals 31)).alloc (.cells s.vals 35)) := ((Below.refl _ _).alloc (Nat.le_refl _) _).alloc (by simp) _
  have s0 := hS.c0
  have s1 := hS.c1
  have s2 := hS.c2
  have p7 := (hP.cell 7).trans v7
  have p9 := (hP.cell 9).trans v9
  have p17 := (hP.cell 17).trans v17
  go_enter Try.func12, Try.ntmps12
  go_wp2_with (first
    | (go_at_call 23; refine (kd _).mono ?_; clear kd; rintro e w1 ⟨rfl, hb1⟩; have hP := hP.up hb1; have hS := hS.up hb1; have hB := Below.then hB hb1; clear hb1; have s0 := hS.c0; have s1 := hS.c1; have s2 := hS.c2; have p7 := (hP.cell 7).trans v7; have p9 := (hP.cell 9).trans v9; have p17 := (hP.cell 17).trans v17)
    )
  go_ret
  exact ⟨by first | rfl | simp, hB⟩


set_option maxRecDepth 100000 in
set_option maxHeartbeats 1000000 in
theorem rof_0_over (p : Par) (s : Std) (m : Int) (h3 : ¬ m = 3) (h4 : ¬ m = 4) (a y : Nat) (ha : p.absent = (a : Int)) (ha1 : a ≤ 10000) (kd : DownIs s.eff a y) (h : s.bal < y) : RfineIs p s m s.bal := by
  intro w
  unfold DownIs at kd
  have z3 : (m == 3) = false := by simpa using h3
  have z4 : (m == 4) = false := by simpa using h4
  clear h3 h4
  have d1 : decide ((s.bal : Int) < (y : Int)) = true := decide_eq_true (by omega)
  have d2 : decide (s.bal < y) = true := decide_eq_true h
  clear h
  have v7 := p.v7
  have v9 := p.v9
  have v17 := p.v17
  rw [ha] at v17
  have ea : IntKind.u64.wrap (a : Int) = (a : Int) := IntWalk.u64_in _ (by omega)
  clear ha ha1
  have hP := (ParAt.new w p 31).up ((Below.refl _ _).alloc (Nat.le_refl _) (.cells s.vals 35))
  have hS : StdAt ((w.alloc (.cells p.vals 31)).alloc (.cells s.vals 35)) (w.heap.size + 1) s 35 := StdAt.new _ s _ (by simp)
  have hB : Below w.heap.size w ((w.alloc (.cells p.vals 31)).alloc (.cells s.vals 35)) := ((Below.refl _ _).alloc (Nat.le_refl _) _).alloc (by simp) _
  have s0 := hS.c0
  have s1 := hS.c1
  have s2 := hS.c2
  have p7 := (hP.cell 7).trans v7
  have p9 := (hP.cell 9).trans v9
  have p17 := (hP.cell 17).trans v17
  go_enter Try.func12, Try.ntmps12
  go_wp2_with (first
    | (go_at_call 23; refine (kd _).mono ?_; clear kd; rintro e w1 ⟨rfl, hb1⟩; have hP := hP.up hb1; have hS := hS.up hb1; have hB := Below.then hB hb1; clear hb1; have s0 := hS.c0; have s1 := hS.c1; have s2 := hS.c2; have p7 := (hP.cell 7).trans v7; have p9 := (hP.cell 9).trans v9; have p17 := (hP.cell 17).trans v17)
    )
  go_ret
  exact ⟨by first | rfl | simp, hB⟩

theorem rfine_is (p : Par) (s : Std) (m : Int) (hp : Par.Spans p) (hf : s.Fits) : RfineIs p s m (Std.fine p m s) := by
  have q0 := hp.quot0
  have q1 := hp.quot1
  have e0 := hp.quotEm0
  have e1 := hp.quotEm1
  have a0 := hp.absent0
  have a1 := hp.absent1
  have f0 := hf.bal
  have f1 := hf.eff
  have f2 := hf.score
  obtain ⟨a, ha⟩ : ∃ a : Nat, p.absent = (a : Int) := ⟨p.absent.toNat, by omega⟩
  have kd : DownIs s.eff a _ := fun w => refdown_part s.eff a _ w f1 (by omega) rfl
  unfold Std.fine Std.lost
  by_cases h3 : m = 3
  · subst h3
    rw [if_pos rfl]
    have k := fun w => refup_told s.eff s.score p.quot _ w f1 f2 (by omega) q0 (ceil_over _ p.quot q0)
    generalize over (s.eff * s.score) p.quot = x at *
    rcases Nat.lt_or_ge x 18446744073709551616 with hl | hl
    · rw [(tell_fits hl).1, (tell_fits hl).2] at k
      rcases Nat.lt_or_ge s.bal x with h | h
      · rw [show min x s.bal = s.bal by omega]
        exact rof_3_over p s a x _ ha (by omega) kd k h
      · rw [show min x s.bal = x by omega]
        exact rof_3_in p s a x _ ha (by omega) kd k h
    · rw [tx_out (by omega), te_out (by omega)] at k
      rw [show min x s.bal = s.bal by omega]
      exact rof_3_err p s a 0 _ ha (by omega) kd k
  · by_cases h4 : m = 4
    · subst h4
      rw [if_neg h3, if_pos rfl]
      have k := fun w => refup_told s.eff s.score p.quotEm _ w f1 f2 (by omega) e0 (ceil_over _ p.quotEm e0)
      generalize over (s.eff * s.score) p.quotEm = x at *
      rcases Nat.lt_or_ge x 18446744073709551616 with hl | hl
      · rw [(tell_fits hl).1, (tell_fits hl).2] at k
        rcases Nat.lt_or_ge s.bal x with h | h
        · rw [show min x s.bal = s.bal by omega]
          exact rof_4_over p s a x _ ha (by omega) kd k h
        · rw [show min x s.bal = x by omega]
          exact rof_4_in p s a x _ ha (by omega) kd k h
      · rw [tx_out (by omega), te_out (by omega)] at k
        rw [show min x s.bal = s.bal by omega]
        exact rof_4_err p s a 0 _ ha (by omega) kd k
    · rw [if_neg h3, if_neg h4, ha, Int.toNat_natCast]
      rcases Nat.lt_or_ge s.bal (prt s.eff 10000 a) with h | h
      · rw [show min (prt s.eff 10000 a) s.bal = s.bal by omega]
        exact rof_0_over p s m h3 h4 a _ ha (by omega) kd h
      · rw [show min (prt s.eff 10000 a) s.bal = prt s.eff 10000 a by omega]
        exact rof_0_in p s m h3 h4 a _ ha (by omega) kd h


set_option maxRecDepth 100000 in
set_option maxHeartbeats 1000000 in
theorem rburn_is (p : Par) (n : Nat) (hp : Par.Spans p) (hn : n < 18446744073709551616) : RburnIs p n (burned p n) := by
  intro w
  have b0 := hp.burn0
  have b1 := hp.burn1
  obtain ⟨a, ha⟩ : ∃ a : Nat, p.burn = (a : Int) := ⟨p.burn.toNat, by omega⟩
  obtain ⟨x, hx⟩ : ∃ x, burned p n = x := ⟨_, rfl⟩
  have kd := fun w => refdown_part n a x w hn (by omega) (by rw [← hx, burned, ha, Int.toNat_natCast])
  have v18 := p.v18
  rw [ha] at v18
  rw [hx]
  have ea : IntKind.u64.wrap (a : Int) = (a : Int) := IntWalk.u64_in _ (by omega)
  clear hp hn b0 b1 ha hx
  have hP := ParAt.new w p 31
  have hB : Below w.heap.size w (w.alloc (.cells p.vals 31)) := (Below.refl _ _).alloc (Nat.le_refl _) _
  have c18 := (hP.cell 18).trans v18
  go_enter Try.func13, Try.ntmps13
  go_wp2_with (first
    | (go_at_call 23; refine (kd _).mono ?_; clear kd; rintro e w1 ⟨rfl, hb1⟩; have hB := Below.then hB hb1; clear hb1)
    )
  go_ret
  exact ⟨by first | rfl | simp, hB⟩
end Go.Proofs.Ytklempnebhcoiaa
