/- Layer 7 (param), the document's bound. By contracts. -/
import Derived.Test.YtilnlmfhnjplhaaParU
import Derived.Test.YtilnlmfhnjplhaaSeq
namespace Go.Proofs.Ytilnlmfhnjplhaa
open Go.RowKit
set_option linter.unusedVariables false
set_option linter.unusedSimpArgs false

theorem exec_load_rpar {o : Oper} {a : Act} {w : World} (x : Operand) (ho : o.op = .load 30 x) (g : Nat) (p : Par) (T : TypeId) (hx : a.eval x = .pointer (some ⟨g, 0, none⟩)) (hP : ParAt w g p T) :
    (execOp a.eval o).run Try.prog w = .ok (.value (.agg p.vals)) w := by
  unfold execOp
  simp only [ho, hx, Instr.loadAt, Instr.sureAddr, Sem.run_bind, Sem.run_pure, Result.andThen_ok, run_loadVar_row w g T 30 p.vals (0, 0) _ hP Try.underlying30 rfl (by kernel_rfl)]

set_option maxRecDepth 100000 in
set_option maxHeartbeats 4000000 in
theorem refbound_is (p : Par) (T L E n d : Nat) (w : World) (h : Par.Right p T) (hL : Ceil (p.inc * p.bias) p.quot L) (hE : Ceil (p.cap - p.floor) L E) (hn : n ≤ 128) (hd : p.delay = (d : Int)) :
    Calls Try.prog 18 #[.agg p.vals, .int .i64 (n : Int)] w fun e w' => e = .returned (.int .u64 ((d + n * E + 1 : Nat) : Int)) ∧ Below w.heap.size w w' := by
  have s := h.spans
  have cap1 := s.cap1
  have ov := s.over
  have dl := s.delay1
  rw [hd] at dl
  have hX : 0 < p.inc * p.bias := Nat.mul_pos s.inc0 s.bias0
  have hl0 := hL.pos hX
  have hl : L ≤ 9223372036854775808 := hL.le (Nat.le_trans (Nat.mul_le_mul s.inc1 s.bias1) (by have := Nat.mul_le_mul_left 9223372036854775808 s.quot0; omega))
  have he : E ≤ 1099511627776 := hE.le (by have := Nat.mul_le_mul_left 1099511627776 hl0; omega)
  have kl := fun w => refleast_is p T L w h hL
  have ku := fun w => refup_is (p.cap - p.floor) 1 L E w (by omega) (by omega) (by omega) hl0 (by rw [Nat.mul_one]; exact hE) (by omega)
  rw [show ((p.cap - p.floor : Nat) : Int) = (p.cap : Int) - (p.floor : Int) by omega, show ((1 : Nat) : Int) = 1 from rfl] at ku
  obtain ⟨M, hM⟩ : ∃ M, n * E = M := ⟨_, rfl⟩
  have hM1 : M ≤ 140737488355328 := hM ▸ Nat.le_trans (Nat.mul_le_mul hn he) (by omega)
  have e1 : IntKind.u64.wrap ((n : Int) * (E : Int)) = (M : Int) := by rw [← Int.natCast_mul, hM]; exact IntWalk.u64_in _ (by omega)
  have e2 : IntKind.u64.wrap ((p.cap : Int) - (p.floor : Int)) = (p.cap : Int) - (p.floor : Int) := IntWalk.u64_in _ (by omega)
  rw [hM, Int.natCast_add, Int.natCast_add, show ((1 : Nat) : Int) = 1 from rfl]
  have hP := ParAt.new w p 30
  have e3 : IntKind.u64.wrap p.delay = (d : Int) := by rw [hd]; exact IntWalk.u64_in _ (by omega)
  have E3 := Lib.hid e3
  clear e3
  have hB : Below w.heap.size w (w.alloc (.cells p.vals 30)) := (Below.refl _ _).alloc (Nat.le_refl _) _
  clear h hL hE hM s hX he hl hl0 hd
  go_enter Try.func18, Try.ntmps18
  go_upto_region 1 with fail
  generalize hw0 : World.alloc _ _ = w0
  rw [hw0] at hP hB
  clear hw0
  have cells : ∀ w', Below w0.heap.size w0 w' → ParAt w' w.heap.size p 30 := fun w' h => hP.up h
  clear hP
  refine region_list [] (fun _ w' => Below w0.heap.size w0 w') (by kernel_rfl) (by kernel_rfl) (Below.refl _ _).drew ?_
  refine' SeqS.calm _ (by rfl) (by rfl) (fun w => ?_) ?_; rotate_left; · (go_simp <;> with_reducible rfl)
  simp only [Act.put, List.setIfInBounds_toArray, List.set_cons_zero, List.set_cons_succ]
  refine' SeqS.take _ (by rfl) (by rfl) (fun ph w' hS => ?_) ?_; rotate_left; · (have c3 : w'.cell? ⟨w.heap.size, 3, none⟩ = some (.int .u64 (p.cap : Int)) := (cells w' hS).cell 3; have c2 : w'.cell? ⟨w.heap.size, 2, none⟩ = some (.int .u64 (p.floor : Int)) := (cells w' hS).cell 2; go_simp <;> with_reducible rfl)
  simp only [Act.put, List.setIfInBounds_toArray, List.set_cons_zero, List.set_cons_succ]
  refine' SeqS.calm _ (by rfl) (by rfl) (fun w => ?_) ?_; rotate_left; · (go_simp <;> with_reducible rfl)
  simp only [Act.put, List.setIfInBounds_toArray, List.set_cons_zero, List.set_cons_succ]
  refine' SeqS.take _ (by rfl) (by rfl) (fun ph w' hS => ?_) ?_; rotate_left; · (have c3 : w'.cell? ⟨w.heap.size, 3, none⟩ = some (.int .u64 (p.cap : Int)) := (cells w' hS).cell 3; have c2 : w'.cell? ⟨w.heap.size, 2, none⟩ = some (.int .u64 (p.floor : Int)) := (cells w' hS).cell 2; go_simp <;> with_reducible rfl)
  simp only [Act.put, List.setIfInBounds_toArray, List.set_cons_zero, List.set_cons_succ]
  refine' SeqS.calm _ (by rfl) (by rfl) (fun w => ?_) ?_; rotate_left; · (go_simp <;> with_reducible rfl)
  simp only [Act.put, List.setIfInBounds_toArray, List.set_cons_zero, List.set_cons_succ]
  refine SeqS.take _ (by rfl) (by rfl) (fun ph w' hS => exec_load_rpar _ rfl _ _ _ rfl (cells w' hS)) ?_
  simp only [Act.put, List.setIfInBounds_toArray, List.set_cons_zero, List.set_cons_succ]
  refine SeqS.call (below_call (Nat.le_refl _) (fun w _ => kl w)) (by rfl) (by rfl) (fun w => ?_) ?_; · go_simp
  simp only [Act.put, List.setIfInBounds_toArray, List.set_cons_zero, List.set_cons_succ]
  refine SeqS.call (below_call (Nat.le_refl _) (fun w _ => ku w)) (by rfl) (by rfl) (fun w => ?_) ?_; · go_simp
  simp only [Act.put, List.setIfInBounds_toArray, List.set_cons_zero, List.set_cons_succ]
  iterate 5 ((refine' SeqS.calm _ (by rfl) (by rfl) (fun w => ?_) ?_; rotate_left; · (go_simp <;> with_reducible rfl)); simp only [Act.put, List.setIfInBounds_toArray, List.set_cons_zero, List.set_cons_succ])
  intro w3 hw3
  have c14 : w3.cell? ⟨w.heap.size, 14, none⟩ = some (.int .i64 p.delay) := (cells w3 hw3).cell 14
  have hB3 := Below.then hB hw3
  clear kl ku
  have e3 := E3.out
  go_wp2
  go_ret
  exact ⟨rfl, hB3⟩
end Go.Proofs.Ytilnlmfhnjplhaa
