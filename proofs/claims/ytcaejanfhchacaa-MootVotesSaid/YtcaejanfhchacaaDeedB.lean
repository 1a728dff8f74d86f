/- Layer 8 (deed): a field that is used or not; its parameters. By contracts. -/
import Derived.Test.YtcaejanfhchacaaDeedA
import Derived.Test.YtcaejanfhchacaaSeq
namespace Go.Proofs.Ytcaejanfhchacaa
open Go.RowKit
set_option linter.unusedVariables false
set_option linter.unusedSimpArgs false

def inI (u : Bool) (n lo hi : Int) : Bool := if u = true then decide (lo ≤ n) && decide (n ≤ hi) else n == 0

theorem dwithin_i (u : Bool) (n lo hi : Int) (w : World) :
    Calls Try.prog 81 #[.bool u, .int .i64 n, .int .i64 lo, .int .i64 hi] w fun e w' => e = .returned (.bool (inI u n lo hi)) ∧ w = w' := by
  cases u
  · go_enter Try.func81, Try.ntmps81
    go_wp2
    refine bodyPost_ret (v := .bool (inI false n lo hi)) (by simp [results, Try.results81, go_sem, inI]) rfl ⟨rfl, rfl⟩
  · by_cases h1 : lo ≤ n
    · by_cases h2 : n ≤ hi
      · have e : inI true n lo hi = true := by simp [inI, h1, h2]
        rw [e]
        go_enter Try.func81, Try.ntmps81
        go_wp2
        go_ret
        exact ⟨rfl, rfl⟩
      · have e : inI true n lo hi = false := by simp [inI, h2]
        rw [e]
        go_enter Try.func81, Try.ntmps81
        go_wp2
        go_ret
        exact ⟨rfl, rfl⟩
    · have e : inI true n lo hi = false := by simp [inI, h1]
      rw [e]
      go_enter Try.func81, Try.ntmps81
      go_wp2
      go_ret
      exact ⟨rfl, rfl⟩
theorem dwithin_u (u : Bool) (n lo hi : Int) (w : World) :
    Calls Try.prog 84 #[.bool u, .int .u64 n, .int .u64 lo, .int .u64 hi] w fun e w' => e = .returned (.bool (inI u n lo hi)) ∧ w = w' := by
  cases u
  · go_enter Try.func84, Try.ntmps84
    go_wp2
    refine bodyPost_ret (v := .bool (inI false n lo hi)) (by simp [results, Try.results84, go_sem, inI]) rfl ⟨rfl, rfl⟩
  · by_cases h1 : lo ≤ n
    · by_cases h2 : n ≤ hi
      · have e : inI true n lo hi = true := by simp [inI, h1, h2]
        rw [e]
        go_enter Try.func84, Try.ntmps84
        go_wp2
        go_ret
        exact ⟨rfl, rfl⟩
      · have e : inI true n lo hi = false := by simp [inI, h2]
        rw [e]
        go_enter Try.func84, Try.ntmps84
        go_wp2
        go_ret
        exact ⟨rfl, rfl⟩
    · have e : inI true n lo hi = false := by simp [inI, h1]
      rw [e]
      go_enter Try.func84, Try.ntmps84
      go_wp2
      go_ret
      exact ⟨rfl, rfl⟩

/-- Parameters that are used are right; those that are not are nothing. -/
def okP (u : Bool) (p : Par) : Prop := if u = true then ∃ T, Par.Right p T else p = Par.none

set_option maxRecDepth 100000 in
theorem rp_used_ok (p : Par) (T : Nat) (w : World) (h : Par.Right p T) :
    Calls Try.prog 83 #[.bool true, .agg p.vals] w fun e w' => e = .returned (.bool true) ∧ Below w.heap.size w w' := by
  have hP := ParAt.new w p 37
  have hB : Below w.heap.size w (w.alloc (.cells p.vals 37)) := (Below.refl _ _).alloc (Nat.le_refl _) _
  have kc := fun w => check_ok p T w h
  clear h
  go_enter Try.func83, Try.ntmps83
  go_wp2_with (first
    | (refine load_par _ rfl rfl _ p _ rfl (by assumption) ?_)
    | (go_at_call 44; refine (kc _).mono ?_; clear kc; rintro e w1 ⟨rfl, hb1⟩))
  go_ret
  exact ⟨rfl, Below.then hB hb1⟩
set_option maxRecDepth 100000 in
theorem rp_used_no (p : Par) (w : World) (hf : p.Fits) (h : ¬ ∃ T, Par.Right p T) :
    Calls Try.prog 83 #[.bool true, .agg p.vals] w fun e w' => e = .returned (.bool false) ∧ Below w.heap.size w w' := by
  have hP := ParAt.new w p 37
  have hB : Below w.heap.size w (w.alloc (.cells p.vals 37)) := (Below.refl _ _).alloc (Nat.le_refl _) _
  have kc := fun w => check_no p w hf h
  clear h hf
  go_enter Try.func83, Try.ntmps83
  go_wp2_with (first
    | (refine load_par _ rfl rfl _ p _ rfl (by assumption) ?_)
    | (go_at_call 44; refine (kc _).mono ?_; clear kc; rintro e w1 ⟨rfl, hb1⟩))
  go_ret
  exact ⟨rfl, Below.then hB hb1⟩

section
variable {P : Program}
theorem eqFields_ints (d : Nat) (xs ys : Array Value) (w : World) : ∀ (fs : List Field), (∀ f ∈ fs, f.name ≠ "_" ∧ ∃ k k' m n, P.underlying f.type = some (.int k') ∧ xs[f.offset]? = some (.int k m) ∧ ys[f.offset]? = some (.int k n)) →
    ∃ r, (Op.eqFields (d + 1) xs ys fs).run P w = .ok r w ∧ (r = true → ∀ f ∈ fs, xs[f.offset]? = ys[f.offset]?)
  | [], _ => ⟨true, by simp [Op.eqFields], fun _ f hf => by cases hf⟩
  | f :: fs, h => by
    obtain ⟨hn, k, k', m, n, ht, hx, hy⟩ := h f List.mem_cons_self
    obtain ⟨r, ih, hr⟩ := eqFields_ints d xs ys w fs (fun g hg => h g (List.mem_cons_of_mem _ hg))
    by_cases e : m = n
    · subst e
      refine ⟨r, ?_, fun hr0 g hg => ?_⟩
      · unfold Op.eqFields
        rw [if_pos hn]
        simp only [Sem.run_bind, run_part_int ht hx, run_part_int ht hy, Result.andThen_ok, run_equalIn_int w d f.type k k' m m ht]
        simpa using ih
      · rcases List.mem_cons.1 hg with rfl | hg
        · rw [hx, hy]
        · exact hr hr0 g hg
    · refine ⟨false, ?_, fun h0 => by cases h0⟩
      unfold Op.eqFields
      rw [if_pos hn]
      have e2 : (m == n) = false := by simpa using e
      simp only [Sem.run_bind, run_part_int ht hx, run_part_int ht hy, Result.andThen_ok, run_equalIn_int w d f.type k k' m n ht, e2]
      simp
end
theorem field_names : (Try.prog.fieldsOf 37).toList.all (fun f => f.name != "_") = true := by kernel_rfl
theorem vals_eq {p q : Par} (h : ∀ j, j < 24 → p.vals[j]? = q.vals[j]?) : p = q := by
  have hv : p.vals = q.vals := by
    apply Array.ext_getElem?
    intro j
    by_cases hj : j < 24
    · exact h j hj
    · rw [Array.getElem?_eq_none (by rw [vals_size]; omega), Array.getElem?_eq_none (by rw [vals_size]; omega)]
  cases p; cases q
  simp only [Par.vals, Array.mk.injEq, List.cons.injEq, Value.int.injEq, true_and, and_true, Int.natCast_inj] at hv
  simp only [Par.mk.injEq]
  exact hv
theorem par_eql_no (p q : Par) (h : p ≠ q) (w : World) : (binOp .eql 37 (.agg p.vals) (.agg q.vals)).run Try.prog w = .ok (.bool false) w := by
  have hfit : ∀ f ∈ (Try.prog.fieldsOf 37).toList, f.name ≠ "_" ∧ ∃ k k' m n, Try.prog.underlying f.type = some (.int k') ∧ p.vals[f.offset]? = some (.int k m) ∧ q.vals[f.offset]? = some (.int k n) := by
    intro f hf
    have hn := List.all_eq_true.1 field_names f hf
    refine ⟨by simpa using hn, ?_⟩
    obtain ⟨i, hi, rfl⟩ := List.getElem_of_mem hf
    have hl : (Try.prog.fieldsOf 37).toList.length = 24 := by simpa using field_at.2
    have hm : ((Try.prog.fieldsOf 37).toList[i], i) ∈ (Try.prog.fieldsOf 37).toList.zipIdx := by
      rw [List.mem_zipIdx_iff_getElem?]
      simp only [List.getElem?_eq_getElem hi]
    have hx := List.all_eq_true.1 field_at.1 _ hm
    simp only [Bool.and_eq_true, beq_iff_eq] at hx
    rw [hx.1, hx.2]
    by_cases h14 : i < 14
    · obtain ⟨m, hm⟩ := vals_word p i h14
      obtain ⟨n, hn⟩ := vals_word q i h14
      rw [if_pos h14]
      exact ⟨_, _, m, n, Try.underlying35, hm, hn⟩
    · obtain ⟨m, hm⟩ := vals_int p i (by omega) (by omega)
      obtain ⟨n, hn⟩ := vals_int q i (by omega) (by omega)
      rw [if_neg h14]
      exact ⟨_, _, m, n, Try.underlying3, hm, hn⟩
  obtain ⟨r, h1, h2⟩ := eqFields_ints 9998 p.vals q.vals w _ hfit
  have hr : r = false := by
    cases r with
    | false => rfl
    | true =>
      refine absurd (vals_eq fun j hj => ?_) h
      have hl : (Try.prog.fieldsOf 37).toList.length = 24 := by simpa using field_at.2
      have hjl : j < (Try.prog.fieldsOf 37).toList.length := by omega
      have hm : ((Try.prog.fieldsOf 37).toList[j], j) ∈ (Try.prog.fieldsOf 37).toList.zipIdx := by
        rw [List.mem_zipIdx_iff_getElem?]
        simp only [List.getElem?_eq_getElem hjl]
      have hx := List.all_eq_true.1 field_at.1 _ hm
      simp only [Bool.and_eq_true, beq_iff_eq] at hx
      have := h2 rfl _ (List.getElem_mem hjl)
      rwa [hx.1] at this
  rw [run_eql_struct, run_equalIn_struct w 9999 37 _ _ par_under (by kernel_rfl), h1, hr]
  rfl
theorem op_eql_no {ops : Array Oper} {rest : List Oper} {o : Oper} {a : Act} {w : World} {Q : Exit → Act → World → Prop} (x y : Operand) (t : TypeId) (ho : o.op = .binOp .eql 37 x y t) (hgd : Region.wanted o (yielded ops a.tmps) = true) (p q : Par) (hn : p ≠ q) (hx : a.eval x = .agg p.vals) (hy : a.eval y = .agg q.vals)
    (h : wpList Try.prog ops Q rest (a.put o.dst (.bool false)) w) : wpList Try.prog ops Q (o :: rest) a w :=
  wpList_step fun K hK => by
    rw [if_pos hgd]
    unfold Oper.wp execOp
    simp only [ho, hx, hy, Sem.run_bind, run_eqGuard_agg w _ _ _ _ _ _ par_guard, Result.andThen_ok, par_eql_no p q hn w]
    exact hK _ _ h

set_option maxRecDepth 100000 in
theorem rp_not_ok (w : World) :
    Calls Try.prog 83 #[.bool false, .agg Par.none.vals] w fun e w' => e = .returned (.bool true) ∧ Below w.heap.size w w' := by
  have hP := ParAt.new w Par.none 37
  have hB : Below w.heap.size w (w.alloc (.cells Par.none.vals 37)) := (Below.refl _ _).alloc (Nat.le_refl _) _
  go_enter Try.func83, Try.ntmps83
  go_wp2_with (first
    | (refine load_par _ rfl rfl _ Par.none _ rfl (by assumption) ?_)
    | (refine build_par _ rfl rfl Par.none (by kernel_rfl) ?_)
    | (refine op_eql _ _ _ rfl rfl Par.none rfl rfl ?_))
  go_ret
  exact ⟨rfl, hB⟩
set_option maxRecDepth 100000 in
theorem rp_not_no (p : Par) (w : World) (h : p ≠ Par.none) :
    Calls Try.prog 83 #[.bool false, .agg p.vals] w fun e w' => e = .returned (.bool false) ∧ Below w.heap.size w w' := by
  have hP := ParAt.new w p 37
  have hB : Below w.heap.size w (w.alloc (.cells p.vals 37)) := (Below.refl _ _).alloc (Nat.le_refl _) _
  go_enter Try.func83, Try.ntmps83
  go_wp2_with (first
    | (refine load_par _ rfl rfl _ p _ rfl (by assumption) ?_)
    | (refine build_par _ rfl rfl Par.none (by kernel_rfl) ?_)
    | (refine op_eql_no _ _ _ rfl rfl p Par.none h rfl rfl ?_))
  go_ret
  exact ⟨rfl, hB⟩
theorem rp_is (u r : Bool) (p : Par) (w : World) (hf : p.Fits) (hr : r = true ↔ okP u p) :
    Calls Try.prog 83 #[.bool u, .agg p.vals] w fun e w' => e = .returned (.bool r) ∧ Below w.heap.size w w' := by
  unfold okP at hr
  cases u
  · rw [if_neg (by simp)] at hr
    cases r
    · exact rp_not_no p w (fun e => by simpa using hr.2 e)
    · obtain rfl := hr.1 rfl
      exact rp_not_ok w
  · rw [if_pos rfl] at hr
    cases r
    · exact rp_used_no p w hf (fun e => by simpa using hr.2 e)
    · obtain ⟨T, hT⟩ := hr.1 rfl
      exact rp_used_ok p T w hT

theorem exec_load_pars {o : Oper} {a : Act} {w : World} (x : Operand) (ho : o.op = .load 37 x) (g : Nat) (d : Dd) (A : Option Addr) (c : Nat) (T : TypeId) (hx : a.eval x = .pointer (some ⟨g, 8, none⟩)) (hD : DeedAt w g d A c T) :
    (execOp a.eval o).run Try.prog w = .ok (.value (.agg d.par.vals)) w := by
  have h := run_loadAt_mid (P := Try.prog) w g 8 37 d.par.vals.toList _ hD.pars Try.underlying37 rfl (by rw [Array.length_toList, vals_size]; exact par_size)
  rw [Array.toArray_toList] at h
  unfold execOp
  simp only [ho, hx, Sem.run_bind, h, Sem.run_pure, Result.andThen_ok]
end Go.Proofs.Ytcaejanfhchacaa
