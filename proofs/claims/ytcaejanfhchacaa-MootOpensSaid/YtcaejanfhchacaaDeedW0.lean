/- Layer 8 (deed), the document's: whether a deed is right, the first tests. By contracts. · Layer 20 (roll): lists of bytes in memory, one that was made by the call; marks and rings, plain. · Layer 20 (roll): nobody's marks; marks with more of them; the document's. By contracts. -/
import Derived.Test.YtcaejanfhchacaaDeedU
import Derived.Test.YtcaejanfhchacaaDeedE
import Derived.Test.YtcaejanfhchacaaParSb
import Derived.Test.YtcaejanfhchacaaSeq
import Derived.Test.YtcaejanfhchacaaBitC
import Derived.Test.YtcaejanfhchacaaLawB
import Derived.Test.YtcaejanfhchacaaBitD
namespace Go.Proofs.Ytcaejanfhchacaa
open Go.RowKit
set_option linter.unusedVariables false
set_option linter.unusedSimpArgs false

theorem exec_load_rdeed {o : Oper} {a : Act} {w : World} (x : Operand) (ho : o.op = .load 57 x) (g : Nat) (d : Dd) (A : Option Addr) (c : Nat) (T : TypeId) (hx : a.eval x = .pointer (some ⟨g, 0, none⟩)) (hD : DeedAt w g d A c T) :
    (execOp a.eval o).run Try.prog w = .ok (.value (.agg (d.vals A c))) w := by
  unfold execOp
  simp only [ho, hx, Instr.loadAt, Instr.sureAddr, Sem.run_bind, Sem.run_pure, Result.andThen_ok, run_loadVar_row w g T 57 (d.vals A c) (0, 0) _ hD Try.underlying57 rfl rdeed_size]
theorem ref_names : (Try.prog.fieldsOf 43).toList.all (fun f => f.name != "_") = true := by kernel_rfl
theorem ref_eql_no (p q : Par) (h : p ≠ q) (w : World) : (binOp .eql 43 (.agg p.vals) (.agg q.vals)).run Try.prog w = .ok (.bool false) w := by
  have hfit : ∀ f ∈ (Try.prog.fieldsOf 43).toList, f.name ≠ "_" ∧ ∃ k k' m n, Try.prog.underlying f.type = some (.int k') ∧ p.vals[f.offset]? = some (.int k m) ∧ q.vals[f.offset]? = some (.int k n) := by
    intro f hf
    have hn := List.all_eq_true.1 ref_names f hf
    refine ⟨by simpa using hn, ?_⟩
    obtain ⟨i, hi, rfl⟩ := List.getElem_of_mem hf
    have hl : (Try.prog.fieldsOf 43).toList.length = 24 := by simpa using field_at_ref.2
    have hm : ((Try.prog.fieldsOf 43).toList[i], i) ∈ (Try.prog.fieldsOf 43).toList.zipIdx := by
      rw [List.mem_zipIdx_iff_getElem?]
      simp only [List.getElem?_eq_getElem hi]
    have hx := List.all_eq_true.1 field_at_ref.1 _ hm
    simp only [Bool.and_eq_true, beq_iff_eq] at hx
    rw [hx.1, hx.2]
    by_cases h14 : i < 14
    · obtain ⟨m, hm⟩ := vals_word p i h14
      obtain ⟨n, hn⟩ := vals_word q i h14
      rw [if_pos h14]
      exact ⟨_, _, m, n, Try.underlying35, hm, hn⟩
    · obtain ⟨m, hm⟩ := vals_int p i (by omega) (by omega)
      obtain ⟨n, hn⟩ := vals_int q i (by omega) (by omega)
      rw [if_neg h14]
      exact ⟨_, _, m, n, Try.underlying3, hm, hn⟩
  obtain ⟨r, h1, h2⟩ := eqFields_ints 9998 p.vals q.vals w _ hfit
  have hr : r = false := by
    cases r with
    | false => rfl
    | true =>
      refine absurd (vals_eq fun j hj => ?_) h
      have hl : (Try.prog.fieldsOf 43).toList.length = 24 := by simpa using field_at_ref.2
      have hjl : j < (Try.prog.fieldsOf 43).toList.length := by omega
      have hm : ((Try.prog.fieldsOf 43).toList[j], j) ∈ (Try.prog.fieldsOf 43).toList.zipIdx := by
        rw [List.mem_zipIdx_iff_getElem?]
        simp only [List.getElem?_eq_getElem hjl]
      have hx := List.all_eq_true.1 field_at_ref.1 _ hm
      simp only [Bool.and_eq_true, beq_iff_eq] at hx
      have := h2 rfl _ (List.getElem_mem hjl)
      rwa [hx.1] at this
  rw [run_eql_struct, run_equalIn_struct w 9999 43 _ _ ref_under (by kernel_rfl), h1, hr]
  rfl
theorem op_eqr_no {ops : Array Oper} {rest : List Oper} {o : Oper} {a : Act} {w : World} {Q : Exit → Act → World → Prop} (x y : Operand) (t : TypeId) (ho : o.op = .binOp .eql 43 x y t) (hgd : Region.wanted o (yielded ops a.tmps) = true) (p q : Par) (hn : p ≠ q) (hx : a.eval x = .agg p.vals) (hy : a.eval y = .agg q.vals)
    (h : wpList Try.prog ops Q rest (a.put o.dst (.bool false)) w) : wpList Try.prog ops Q (o :: rest) a w :=
  wpList_step fun K hK => by
    rw [if_pos hgd]
    unfold Oper.wp execOp
    simp only [ho, hx, hy, Sem.run_bind, run_eqGuard_agg w _ _ _ _ _ _ ref_guard, Result.andThen_ok, ref_eql_no p q hn w]
    exact hK _ _ h
theorem build_rpar {ops : Array Oper} {rest : List Oper} {o : Oper} {a : Act} {w : World} {Q : Exit → Act → World → Prop} (parts : Array (Nat × Operand)) (ho : o.op = .build 43 parts) (hgd : Region.wanted o (yielded ops a.tmps) = true) (p : Par) (hb : Try.prog.built 43 (parts.map fun (i, x) => (i, a.eval x)).toList = some p.vals)
    (h : wpList Try.prog ops Q rest (a.put o.dst (.agg p.vals)) w) : wpList Try.prog ops Q (o :: rest) a w :=
  wpList_step fun K hK => by
    rw [if_pos hgd]
    refine wp_build 43 parts ho (by rw [hb]; rfl) ?_
    rw [hb]
    exact hK _ _ h

end Go.Proofs.Ytcaejanfhchacaa
namespace Go.Proofs.Ytcaejanfhchacaa
open Go.RowKit
set_option linter.unusedVariables false
set_option linter.unusedSimpArgs false

/-- Marks: a field of 128 bits. -/
def IsMarks (xs : List Nat) : Prop := FieldI xs 128
/-- A field among as many bytes as marks have. -/
def wide (fs : List Nat) : List Nat := fs ++ List.replicate (16 - fs.length) 0
/-- Nobody's marks. -/
def nobody : List Nat := List.replicate 16 0
/-- A ring that is turned. -/
def turned (xs : List (List Nat)) (m : List Nat) : List (List Nat) := m :: xs.take 7
end Go.Proofs.Ytcaejanfhchacaa
namespace Go.Proofs.Ytcaejanfhchacaa
open Go.RowKit
set_option linter.unusedVariables false
set_option linter.unusedSimpArgs false

theorem owns_bytes {w : World} {base g : Nat} {xs : List Nat} {n : Nat} (hb : base ≤ g) (hn : n = xs.length) (hm : n ≤ maxLen) (h : w.heap[g]? = some (.cells (u8s xs).toArray 5 (0, 0))) : w.ownsRow base 5 1 (.slice (some ⟨g, 0, none⟩) n n) n (u8s xs) :=
  ⟨by rw [u8s_len]; omega, .inr ⟨g, n, (u8s xs).toArray, rfl, hb, h, Nat.le_refl _, hm, by rw [List.size_toArray, u8s_len]; omega, by rw [hn, Nat.mul_one, ← u8s_len xs]; simp⟩⟩

/-- The document's. -/
theorem ring_right_is (xs : List Nat) (S : Nat → Prop) (A : Option Addr) (c : Nat) (w : World) (hx : Lies w S A xs) (hb : ∀ x ∈ xs, x < 256) (hl : xs.length ≤ 100000) :
    Calls Try.prog 43 #[.slice A xs.length c] w fun e w' => Answers (IsMarks xs) e ∧ w = w' := by
  have k := bright_ok xs S A c 128 w hx hb hl
  clear hx hb hl
  go_enter Try.func43, Try.ntmps43
  go_wp2_with (go_at_call 73; refine k.mono ?_; clear k; rintro e w1 ⟨⟨r, rfl, hr⟩, rfl⟩; have HR := Lib.hid hr; clear hr)
  go_ret
  exact ⟨⟨_, rfl, HR.out⟩, rfl⟩
end Go.Proofs.Ytcaejanfhchacaa
