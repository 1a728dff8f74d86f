/- A part of a slice: from one place on, up to another, whatever its address (none, too). -/
import Derived.Test.YtbahcbnnogdmfaaBytes
namespace Go.Proofs.Ytbahcbnnogdmfaa
open Go.RowKit
set_option linter.unusedVariables false
set_option linter.unusedSimpArgs false

/-- Where a slice begins behind its first j values, of which room is for c. -/
def part (A : Option Addr) (j c : Nat) : Option Addr := if c = j then A else A.map (·.add j)
theorem part_zero (A : Option Addr) (c : Nat) : part A 0 c = A := by
  unfold part
  split
  · rfl
  · cases A <;> simp [Addr.add]
theorem part_none {A : Option Addr} {j c : Nat} (h : part A j c = none) : A = none := by
  unfold part at h
  split at h
  · exact h
  · cases A with
    | none => rfl
    | some a => cases h
theorem Lie.part {w : World} {S : Nat → Prop} {A : Option Addr} {xs : List Value} {j c : Nat} (h : Lie w S A xs) (hj : j ≤ xs.length) (hc : xs.length ≤ c) : Lie w S (part A j c) (xs.drop j) := by
  unfold Go.Proofs.Ytbahcbnnogdmfaa.part
  cases A with
  | none =>
    have h0 := h.none_nil
    subst h0
    simp only [List.drop_nil]
    exact Lie.nil _ _ _
  | some a => exact h.behind hj hc
theorem Lie.piece {w : World} {S : Nat → Prop} {A : Option Addr} {l : List Int} {j k c : Nat} (h : Lie w S A (zvals l)) (hj : j ≤ k) (hk : k ≤ l.length) (hc : l.length ≤ c) : Lie w S (Go.Proofs.Ytbahcbnnogdmfaa.part A j c) (zvals ((l.take k).drop j)) := by
  have := (h.take k).part (j := j) (c := c) (by rw [List.length_take, zvals_len]; omega) (by rw [List.length_take, zvals_len]; omega)
  rwa [zvals_take, zvals_drop] at this
theorem Lie.back {w : World} {S : Nat → Prop} {A : Option Addr} {l : List Int} {j c : Nat} (h : Lie w S A (zvals l)) (hj : j ≤ l.length) (hc : l.length ≤ c) : Lie w S (Go.Proofs.Ytbahcbnnogdmfaa.part A j c) (zvals (l.drop j)) := by
  have := h.part (j := j) (c := c) (by rw [zvals_len]; omega) (by rw [zvals_len]; omega)
  rwa [zvals_drop] at this
theorem Lie.front {w : World} {S : Nat → Prop} {A : Option Addr} {l : List Int} (h : Lie w S A (zvals l)) (k : Nat) : Lie w S A (zvals (l.take k)) := by
  have := h.take k
  rwa [zvals_take] at this

section
variable {P : Program} {T e : TypeId} {A : Option Addr} {n c : Nat} {w : World}
theorem run_part (hu : P.underlying T = some (.slice e)) (hs : ∀ w, (sizeOf e).run P w = .ok 1 w) {j k : Nat} (hjk : j ≤ k) (hk : k ≤ c) :
    (Instr.sliceAt T (.slice A n c) (some (.int .i64 (j : Int))) (some (.int .i64 (k : Int))) none).run P w = .ok (.slice (part A j c) (k - j) (c - j)) w := by
  have h1 : (0 : Int) ≤ (k : Int) ∧ (k : Int) ≤ (c : Int) := by omega
  have h2 : (0 : Int) ≤ (j : Int) ∧ (j : Int) ≤ (k : Int) := by omega
  simp [Instr.sliceAt, Instr.slice, Instr.sliceBounds, Instr.sliceBound, run_underlying hu, asIntOf, h1, h2, hs, Nat.mul_one, part, hjk, hk]
theorem run_part_to (hu : P.underlying T = some (.slice e)) (hs : ∀ w, (sizeOf e).run P w = .ok 1 w) {k : Nat} (hk : k ≤ c) :
    (Instr.sliceAt T (.slice A n c) none (some (.int .i64 (k : Int))) none).run P w = .ok (.slice A k c) w := by
  have h1 : (0 : Int) ≤ (k : Int) ∧ (k : Int) ≤ (c : Int) := by omega
  have hp := part_zero A c
  unfold part at hp
  simp [Instr.sliceAt, Instr.slice, Instr.sliceBounds, Instr.sliceBound, run_underlying hu, asIntOf, h1, hs, Nat.mul_one, hk]
  simpa using hp
theorem run_part_from (hu : P.underlying T = some (.slice e)) (hs : ∀ w, (sizeOf e).run P w = .ok 1 w) {j : Nat} (hj : j ≤ n) :
    (Instr.sliceAt T (.slice A n c) (some (.int .i64 (j : Int))) none none).run P w = .ok (.slice (part A j c) (n - j) (c - j)) w := by
  have h1 : (0 : Int) ≤ (j : Int) ∧ (j : Int) ≤ (n : Int) := by omega
  simp [Instr.sliceAt, Instr.slice, Instr.sliceBounds, Instr.sliceBound, run_underlying hu, asIntOf, h1, hs, Nat.mul_one, part, hj]
end

section
variable {P : Program} {T e : TypeId} {A : Option Addr} {n c : Nat} {w : World} {ops : Array Oper} {rest : List Oper} {o : Oper} {a : Act} {Q : Exit → Act → World → Prop}
theorem exec_part (x lo hi : Operand) (ho : o.op = .slice T x (some lo) (some hi) none) (hu : P.underlying T = some (.slice e)) (hs : ∀ w, (sizeOf e).run P w = .ok 1 w) {j k : Nat} (hx : a.eval x = .slice A n c) (hlo : a.eval lo = .int .i64 (j : Int)) (hhi : a.eval hi = .int .i64 (k : Int)) (hjk : j ≤ k) (hk : k ≤ c) :
    (execOp a.eval o).run P w = .ok (.value (.slice (part A j c) (k - j) (c - j))) w := by
  unfold execOp
  simp only [ho, hx, hlo, hhi, Option.map_some, Option.map_none, Sem.run_bind, Sem.run_pure, Result.andThen_ok, run_part hu hs hjk hk]
theorem exec_part_to (x hi : Operand) (ho : o.op = .slice T x none (some hi) none) (hu : P.underlying T = some (.slice e)) (hs : ∀ w, (sizeOf e).run P w = .ok 1 w) {k : Nat} (hx : a.eval x = .slice A n c) (hhi : a.eval hi = .int .i64 (k : Int)) (hk : k ≤ c) :
    (execOp a.eval o).run P w = .ok (.value (.slice A k c)) w := by
  unfold execOp
  simp only [ho, hx, hhi, Option.map_some, Option.map_none, Sem.run_bind, Sem.run_pure, Result.andThen_ok, run_part_to hu hs hk]
theorem exec_part_from (x lo : Operand) (ho : o.op = .slice T x (some lo) none none) (hu : P.underlying T = some (.slice e)) (hs : ∀ w, (sizeOf e).run P w = .ok 1 w) {j : Nat} (hx : a.eval x = .slice A n c) (hlo : a.eval lo = .int .i64 (j : Int)) (hj : j ≤ n) :
    (execOp a.eval o).run P w = .ok (.value (.slice (part A j c) (n - j) (c - j))) w := by
  unfold execOp
  simp only [ho, hx, hlo, Option.map_some, Option.map_none, Sem.run_bind, Sem.run_pure, Result.andThen_ok, run_part_from hu hs hj]
theorem part_arm (x lo hi : Operand) (ho : o.op = .slice T x (some lo) (some hi) none) (hgd : Region.wanted o (yielded ops a.tmps) = true) (hu : P.underlying T = some (.slice e)) (hs : ∀ w, (sizeOf e).run P w = .ok 1 w) {j k : Nat} (hx : a.eval x = .slice A n c) (hlo : a.eval lo = .int .i64 (j : Int)) (hhi : a.eval hi = .int .i64 (k : Int)) (hjk : j ≤ k) (hk : k ≤ c)
    (h : wpList P ops Q rest (a.put o.dst (.slice (part A j c) (k - j) (c - j))) w) : wpList P ops Q (o :: rest) a w :=
  wpList_step fun K hK => by
    rw [if_pos hgd]
    unfold Oper.wp
    rw [exec_part x lo hi ho hu hs hx hlo hhi hjk hk]
    exact hK _ _ h
theorem part_to_arm (x hi : Operand) (ho : o.op = .slice T x none (some hi) none) (hgd : Region.wanted o (yielded ops a.tmps) = true) (hu : P.underlying T = some (.slice e)) (hs : ∀ w, (sizeOf e).run P w = .ok 1 w) {k : Nat} (hx : a.eval x = .slice A n c) (hhi : a.eval hi = .int .i64 (k : Int)) (hk : k ≤ c)
    (h : wpList P ops Q rest (a.put o.dst (.slice A k c)) w) : wpList P ops Q (o :: rest) a w :=
  wpList_step fun K hK => by
    rw [if_pos hgd]
    unfold Oper.wp
    rw [exec_part_to x hi ho hu hs hx hhi hk]
    exact hK _ _ h
theorem part_from_arm (x lo : Operand) (ho : o.op = .slice T x (some lo) none none) (hgd : Region.wanted o (yielded ops a.tmps) = true) (hu : P.underlying T = some (.slice e)) (hs : ∀ w, (sizeOf e).run P w = .ok 1 w) {j : Nat} (hx : a.eval x = .slice A n c) (hlo : a.eval lo = .int .i64 (j : Int)) (hj : j ≤ n)
    (h : wpList P ops Q rest (a.put o.dst (.slice (part A j c) (n - j) (c - j))) w) : wpList P ops Q (o :: rest) a w :=
  wpList_step fun K hK => by
    rw [if_pos hgd]
    unfold Oper.wp
    rw [exec_part_from x lo ho hu hs hx hlo hj]
    exact hK _ _ h
end
end Go.Proofs.Ytbahcbnnogdmfaa
