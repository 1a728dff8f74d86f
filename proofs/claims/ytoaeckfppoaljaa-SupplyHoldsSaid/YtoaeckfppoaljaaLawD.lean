/- Deposits and dues, and lists of them, that come in with a law's arguments. -/
import Derived.Test.YtoaeckfppoaljaaPoolM
import Derived.Test.YtoaeckfppoaljaaLawP
import Derived.Lib.SmallJoins
namespace Go.Proofs.Ytoaeckfppoaljaa
open Go.ChangeShapes Go.WideShapes Go.ChangeAt Go.RowKit Go.Deep
set_option linter.unusedVariables false
set_option linter.unusedSimpArgs false

section
variable {H : Type} {enc : TypeId × Value → H} {w : World} {base : Nat} {held : Bool}
set_option maxRecDepth 100000 in
theorem open_dep {r : Reach} {b0 : Nat} {v : Value} {d : DataW H} {pl : List MemPlace}
    (hv : Value.okWide Try.prog w r b0 62 v) (h : DataW.Trod enc Try.prog w base (fun _ => true) held 62 v d pl) : ∃ s : Dep, v = .agg (Rec.vals s) ∧ s.amt ≤ 18446744073709551615 := by
  obtain ⟨x0, x1, x2, x3, y0, y1, y2, y3, m, rfl, rfl, rfl, h0, h1, h2, h3⟩ := Joins.open_agg4 Try.underlying62 (by kernel_rfl) (by kernel_rfl) hv h
  obtain ⟨a0, e0, -, u0⟩ := DataW.trod_int Try.underlying3 h0
  obtain ⟨a1, e1, -, u1⟩ := DataW.trod_int Try.underlying3 h1
  obtain ⟨a2, e2, -, u2⟩ := DataW.trod_int Try.underlying22 h2
  obtain ⟨a3, e3, -⟩ := DataW.trod_bool Try.underlying4 h3
  simp only [List.cons.injEq, and_true] at e0 e1 e2 e3
  have b2 := u64_fits u2
  obtain ⟨n2, rfl⟩ := Int.eq_ofNat_of_zero_le b2.1
  subst e0 e1 e2 e3
  exact ⟨⟨a0, a1, n2, a3⟩, rfl, by show n2 ≤ _; omega⟩
theorem four_of {cs : List Value} (h : cs.length = 4) : ∃ c0 c1 c2 c3, cs = [c0, c1, c2, c3] := by
  match cs, h with
  | [c0, c1, c2, c3], _ => exact ⟨_, _, _, _, rfl⟩
theorem three_of {cs : List Value} (h : cs.length = 3) : ∃ c0 c1 c2, cs = [c0, c1, c2] := by
  match cs, h with
  | [c0, c1, c2], _ => exact ⟨_, _, _, rfl⟩
theorem open_deps {A : Option Addr} {n c : Nat} {d : DataW H} {p : List MemPlace}
    (h : DataW.Trod enc Try.prog w base (fun _ => true) held 28 (.slice A n c) d p) : ∃ l : List Dep, n = l.length ∧ (∀ s ∈ l, s.amt ≤ 18446744073709551615) ∧ l.length ≤ c ∧ c ≤ maxLen ∧ (A = none → c = 0) ∧ Row w w.heap.size A (rows l) := by
  refine open_recs (α := Dep) (fun s => s.amt ≤ 18446744073709551615) Try.underlying28 Try.underlying62 (by kernel_rfl) (by kernel_rfl) rfl ?_ h
  intro n2 cs hcl hfd
  obtain ⟨c0, c1, c2, c3, rfl⟩ := four_of hcl
  obtain ⟨y0, g0⟩ := hfd 0 _ rfl
  obtain ⟨y1, g1⟩ := hfd 1 _ rfl
  obtain ⟨y2, g2⟩ := hfd 2 _ rfl
  obtain ⟨y3, g3⟩ := hfd 3 _ rfl
  obtain ⟨a0, e0, -, u0⟩ := DataW.trod_int Try.underlying3 g0
  obtain ⟨a1, e1, -, u1⟩ := DataW.trod_int Try.underlying3 g1
  obtain ⟨a2, e2, -, u2⟩ := DataW.trod_int Try.underlying22 g2
  obtain ⟨a3, e3, -⟩ := DataW.trod_bool Try.underlying4 g3
  have f0 : c0 = .int .i64 a0 := (List.cons.inj e0).1
  have f1 : c1 = .int .i64 a1 := (List.cons.inj e1).1
  have f2 : c2 = .int .u64 a2 := (List.cons.inj e2).1
  have f3 : c3 = .bool a3 := (List.cons.inj e3).1
  have b2 := u64_fits u2
  obtain ⟨m2, rfl⟩ := Int.eq_ofNat_of_zero_le b2.1
  subst f0 f1 f2 f3
  exact ⟨⟨a0, a1, m2, a3⟩, by show m2 ≤ _; omega, rfl⟩
theorem open_dues {A : Option Addr} {n c : Nat} {d : DataW H} {p : List MemPlace}
    (h : DataW.Trod enc Try.prog w base (fun _ => true) held 29 (.slice A n c) d p) : ∃ l : List Due, n = l.length ∧ (∀ s ∈ l, s.amt ≤ 18446744073709551615) ∧ l.length ≤ c ∧ c ≤ maxLen ∧ (A = none → c = 0) ∧ Row w w.heap.size A (rows l) := by
  refine open_recs (α := Due) (fun s => s.amt ≤ 18446744073709551615) Try.underlying29 Try.underlying64 (by kernel_rfl) (by kernel_rfl) rfl ?_ h
  intro n2 cs hcl hfd
  obtain ⟨c0, c1, c2, rfl⟩ := three_of hcl
  obtain ⟨y0, g0⟩ := hfd 0 _ rfl
  obtain ⟨y1, g1⟩ := hfd 1 _ rfl
  obtain ⟨y2, g2⟩ := hfd 2 _ rfl
  obtain ⟨a0, e0, -, u0⟩ := DataW.trod_int Try.underlying3 g0
  obtain ⟨a1, e1, -, u1⟩ := DataW.trod_int Try.underlying3 g1
  obtain ⟨a2, e2, -, u2⟩ := DataW.trod_int Try.underlying22 g2
  have f0 : c0 = .int .i64 a0 := (List.cons.inj e0).1
  have f1 : c1 = .int .i64 a1 := (List.cons.inj e1).1
  have f2 : c2 = .int .u64 a2 := (List.cons.inj e2).1
  have b2 := u64_fits u2
  obtain ⟨m2, rfl⟩ := Int.eq_ofNat_of_zero_le b2.1
  subst f0 f1 f2
  exact ⟨⟨a0, a1, m2⟩, by show m2 ≤ _; omega, rfl⟩
end
end Go.Proofs.Ytoaeckfppoaljaa
