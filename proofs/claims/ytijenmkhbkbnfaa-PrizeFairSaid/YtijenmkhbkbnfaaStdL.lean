/- Standings one behind the other: a list of them in memory, one out of it, such a list that comes in with a law's arguments. -/
import Derived.Test.YtijenmkhbkbnfaaScoS
import Derived.Test.YtijenmkhbkbnfaaLawS
import Derived.Deep.AppendLies
namespace Go.Proofs.Ytijenmkhbkbnfaa
open Go.ChangeShapes Go.WideShapes Go.ChangeAt Go.RowKit Go.Deep
set_option linter.unusedVariables false
set_option linter.unusedSimpArgs false

/-- The cells of standings, one behind the other. -/
def sflat (l : List Std) : List Value := l.flatMap fun s => s.vals.toList
theorem svals_len (s : Std) : s.vals.toList.length = 4 := rfl
theorem sflat_len : ∀ (l : List Std), (sflat l).length = l.length * 4
  | [] => rfl
  | x :: l => by
    have := sflat_len l
    unfold sflat at *
    rw [List.flatMap_cons, List.length_append, this, svals_len, List.length_cons]
    omega
theorem sflat_snoc (l : List Std) (x : Std) : sflat (l ++ [x]) = sflat l ++ x.vals.toList := by simp [sflat]
theorem sflat_at : ∀ {l : List Std} {k : Nat} {x : Std} {j : Nat} {v : Value}, l[k]? = some x → x.vals.toList[j]? = some v → (sflat l)[k * 4 + j]? = some v
  | [], k, x, j, v, h, _ => by simp at h
  | y :: l, 0, x, j, v, h, hv => by
    simp at h
    subst h
    have hj : j < y.vals.toList.length := (List.getElem?_eq_some_iff.1 hv).1
    show (y.vals.toList ++ sflat l)[0 * 4 + j]? = some v
    rw [Nat.zero_mul, Nat.zero_add, List.getElem?_append_left hj, hv]
  | y :: l, k + 1, x, j, v, h, hv => by
    have ih := sflat_at (l := l) (k := k) (by simpa using h) hv
    show (y.vals.toList ++ sflat l)[(k + 1) * 4 + j]? = some v
    rw [List.getElem?_append_right (by rw [svals_len]; omega), svals_len, show (k + 1) * 4 + j - 4 = k * 4 + j by omega, ih]
theorem sflat_of {l : List Std} {i : Nat} {v : Value} (h : (sflat l)[i]? = some v) : ∃ x, l[i / 4]? = some x ∧ x.vals.toList[i % 4]? = some v := by
  have hi := (List.getElem?_eq_some_iff.1 h).1
  rw [sflat_len] at hi
  have hk : i / 4 < l.length := by omega
  refine ⟨l[i / 4], List.getElem?_eq_getElem hk, ?_⟩
  have hj : i % 4 < (l[i / 4]).vals.toList.length := by rw [svals_len]; omega
  have h2 := sflat_at (List.getElem?_eq_getElem hk) (List.getElem?_eq_getElem hj)
  rw [show i / 4 * 4 + i % 4 = i by omega, h] at h2
  rw [List.getElem?_eq_getElem hj, h2]

/-- A standing lies from an address on. -/
def Std.At (w : World) (a : Addr) (s : Std) : Prop := ∀ j v, s.vals.toList[j]? = some v → w.cell? (a.add j) = some v
/-- One of a list. -/
theorem std_row {w : World} {B : Nat} {A : Option Addr} {l : List Std} (h : Row w B A (sflat l)) {k : Nat} {s : Std} (hs : l[k]? = some s) : ∃ a, A = some a ∧ a.block < B ∧ Std.At w (a.add (k * 4)) s := by
  obtain ⟨a, hA, hb, _⟩ := h (k * 4 + 0) (.int .u64 (s.bal : Int)) (sflat_at hs rfl)
  refine ⟨a, hA, hb, fun j v hv => ?_⟩
  obtain ⟨a', hA', _, hc⟩ := h (k * 4 + j) v (sflat_at hs hv)
  rw [hA] at hA'
  cases hA'
  rw [Addr.add_add]
  exact hc
/-- The streak, the effective balance of one of a list. -/
theorem Std.At.eff {w : World} {a : Addr} {s : Std} (h : Std.At w a s) : w.cell? (a.add 1) = some (.int .u64 (s.eff : Int)) := h 1 _ rfl
theorem Std.At.streak {w : World} {a : Addr} {s : Std} (h : Std.At w a s) : w.cell? (a.add 3) = some (.int .i64 s.streak) := h 3 _ rfl

section
variable {ops : Array Oper} {rest : List Oper} {o : Oper} {a : Act} {w : World} {Q : Exit → Act → World → Prop}
theorem run_std_at (T : TypeId) (hi : (Try.prog.info? T).map (·.size) = some 4) {fs : Array Field} (hu : Try.prog.underlying T = some (.struct fs)) (ad : Addr) (s : Std) (hD : Std.At w ad s) : (loadVar T ad).run Try.prog w = .ok (.agg s.vals) w := by
  have hl : (loadCells ad s.vals.toList.length).run Try.prog w = .ok s.vals.toList.toArray w := run_loadCells_list (P := Try.prog) w ad s.vals.toList hD
  rw [Array.toArray_toList, svals_len] at hl
  cases hq : Try.prog.info? T with
  | none => simp [hq] at hi
  | some i =>
    have hs : i.size = 4 := by simpa [hq] using hi
    have hagg : (isAgg T).run Try.prog w = .ok true w := by
      unfold isAgg
      rw [Sem.run_bind, run_underlying hu w]
      rfl
    simp [loadVar, Sem.run_bind, hagg, sizeOf, typeInfo, hq, hs, hl]
/-- A whole standing out of the midst of a list. -/
theorem load_std_at (x : Operand) (ho : o.op = .load 36 x) (hgd : Region.wanted o (yielded ops a.tmps) = true) (ad : Addr) (s : Std) (hx : a.eval x = .pointer (some ad)) (hD : Std.At w ad s)
    (h : wpList Try.prog ops Q rest (a.put o.dst (.agg s.vals)) w) : wpList Try.prog ops Q (o :: rest) a w :=
  wpList_step fun K hK => by
    rw [if_pos hgd]
    have hr := run_std_at 36 std_size Try.underlying36 ad s hD
    unfold Oper.wp execOp
    simp only [ho, hx, Instr.loadAt, Instr.sureAddr, Sem.run_bind, Sem.run_pure, Result.andThen_ok, hr]
    exact hK _ _ h
theorem load_rst_at (x : Operand) (ho : o.op = .load 37 x) (hgd : Region.wanted o (yielded ops a.tmps) = true) (ad : Addr) (s : Std) (hx : a.eval x = .pointer (some ad)) (hD : Std.At w ad s)
    (h : wpList Try.prog ops Q rest (a.put o.dst (.agg s.vals)) w) : wpList Try.prog ops Q (o :: rest) a w :=
  wpList_step fun K hK => by
    rw [if_pos hgd]
    have hr := run_std_at 37 rst_size Try.underlying37 ad s hD
    unfold Oper.wp execOp
    simp only [ho, hx, Instr.loadAt, Instr.sureAddr, Sem.run_bind, Sem.run_pure, Result.andThen_ok, hr]
    exact hK _ _ h
end

section
variable {H : Type} {enc : TypeId × Value → H} {w : World} {base : Nat} {held : Bool}
theorem std_open_fields : ∃ f0 f1 f2 f3 : Field, Try.prog.underlying 36 = some (.struct #[f0, f1, f2, f3]) ∧ oneCellFields Try.prog #[f0, f1, f2, f3] = true ∧ f0.type = 22 ∧ f1.type = 22 ∧ f2.type = 22 ∧ f3.type = 3 := ⟨_, _, _, _, Try.underlying36, by kernel_rfl, rfl, rfl, rfl, rfl⟩
theorem std_cells : Try.prog.cellsOf 36 = 4 := by kernel_rfl
theorem open_stds {A : Option Addr} {n c : Nat} {d : DataW H} {p : List MemPlace}
    (h : DataW.Trod enc Try.prog w base (fun _ => true) held 25 (.slice A n c) d p) : ∃ l : List Std, n = l.length ∧ (∀ s ∈ l, s.Fits) ∧ l.length ≤ c ∧ c ≤ maxLen ∧ Row w w.heap.size A (sflat l) := by
  obtain ⟨fuel, hf⟩ := h
  obtain ⟨f0, f1, f2, f3, hfs, hone, t0, t1, t2, t3⟩ := std_open_fields
  rcases open_slice Try.underlying25 hf with ⟨hcs, _⟩ | ⟨a, len, cap, m, n', D, Pl, hcs, hb, hl, hm, hmm, hx, hi⟩
  · simp [Value.cells] at hcs
    obtain ⟨rfl, rfl, rfl⟩ := hcs
    exact ⟨[], rfl, by simp, Nat.le_refl _, Nat.zero_le _, Row.nil _ _ _⟩
  · simp [Value.cells] at hcs
    obtain ⟨rfl, rfl, rfl⟩ := hcs
    simp only [if_true] at hmm
    rw [std_cells] at hi
    have hone4 : ∀ i, i < n → ∃ s : Std, s.Fits ∧ a.block < w.heap.size ∧ Std.At w (a.add (i * 4)) s := by
      intro i hin
      obtain ⟨cs, hc, ht⟩ := hi i (by omega)
      obtain ⟨_, hcl, hat⟩ := World.cells?_some hc
      obtain ⟨ys, n2, hn2, hy, hlen, hyl, hfd⟩ := DataW.trod_struct hfs ht
      have hfield : ∀ (j : Nat) (f : Field), #[f0, f1, f2, f3][j]? = some f → ∃ y, DataW.trod enc Try.prog w base (fun _ => true) held n2 f.type [cs.getD j undef] = some y ∧ w.cell? ((a.add (i * 4)).add j) = some (cs.getD j undef) := by
        intro j f hj
        obtain ⟨ho, hk⟩ := hone_of hone j f hj
        have hjl : j < 4 := (Array.getElem?_eq_some_iff.1 hj).1
        have hyl4 : ys.length = 4 := hyl
        have hjc : j < cs.length := by omega
        have h1 := hfd j f hj
        rw [ho, hk, List.drop_eq_getElem_cons hjc] at h1
        have e : cs.getD j undef = cs[j] := by simp [List.getD, hjc]
        rw [e]
        refine ⟨ys[j]'(by omega), ?_, ?_⟩
        · rw [List.getElem?_eq_getElem (by omega)] at h1
          exact h1
        · have h2 := hat j (by omega)
          rw [List.getElem?_eq_getElem hjc] at h2
          exact h2
      obtain ⟨y0, g0, e0⟩ := hfield 0 f0 rfl
      obtain ⟨y1, g1, e1⟩ := hfield 1 f1 rfl
      obtain ⟨y2, g2, e2⟩ := hfield 2 f2 rfl
      obtain ⟨y3, g3, e3⟩ := hfield 3 f3 rfl
      rw [t0] at g0; rw [t1] at g1; rw [t2] at g2; rw [t3] at g3
      obtain ⟨z0, q0, _, u0⟩ := DataW.trod_int Try.underlying22 g0
      obtain ⟨z1, q1, _, u1⟩ := DataW.trod_int Try.underlying22 g1
      obtain ⟨z2, q2, _, u2⟩ := DataW.trod_int Try.underlying22 g2
      obtain ⟨z3, q3, _, u3⟩ := DataW.trod_int Try.underlying3 g3
      simp only [List.cons.injEq, and_true] at q0 q1 q2 q3
      rw [q0] at e0; rw [q1] at e1; rw [q2] at e2; rw [q3] at e3
      have b0 := u64_fits u0
      have b1 := u64_fits u1
      have b2 := u64_fits u2
      have b3 := i64_bounds u3
      have hbl := World.block_lt_of_cell? w _ e0
      rw [addr_block, addr_block] at hbl
      refine ⟨⟨z0.toNat, z1.toNat, z2.toNat, z3⟩, ⟨by show z0.toNat < _; omega, by show z1.toNat < _; omega, by show z2.toNat < _; omega, b3.1, b3.2⟩, hbl, fun j v hv => ?_⟩
      have hj : j < 4 := (List.getElem?_eq_some_iff.1 hv).1
      simp only [Std.vals, Int.toNat_of_nonneg b0.1, Int.toNat_of_nonneg b1.1, Int.toNat_of_nonneg b2.1] at hv
      match j, hj with
      | 0, _ => exact e0.trans hv
      | 1, _ => exact e1.trans hv
      | 2, _ => exact e2.trans hv
      | 3, _ => exact e3.trans hv
    have hch := fun i : Fin n => hone4 i.1 i.2
    refine ⟨List.ofFn fun i : Fin n => (hch i).choose, by simp, ?_, by simpa using hl, hm, fun k o ho => ?_⟩
    · intro x hx
      obtain ⟨i, rfl⟩ := (List.mem_ofFn).1 hx
      exact (hch i).choose_spec.1
    · obtain ⟨x, hx, hv⟩ := sflat_of ho
      rw [List.getElem?_ofFn] at hx
      split at hx
      · rename_i hk
        cases hx
        have hs := (hch ⟨k / 4, hk⟩).choose_spec
        have hc := hs.2.2 _ _ hv
        rw [Addr.add_add, show k / 4 * 4 + k % 4 = k by omega] at hc
        exact ⟨a, rfl, hs.2.1, hc⟩
      · cases hx
end
end Go.Proofs.Ytijenmkhbkbnfaa
