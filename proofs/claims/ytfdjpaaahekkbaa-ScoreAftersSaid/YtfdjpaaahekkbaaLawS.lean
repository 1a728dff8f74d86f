/- Standings, ticks and lists of ticks that come in with a law's arguments. -/
import Derived.Test.YtfdjpaaahekkbaaScoA
import Derived.Test.YtfdjpaaahekkbaaLawP
namespace Go.Proofs.Ytfdjpaaahekkbaa
open Go.ChangeShapes Go.WideShapes Go.ChangeAt Go.RowKit Go.Deep
set_option linter.unusedVariables false

section
variable {H : Type} {enc : TypeId × Value → H} {w : World} {base : Nat} {held : Bool}
theorem open_std {r : Reach} {b0 : Nat} {v : Value} {d : DataW H} {pl : List MemPlace}
    (hv : Value.okWide Try.prog w r b0 26 v) (h : DataW.Trod enc Try.prog w base (fun _ => true) held 26 v d pl) : ∃ s : Std, v = .agg s.vals ∧ s.Fits := by
  obtain ⟨x0, x1, x2, x3, y0, y1, y2, y3, m, rfl, rfl, rfl, h0, h1, h2, h3⟩ := Joins.open_agg4 Try.underlying26 (by kernel_rfl) (by kernel_rfl) hv h
  obtain ⟨a0, e0, rfl, u0⟩ := DataW.trod_int Try.underlying22 h0
  obtain ⟨a1, e1, rfl, u1⟩ := DataW.trod_int Try.underlying22 h1
  obtain ⟨a2, e2, rfl, u2⟩ := DataW.trod_int Try.underlying22 h2
  obtain ⟨a3, e3, rfl, u3⟩ := DataW.trod_int Try.underlying3 h3
  simp only [List.cons.injEq, and_true] at e0 e1 e2 e3
  have b0 := u64_fits u0
  have b1 := u64_fits u1
  have b2 := u64_fits u2
  have b3 := i64_bounds u3
  exact ⟨⟨a0.toNat, a1.toNat, a2.toNat, a3⟩, by simp only [Std.vals]; rw [Int.toNat_of_nonneg b0.1, Int.toNat_of_nonneg b1.1, Int.toNat_of_nonneg b2.1, e0, e1, e2, e3], by show a0.toNat < _; omega, by show a1.toNat < _; omega, by show a2.toNat < _; omega, b3.1, b3.2⟩
theorem open_tick {r : Reach} {b0 : Nat} {v : Value} {d : DataW H} {pl : List MemPlace}
    (hv : Value.okWide Try.prog w r b0 28 v) (h : DataW.Trod enc Try.prog w base (fun _ => true) held 28 v d pl) : ∃ (b : Bool) (m : Int), v = .agg #[.bool b, .int .i64 m] := by
  obtain ⟨x0, x1, y0, y1, m, rfl, rfl, rfl, h0, h1⟩ := Joins.open_agg2 Try.underlying28 (by kernel_rfl) (by kernel_rfl) hv h
  obtain ⟨b, e0, _⟩ := DataW.trod_bool Try.underlying4 h0
  obtain ⟨z, e1, rfl, u1⟩ := DataW.trod_int Try.underlying3 h1
  simp only [List.cons.injEq, and_true] at e0 e1
  exact ⟨b, z, by rw [e0, e1]⟩

/-- Ticks lie one behind the other from an address on, in a block below B. -/
def TicksIn (w : World) (B : Nat) (A : Option Addr) (l : List (Bool × Int)) : Prop :=
  ∀ k x, l[k]? = some x → ∃ a, A = some a ∧ a.block < B ∧ w.cell? (a.add (k * 2)) = some (.bool x.1) ∧ w.cell? (a.add (k * 2 + 1)) = some (.int .i64 x.2)
theorem TicksIn.below {w w' : World} {B : Nat} {A : Option Addr} {l : List (Bool × Int)} (h : TicksIn w B A l) (hb : Below B w w') : TicksIn w' B A l := fun k x hx => by
  obtain ⟨a, hA, hB, c0, c1⟩ := h k x hx
  exact ⟨a, hA, hB, (hb.cell (by rw [addr_block]; exact hB)).trans c0, (hb.cell (by rw [addr_block]; exact hB)).trans c1⟩
theorem tick_fields : ∃ f0 f1 : Field, Try.prog.underlying 28 = some (.struct #[f0, f1]) ∧ oneCellFields Try.prog #[f0, f1] = true ∧ f0.type = 4 ∧ f1.type = 3 := ⟨_, _, Try.underlying28, by kernel_rfl, rfl, rfl⟩
theorem tick_cells : Try.prog.cellsOf 28 = 2 := by kernel_rfl
theorem open_ticks {A : Option Addr} {n c : Nat} {d : DataW H} {p : List MemPlace}
    (h : DataW.Trod enc Try.prog w base (fun _ => true) held 42 (.slice A n c) d p) : ∃ l : List (Bool × Int), n = l.length ∧ l.length ≤ c ∧ c ≤ maxLen ∧ TicksIn w w.heap.size A l := by
  obtain ⟨fuel, hf⟩ := h
  obtain ⟨f0, f1, hfs, hone, t0, t1⟩ := tick_fields
  rcases open_slice Try.underlying42 hf with ⟨hcs, _⟩ | ⟨a, len, cap, m, n', D, Pl, hcs, hb, hl, hm, hmm, hx, hi⟩
  · simp [Value.cells] at hcs
    obtain ⟨rfl, rfl, rfl⟩ := hcs
    exact ⟨[], rfl, Nat.le_refl _, Nat.zero_le _, fun k o ho => by simp at ho⟩
  · simp [Value.cells] at hcs
    obtain ⟨rfl, rfl, rfl⟩ := hcs
    simp only [if_true] at hmm
    rw [tick_cells] at hi
    have hone2 : ∀ i, i < n → ∃ x : Bool × Int, a.block < w.heap.size ∧ w.cell? (a.add (i * 2)) = some (.bool x.1) ∧ w.cell? (a.add (i * 2 + 1)) = some (.int .i64 x.2) := by
      intro i hin
      obtain ⟨cs, hc, ht⟩ := hi i (by omega)
      obtain ⟨_, hcl, hat⟩ := World.cells?_some hc
      obtain ⟨ys, n2, hn2, hy, hlen, hyl, hfd⟩ := DataW.trod_struct hfs ht
      have hfield : ∀ (j : Nat) (f : Field), #[f0, f1][j]? = some f → ∃ y, DataW.trod enc Try.prog w base (fun _ => true) held n2 f.type [cs.getD j undef] = some y ∧ w.cell? (a.add (i * 2 + j)) = some (cs.getD j undef) := by
        intro j f hj
        obtain ⟨ho, hk⟩ := hone_of hone j f hj
        have hjl : j < 2 := (Array.getElem?_eq_some_iff.1 hj).1
        have hyl4 : ys.length = 2 := hyl
        have hjc : j < cs.length := by omega
        have h1 := hfd j f hj
        rw [ho, hk, List.drop_eq_getElem_cons hjc] at h1
        have e : cs.getD j undef = cs[j] := by simp [List.getD, hjc]
        rw [e]
        refine ⟨ys[j]'(by omega), ?_, ?_⟩
        · rw [List.getElem?_eq_getElem (by omega)] at h1
          exact h1
        · have h2 := hat j (by omega)
          rw [List.getElem?_eq_getElem hjc, Addr.add_add] at h2
          exact h2
      obtain ⟨y0, g0, e0⟩ := hfield 0 f0 rfl
      obtain ⟨y1, g1, e1⟩ := hfield 1 f1 rfl
      rw [t0] at g0; rw [t1] at g1
      obtain ⟨z0, q0, _⟩ := DataW.trod_bool Try.underlying4 g0
      obtain ⟨z1, q1, _, u1⟩ := DataW.trod_int Try.underlying3 g1
      simp only [List.cons.injEq, and_true] at q0 q1
      rw [q0] at e0; rw [q1] at e1
      have hbl := World.block_lt_of_cell? w _ e0
      rw [addr_block] at hbl
      exact ⟨(z0, z1), hbl, e0, e1⟩
    have hch := fun i : Fin n => hone2 i.1 i.2
    refine ⟨List.ofFn fun i : Fin n => (hch i).choose, by simp, by simpa using hl, hm, fun k o ho => ?_⟩
    rw [List.getElem?_ofFn] at ho
    split at ho
    · rename_i hk
      cases ho
      have hs := (hch ⟨k, hk⟩).choose_spec
      exact ⟨a, rfl, hs.1, hs.2.1, hs.2.2⟩
    · cases ho
end
end Go.Proofs.Ytfdjpaaahekkbaa
