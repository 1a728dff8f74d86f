/- Bytes that come in with a law's arguments. -/
import Derived.Test.YtmagjfjmaojemaaLaw
import Derived.Test.YtmagjfjmaojemaaCoderW
import Derived.Deep.Slices
import Derived.Deep.Fields
namespace Go.Proofs.Ytmagjfjmaojemaa
open Go.ChangeShapes Go.WideShapes Go.ChangeAt Go.RowKit Go.Deep
set_option linter.unusedVariables false

theorem i64_fits {a : Int} (h : (Lit.int .i64 a).wf = true) : -9223372036854775808 ≤ a ∧ a ≤ 9223372036854775807 := by
  simp only [Lit.wf, Bool.and_eq_true, decide_eq_true_eq] at h
  have e0 : IntKind.i64.min = -9223372036854775808 := by decide
  have e1 : IntKind.i64.max = 9223372036854775807 := by decide
  rw [e0, e1] at h
  exact h

section
variable {H : Type} {enc : TypeId × Value → H} {P : Program}
theorem u8_fits {a : Int} (h : (Lit.int .u8 a).wf = true) : 0 ≤ a ∧ a ≤ 255 := by
  simp only [Lit.wf, Bool.and_eq_true, decide_eq_true_eq] at h
  have e0 : IntKind.u8.min = 0 := by decide
  have e1 : IntKind.u8.max = 255 := by decide
  rw [e0, e1] at h
  exact h

/-- A list of bytes that comes in: its numbers, and where they lie. -/
theorem open_u8s {w : World} {base : Nat} {held : Bool} {t e : TypeId} {A : Option Addr} {n c : Nat} {d : DataW H} {p : List MemPlace} (ht : P.underlying t = some (.slice e)) (he : P.underlying e = some (.int .u8)) (hC : P.cellsOf e = 1)
    (h : DataW.Trod enc P w base (fun _ => true) held t (.slice A n c) d p) :
    ∃ ns : List Nat, n = ns.length ∧ (∀ x ∈ ns, x < 256) ∧ ns.length ≤ c ∧ c ≤ maxLen ∧ Row w w.heap.size A (ns.map fun (x : Nat) => Value.int .u8 (x : Int)) ∧ (A = none → c = 0) := by
  obtain ⟨fuel, hf⟩ := h
  rcases open_ints ht he hC hf with ⟨hcs, hx⟩ | ⟨a, len, cap, zs, hcs, _, hl, hm, hz, hx, hcell, hwz⟩
  · simp [Value.cells] at hcs
    obtain ⟨rfl, rfl, rfl⟩ := hcs
    exact ⟨[], rfl, by simp, Nat.le_refl _, Nat.zero_le _, Row.nil _ _ _, fun _ => rfl⟩
  · simp [Value.cells] at hcs
    obtain ⟨rfl, rfl, rfl⟩ := hcs
    simp only [if_true] at hz
    have hfit : ∀ z ∈ zs, ∃ x : Nat, z = (x : Int) ∧ x < 256 := fun z hz' => by
      have := u8_fits (hwz z hz')
      exact ⟨z.toNat, by omega, by omega⟩
    refine ⟨(zs.take n).map Int.toNat, by simp [hz]; omega, ?_, by simp [hz]; omega, hm, ?_, fun e => by cases e⟩
    · intro x hx'
      obtain ⟨z, hz', rfl⟩ := List.mem_map.1 hx'
      obtain ⟨y, rfl, hy⟩ := hfit z (List.mem_of_mem_take hz')
      simpa using hy
    · intro k v hv
      simp only [List.map_map, List.getElem?_map, Option.map_eq_some_iff] at hv
      obtain ⟨z, hz', rfl⟩ := hv
      rw [List.getElem?_take] at hz'
      by_cases hk : k < n
      · rw [if_pos hk] at hz'
        have hkl : k < zs.length := by omega
        have hc := hcell k hkl
        obtain ⟨y, rfl, hy⟩ := hfit z (List.mem_of_getElem? hz')
        have hg : zs.getD k 0 = (y : Int) := by simp [List.getD, hz']
        rw [hg] at hc
        refine ⟨a, rfl, ?_, by simpa using hc⟩
        have := World.block_lt_of_cell? w _ hc
        rwa [addr_block] at this
      · rw [if_neg hk] at hz'; cases hz'

/-- Bytes that come in, in a cell: which they are, and where they lie. -/
theorem open_u8cell {w : World} {base fuel : Nat} {held : Bool} {t e : TypeId} {v : Value} {x : DataW H × List MemPlace} (ht : P.underlying t = some (.slice e)) (he : P.underlying e = some (.int .u8)) (hC : P.cellsOf e = 1)
    (hf : DataW.trod enc P w base (fun _ => true) held fuel t [v] = some x) :
    ∃ (A : Option Addr) (ns : List Nat) (c : Nat), v = .slice A ns.length c ∧ (∀ x ∈ ns, x < 256) ∧ ns.length ≤ c ∧ c ≤ maxLen ∧ Row w w.heap.size A (ns.map fun (x : Nat) => Value.int .u8 (x : Int)) ∧ (A = none → c = 0) := by
  rcases open_ints ht he hC hf with ⟨hcs, hx⟩ | ⟨a, len, cap, zs, hcs, _, hl, hm, hz, hx, hcell, hwz⟩
  · simp at hcs
    subst hcs
    exact ⟨none, [], 0, rfl, by simp, Nat.le_refl _, Nat.zero_le _, Row.nil _ _ _, fun _ => rfl⟩
  · simp at hcs
    subst hcs
    have hT : DataW.Trod enc P w base (fun _ => true) held t (.slice (some a) len cap) x.1 x.2 := ⟨fuel, by simpa [Value.cells] using hf⟩
    obtain ⟨ns, hn, h1, h2, h3, h4, h5⟩ := open_u8s ht he hC hT
    subst hn
    exact ⟨some a, ns, cap, rfl, h1, h2, h3, h4, h5⟩
end

/-- One thing that is written, or asked for. -/
structure OpV where
  kd : Int
  i : Int
  n : Nat
  row : Option Addr
  cap : Nat
  bs : List Nat

/-- What holds of one that came in. -/
structure OpIn (w : World) (B : Nat) (o : OpV) : Prop where
  lies : Lies w (· < B) o.row o.bs
  lo : -9223372036854775808 ≤ o.i
  hi : o.i ≤ 9223372036854775807
  word : o.n < 18446744073709551616
  bytes : ∀ x ∈ o.bs, x < 256
  room : o.bs.length ≤ o.cap
  most : o.cap ≤ maxLen
  none : o.row = none → o.cap = 0

/-- A list of them, from an address on, in a block below B. -/
def OpsIn (w : World) (B : Nat) (A : Option Addr) (ops : List OpV) : Prop :=
  ∀ k o, ops[k]? = some o → OpIn w B o ∧ ∃ a, A = some a ∧ a.block < B ∧ w.cell? (a.add (k * 4)) = some (.int .i64 o.kd) ∧ w.cell? (a.add (k * 4 + 1)) = some (.int .i64 o.i) ∧ w.cell? (a.add (k * 4 + 2)) = some (.int .u64 (o.n : Int)) ∧ w.cell? (a.add (k * 4 + 3)) = some (.slice o.row o.bs.length o.cap)

theorem add_next (x : Addr) (j : Nat) (hj : j ≠ 0) : x.add j = ⟨x.block, x.off + j, none⟩ := by unfold Addr.add; rw [if_neg hj]
/-- One of the list's: its cells as a walk asks for them. -/
theorem OpsIn.at {w : World} {B : Nat} {A : Option Addr} {ops : List OpV} (h : OpsIn w B A ops) {k : Nat} {o : OpV} (hk : ops[k]? = some o) :
    OpIn w B o ∧ ∃ a, A = some a ∧ w.cell? (a.add (k * 4)) = some (.int .i64 o.kd) ∧ w.cell? ⟨(a.add (k * 4)).block, (a.add (k * 4)).off + 1, none⟩ = some (.int .i64 o.i) ∧ w.cell? ⟨(a.add (k * 4)).block, (a.add (k * 4)).off + 2, none⟩ = some (.int .u64 (o.n : Int)) ∧ w.cell? ⟨(a.add (k * 4)).block, (a.add (k * 4)).off + 3, none⟩ = some (.slice o.row o.bs.length o.cap) := by
  obtain ⟨h1, a, hA, hB, c0, c1, c2, c3⟩ := h k o hk
  rw [← Addr.add_add, add_next _ _ (by decide)] at c1 c2 c3
  exact ⟨h1, a, hA, c0, c1, c2, c3⟩

theorem OpIn.below {w w' : World} {B : Nat} {o : OpV} (h : OpIn w B o) (hb : Below B w w') : OpIn w' B o := ⟨h.lies.hold fun p hp => hb.cell hp, h.lo, h.hi, h.word, h.bytes, h.room, h.most, h.none⟩
theorem OpsIn.below {w w' : World} {B : Nat} {A : Option Addr} {ops : List OpV} (h : OpsIn w B A ops) (hb : Below B w w') : OpsIn w' B A ops := fun k o ho => by
  obtain ⟨h1, a, hA, hB, c0, c1, c2, c3⟩ := h k o ho
  exact ⟨h1.below hb, a, hA, hB, (hb.cell (by rw [addr_block]; exact hB)).trans c0, (hb.cell (by rw [addr_block]; exact hB)).trans c1, (hb.cell (by rw [addr_block]; exact hB)).trans c2, (hb.cell (by rw [addr_block]; exact hB)).trans c3⟩

theorem op_fields : ∃ f0 f1 f2 f3 : Field, Try.prog.underlying 39 = some (.struct #[f0, f1, f2, f3]) ∧ oneCellFields Try.prog #[f0, f1, f2, f3] = true ∧ f0.type = 3 ∧ f1.type = 3 ∧ f2.type = 37 ∧ f3.type = 34 := ⟨_, _, _, _, Try.underlying39, by kernel_rfl, rfl, rfl, rfl, rfl⟩
theorem op_size : Try.prog.cellsOf 39 = 4 := by kernel_rfl

/-- A list of ops that comes in. -/
theorem open_ops {H : Type} {enc : TypeId × Value → H} {w : World} {base : Nat} {held : Bool} {A : Option Addr} {n c : Nat} {d : DataW H} {p : List MemPlace}
    (h : DataW.Trod enc Try.prog w base (fun _ => true) held 22 (.slice A n c) d p) : ∃ ops : List OpV, n = ops.length ∧ ops.length ≤ c ∧ c ≤ maxLen ∧ OpsIn w w.heap.size A ops := by
  obtain ⟨fuel, hf⟩ := h
  obtain ⟨f0, f1, f2, f3, hfs, hone, t0, t1, t2, t3⟩ := op_fields
  rcases open_slice Try.underlying22 hf with ⟨hcs, _⟩ | ⟨a, len, cap, m, n', D, Pl, hcs, hb, hl, hm, hmm, hx, hi⟩
  · simp [Value.cells] at hcs
    obtain ⟨rfl, rfl, rfl⟩ := hcs
    exact ⟨[], rfl, Nat.le_refl _, Nat.zero_le _, fun k o ho => by simp at ho⟩
  · simp [Value.cells] at hcs
    obtain ⟨rfl, rfl, rfl⟩ := hcs
    simp only [if_true] at hmm
    rw [op_size] at hi
    have hcl4 : Try.prog.cellsOf 39 = 4 := op_size
    have hone4 : ∀ i, i < n → ∃ o : OpV, OpIn w w.heap.size o ∧ a.block < w.heap.size ∧ w.cell? (a.add (i * 4)) = some (.int .i64 o.kd) ∧ w.cell? (a.add (i * 4 + 1)) = some (.int .i64 o.i) ∧ w.cell? (a.add (i * 4 + 2)) = some (.int .u64 (o.n : Int)) ∧ w.cell? (a.add (i * 4 + 3)) = some (.slice o.row o.bs.length o.cap) := by
      intro i hin
      obtain ⟨cs, hc, ht⟩ := hi i (by omega)
      obtain ⟨_, hcl, hat⟩ := World.cells?_some hc
      obtain ⟨ys, n2, hn2, hy, hlen, hyl, hfd⟩ := DataW.trod_struct hfs ht
      have hfield : ∀ (j : Nat) (f : Field), #[f0, f1, f2, f3][j]? = some f → ∃ y, DataW.trod enc Try.prog w base (fun _ => true) held n2 f.type [cs.getD j undef] = some y ∧ w.cell? (a.add (i * 4 + j)) = some (cs.getD j undef) := by
        intro j f hj
        obtain ⟨ho, hk⟩ := hone_of hone j f hj
        have hjl : j < 4 := (Array.getElem?_eq_some_iff.1 hj).1
        have hyl4 : ys.length = 4 := hyl
        have hjc : j < cs.length := by omega
        have h1 := hfd j f hj
        rw [ho, hk, List.drop_eq_getElem_cons hjc] at h1
        have e : cs.getD j undef = cs[j] := by simp [List.getD, hjc]
        rw [e]
        refine ⟨ys[j]'(by omega), ?_, ?_⟩
        · rw [List.getElem?_eq_getElem (by omega)] at h1
          exact h1
        · have h2 := hat j (by omega)
          rw [List.getElem?_eq_getElem hjc, Addr.add_add] at h2
          exact h2
      obtain ⟨y0, g0, e0⟩ := hfield 0 f0 rfl
      obtain ⟨y1, g1, e1⟩ := hfield 1 f1 rfl
      obtain ⟨y2, g2, e2⟩ := hfield 2 f2 rfl
      obtain ⟨y3, g3, e3⟩ := hfield 3 f3 rfl
      rw [t0] at g0; rw [t1] at g1; rw [t2] at g2; rw [t3] at g3
      obtain ⟨z0, q0, _, u0⟩ := DataW.trod_int Try.underlying3 g0
      obtain ⟨z1, q1, _, u1⟩ := DataW.trod_int Try.underlying3 g1
      obtain ⟨z2, q2, _, u2⟩ := DataW.trod_int Try.underlying37 g2
      obtain ⟨A3, ns, c3, q3, hb3, hc3, hm3, hr3, hA3⟩ := open_u8cell Try.underlying34 Try.underlying5 (by kernel_rfl) g3
      simp only [List.cons.injEq, and_true] at q0 q1 q2
      rw [q0] at e0; rw [q1] at e1; rw [q2] at e2; rw [q3] at e3
      have b1 := i64_fits u1
      have b2 := u64_fits u2
      obtain ⟨N, rfl⟩ := Int.eq_ofNat_of_zero_le b2.1
      have hbl := World.block_lt_of_cell? w _ e0
      rw [addr_block] at hbl
      exact ⟨⟨z0, z1, N, A3, c3, ns⟩, ⟨Lies.ofRow hr3, b1.1, b1.2, by have := b2.2; show N < _; omega, hb3, hc3, hm3, hA3⟩, hbl, e0, e1, e2, e3⟩
    have hall : ∃ ops : List OpV, ops.length = n ∧ ∀ k o, ops[k]? = some o → OpIn w w.heap.size o ∧ ∃ a', some a = some a' ∧ a'.block < w.heap.size ∧ w.cell? (a'.add (k * 4)) = some (.int .i64 o.kd) ∧ w.cell? (a'.add (k * 4 + 1)) = some (.int .i64 o.i) ∧ w.cell? (a'.add (k * 4 + 2)) = some (.int .u64 (o.n : Int)) ∧ w.cell? (a'.add (k * 4 + 3)) = some (.slice o.row o.bs.length o.cap) := by
      have hch := fun i : Fin n => hone4 i.1 i.2
      refine ⟨List.ofFn fun i : Fin n => (hch i).choose, by simp, fun k o ho => ?_⟩
      rw [List.getElem?_ofFn] at ho
      split at ho
      · rename_i hk
        cases ho
        have hs := (hch ⟨k, hk⟩).choose_spec
        exact ⟨hs.1, a, rfl, hs.2.1, hs.2.2.1, hs.2.2.2.1, hs.2.2.2.2.1, hs.2.2.2.2.2⟩
      · cases ho
    obtain ⟨ops, h1, h2⟩ := hall
    exact ⟨ops, h1.symm, by omega, hm, h2⟩
end Go.Proofs.Ytmagjfjmaojemaa
