/- Bytes that come in with a law's arguments. · Lists of whole numbers, and of pairs of them, that come in with a law's arguments; a pair out of a list, into a block. -/
import Derived.Test.YtcggcnegagogkaaLaw
import Derived.Test.YtcggcnegagogkaaBytes
import Derived.Deep.Slices
import Derived.Deep.Fields
namespace Go.Proofs.Ytcggcnegagogkaa
open Go.ChangeShapes Go.WideShapes Go.ChangeAt Go.RowKit Go.Deep
set_option linter.unusedVariables false
set_option linter.unusedSimpArgs false

theorem i64_fits {a : Int} (h : (Lit.int .i64 a).wf = true) : -9223372036854775808 ≤ a ∧ a ≤ 9223372036854775807 := by
  simp only [Lit.wf, Bool.and_eq_true, decide_eq_true_eq] at h
  have e0 : IntKind.i64.min = -9223372036854775808 := by decide
  have e1 : IntKind.i64.max = 9223372036854775807 := by decide
  rw [e0, e1] at h
  exact h

section
variable {H : Type} {enc : TypeId × Value → H} {P : Program}
theorem u8_fits {a : Int} (h : (Lit.int .u8 a).wf = true) : 0 ≤ a ∧ a ≤ 255 := by
  simp only [Lit.wf, Bool.and_eq_true, decide_eq_true_eq] at h
  have e0 : IntKind.u8.min = 0 := by decide
  have e1 : IntKind.u8.max = 255 := by decide
  rw [e0, e1] at h
  exact h

/-- A list of bytes that comes in: its numbers, and where they lie. -/
theorem open_u8s {w : World} {base : Nat} {held : Bool} {t e : TypeId} {A : Option Addr} {n c : Nat} {d : DataW H} {p : List MemPlace} (ht : P.underlying t = some (.slice e)) (he : P.underlying e = some (.int .u8)) (hC : P.cellsOf e = 1)
    (h : DataW.Trod enc P w base (fun _ => true) held t (.slice A n c) d p) :
    ∃ ns : List Nat, n = ns.length ∧ (∀ x ∈ ns, x < 256) ∧ ns.length ≤ c ∧ c ≤ maxLen ∧ Row w w.heap.size A (ns.map fun (x : Nat) => Value.int .u8 (x : Int)) ∧ (A = none → c = 0) := by
  obtain ⟨fuel, hf⟩ := h
  rcases open_ints ht he hC hf with ⟨hcs, hx⟩ | ⟨a, len, cap, zs, hcs, _, hl, hm, hz, hx, hcell, hwz⟩
  · simp [Value.cells] at hcs
    obtain ⟨rfl, rfl, rfl⟩ := hcs
    exact ⟨[], rfl, by simp, Nat.le_refl _, Nat.zero_le _, Row.nil _ _ _, fun _ => rfl⟩
  · simp [Value.cells] at hcs
    obtain ⟨rfl, rfl, rfl⟩ := hcs
    simp only [if_true] at hz
    have hfit : ∀ z ∈ zs, ∃ x : Nat, z = (x : Int) ∧ x < 256 := fun z hz' => by
      have := u8_fits (hwz z hz')
      exact ⟨z.toNat, by omega, by omega⟩
    refine ⟨(zs.take n).map Int.toNat, by simp [hz]; omega, ?_, by simp [hz]; omega, hm, ?_, fun e => by cases e⟩
    · intro x hx'
      obtain ⟨z, hz', rfl⟩ := List.mem_map.1 hx'
      obtain ⟨y, rfl, hy⟩ := hfit z (List.mem_of_mem_take hz')
      simpa using hy
    · intro k v hv
      simp only [List.map_map, List.getElem?_map, Option.map_eq_some_iff] at hv
      obtain ⟨z, hz', rfl⟩ := hv
      rw [List.getElem?_take] at hz'
      by_cases hk : k < n
      · rw [if_pos hk] at hz'
        have hkl : k < zs.length := by omega
        have hc := hcell k hkl
        obtain ⟨y, rfl, hy⟩ := hfit z (List.mem_of_getElem? hz')
        have hg : zs.getD k 0 = (y : Int) := by simp [List.getD, hz']
        rw [hg] at hc
        refine ⟨a, rfl, ?_, by simpa using hc⟩
        have := World.block_lt_of_cell? w _ hc
        rwa [addr_block] at this
      · rw [if_neg hk] at hz'; cases hz'

/-- Bytes that come in, in a cell: which they are, and where they lie. -/
theorem open_u8cell {w : World} {base fuel : Nat} {held : Bool} {t e : TypeId} {v : Value} {x : DataW H × List MemPlace} (ht : P.underlying t = some (.slice e)) (he : P.underlying e = some (.int .u8)) (hC : P.cellsOf e = 1)
    (hf : DataW.trod enc P w base (fun _ => true) held fuel t [v] = some x) :
    ∃ (A : Option Addr) (ns : List Nat) (c : Nat), v = .slice A ns.length c ∧ (∀ x ∈ ns, x < 256) ∧ ns.length ≤ c ∧ c ≤ maxLen ∧ Row w w.heap.size A (ns.map fun (x : Nat) => Value.int .u8 (x : Int)) ∧ (A = none → c = 0) := by
  rcases open_ints ht he hC hf with ⟨hcs, hx⟩ | ⟨a, len, cap, zs, hcs, _, hl, hm, hz, hx, hcell, hwz⟩
  · simp at hcs
    subst hcs
    exact ⟨none, [], 0, rfl, by simp, Nat.le_refl _, Nat.zero_le _, Row.nil _ _ _, fun _ => rfl⟩
  · simp at hcs
    subst hcs
    have hT : DataW.Trod enc P w base (fun _ => true) held t (.slice (some a) len cap) x.1 x.2 := ⟨fuel, by simpa [Value.cells] using hf⟩
    obtain ⟨ns, hn, h1, h2, h3, h4, h5⟩ := open_u8s ht he hC hT
    subst hn
    exact ⟨some a, ns, cap, rfl, h1, h2, h3, h4, h5⟩
end

end Go.Proofs.Ytcggcnegagogkaa
namespace Go.Proofs.Ytcggcnegagogkaa
open Go.ChangeShapes Go.WideShapes Go.ChangeAt Go.RowKit Go.Deep
set_option linter.unusedVariables false
set_option linter.unusedSimpArgs false

section
variable {H : Type} {enc : TypeId × Value → H} {P : Program} {w : World} {base : Nat} {held : Bool}
theorem open_i64s {t e : TypeId} {A : Option Addr} {n c : Nat} {d : DataW H} {p : List MemPlace} (ht : P.underlying t = some (.slice e)) (he : P.underlying e = some (.int .i64)) (hC : P.cellsOf e = 1)
    (h : DataW.Trod enc P w base (fun _ => true) held t (.slice A n c) d p) :
    ∃ l : List Int, n = l.length ∧ (∀ x ∈ l, -9223372036854775808 ≤ x ∧ x ≤ 9223372036854775807) ∧ l.length ≤ c ∧ c ≤ maxLen ∧ (A = none → c = 0) ∧ Row w w.heap.size A (zvals l) := by
  obtain ⟨fuel, hf⟩ := h
  rcases open_ints ht he hC hf with ⟨hcs, hx⟩ | ⟨a, len, cap, zs, hcs, _, hl, hm, hz, hx, hcell, hwz⟩
  · simp [Value.cells] at hcs
    obtain ⟨rfl, rfl, rfl⟩ := hcs
    exact ⟨[], rfl, by simp, Nat.le_refl _, Nat.zero_le _, fun _ => rfl, Row.nil _ _ _⟩
  · simp [Value.cells] at hcs
    obtain ⟨rfl, rfl, rfl⟩ := hcs
    simp only [if_true] at hz
    refine ⟨zs.take n, by simp [hz]; omega, ?_, by simp [hz]; omega, hm, (fun e => by cases e), ?_⟩
    · intro x hx'
      exact i64_fits (hwz x (List.mem_of_mem_take hx'))
    · intro k v hv
      simp only [zvals, List.getElem?_map, Option.map_eq_some_iff] at hv
      obtain ⟨z, hz', rfl⟩ := hv
      rw [List.getElem?_take] at hz'
      by_cases hk : k < n
      · rw [if_pos hk] at hz'
        have hkl : k < zs.length := by omega
        have hc := hcell k hkl
        have hg : zs.getD k 0 = z := by simp [List.getD, hz']
        rw [hg] at hc
        refine ⟨a, rfl, ?_, by simpa using hc⟩
        have := World.block_lt_of_cell? w _ hc
        rwa [addr_block] at this
      · rw [if_neg hk] at hz'; cases hz'

/-- Pairs lie one behind the other from an address on, in a block below B. -/
def PairsIn (w : World) (B : Nat) (A : Option Addr) (l : List (Int × Int)) : Prop :=
  ∀ k x, l[k]? = some x → ∃ a, A = some a ∧ a.block < B ∧ w.cell? (a.add (k * 2)) = some (.int .i64 x.1) ∧ w.cell? (a.add (k * 2 + 1)) = some (.int .i64 x.2)
theorem PairsIn.below {w w' : World} {B : Nat} {A : Option Addr} {l : List (Int × Int)} (h : PairsIn w B A l) (hb : Below B w w') : PairsIn w' B A l := fun k x hx => by
  obtain ⟨a, hA, hB, c0, c1⟩ := h k x hx
  exact ⟨a, hA, hB, (hb.cell (by rw [addr_block]; exact hB)).trans c0, (hb.cell (by rw [addr_block]; exact hB)).trans c1⟩
theorem open_pairs {t e : TypeId} {f0 f1 : Field} {A : Option Addr} {n c : Nat} {d : DataW H} {p : List MemPlace} (ht : P.underlying t = some (.slice e)) (hfs : P.underlying e = some (.struct #[f0, f1])) (hone : oneCellFields P #[f0, f1] = true)
    (t0 : P.underlying f0.type = some (.int .i64)) (t1 : P.underlying f1.type = some (.int .i64)) (hC : P.cellsOf e = 2)
    (h : DataW.Trod enc P w base (fun _ => true) held t (.slice A n c) d p) : ∃ l : List (Int × Int), n = l.length ∧ l.length ≤ c ∧ c ≤ maxLen ∧ PairsIn w w.heap.size A l := by
  obtain ⟨fuel, hf⟩ := h
  rcases open_slice ht hf with ⟨hcs, _⟩ | ⟨a, len, cap, m, n', D, Pl, hcs, hb, hl, hm, hmm, hx, hi⟩
  · simp [Value.cells] at hcs
    obtain ⟨rfl, rfl, rfl⟩ := hcs
    exact ⟨[], rfl, Nat.le_refl _, Nat.zero_le _, fun k o ho => by simp at ho⟩
  · simp [Value.cells] at hcs
    obtain ⟨rfl, rfl, rfl⟩ := hcs
    simp only [if_true] at hmm
    rw [hC] at hi
    have hone2 : ∀ i, i < n → ∃ x : Int × Int, a.block < w.heap.size ∧ w.cell? (a.add (i * 2)) = some (.int .i64 x.1) ∧ w.cell? (a.add (i * 2 + 1)) = some (.int .i64 x.2) := by
      intro i hin
      obtain ⟨cs, hc, ht⟩ := hi i (by omega)
      obtain ⟨_, hcl, hat⟩ := World.cells?_some hc
      obtain ⟨ys, n2, hn2, hy, hlen, hyl, hfd⟩ := DataW.trod_struct hfs ht
      have hfield : ∀ (j : Nat) (f : Field), #[f0, f1][j]? = some f → ∃ y, DataW.trod enc P w base (fun _ => true) held n2 f.type [cs.getD j undef] = some y ∧ w.cell? (a.add (i * 2 + j)) = some (cs.getD j undef) := by
        intro j f hj
        obtain ⟨ho, hk⟩ := hone_of hone j f hj
        have hjl : j < 2 := (Array.getElem?_eq_some_iff.1 hj).1
        have hyl4 : ys.length = 2 := hyl
        have hjc : j < cs.length := by omega
        have h1 := hfd j f hj
        rw [ho, hk, List.drop_eq_getElem_cons hjc] at h1
        have e : cs.getD j undef = cs[j] := by simp [List.getD, hjc]
        rw [e]
        refine ⟨ys[j]'(by omega), ?_, ?_⟩
        · rw [List.getElem?_eq_getElem (by omega)] at h1
          exact h1
        · have h2 := hat j (by omega)
          rw [List.getElem?_eq_getElem hjc, Addr.add_add] at h2
          exact h2
      obtain ⟨y0, g0, e0⟩ := hfield 0 f0 rfl
      obtain ⟨y1, g1, e1⟩ := hfield 1 f1 rfl
      obtain ⟨z0, q0, _, u0⟩ := DataW.trod_int t0 g0
      obtain ⟨z1, q1, _, u1⟩ := DataW.trod_int t1 g1
      simp only [List.cons.injEq, and_true] at q0 q1
      rw [q0] at e0; rw [q1] at e1
      have hbl := World.block_lt_of_cell? w _ e0
      rw [addr_block] at hbl
      exact ⟨(z0, z1), hbl, e0, e1⟩
    have hch := fun i : Fin n => hone2 i.1 i.2
    refine ⟨List.ofFn fun i : Fin n => (hch i).choose, by simp, by simpa using hl, hm, fun k o ho => ?_⟩
    rw [List.getElem?_ofFn] at ho
    split at ho
    · rename_i hk
      cases ho
      have hs := (hch ⟨k, hk⟩).choose_spec
      exact ⟨a, rfl, hs.1, hs.2.1, hs.2.2⟩
    · cases ho
end

def pvals (x : Int × Int) : Array Value := #[.int .i64 x.1, .int .i64 x.2]
/-- In block b lies a pair. -/
def PairAt (w : World) (b : Nat) (x : Int × Int) (T : TypeId) : Prop := w.heap[b]? = some (.cells (pvals x) T (0, 0))
theorem PairAt.lt {w : World} {b : Nat} {x : Int × Int} {T : TypeId} (h : PairAt w b x T) : b < w.heap.size := (Array.getElem?_eq_some_iff.1 h).1
theorem PairAt.up {w w' : World} {b : Nat} {x : Int × Int} {T : TypeId} (h : PairAt w b x T) (hb : Below w.heap.size w w') : PairAt w' b x T := (hb.block b h.lt).trans h
theorem PairAt.far {w w' : World} {b g : Nat} {x : Int × Int} {T : TypeId} (h : PairAt w b x T) (hb : w.grownBy w' (some g)) (hg : b ≠ g) : PairAt w' b x T := (hb.block b h.lt (fun e => hg (Option.some.inj e))).trans h
theorem PairAt.new (w : World) (x : Int × Int) (T : TypeId) {b : Nat} (hb : b = w.heap.size) : PairAt (w.alloc (.cells (pvals x) T)) b x T := by subst hb; exact heap_alloc_new w _
theorem PairAt.c0 {w : World} {b : Nat} {x : Int × Int} {T : TypeId} (h : PairAt w b x T) : w.cell? ⟨b, 0, none⟩ = some (.int .i64 x.1) := cell_of_row w b 0 _ _ _ h
theorem PairAt.c1 {w : World} {b : Nat} {x : Int × Int} {T : TypeId} (h : PairAt w b x T) : w.cell? ⟨b, 1, none⟩ = some (.int .i64 x.2) := cell_of_row w b 1 _ _ _ h
section
variable {P : Program} {ops : Array Oper} {rest : List Oper} {o : Oper} {a : Act} {w : World} {Q : Exit → Act → World → Prop} {T : TypeId} {fs : Array Field}
/-- A pair out of the midst of a list. -/
theorem load_pair_at (hT : (P.info? T).map (·.size) = some 2) (hu : P.underlying T = some (.struct fs)) (x : Operand) (ho : o.op = .load T x) (hgd : Region.wanted o (yielded ops a.tmps) = true) (ad : Addr) (t : Int × Int) (hx : a.eval x = .pointer (some ad)) (h0 : w.cell? ad = some (.int .i64 t.1)) (h1 : w.cell? (ad.add 1) = some (.int .i64 t.2))
    (h : wpList P ops Q rest (a.put o.dst (.agg (pvals t))) w) : wpList P ops Q (o :: rest) a w :=
  wpList_step fun K hK => by
    rw [if_pos hgd]
    have hD : ∀ (j : Nat) v, (pvals t).toList[j]? = some v → w.cell? (ad.add j) = some v := fun j v hj => by
      match j, hj with
      | 0, hj => cases hj; rw [Addr.add_zero']; exact h0
      | 1, hj => cases hj; exact h1
    have hl : (loadCells ad (pvals t).toList.length).run P w = .ok (pvals t).toList.toArray w := run_loadCells_list (P := P) w ad (pvals t).toList hD
    rw [Array.toArray_toList, show (pvals t).toList.length = 2 from rfl] at hl
    cases hq : P.info? T with
    | none => simp [hq] at hT
    | some i =>
      have hs : i.size = 2 := by simpa [hq] using hT
      have hagg : (isAgg T).run P w = .ok true w := by
        unfold isAgg
        rw [Sem.run_bind, run_underlying hu w]
        rfl
      have hr : (loadVar T ad).run P w = .ok (.agg (pvals t)) w := by
        simp [loadVar, Sem.run_bind, hagg, sizeOf, typeInfo, hq, hs, hl]
      unfold Oper.wp execOp
      simp only [ho, hx, Instr.loadAt, Instr.sureAddr, Sem.run_bind, Sem.run_pure, Result.andThen_ok, hr]
      exact hK _ _ h
theorem store_pair (hT : (P.info? T).map (·.size) = some 2) (x y : Operand) (ho : o.op = .store T x y) (hgd : Region.wanted o (yielded ops a.tmps) = true) (g : Nat) (t old : Int × Int) (T' : TypeId) (hx : a.eval x = .pointer (some ⟨g, 0, none⟩)) (hy : a.eval y = .agg (pvals t)) (hS : PairAt w g old T')
    (h : ∀ w', PairAt w' g t T' → Below g w w' → wpList P ops Q rest (a.put o.dst undef) w') : wpList P ops Q (o :: rest) a w :=
  wpList_step fun K hK => by
    rw [if_pos hgd]
    exact wp_store_row T x y ho g (pvals t) hx hy T' (pvals old) hS hT rfl (by simp [pvals, Value.oneCell']) (hK _ _ (h _ (setRow_heap w g _ _ T' (0, 0) hS) (below_setRow (Below.refl _ _) (Nat.le_refl _) _)))
end
end Go.Proofs.Ytcggcnegagogkaa
