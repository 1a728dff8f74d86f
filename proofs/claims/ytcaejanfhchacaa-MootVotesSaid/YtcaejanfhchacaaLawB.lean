/- Bytes, and lists of bytes, in memory; lists of them that a call made. · From a walk to a row: where the call returns true and only memory of its own has turned, the law's row holds. · Bytes that come in with a law's arguments. · Lists of whole numbers, and of pairs of them, that come in with a law's arguments; a pair out of a list, into a block. -/
import Derived.Test.YtcaejanfhchacaaBytes
import Derived.OpenShut
import Derived.ChangeSlices
import Derived.ChangeSame
import Derived.Carry
import Derived.Deep.Slices
import Derived.Deep.Fields
namespace Go.Proofs.Ytcaejanfhchacaa
open Go.RowKit
set_option linter.unusedVariables false
set_option linter.unusedSimpArgs false

/-- Bytes that are handed over among others. -/
structure BV where
  row : Option Addr
  bs : List Nat
  cap : Nat

/-- Bytes, as one value. -/
def BV.val (b : BV) : Value := .slice b.row b.bs.length b.cap
/-- Lists of bytes, as values. -/
def bvs (l : List BV) : List Value := l.map BV.val
theorem bvs_get {l : List BV} {k : Nat} {b : BV} (h : l[k]? = some b) : (bvs l)[k]? = some (.slice b.row b.bs.length b.cap) := by
  unfold bvs
  rw [List.getElem?_map, h]
  rfl
theorem bvs_take (l : List BV) (k : Nat) : (bvs l).take k = bvs (l.take k) := by simp [bvs, List.map_take]
theorem row_kept {w w' : World} {A : Option Addr} {xs : List Value} (h : Row w w.heap.size A xs) (hb : Below w.heap.size w w') : Row w' w'.heap.size A xs := (h.below hb).up hb.size
/-- A list of lists of bytes, in memory that is there. -/
structure Ring (w : World) (A : Option Addr) (l : List BV) : Prop where
  row : Row w w.heap.size A (bvs l)
  each : ∀ b ∈ l, Row w w.heap.size b.row (u8s b.bs) ∧ ∀ x ∈ b.bs, x < 256
theorem Ring.up {w w' : World} {A : Option Addr} {l : List BV} (h : Ring w A l) (hb : Below w.heap.size w w') : Ring w' A l :=
  ⟨row_kept h.row hb, fun b hm => ⟨row_kept (h.each b hm).1 hb, (h.each b hm).2⟩⟩
theorem Ring.nil (w : World) (A : Option Addr) : Ring w A [] := ⟨Row.nil _ _ _, fun b h => by cases h⟩
/-- The k-th of them. -/
theorem Ring.at {w : World} {A : Option Addr} {l : List BV} (h : Ring w A l) {k : Nat} (hk : k < l.length) :
    ∃ a, A = some a ∧ a.block < w.heap.size ∧ w.cell? (a.add k) = some (.slice (l[k]).row (l[k]).bs.length (l[k]).cap) ∧ Row w w.heap.size (l[k]).row (u8s (l[k]).bs) ∧ ∀ x ∈ (l[k]).bs, x < 256 := by
  obtain ⟨a, hA, hb, hc⟩ := h.row k _ (bvs_get (List.getElem?_eq_getElem hk))
  have he := h.each _ (List.getElem_mem hk)
  exact ⟨a, hA, hb, hc, he.1, he.2⟩
theorem Ring.take {w : World} {A : Option Addr} {l : List BV} (h : Ring w A l) (k : Nat) : Ring w A (l.take k) :=
  ⟨by rw [← bvs_take]; exact h.row.take k, fun b hm => h.each b (List.mem_of_mem_take hm)⟩

/-- A list of lists of bytes that was made in blocks from lo on, each of them too. -/
def Made (w : World) (lo : Nat) (v : Value) (xs : List (List Nat)) : Prop :=
  ∃ l : List BV, l.map BV.bs = xs ∧ w.ownsRow lo 38 1 v l.length (bvs l) ∧ ∀ b ∈ l, w.ownsRow lo 5 1 b.val b.bs.length (u8s b.bs)
theorem own_row {w : World} {lo n : Nat} {e : TypeId} {A : Option Addr} {c : Nat} {xs : List Value} (h : w.ownsRow lo e 1 (.slice A n c) n xs) : Row w w.heap.size A xs := by
  obtain ⟨A', c', e, _, _, hr⟩ := Row.of_own h
  cases e
  exact hr
theorem Made.ring {w : World} {lo : Nat} {v : Value} {xs : List (List Nat)} (h : Made w lo v xs) (hx : ∀ x ∈ xs, ∀ y ∈ x, y < 256) :
    ∃ A c l, v = .slice A l.length c ∧ l.map BV.bs = xs ∧ l.length ≤ c ∧ c ≤ maxLen ∧ (A = none → c = 0) ∧ Ring w A l := by
  obtain ⟨l, rfl, ho, he⟩ := h
  obtain ⟨A, c, rfl, hc, hm, hr⟩ := Row.of_own ho
  have hz : A = none → c = 0 := fun e => by
    subst e
    rcases ho.2 with ⟨h1, _⟩ | ⟨g, cap, cur, h1, _⟩
    · simp only [Value.slice.injEq] at h1; exact h1.2.2
    · cases h1
  exact ⟨A, c, l, rfl, rfl, hc, hm, hz, hr, fun b hb => ⟨own_row (he b hb), hx _ (List.mem_map_of_mem hb)⟩⟩
theorem Made.kept {w w' : World} {lo : Nat} {v : Value} {xs : List (List Nat)} (h : Made w lo v xs) (hb : Below w.heap.size w w') : Made w' lo v xs := by
  obtain ⟨l, hl, ho, he⟩ := h
  exact ⟨l, hl, own_kept ho hb, fun b hm => own_kept (he b hm) hb⟩
theorem Made.base {w : World} {lo lo' : Nat} {v : Value} {xs : List (List Nat)} (h : Made w lo v xs) (hb : lo' ≤ lo) : Made w lo' v xs := by
  obtain ⟨l, hl, ho, he⟩ := h
  exact ⟨l, hl, own_base ho hb, fun b hm => own_base (he b hm) hb⟩
theorem Made.nil (w : World) (lo : Nat) : Made w lo (.slice none 0 0) [] := ⟨[], rfl, World.ownsRow_nil _ _ _ _, fun b h => by cases h⟩

/-- An answer: bytes of the call's own, or none, and an error's number. -/
def BytesOf (w0 : World) (r : List Nat × Nat) (e : Ending) (w : World) : Prop :=
  ∃ v, e = .returned (.tuple #[v, .int .i64 (r.2 : Int)]) ∧ w.ownsRow w0.heap.size 5 1 v r.1.length (u8s r.1) ∧ Below w0.heap.size w0 w
theorem BytesOf.none {w0 w : World} (y : Nat) (h : Below w0.heap.size w0 w) : BytesOf w0 ([], y) (.returned (.tuple #[.slice none 0 0, .int .i64 (y : Int)])) w :=
  ⟨_, rfl, World.ownsRow_nil _ _ _ _, h⟩
end Go.Proofs.Ytcaejanfhchacaa
namespace Go.Proofs.Ytcaejanfhchacaa
open Go.ChangeShapes Go.WideShapes Go.ChangeAt Go.RowKit
set_option linter.unusedVariables false

section
variable {H : Type} {enc : TypeId × Value → H} {P : Program}

theorem args_stay (hl : laidOutB P = true) {W W' : World} (hb : Below W.heap.size W W') :
    ∀ (ts : List TypeId) (vs : List Value) (ds : List (DataW H)) (ps : List MemPlace), DataW.TrodAll enc P W 0 (fun _ => true) true ts vs ds ps →
      (∀ t ∈ ts, P.readableRec t = true ∧ t < P.types.size) → (∀ x ∈ ps, x.block < W.heap.size) →
      DataW.TrodAll enc P W' 0 (fun b => decide (b < W.heap.size)) true ts vs ds ps
  | [], [], [], _, h, _, _ => h
  | t :: ts, v :: vs, d :: ds, ps, h, hr, hlt => by
    obtain ⟨p, q, h1, h2, rfl⟩ := h
    refine ⟨p, q, Below.trod hl (hr t List.mem_cons_self).1 (hr t List.mem_cons_self).2 h1 hb (fun x hx => hlt x (List.mem_append_left _ hx)), ?_, rfl⟩
    exact args_stay hl hb ts vs ds q h2 (fun u hu => hr u (List.mem_cons_of_mem _ hu)) (fun x hx => hlt x (List.mem_append_right _ hx))
  | [], [], _ :: _, _, h, _, _ => h.elim
  | [], _ :: _, _, _, h, _, _ => h.elim
  | _ :: _, [], _, _, h, _, _ => h.elim
  | _ :: _, _ :: _, [], _, h, _, _ => h.elim

/-- The row's last step, for a law over plain data. -/
theorem law_post {f : Func} {s : ChangeSpec} {tb : TypeId} {W W' : World} {args : Array Value} {ds gs : List (DataW H)} {before : List MemPlace}
    (hl : laidOutB P = true) (hts : (f.params.toList.all fun t => P.readableRec t && decide (t < P.types.size)) = true) (hv : s.vars = []) (hr : f.resultTypes = #[tb]) (htb : P.underlying tb = some .bool)
    (hs : s.fn H (ds ++ gs) = { results := [.lit (.bool true)], args := ds })
    (hW : DataW.Whole enc P f.params.toList s.vars false W args.toList ds gs before) (hb : Below W.heap.size W W') :
    s.post enc P f false true false false W args (.bool true) W' := by
  have hW0 := hW
  obtain ⟨p, q, hA, hV, rfl, hfz, hnd⟩ := hW
  have hlt : ∀ x ∈ p ++ q, x.block < W.heap.size := fun x hx => hW0.lt x hx
  rw [hv] at hV
  have hq : q = [] ∧ gs = [] := by
    cases gs with
    | nil => exact ⟨hV, rfl⟩
    | cons g gs => exact hV.elim
  obtain ⟨rfl, rfl⟩ := hq
  refine ⟨ds, [], p ++ [], [], p, [], hW0, ?_, ?_, ?_, ?_, fun h => by cases h⟩
  · rw [hs, hr]
    exact trodAll_mk1 (shut_bool htb _)
  · rw [hs]
    exact args_stay hl hb _ _ _ _ hA (fun t ht => by simpa using List.all_eq_true.1 hts t ht) (fun x hx => hlt x (List.mem_append_left _ hx))
  · rw [hs, hv]
    exact rfl
  · exact World.keptBut_mono (fun x hx => ⟨hx, Or.inr (Or.inl (by simpa using hx))⟩) (hb.frame _)

theorem u64_fits {a : Int} (h : (Lit.int .u64 a).wf = true) : 0 ≤ a ∧ a ≤ 18446744073709551615 := by
  simp only [Lit.wf, Bool.and_eq_true, decide_eq_true_eq] at h
  have e0 : IntKind.u64.min = 0 := by decide
  have e1 : IntKind.u64.max = 18446744073709551615 := by decide
  rw [e0, e1] at h
  exact h

end
end Go.Proofs.Ytcaejanfhchacaa
namespace Go.Proofs.Ytcaejanfhchacaa
open Go.ChangeShapes Go.WideShapes Go.ChangeAt Go.RowKit Go.Deep
set_option linter.unusedVariables false
set_option linter.unusedSimpArgs false

section
variable {H : Type} {enc : TypeId × Value → H} {P : Program}
theorem u8_fits {a : Int} (h : (Lit.int .u8 a).wf = true) : 0 ≤ a ∧ a ≤ 255 := by
  simp only [Lit.wf, Bool.and_eq_true, decide_eq_true_eq] at h
  have e0 : IntKind.u8.min = 0 := by decide
  have e1 : IntKind.u8.max = 255 := by decide
  rw [e0, e1] at h
  exact h

/-- A list of bytes that comes in: its numbers, and where they lie. -/
theorem open_u8s {w : World} {base : Nat} {held : Bool} {t e : TypeId} {A : Option Addr} {n c : Nat} {d : DataW H} {p : List MemPlace} (ht : P.underlying t = some (.slice e)) (he : P.underlying e = some (.int .u8)) (hC : P.cellsOf e = 1)
    (h : DataW.Trod enc P w base (fun _ => true) held t (.slice A n c) d p) :
    ∃ ns : List Nat, n = ns.length ∧ (∀ x ∈ ns, x < 256) ∧ ns.length ≤ c ∧ c ≤ maxLen ∧ Row w w.heap.size A (ns.map fun (x : Nat) => Value.int .u8 (x : Int)) ∧ (A = none → c = 0) := by
  obtain ⟨fuel, hf⟩ := h
  rcases open_ints ht he hC hf with ⟨hcs, hx⟩ | ⟨a, len, cap, zs, hcs, _, hl, hm, hz, hx, hcell, hwz⟩
  · simp [Value.cells] at hcs
    obtain ⟨rfl, rfl, rfl⟩ := hcs
    exact ⟨[], rfl, by simp, Nat.le_refl _, Nat.zero_le _, Row.nil _ _ _, fun _ => rfl⟩
  · simp [Value.cells] at hcs
    obtain ⟨rfl, rfl, rfl⟩ := hcs
    simp only [if_true] at hz
    have hfit : ∀ z ∈ zs, ∃ x : Nat, z = (x : Int) ∧ x < 256 := fun z hz' => by
      have := u8_fits (hwz z hz')
      exact ⟨z.toNat, by omega, by omega⟩
    refine ⟨(zs.take n).map Int.toNat, by simp [hz]; omega, ?_, by simp [hz]; omega, hm, ?_, fun e => by cases e⟩
    · intro x hx'
      obtain ⟨z, hz', rfl⟩ := List.mem_map.1 hx'
      obtain ⟨y, rfl, hy⟩ := hfit z (List.mem_of_mem_take hz')
      simpa using hy
    · intro k v hv
      simp only [List.map_map, List.getElem?_map, Option.map_eq_some_iff] at hv
      obtain ⟨z, hz', rfl⟩ := hv
      rw [List.getElem?_take] at hz'
      by_cases hk : k < n
      · rw [if_pos hk] at hz'
        have hkl : k < zs.length := by omega
        have hc := hcell k hkl
        obtain ⟨y, rfl, hy⟩ := hfit z (List.mem_of_getElem? hz')
        have hg : zs.getD k 0 = (y : Int) := by simp [List.getD, hz']
        rw [hg] at hc
        refine ⟨a, rfl, ?_, by simpa using hc⟩
        have := World.block_lt_of_cell? w _ hc
        rwa [addr_block] at this
      · rw [if_neg hk] at hz'; cases hz'

/-- Bytes that come in, in a cell: which they are, and where they lie. -/
theorem open_u8cell {w : World} {base fuel : Nat} {held : Bool} {t e : TypeId} {v : Value} {x : DataW H × List MemPlace} (ht : P.underlying t = some (.slice e)) (he : P.underlying e = some (.int .u8)) (hC : P.cellsOf e = 1)
    (hf : DataW.trod enc P w base (fun _ => true) held fuel t [v] = some x) :
    ∃ (A : Option Addr) (ns : List Nat) (c : Nat), v = .slice A ns.length c ∧ (∀ x ∈ ns, x < 256) ∧ ns.length ≤ c ∧ c ≤ maxLen ∧ Row w w.heap.size A (ns.map fun (x : Nat) => Value.int .u8 (x : Int)) ∧ (A = none → c = 0) := by
  rcases open_ints ht he hC hf with ⟨hcs, hx⟩ | ⟨a, len, cap, zs, hcs, _, hl, hm, hz, hx, hcell, hwz⟩
  · simp at hcs
    subst hcs
    exact ⟨none, [], 0, rfl, by simp, Nat.le_refl _, Nat.zero_le _, Row.nil _ _ _, fun _ => rfl⟩
  · simp at hcs
    subst hcs
    have hT : DataW.Trod enc P w base (fun _ => true) held t (.slice (some a) len cap) x.1 x.2 := ⟨fuel, by simpa [Value.cells] using hf⟩
    obtain ⟨ns, hn, h1, h2, h3, h4, h5⟩ := open_u8s ht he hC hT
    subst hn
    exact ⟨some a, ns, cap, rfl, h1, h2, h3, h4, h5⟩
end

end Go.Proofs.Ytcaejanfhchacaa
namespace Go.Proofs.Ytcaejanfhchacaa
open Go.ChangeShapes Go.WideShapes Go.ChangeAt Go.RowKit Go.Deep
set_option linter.unusedVariables false
set_option linter.unusedSimpArgs false

section
variable {H : Type} {enc : TypeId × Value → H} {P : Program} {w : World} {base : Nat} {held : Bool}
/-- Pairs lie one behind the other from an address on, in a block below B. -/
def PairsIn (w : World) (B : Nat) (A : Option Addr) (l : List (Int × Int)) : Prop :=
  ∀ k x, l[k]? = some x → ∃ a, A = some a ∧ a.block < B ∧ w.cell? (a.add (k * 2)) = some (.int .i64 x.1) ∧ w.cell? (a.add (k * 2 + 1)) = some (.int .i64 x.2)
theorem PairsIn.below {w w' : World} {B : Nat} {A : Option Addr} {l : List (Int × Int)} (h : PairsIn w B A l) (hb : Below B w w') : PairsIn w' B A l := fun k x hx => by
  obtain ⟨a, hA, hB, c0, c1⟩ := h k x hx
  exact ⟨a, hA, hB, (hb.cell (by rw [addr_block]; exact hB)).trans c0, (hb.cell (by rw [addr_block]; exact hB)).trans c1⟩
end

def pvals (x : Int × Int) : Array Value := #[.int .i64 x.1, .int .i64 x.2]
/-- In block b lies a pair. -/
def PairAt (w : World) (b : Nat) (x : Int × Int) (T : TypeId) : Prop := w.heap[b]? = some (.cells (pvals x) T (0, 0))
theorem PairAt.lt {w : World} {b : Nat} {x : Int × Int} {T : TypeId} (h : PairAt w b x T) : b < w.heap.size := (Array.getElem?_eq_some_iff.1 h).1
theorem PairAt.up {w w' : World} {b : Nat} {x : Int × Int} {T : TypeId} (h : PairAt w b x T) (hb : Below w.heap.size w w') : PairAt w' b x T := (hb.block b h.lt).trans h
theorem PairAt.far {w w' : World} {b g : Nat} {x : Int × Int} {T : TypeId} (h : PairAt w b x T) (hb : w.grownBy w' (some g)) (hg : b ≠ g) : PairAt w' b x T := (hb.block b h.lt (fun e => hg (Option.some.inj e))).trans h
theorem PairAt.new (w : World) (x : Int × Int) (T : TypeId) {b : Nat} (hb : b = w.heap.size) : PairAt (w.alloc (.cells (pvals x) T)) b x T := by subst hb; exact heap_alloc_new w _
theorem PairAt.c0 {w : World} {b : Nat} {x : Int × Int} {T : TypeId} (h : PairAt w b x T) : w.cell? ⟨b, 0, none⟩ = some (.int .i64 x.1) := cell_of_row w b 0 _ _ _ h
theorem PairAt.c1 {w : World} {b : Nat} {x : Int × Int} {T : TypeId} (h : PairAt w b x T) : w.cell? ⟨b, 1, none⟩ = some (.int .i64 x.2) := cell_of_row w b 1 _ _ _ h
section
variable {P : Program} {ops : Array Oper} {rest : List Oper} {o : Oper} {a : Act} {w : World} {Q : Exit → Act → World → Prop} {T : TypeId} {fs : Array Field}
end
end Go.Proofs.Ytcaejanfhchacaa
