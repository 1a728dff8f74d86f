/- Words for memory that the walks of this seat use: an array of one-cell values below a block, and what keeps it. · Bytes in memory: as values, and where they lie. · Values in memory: where a list of them lies, in blocks of which something is said. Whole numbers as values. -/
import Derived.WalkKit
import Derived.ProofKit
import Derived.Lib.Hide
import Derived.Deep.Draws
import Derived.Deep.QuietTactic
import Derived.BigQuiet
import Derived.Test.YtcaejanfhchacaaProg
import Derived.OwnWalk
import Derived.Laws.BitsLemmas
import Derived.IntWalk
import Derived.Deep.RegionHeld3
import Derived.Deep.MidRow
import Derived.Laws.CopyOwn
import Derived.Deep.RegionWith
import Derived.Deep.OwnRows
namespace Go.Proofs.Ytcaejanfhchacaa
open Go.RowKit
set_option linter.unusedVariables false

theorem addr_block (a : Addr) (k : Nat) : (a.add k).block = a.block := by
  unfold Addr.add
  by_cases h : k = 0
  · rw [if_pos h]
  · rw [if_neg h]

/-- The values xs lie one behind the other from address A on, in a block below B. -/
def Row (w : World) (B : Nat) (A : Option Addr) (xs : List Value) : Prop :=
  ∀ k v, xs[k]? = some v → ∃ a, A = some a ∧ a.block < B ∧ w.cell? (a.add k) = some v

theorem Row.nil (w : World) (B : Nat) (A : Option Addr) : Row w B A [] := fun k v h => by simp at h

theorem Row.get {w : World} {B : Nat} {A : Option Addr} {xs : List Value} (h : Row w B A xs) {k : Nat} (hk : k < xs.length) :
    ∃ a, A = some a ∧ a.block < B ∧ w.cell? (a.add k) = some xs[k] := h k _ (List.getElem?_eq_getElem hk)

theorem Row.hold {w w' : World} {B : Nat} {A : Option Addr} {xs : List Value} (h : Row w B A xs) (hk : ∀ p : Addr, p.block < B → w'.cell? p = w.cell? p) : Row w' B A xs :=
  fun k v hv => by
    obtain ⟨a, hA, hb, hc⟩ := h k v hv
    exact ⟨a, hA, hb, (hk _ (by rw [addr_block]; exact hb)).trans hc⟩

theorem Row.up {w : World} {B B' : Nat} {A : Option Addr} {xs : List Value} (h : Row w B A xs) (hB : B ≤ B') : Row w B' A xs :=
  fun k v hv => by
    obtain ⟨a, hA, hb, hc⟩ := h k v hv
    exact ⟨a, hA, Nat.lt_of_lt_of_le hb hB, hc⟩

theorem Row.below {w w' : World} {B : Nat} {A : Option Addr} {xs : List Value} (h : Row w B A xs) (hb : Below B w w') : Row w' B A xs :=
  h.hold fun _ hp => hb.cell hp

theorem Row.drewN {w : World} {B : Nat} {A : Option Addr} {xs : List Value} (h : Row w B A xs) (n : Nat) : Row (w.drewN n) B A xs := h

theorem Row.alloc {w : World} {B : Nat} {A : Option Addr} {xs : List Value} (h : Row w B A xs) (hB : B ≤ w.heap.size) (o : Obj) : Row (w.alloc o) B A xs :=
  h.hold fun p hp => World.cell?_alloc_lt w o p (Nat.lt_of_lt_of_le hp hB)

theorem Row.setCell {w : World} {B : Nat} {A : Option Addr} {xs : List Value} (h : Row w B A xs) {p : Addr} (hp : B ≤ p.block) (u : Value) : Row (w.setCell p u) B A xs :=
  h.hold fun q hq => World.cell?_setCell_other w p q u (fun e => by subst e; omega)

theorem Row.take {w : World} {B : Nat} {A : Option Addr} {xs : List Value} (h : Row w B A xs) (n : Nat) : Row w B A (xs.take n) :=
  fun k v hv => h k v (by
    rw [List.getElem?_take] at hv
    by_cases hk : k < n
    · rwa [if_pos hk] at hv
    · rw [if_neg hk] at hv; cases hv)

theorem Row.of_own {w : World} {base : Nat} {e : TypeId} {v : Value} {n : Nat} {xs : List Value} (h : w.ownsRow base e 1 v n xs) :
    ∃ A c, v = .slice A n c ∧ n ≤ c ∧ c ≤ maxLen ∧ Row w w.heap.size A xs := by
  have hl := h.1
  rcases h.2 with ⟨rfl, rfl⟩ | ⟨g, cap, cur, rfl, hg, hh, hnc, hcm, hs, ht⟩
  · have : xs = [] := List.eq_nil_of_length_eq_zero (by simpa using hl)
    subst this
    exact ⟨none, 0, rfl, Nat.le_refl _, Nat.zero_le _, Row.nil _ _ _⟩
  · refine ⟨some ⟨g, 0, none⟩, cap, rfl, hnc, hcm, fun k u hu => ⟨_, rfl, ?_, h.cells (g := g) rfl k u hu⟩⟩
    exact (h.lt g rfl).2

theorem below_drewN {B : Nat} {a w : World} (h : Below B a w) (n : Nat) : Below B a (w.drewN n) := ⟨h.os, h.tape, h.output, h.size, h.block⟩

theorem Below.then {w w1 w2 : World} (h : Below w.heap.size w w1) (h2 : Below w1.heap.size w1 w2) : Below w.heap.size w w2 := h.trans (h2.mono h.size)
theorem quiet_one {P : Program} {f : FuncId} {args : Array Value} {w : World} {n : Nat} {v : Value}
    (h : Calls P f args (w.drewN n) fun e w' => e = .returned v ∧ w.drewN n = w') : Calls P f args (w.drewN n) fun e w2 => e = .returned v ∧ ∃ m, w2 = w.drewN m :=
  h.mono fun _ _ h => ⟨h.1, n, h.2.symm⟩
theorem quiet_more {P : Program} {f : FuncId} {args : Array Value} {w : World} {a n : Nat} {v : Value}
    (h : Calls P f args (w.drewN (a + n)) fun e w' => e = .returned v ∧ w.drewN (a + n) = w') : Calls P f args (w.drewN (a + n)) fun e w2 => e = .returned v ∧ ∃ m, w2 = w.drewN (a + m) :=
  h.mono fun _ _ h => ⟨h.1, n, h.2.symm⟩
/-- An operation by the slot that it fills: told at once whether an arm may be tried ('(with_reducible refine slot_is 45 rfl ?_); ..'). -/
theorem slot_is {P : Program} {ops : Array Oper} {rest : List Oper} {o : Oper} {a : Act} {w : World} {Q : Exit → Act → World → Prop} (k : Nat) (hd : o.dst = some k) (h : wpList P ops Q (o :: rest) a w) : wpList P ops Q (o :: rest) a w := h
theorem own_drewN {w : World} {base n : Nat} {e : TypeId} {v : Value} {xs : List Value} (h : w.ownsRow base e 1 v n xs) (k : Nat) : (w.drewN k).ownsRow base e 1 v n xs := h
end Go.Proofs.Ytcaejanfhchacaa
namespace Go.Proofs.Ytcaejanfhchacaa
open Go.RowKit
set_option linter.unusedVariables false
set_option linter.unusedSimpArgs false

/-- Bytes, as values. -/
def u8s (bs : List Nat) : List Value := bs.map fun (d : Nat) => Value.int .u8 (d : Int)
theorem u8s_len (bs : List Nat) : (u8s bs).length = bs.length := by simp [u8s]
theorem u8s_one {bs : List Nat} : ∀ v ∈ u8s bs, v.oneCell' = true := by
  intro v hv
  obtain ⟨x, _, rfl⟩ := List.mem_map.1 hv
  rfl
theorem u8s_get {bs : List Nat} {k : Nat} (h : k < bs.length) : (u8s bs)[k]? = some (.int .u8 (bs[k] : Nat)) := by simp [u8s, h]
theorem u8_info : (Try.prog.info? 5).map (fun i => (i.zero, i.size, i.bytes)) = some (some (.int .u8 0), 1, 1) := by kernel_rfl
theorem new_row (w : World) (C : Array Value) (t : TypeId) (k : Nat) (v : Value) (h : C[k]? = some v) : (w.alloc (.cells C t)).cell? ⟨w.heap.size, k, none⟩ = some v := by
  rw [cell_of_row _ _ k C t (0, 0) (heap_alloc_new w _)]; exact h
theorem new_first (w : World) (v : Value) (t : TypeId) : ∀ j u, [v][j]? = some u → (w.alloc (.cells #[v] t)).cell? ((⟨w.heap.size, 0, none⟩ : Addr).add j) = some u := by
  intro j u hj
  cases j with
  | zero => simp at hj; subst hj; exact new_row w #[v] t 0 v rfl
  | succ j => simp at hj

/-- What an own row appended to by one byte keeps below the blocks of the call. -/
theorem app_below {H : Nat} {w wr w3 : World} {o : Obj} {v : Value} {n : Nat} {e : TypeId} {xs : List Value} (hB : Below H w wr) (hle : H ≤ wr.heap.size) (hown : wr.ownsRow H e 1 v n xs) (hgrow : (wr.alloc o).grownBy w3 v.ownBlock) : Below H w w3 :=
  (hB.alloc hle _).grown hgrow (by simp; omega) (fun k hk => (hown.lt k hk).1)

/-- Bytes lie one behind the other from an address on, in blocks of which S is said. -/
def Lies (w : World) (S : Nat → Prop) (A : Option Addr) (xs : List Nat) : Prop :=
  ∀ (k x : Nat), xs[k]? = some x → ∃ a, A = some a ∧ S a.block ∧ w.cell? (a.add k) = some (.int .u8 (x : Int))

theorem Lies.hold {w w' : World} {S : Nat → Prop} {A : Option Addr} {xs : List Nat} (h : Lies w S A xs) (hk : ∀ p : Addr, S p.block → w'.cell? p = w.cell? p) : Lies w' S A xs := fun k x hx => by
  obtain ⟨a, hA, hb, hc⟩ := h k x hx
  exact ⟨a, hA, hb, (hk _ (by rw [addr_block]; exact hb)).trans hc⟩
theorem Lies.imp {w : World} {S S' : Nat → Prop} {A : Option Addr} {xs : List Nat} (h : Lies w S A xs) (hS : ∀ k, k < w.heap.size → S k → S' k) : Lies w S' A xs := fun k x hx => by
  obtain ⟨a, hA, hb, hc⟩ := h k x hx
  have hl := World.block_lt_of_cell? w _ hc
  rw [addr_block] at hl
  exact ⟨a, hA, hS _ hl hb, hc⟩
theorem Lies.grown {w w' : World} {S : Nat → Prop} {A : Option Addr} {xs : List Nat} {row : Option Nat} (h : Lies w S A xs) (hg : w.grownBy w' row) (hS : ∀ k, S k → some k ≠ row) : Lies w' S A xs := fun k x hx => by
  obtain ⟨a, hA, hb, hc⟩ := h k x hx
  have hl := World.block_lt_of_cell? w _ hc
  refine ⟨a, hA, hb, ?_⟩
  rw [World.cell?_of_block (w := w) (hg.block _ hl (by rw [addr_block]; exact hS _ hb))]
  exact hc
theorem Lies.nil (w : World) (S : Nat → Prop) (A : Option Addr) : Lies w S A [] := fun k x h => by simp at h
theorem Lies.get {w : World} {S : Nat → Prop} {A : Option Addr} {xs : List Nat} (h : Lies w S A xs) {k : Nat} (hk : k < xs.length) : ∃ a, A = some a ∧ S a.block ∧ w.cell? (a.add k) = some (.int .u8 (xs[k] : Nat)) := h k _ (List.getElem?_eq_getElem hk)
theorem Lies.ofRow {w : World} {B : Nat} {A : Option Addr} {xs : List Nat} (h : Row w B A (u8s xs)) : Lies w (· < B) A xs := fun k x hx => by
  have hk : k < xs.length := (List.getElem?_eq_some_iff.1 hx).1
  have e : xs[k] = x := (List.getElem?_eq_some_iff.1 hx).2
  obtain ⟨a, hA, hb, hc⟩ := h k _ (u8s_get hk)
  exact ⟨a, hA, hb, by rw [hc, e]⟩
theorem Lies.row {w : World} {B : Nat} {S : Nat → Prop} {A : Option Addr} {xs : List Nat} (h : Lies w S A xs) (hS : ∀ k, k < w.heap.size → S k → k < B) : Row w B A (u8s xs) := fun k v hv => by
  have hk : k < xs.length := by have := (List.getElem?_eq_some_iff.1 hv).1; rwa [u8s_len] at this
  rw [u8s_get hk] at hv
  cases hv
  obtain ⟨a, hA, hb, hc⟩ := h.get hk
  have hl := World.block_lt_of_cell? w _ hc
  rw [addr_block] at hl
  exact ⟨a, hA, hS _ hl hb, hc⟩
/-- A slice of the call's own. -/
theorem Lies.own {w : World} {base : Nat} {v : Value} {n : Nat} {xs : List Nat} (h : w.ownsRow base 5 1 v n (u8s xs)) :
    ∃ A c, v = .slice A n c ∧ n ≤ c ∧ c ≤ maxLen ∧ n = xs.length ∧ Lies w (fun k => base ≤ k ∧ k < w.heap.size ∧ v.ownBlock = some k) A xs := by
  have hl := h.1
  rcases h.2 with ⟨rfl, rfl⟩ | ⟨g, cap, cur, rfl, hg, hh, hnc, hcm, hs, ht⟩
  · have : xs = [] := List.eq_nil_of_length_eq_zero (by rw [u8s_len] at hl; simpa using hl)
    subst this
    exact ⟨none, 0, rfl, Nat.le_refl _, Nat.zero_le _, rfl, Lies.nil _ _ _⟩
  · refine ⟨some ⟨g, 0, none⟩, cap, rfl, hnc, hcm, by rw [u8s_len] at hl; omega, fun k x hx => ⟨_, rfl, ?_, ?_⟩⟩
    · exact ⟨hg, (h.lt g rfl).2, rfl⟩
    · have hk : k < xs.length := (List.getElem?_eq_some_iff.1 hx).1
      have e : xs[k] = x := (List.getElem?_eq_some_iff.1 hx).2
      have := h.cells (g := g) rfl k _ (u8s_get hk)
      rwa [e] at this

/-- What is left of a slice behind its first j bytes. -/
theorem Lies.behind {w : World} {S : Nat → Prop} {a : Addr} {xs : List Nat} {j c : Nat} (h : Lies w S (some a) xs) (hj : j ≤ xs.length) (hc : xs.length ≤ c) : Lies w S (if c = j then some a else some (a.add j)) (xs.drop j) := by
  by_cases e : c = j
  · have : xs.drop j = [] := List.drop_eq_nil_of_le (by omega)
    rw [this]; exact Lies.nil _ _ _
  · rw [if_neg e]
    intro k x hx
    rw [List.getElem?_drop] at hx
    obtain ⟨a', hA, hb, hcell⟩ := h (j + k) x hx
    cases hA
    exact ⟨_, rfl, by rw [addr_block]; exact hb, by rw [Addr.add_add]; exact hcell⟩

theorem Lies.src {w : World} {S : Nat → Prop} {a : Addr} {xs : List Nat} (h : Lies w S (some a) xs) (j : Nat) : ∀ q v, (u8s (xs.take j))[q]? = some v → w.cell? (a.add q) = some v := by
  intro q v hq
  have hql : q < (xs.take j).length := by have := (List.getElem?_eq_some_iff.1 hq).1; rwa [u8s_len] at this
  rw [u8s_get hql] at hq
  cases hq
  have hqx : q < xs.length := by rw [List.length_take] at hql; omega
  obtain ⟨a', ha', _, hc'⟩ := h.get hqx
  cases ha'
  rw [hc', List.getElem_take]
theorem grown_trans {a b c : World} {row : Option Nat} (h : a.grownBy b row) (k : b.grownBy c row) : a.grownBy c row :=
  ⟨k.os.trans h.os, k.tape.trans h.tape, k.output.trans h.output, Nat.le_trans h.size k.size, fun i hi hn => (k.block i (Nat.lt_of_lt_of_le hi h.size) hn).trans (h.block i hi hn)⟩
theorem grown_below {a b : World} (h : Below a.heap.size a b) (row : Option Nat) : a.grownBy b row := ⟨h.os, h.tape, h.output, h.size, fun i hi _ => h.block i hi⟩
theorem grown_alloc (w : World) (o : Obj) (row : Option Nat) : w.grownBy (w.alloc o) row := grown_below ((Below.refl _ w).alloc (Nat.le_refl _) o) row
theorem grown_drew (w : World) (n : Nat) (row : Option Nat) : w.grownBy (w.drewN n) row := ⟨rfl, rfl, rfl, Nat.le_refl _, fun _ _ _ => rfl⟩
theorem grown_set (w : World) (b k : Nat) (v : Value) : w.grownBy (w.setCell ⟨b, k, none⟩ v) (some b) :=
  ⟨rfl, rfl, rfl, by simp [World.setCell], fun i hi hn => Below.heap_setCell _ _ _ _ (fun e => hn (by rw [e]))⟩
end Go.Proofs.Ytcaejanfhchacaa
namespace Go.Proofs.Ytcaejanfhchacaa
open Go.RowKit
set_option linter.unusedVariables false
set_option linter.unusedSimpArgs false

/-- Whole numbers, as values. -/
def zvals (l : List Int) : List Value := l.map (Value.int .i64)
theorem zvals_len (l : List Int) : (zvals l).length = l.length := by simp [zvals]
theorem zvals_snoc (l : List Int) (x : Int) : zvals (l ++ [x]) = zvals l ++ [.int .i64 x] := by simp [zvals]
theorem zvals_get {l : List Int} {k : Nat} (h : k < l.length) : (zvals l)[k]? = some (.int .i64 l[k]) := by simp [zvals, h]
theorem zval_info : (Try.prog.info? 3).map (fun i => (i.zero, i.size, i.bytes)) = some (some (.int .i64 0), 1, 8) := by kernel_rfl

/-- Values lie one behind the other from an address on, in blocks of which S is said. -/
def Lie (w : World) (S : Nat → Prop) (A : Option Addr) (xs : List Value) : Prop :=
  ∀ k v, xs[k]? = some v → ∃ a, A = some a ∧ S a.block ∧ w.cell? (a.add k) = some v
theorem Lie.hold {w w' : World} {S : Nat → Prop} {A : Option Addr} {xs : List Value} (h : Lie w S A xs) (hk : ∀ p : Addr, S p.block → w'.cell? p = w.cell? p) : Lie w' S A xs := fun k x hx => by
  obtain ⟨a, hA, hb, hc⟩ := h k x hx
  exact ⟨a, hA, hb, (hk _ (by rw [addr_block]; exact hb)).trans hc⟩
theorem Lie.imp {w : World} {S S' : Nat → Prop} {A : Option Addr} {xs : List Value} (h : Lie w S A xs) (hS : ∀ k, k < w.heap.size → S k → S' k) : Lie w S' A xs := fun k x hx => by
  obtain ⟨a, hA, hb, hc⟩ := h k x hx
  have hl := World.block_lt_of_cell? w _ hc
  rw [addr_block] at hl
  exact ⟨a, hA, hS _ hl hb, hc⟩
theorem Lie.grown {w w' : World} {S : Nat → Prop} {A : Option Addr} {xs : List Value} {row : Option Nat} (h : Lie w S A xs) (hg : w.grownBy w' row) (hS : ∀ k, S k → some k ≠ row) : Lie w' S A xs := fun k x hx => by
  obtain ⟨a, hA, hb, hc⟩ := h k x hx
  have hl := World.block_lt_of_cell? w _ hc
  refine ⟨a, hA, hb, ?_⟩
  rw [World.cell?_of_block (w := w) (hg.block _ hl (by rw [addr_block]; exact hS _ hb))]
  exact hc
theorem Lie.below {w w' : World} {S : Nat → Prop} {A : Option Addr} {xs : List Value} (h : Lie w S A xs) (hb : Below w.heap.size w w') : Lie w' S A xs := fun k x hx => by
  obtain ⟨a, hA, hs, hc⟩ := h k x hx
  have hl := World.block_lt_of_cell? w _ hc
  exact ⟨a, hA, hs, (hb.cell hl).trans hc⟩
theorem Lie.nil (w : World) (S : Nat → Prop) (A : Option Addr) : Lie w S A [] := fun k x h => by simp at h
theorem Lie.get {w : World} {S : Nat → Prop} {A : Option Addr} {xs : List Value} (h : Lie w S A xs) {k : Nat} (hk : k < xs.length) : ∃ a, A = some a ∧ S a.block ∧ w.cell? (a.add k) = some xs[k] := h k _ (List.getElem?_eq_getElem hk)
/-- One of a list of whole numbers. -/
theorem Lie.int {w : World} {S : Nat → Prop} {A : Option Addr} {l : List Int} (h : Lie w S A (zvals l)) {k : Nat} (hk : k < l.length) : ∃ a, A = some a ∧ S a.block ∧ w.cell? (a.add k) = some (.int .i64 l[k]) := h k _ (zvals_get hk)
theorem Lie.ofRow {w : World} {B : Nat} {A : Option Addr} {xs : List Value} (h : Row w B A xs) : Lie w (· < B) A xs := h
theorem Lie.row {w : World} {B : Nat} {S : Nat → Prop} {A : Option Addr} {xs : List Value} (h : Lie w S A xs) (hS : ∀ k, k < w.heap.size → S k → k < B) : Row w B A xs := h.imp hS
theorem Lie.drewN {w : World} {S : Nat → Prop} {A : Option Addr} {xs : List Value} (h : Lie w S A xs) (q : Nat) : Lie (w.drewN q) S A xs := h
theorem Lie.take {w : World} {S : Nat → Prop} {A : Option Addr} {xs : List Value} (h : Lie w S A xs) (n : Nat) : Lie w S A (xs.take n) := fun k v hv => h k v (by
    rw [List.getElem?_take] at hv
    by_cases hk : k < n
    · rwa [if_pos hk] at hv
    · rw [if_neg hk] at hv; cases hv)
/-- A slice of the call's own. -/
theorem Lie.own {w : World} {base : Nat} {e : TypeId} {v : Value} {n : Nat} {xs : List Value} (h : w.ownsRow base e 1 v n xs) :
    ∃ A c, v = .slice A n c ∧ n ≤ c ∧ c ≤ maxLen ∧ n = xs.length ∧ Lie w (fun k => base ≤ k ∧ k < w.heap.size ∧ v.ownBlock = some k) A xs := by
  have hl := h.1
  rcases h.2 with ⟨rfl, rfl⟩ | ⟨g, cap, cur, rfl, hg, hh, hnc, hcm, hs, ht⟩
  · have : xs = [] := List.eq_nil_of_length_eq_zero (by simpa using hl)
    subst this
    exact ⟨none, 0, rfl, Nat.le_refl _, Nat.zero_le _, rfl, Lie.nil _ _ _⟩
  · refine ⟨some ⟨g, 0, none⟩, cap, rfl, hnc, hcm, by omega, fun k x hx => ⟨_, rfl, ?_, ?_⟩⟩
    · exact ⟨hg, (h.lt g rfl).2, rfl⟩
    · exact h.cells (g := g) rfl k _ hx
/-- What is left of a slice behind its first j values. -/
theorem Lie.behind {w : World} {S : Nat → Prop} {a : Addr} {xs : List Value} {j c : Nat} (h : Lie w S (some a) xs) (hj : j ≤ xs.length) (hc : xs.length ≤ c) : Lie w S (if c = j then some a else some (a.add j)) (xs.drop j) := by
  by_cases e : c = j
  · have : xs.drop j = [] := List.drop_eq_nil_of_le (by omega)
    rw [this]; exact Lie.nil _ _ _
  · rw [if_neg e]
    intro k x hx
    rw [List.getElem?_drop] at hx
    obtain ⟨a', hA, hb, hcell⟩ := h (j + k) x hx
    cases hA
    exact ⟨_, rfl, by rw [addr_block]; exact hb, by rw [Addr.add_add]; exact hcell⟩
theorem Lie.src {w : World} {S : Nat → Prop} {a : Addr} {xs : List Value} (h : Lie w S (some a) xs) : ∀ q v, xs[q]? = some v → w.cell? (a.add q) = some v := fun q v hq => by
  obtain ⟨a', ha', _, hc'⟩ := h q v hq
  cases ha'
  exact hc'
/-- A row that was laid just now. -/
theorem Lie.made (w : World) (xs : List Value) (T : TypeId) : Lie (w.alloc (.cells xs.toArray T)) (· = w.heap.size) (some ⟨w.heap.size, 0, none⟩) xs := fun k x hx => by
  refine ⟨_, rfl, rfl, ?_⟩
  rw [Addr.add_mid, Nat.zero_add]
  refine new_row w _ _ k _ ?_
  simpa using hx
theorem own_kept {w w' : World} {base n z : Nat} {e : TypeId} {v : Value} {xs : List Value} (h : w.ownsRow base e z v n xs) (hb : Below w.heap.size w w') : w'.ownsRow base e z v n xs := by
  refine ⟨h.1, ?_⟩
  rcases h.2 with h0 | ⟨g, cap, cur, hv, hg, hh, h1⟩
  · exact .inl h0
  · refine .inr ⟨g, cap, cur, hv, hg, ?_, h1⟩
    have hlt : g < w.heap.size := (Array.getElem?_eq_some_iff.1 hh).1
    rw [hb.block g hlt]
    exact hh
theorem own_apart {w w' : World} {base n z : Nat} {e : TypeId} {v : Value} {xs : List Value} {row : Option Nat} (h : w.ownsRow base e z v n xs) (hb : w.grownBy w' row) (hr : ∀ g, v.ownBlock = some g → row ≠ some g) : w'.ownsRow base e z v n xs := by
  refine ⟨h.1, ?_⟩
  rcases h.2 with h0 | ⟨g, cap, cur, hv, hg, hh, h1⟩
  · exact .inl h0
  · refine .inr ⟨g, cap, cur, hv, hg, ?_, h1⟩
    have hlt : g < w.heap.size := (Array.getElem?_eq_some_iff.1 hh).1
    rw [hb.block g hlt (fun e => hr g (by rw [hv]; rfl) e.symm)]
    exact hh
theorem own_base {w : World} {B B' z : Nat} {e : TypeId} {v : Value} {n : Nat} {xs : List Value} (h : w.ownsRow B e z v n xs) (hb : B' ≤ B) : w.ownsRow B' e z v n xs :=
  ⟨h.1, h.2.imp id fun ⟨g, cap, cur, h1, h2, h3⟩ => ⟨g, cap, cur, h1, Nat.le_trans hb h2, h3⟩⟩
end Go.Proofs.Ytcaejanfhchacaa
