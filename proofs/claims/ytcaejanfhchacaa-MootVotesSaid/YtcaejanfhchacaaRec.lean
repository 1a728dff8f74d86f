/- Records: structs whose fields hold one value each, as arrays of values: whole moves, lists of them in memory, such lists that come in with a law's arguments. -/
import Derived.Test.YtcaejanfhchacaaBytes
import Derived.Test.YtcaejanfhchacaaLawB
import Derived.Deep.AppendLies
import Derived.Deep.Slices
import Derived.Deep.Fields
import Derived.Great.BuildSlice
import Derived.Laws.StructEq
import Derived.Laws.Tables
namespace Go.Proofs.Ytcaejanfhchacaa
open Go.ChangeShapes Go.WideShapes Go.ChangeAt Go.RowKit Go.Deep
set_option linter.unusedVariables false
set_option linter.unusedSimpArgs false

/-- What is laid in memory as so many values. -/
class Rec (α : Type) where
  vals : α → Array Value
  z : Nat
  size : ∀ x, (vals x).size = z
  pos : 0 < z
  one : ∀ x, (vals x).all (·.oneCell') = true

section
variable {α : Type} [Rec α]
/-- The values of records, one behind the other. -/
def rows (l : List α) : List Value := l.flatMap fun x => (Rec.vals x).toList
theorem rec_len (x : α) : (Rec.vals x).toList.length = Rec.z α := by rw [Array.length_toList, Rec.size]
theorem rows_append (l r : List α) : rows (l ++ r) = rows l ++ rows r := by simp [rows]
theorem rows_snoc (l : List α) (x : α) : rows (l ++ [x]) = rows l ++ (Rec.vals x).toList := by simp [rows]
theorem rows_len : ∀ (l : List α), (rows l).length = l.length * Rec.z α
  | [] => by simp [rows]
  | x :: l => by
    have := rows_len l
    unfold rows at *
    rw [List.flatMap_cons, List.length_append, this, rec_len, List.length_cons, Nat.succ_mul, Nat.add_comm]
theorem rows_next {l : List α} {k : Nat} {x : α} (h : l[k]? = some x) : rows (l.take (k + 1)) = rows (l.take k) ++ (Rec.vals x).toList := by
  rw [List.take_add_one, h]
  exact rows_snoc _ x
theorem rows_onecell (l : List α) : ∀ v ∈ rows l, v.oneCell' = true := fun v hv => by
  obtain ⟨x, _, hx⟩ := List.mem_flatMap.1 hv
  exact (Array.all_eq_true_iff_forall_mem.1 (Rec.one x)) v (Array.mem_toList_iff.1 hx)
theorem rec_onecell (x : α) : ∀ v ∈ (Rec.vals x).toList, v.oneCell' = true := fun v hv => (Array.all_eq_true_iff_forall_mem.1 (Rec.one x)) v (Array.mem_toList_iff.1 hv)
theorem rows_at : ∀ {l : List α} {k : Nat} {x : α} {j : Nat} {v : Value}, l[k]? = some x → (Rec.vals x).toList[j]? = some v → (rows l)[k * Rec.z α + j]? = some v
  | [], k, x, j, v, h, _ => by simp at h
  | y :: l, 0, x, j, v, h, hv => by
    simp at h
    subst h
    have hj : j < (Rec.vals y).toList.length := (List.getElem?_eq_some_iff.1 hv).1
    show ((Rec.vals y).toList ++ rows l)[0 * Rec.z α + j]? = some v
    rw [Nat.zero_mul, Nat.zero_add, List.getElem?_append_left hj, hv]
  | y :: l, k + 1, x, j, v, h, hv => by
    have ih := rows_at (l := l) (k := k) (by simpa using h) hv
    show ((Rec.vals y).toList ++ rows l)[(k + 1) * Rec.z α + j]? = some v
    have e : (k + 1) * Rec.z α = k * Rec.z α + Rec.z α := Nat.succ_mul _ _
    rw [List.getElem?_append_right (by rw [rec_len]; omega), rec_len, show (k + 1) * Rec.z α + j - Rec.z α = k * Rec.z α + j by omega, ih]
theorem rows_set : ∀ {l : List α} {k : Nat} {x y : α} {j : Nat} {v : Value}, l[k]? = some x → j < Rec.z α → (Rec.vals x).toList.set j v = (Rec.vals y).toList → (rows l).set (k * Rec.z α + j) v = rows (l.set k y)
  | [], k, x, y, j, v, h, _, _ => by simp at h
  | b :: l, 0, x, y, j, v, h, hj, hv => by
    simp at h
    subst h
    show ((Rec.vals b).toList ++ rows l).set (0 * Rec.z α + j) v = (Rec.vals y).toList ++ rows l
    rw [Nat.zero_mul, Nat.zero_add, List.set_append_left _ _ (by rw [rec_len]; exact hj), hv]
  | b :: l, k + 1, x, y, j, v, h, hj, hv => by
    have ih := rows_set (l := l) (k := k) (by simpa using h) hj hv
    show ((Rec.vals b).toList ++ rows l).set ((k + 1) * Rec.z α + j) v = (Rec.vals b).toList ++ rows (l.set k y)
    have e : (k + 1) * Rec.z α = k * Rec.z α + Rec.z α := Nat.succ_mul _ _
    rw [List.set_append_right _ _ (by rw [rec_len]; omega), rec_len, show (k + 1) * Rec.z α + j - Rec.z α = k * Rec.z α + j by omega, ih]
theorem rows_of {l : List α} {i : Nat} {v : Value} (h : (rows l)[i]? = some v) : ∃ x, l[i / Rec.z α]? = some x ∧ (Rec.vals x).toList[i % Rec.z α]? = some v := by
  have hz : 0 < Rec.z α := Rec.pos
  have hi := (List.getElem?_eq_some_iff.1 h).1
  rw [rows_len] at hi
  have hk : i / Rec.z α < l.length := Nat.div_lt_of_lt_mul (by rwa [Nat.mul_comm] at hi)
  refine ⟨l[i / Rec.z α], List.getElem?_eq_getElem hk, ?_⟩
  have hj : i % Rec.z α < (Rec.vals (l[i / Rec.z α])).toList.length := by rw [rec_len]; exact Nat.mod_lt _ hz
  have h2 := rows_at (List.getElem?_eq_getElem hk) (List.getElem?_eq_getElem hj)
  rw [show i / Rec.z α * Rec.z α + i % Rec.z α = i by rw [Nat.mul_comm]; exact Nat.div_add_mod i _, h] at h2
  rw [List.getElem?_eq_getElem hj, h2]
end

/-- Values lie from an address on. -/
def LiesAt (w : World) (a : Addr) (cs : Array Value) : Prop := ∀ j v, cs.toList[j]? = some v → w.cell? (a.add j) = some v
theorem LiesAt.fld {w : World} {a : Addr} {cs : Array Value} {v : Value} (h : LiesAt w a cs) (j : Nat) (hv : cs.toList[j + 1]? = some v) : w.cell? ⟨a.block, a.off + (j + 1), none⟩ = some v := by
  have := h (j + 1) v hv
  unfold Addr.add at this
  simpa using this
theorem LiesAt.up {w w' : World} {a : Addr} {cs : Array Value} (h : LiesAt w a cs) (hb : Below w.heap.size w w') : LiesAt w' a cs := fun j v hv => by
  have hc := h j v hv
  exact (hb.cell (World.block_lt_of_cell? w _ hc)).trans hc

/-- In block b lies just this. -/
def RecAt (w : World) (b : Nat) (cs : Array Value) (T : TypeId) : Prop := w.heap[b]? = some (.cells cs T (0, 0))
theorem RecAt.lt {w : World} {b : Nat} {cs : Array Value} {T : TypeId} (h : RecAt w b cs T) : b < w.heap.size := (Array.getElem?_eq_some_iff.1 h).1
theorem RecAt.cell {w : World} {b : Nat} {cs : Array Value} {T : TypeId} (h : RecAt w b cs T) (k : Nat) : w.cell? ⟨b, k, none⟩ = cs[k]? := cell_of_row w b k _ _ _ h
theorem RecAt.below {w w' : World} {B b : Nat} {cs : Array Value} {T : TypeId} (h : RecAt w b cs T) (hb : Below B w w') (hB : b < B) : RecAt w' b cs T := (hb.block b hB).trans h
theorem RecAt.up {w w' : World} {b : Nat} {cs : Array Value} {T : TypeId} (h : RecAt w b cs T) (hb : Below w.heap.size w w') : RecAt w' b cs T := h.below hb h.lt
theorem RecAt.new (w : World) (cs : Array Value) (T : TypeId) : RecAt (w.alloc (.cells cs T)) w.heap.size cs T := heap_alloc_new w _
theorem RecAt.drew {w : World} {b : Nat} {cs : Array Value} {T : TypeId} (h : RecAt w b cs T) : RecAt w.drew b cs T := h
theorem RecAt.set {w : World} {b : Nat} {old cs : Array Value} {T : TypeId} (h : RecAt w b old T) : RecAt (w.setRow b cs) b cs T := setRow_heap w b _ _ T (0, 0) h
theorem RecAt.grown {w w' : World} {b : Nat} {cs : Array Value} {T : TypeId} {row : Option Nat} (h : RecAt w b cs T) (hg : w.grownBy w' row) (hne : some b ≠ row) : RecAt w' b cs T := (hg.block b h.lt hne).trans h
theorem RecAt.lies {w : World} {b : Nat} {cs : Array Value} {T : TypeId} (h : RecAt w b cs T) : LiesAt w ⟨b, 0, none⟩ cs := fun j v hv => by
  rw [Addr.add_mid, Nat.zero_add, h.cell, ← hv]
  exact Array.getElem?_toList.symm

section
variable {α : Type} [Rec α]
/-- One of a list. -/
theorem rows_row {w : World} {B : Nat} {A : Option Addr} {l : List α} (h : Row w B A (rows l)) {k : Nat} {x : α} (hs : l[k]? = some x) : ∃ a, A = some a ∧ a.block < B ∧ LiesAt w (a.add (k * Rec.z α)) (Rec.vals x) := by
  have h0 : 0 < (Rec.vals x).toList.length := by rw [rec_len]; exact Rec.pos
  obtain ⟨a, hA, hb, _⟩ := h (k * Rec.z α + 0) _ (rows_at hs (List.getElem?_eq_getElem h0))
  refine ⟨a, hA, hb, fun j v hv => ?_⟩
  obtain ⟨a', hA', _, hc⟩ := h (k * Rec.z α + j) v (rows_at hs hv)
  rw [hA] at hA'
  cases hA'
  rw [Addr.add_add]
  exact hc
theorem rows_none {w : World} {B : Nat} {l : List α} (h : Row w B none (rows l)) : l = [] := by
  cases l with
  | nil => rfl
  | cons x r =>
    obtain ⟨a, ha, _⟩ := rows_row h (k := 0) (x := x) rfl
    cases ha
/-- A slice of the call's own. -/
theorem rows_of_own {w : World} {B : Nat} {e : TypeId} {v : Value} {n : Nat} {l : List α} (hn : n = l.length) (h : w.ownsRow B e (Rec.z α) v n (rows l)) :
    ∃ A c, v = .slice A l.length c ∧ l.length ≤ c ∧ c ≤ maxLen ∧ (A = none → c = 0) ∧ Row w w.heap.size A (rows l) := by
  subst hn
  rcases h.2 with ⟨rfl, h2⟩ | ⟨g, cap, cur, rfl, hb, hh, hn, hm, hs, ht⟩
  · obtain rfl := List.eq_nil_of_length_eq_zero h2
    exact ⟨none, 0, rfl, Nat.le_refl _, Nat.zero_le _, fun _ => rfl, Row.nil _ _ _⟩
  · exact ⟨some ⟨g, 0, none⟩, cap, rfl, hn, hm, fun e => by simp at e, fun k v hv => ⟨_, rfl, (h.lt g rfl).2, h.cells (g := g) rfl k v hv⟩⟩
end

section
variable {P : Program}
theorem run_rec_at (w : World) (T : TypeId) {cs : Array Value} (hi : (P.info? T).map (·.size) = some cs.size) {fs : Array Field} (hu : P.underlying T = some (.struct fs)) (ad : Addr) (hD : LiesAt w ad cs) : (loadVar T ad).run P w = .ok (.agg cs) w := by
  have hl : (loadCells ad cs.toList.length).run P w = .ok cs.toList.toArray w := run_loadCells_list (P := P) w ad cs.toList hD
  rw [Array.toArray_toList, Array.length_toList] at hl
  cases hq : P.info? T with
  | none => simp [hq] at hi
  | some i =>
    have hs : i.size = cs.size := by simpa [hq] using hi
    have hagg : (isAgg T).run P w = .ok true w := by
      unfold isAgg
      rw [Sem.run_bind, run_underlying hu w]
      rfl
    simp [loadVar, Sem.run_bind, hagg, sizeOf, typeInfo, hq, hs, hl]
theorem exec_load_rec {o : Oper} {a : Act} {w : World} (T : TypeId) (x : Operand) (ho : o.op = .load T x) (ad : Addr) (cs : Array Value) (hx : a.eval x = .pointer (some ad)) (hD : LiesAt w ad cs)
    {fs : Array Field} (hu : P.underlying T = some (.struct fs)) (hi : (P.info? T).map (·.size) = some cs.size) : (execOp a.eval o).run P w = .ok (.value (.agg cs)) w := by
  unfold execOp
  simp only [ho, hx, Instr.loadAt, Instr.sureAddr, Sem.run_bind, Sem.run_pure, Result.andThen_ok, run_rec_at w T hi hu ad hD]
/-- Where a slice of records of z cells begins behind its first j. -/
def partz (z : Nat) (A : Option Addr) (j c : Nat) : Option Addr := if c = j then A else A.map (·.add (j * z))
theorem partz_zero (z : Nat) (A : Option Addr) (c : Nat) : partz z A 0 c = A := by
  unfold partz
  split
  · rfl
  · cases A <;> simp [Addr.add]
variable {ops : Array Oper} {rest : List Oper} {o : Oper} {a : Act} {w : World} {Q : Exit → Act → World → Prop}
/-- Out of wherever it lies. -/
theorem load_rec (T : TypeId) (x : Operand) (ho : o.op = .load T x) (hgd : Region.wanted o (yielded ops a.tmps) = true) (ad : Addr) (cs : Array Value) (hx : a.eval x = .pointer (some ad)) (hD : LiesAt w ad cs)
    {fs : Array Field} (hu : P.underlying T = some (.struct fs)) (hi : (P.info? T).map (·.size) = some cs.size)
    (h : wpList P ops Q rest (a.put o.dst (.agg cs)) w) : wpList P ops Q (o :: rest) a w :=
  wpList_step fun K hK => by
    rw [if_pos hgd]
    unfold Oper.wp
    rw [exec_load_rec T x ho ad cs hx hD hu hi]
    exact hK _ _ h
/-- Into a block of its own; other blocks keep what they hold. -/
theorem store_rec (T : TypeId) (x y : Operand) (ho : o.op = .store T x y) (hgd : Region.wanted o (yielded ops a.tmps) = true) (g : Nat) (cs old : Array Value) (T' : TypeId) (hx : a.eval x = .pointer (some ⟨g, 0, none⟩)) (hy : a.eval y = .agg cs) (hS : RecAt w g old T')
    (hi : (P.info? T).map (·.size) = some cs.size) (hs : old.size = cs.size) (h1 : cs.all (·.oneCell') = true)
    (h : ∀ w', RecAt w' g cs T' → Below g w w' → w'.heap.size = w.heap.size → (∀ k, k ≠ g → w'.heap[k]? = w.heap[k]?) → wpList P ops Q rest (a.put o.dst undef) w') : wpList P ops Q (o :: rest) a w :=
  wpList_step fun K hK => by
    rw [if_pos hgd]
    exact wp_store_row T x y ho g cs hx hy T' old hS hi hs h1 (hK _ _ (h _ hS.set (below_setRow (Below.refl _ _) (Nat.le_refl _) _) (by simp) (fun k hk => setRow_other _ _ _ _ hk)))
theorem build_rec (T : TypeId) (parts : Array (Nat × Operand)) (ho : o.op = .build T parts) (hgd : Region.wanted o (yielded ops a.tmps) = true) (cs : Array Value) (hb : P.built T (parts.map fun (i, x) => (i, a.eval x)).toList = some cs)
    (h : wpList P ops Q rest (a.put o.dst (.agg cs)) w) : wpList P ops Q (o :: rest) a w :=
  wpList_step fun K hK => by
    rw [if_pos hgd]
    refine wp_build T parts ho (by rw [hb]; rfl) ?_
    rw [hb]
    exact hK _ _ h
/-- A list of one. -/
theorem list_one_rec (t e : TypeId) (hgd : o.guard = none) (x : Operand) (ho : o.op = .buildSlice t 1 #[(0, x)]) (hu : P.underlying t = some (.slice e)) (cs zs : Array Value) {z bytes : Nat} (he : (P.info? e).map (fun i => (i.zero, i.size, i.bytes)) = some (some (.agg zs), z, bytes)) (hz : cs.size = z) (h0 : 0 < z) (h1 : z ≤ 1000)
    (hf : Instr.fill (fun i => some (i * cs.size, cs.size)) ((Array.range (1 * cs.size)).map ((Value.agg zs).cells[· % (Value.agg zs).cells.size]!)) [(0, .agg cs)] = some cs) (hx : a.eval x = .agg cs)
    (h : wpList P ops Q rest (a.put o.dst (.slice (some ⟨w.heap.size, 0, none⟩) 1 1)) (w.alloc (.cells cs e))) : wpList P ops Q (o :: rest) a w := by
  subst hz
  obtain ⟨i0, hi0, hz0, hz1, hz2⟩ := info_parts he
  refine wpList_buildSlice hgd t e 1 #[(0, x)] ho cs i0 _ hu hi0 hz0 (by rw [hz1]; omega) (by rw [hz1]; omega) ?_ h
  rw [hz1]
  simp only [List.map_toArray, List.map_cons, List.map_nil, hx]
  exact hf
end

section
variable {H : Type} {enc : TypeId × Value → H} {P : Program} {w : World} {base : Nat} {held : Bool} {α : Type} [Rec α]
end

/-- Behind a call that turned nothing of what was there. -/
theorem Row.kept {w w' : World} {A : Option Addr} {xs : List Value} (h : Row w w.heap.size A xs) (hb : Below w.heap.size w w') : Row w' w'.heap.size A xs := (h.below hb).up hb.size
/-- A block that was made and written: as nothing had been. -/
theorem rec_made {w0 w w' : World} {o : Obj} (hB : Below w0.heap.size w0 w) (h : Below w.heap.size (w.alloc o) w') : Below w0.heap.size w0 w' :=
  hB.trans ((((Below.refl _ _).alloc (Nat.le_refl _) _).trans h).mono hB.size)
/-- A list, where it lies, the room behind it: a slice. -/
structure SlR (α : Type) where
  l : List α
  A : Option Addr
  c : Nat
def SlR.val {α : Type} (s : SlR α) : Value := .slice s.A s.l.length s.c
/-- An answer: a list of records, in the call's own memory or none, and an error's number. -/
def Recs {α : Type} [Rec α] (w0 : World) (r : List α × Nat) (e : Ending) (w : World) : Prop :=
  ∃ A c, e = .returned (.tuple #[.slice A r.1.length c, .int .i64 (r.2 : Int)]) ∧ r.1.length ≤ c ∧ c ≤ maxLen ∧ (A = none → c = 0) ∧ Row w w.heap.size A (rows r.1) ∧ Below w0.heap.size w0 w
theorem Recs.none {α : Type} [Rec α] {w0 w : World} (y : Nat) (h : Below w0.heap.size w0 w) : Recs w0 (([] : List α), y) (.returned (.tuple #[.slice none 0 0, .int .i64 (y : Int)])) w :=
  ⟨_, _, rfl, Nat.le_refl _, Nat.zero_le _, fun _ => rfl, Row.nil _ _ _, h⟩
theorem Recs.own {α : Type} [Rec α] {w0 w : World} {v : Value} {base n : Nat} {e : TypeId} {xs : List α} (h : w.ownsRow base e (Rec.z α) v n (rows xs)) (hn : n = xs.length) (hb : Below w0.heap.size w0 w) : Recs w0 (xs, 0) (.returned (.tuple #[v, .int .i64 0])) w := by
  obtain ⟨A, c, rfl, hc, hm, hz, hr⟩ := rows_of_own hn h
  exact ⟨A, c, rfl, hc, hm, hz, hr, hb⟩
end Go.Proofs.Ytcaejanfhchacaa
