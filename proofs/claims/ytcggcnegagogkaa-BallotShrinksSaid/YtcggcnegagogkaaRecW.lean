/- Records: one field stored, whatever its type; results of a record; memory of the call's own behind other turns. -/
import Derived.Test.YtcggcnegagogkaaRec
import Derived.Deep.MidRow
namespace Go.Proofs.Ytcggcnegagogkaa
open Go.ChangeShapes Go.WideShapes Go.ChangeAt Go.RowKit Go.Deep
set_option linter.unusedVariables false
set_option linter.unusedSimpArgs false

theorem RecAt.frozen {w : World} {b : Nat} {cs : Array Value} {T : TypeId} (h : RecAt w b cs T) (k : Nat) : w.frozen? ⟨b, k, none⟩ = false := frozen_of_row w b k cs T h
section
variable {P : Program} {ops : Array Oper} {rest : List Oper} {o : Oper} {a : Act} {w : World} {Q : Exit → Act → World → Prop}
theorem run_store_slot (T : TypeId) (g k : Nat) (cs : Array Value) (T0 : TypeId) (v : Value) (hS : RecAt w g cs T0) (hk : k < cs.size) (hv : v.cells = #[v]) (h1 : v.oneCell' = true) (hi : (P.info? T).map (·.size) = some 1) :
    (storeVar T ⟨g, k, none⟩ v).run P w = .ok () (w.setCell ⟨g, k, none⟩ v) := by
  have h := run_storeCells_cells (P := P) g k [v] 0 w (fun j hj => by
    have : j = 0 := by simpa using hj
    subst this
    rw [hS.cell]; show (cs[k]?).isSome = true; rw [Array.getElem?_eq_getElem hk]; rfl) (fun j _ => hS.frozen _) (fun u hu => by
    have : u = v := by simpa using hu
    rw [this]; exact h1)
  cases hq : P.info? T with
  | none => simp [hq] at hi
  | some i =>
    have hs : i.size = 1 := by simpa [hq] using hi
    simp only [Nat.add_zero, World.setCells] at h
    simp [storeVar, sizeOf, typeInfo, hq, hv, hs, h]
/-- One value into its field; the world behind it has a new name. -/
theorem store_slot (T : TypeId) (x y : Operand) (ho : o.op = .store T x y) (hgd : Region.wanted o (yielded ops a.tmps) = true) (g k : Nat) (cs ds : Array Value) (T0 : TypeId) (v : Value) (hx : a.eval x = .pointer (some ⟨g, k, none⟩)) (hy : a.eval y = v) (hS : RecAt w g cs T0)
    (hk : k < cs.size) (hv : v.cells = #[v]) (h1 : v.oneCell' = true) (hi : (P.info? T).map (·.size) = some 1) (hd : cs.setIfInBounds k v = ds)
    (h : ∀ w', RecAt w' g ds T0 → Below g w w' → w'.heap.size = w.heap.size → (∀ j, j ≠ g → w'.heap[j]? = w.heap[j]?) → wpList P ops Q rest (a.put o.dst undef) w') : wpList P ops Q (o :: rest) a w :=
  wpList_step fun K hK => by
    rw [if_pos hgd]
    subst hd
    have hK' : K (a.put o.dst undef) (w.setCell ⟨g, k, none⟩ v) := by
      refine hK _ _ (h _ ?_ (Below.setCell (p := ⟨g, k, none⟩) (Below.refl g w) (Nat.le_refl _) _) (by simp) (fun j hj => heap_setCell_other _ _ _ _ hj))
      exact heap_setCell_same w g k _ _ _ hS
    unfold Oper.wp execOp
    simp only [ho, hx, hy, Instr.storeAt, Instr.sureAddr, Sem.run_bind, Sem.run_pure, Result.andThen_ok, run_store_slot T g k cs T0 v hS hk hv h1 hi]
    exact hK'
variable {fn : Func} {tmps : Array Value} {s k g : Nat} {T T0 : TypeId}
theorem res_rec1 (cs : Array Value) (h : fn.results = #[.cell s T]) (hp : tmps.getD s undef = .pointer (some ⟨g, 0, none⟩)) (hS : RecAt w g cs T0) {fs : Array Field} (hu : P.underlying T = some (.struct fs)) (hi : (P.info? T).map (·.size) = some cs.size) : (results fn tmps).run P w = .ok (.agg cs) w := by
  have hp' : tmps[s]?.getD undef = .pointer (some ⟨g, 0, none⟩) := by simpa using hp
  simp [results, h, hp', asAddr, run_loadVar_row w g T0 T cs (0, 0) _ hS hu rfl hi]
theorem res_rec2 (cs : Array Value) (h : fn.results = #[.cell s T, .tmp k]) (hp : tmps.getD s undef = .pointer (some ⟨g, 0, none⟩)) (hS : RecAt w g cs T0) {fs : Array Field} (hu : P.underlying T = some (.struct fs)) (hi : (P.info? T).map (·.size) = some cs.size) : (results fn tmps).run P w = .ok (.tuple #[.agg cs, tmps.getD k undef]) w := by
  have hp' : tmps[s]?.getD undef = .pointer (some ⟨g, 0, none⟩) := by simpa using hp
  simp [results, h, hp', asAddr, run_loadVar_row w g T0 T cs (0, 0) _ hS hu rfl hi]
end
theorem grown_any {w w' : World} (h : Below w.heap.size w w') (row : Option Nat) : w.grownBy w' row := ⟨h.os, h.tape, h.output, h.size, fun k hk _ => h.block k hk⟩
theorem grown_but {w w' : World} {g : Nat} (h : Below g w w') (hk : ∀ k, k ≠ g → w'.heap[k]? = w.heap[k]?) : w.grownBy w' (some g) := ⟨h.os, h.tape, h.output, h.size, fun k _ hne => hk k (fun e => hne (by rw [e]))⟩
theorem grown_then {a b c : World} {row row' : Option Nat} (h : a.grownBy b row) (k : b.grownBy c row') (hr : ∀ j, row' = some j → a.heap.size ≤ j) : a.grownBy c row :=
  ⟨k.os.trans h.os, k.tape.trans h.tape, k.output.trans h.output, Nat.le_trans h.size k.size, fun i hi hne => (k.block i (Nat.lt_of_lt_of_le hi h.size) (fun e => by have := hr i e.symm; omega)).trans (h.block i hi hne)⟩
theorem grown_to {w w' : World} {B g : Nat} (h : w.grownBy w' (some g)) (hB : B ≤ g) (hz : B ≤ w.heap.size) : Below B w w' := ⟨h.os, h.tape, h.output, h.size, fun k hk => h.block k (by omega) (by simp; omega)⟩
theorem own_slice {w : World} {base z n : Nat} {e : TypeId} {v : Value} {xs : List Value} (h : w.ownsRow base e z v n xs) : ∃ A c, v = .slice A n c := by
  rcases h.2 with ⟨rfl, rfl⟩ | ⟨g, cap, cur, rfl, _⟩
  · exact ⟨_, _, rfl⟩
  · exact ⟨_, _, rfl⟩
/-- Where a row of the call's own that holds something lies. -/
theorem own_some {w : World} {base z n c : Nat} {e : TypeId} {A : Option Addr} {xs : List Value} (h : w.ownsRow base e z (.slice A n c) n xs) (hn : 0 < n) : ∃ g, A = some ⟨g, 0, none⟩ ∧ base ≤ g := by
  rcases h.2 with ⟨h1, rfl⟩ | ⟨g, cap, cur, h1, h2, _⟩
  · omega
  · simp only [Value.slice.injEq] at h1
    exact ⟨g, h1.1, h2⟩
/-- Rows of other types lie in other blocks. -/
theorem own_types {w : World} {lo lo' n n' z z' : Nat} {e e' : TypeId} {v v' : Value} {xs xs' : List Value} (h : w.ownsRow lo e z v n xs) (h' : w.ownsRow lo' e' z' v' n' xs') (hne : e ≠ e') : ∀ g, v.ownBlock = some g → v'.ownBlock ≠ some g := by
  intro g hg hg'
  rcases h.2 with ⟨rfl, _⟩ | ⟨g1, c1, cur1, rfl, _, hh1, _⟩
  · cases hg
  · rcases h'.2 with ⟨rfl, _⟩ | ⟨g2, c2, cur2, rfl, _, hh2, _⟩
    · cases hg'
    · simp only [Value.ownBlock, Option.some.injEq] at hg hg'
      subst hg
      subst hg'
      rw [hh1] at hh2
      simp only [Option.some.injEq, Obj.cells.injEq] at hh2
      exact hne hh2.2.1
theorem own_lies {α : Type} [Rec α] {w : World} {base n c g : Nat} {e : TypeId} {l : List α} (h : w.ownsRow base e (Rec.z α) (.slice (some ⟨g, 0, none⟩) n c) n (rows l)) {k : Nat} {x : α} (hx : l[k]? = some x) : LiesAt w ⟨g, k * Rec.z α, none⟩ (Rec.vals x) := fun j v hv => by
  have := h.cells (g := g) rfl _ v (rows_at hx hv)
  rw [Addr.add_mid, Nat.zero_add] at this
  rw [Addr.add_mid]
  exact this
theorem own_of {w0 w1 : World} {P : Program} (hS : Below w0.heap.size w0 w1) {f : FuncId} {args : Array Value} {e : TypeId} {z n : Nat} {xs : List Value} (k : Calls P f args w1 fun e' w' => ∃ v, e' = .returned v ∧ w'.ownsRow w1.heap.size e z v n xs ∧ Below w1.heap.size w1 w') :
    Calls P f args w1 fun e' w' => ∃ v, e' = .returned v ∧ w'.ownsRow w0.heap.size e z v n xs ∧ Below w0.heap.size w0 w' ∧ Below w1.heap.size w1 w' :=
  k.mono (by rintro e' w' ⟨v, h1, h2, h3⟩; exact ⟨v, h1, own_base h2 hS.size, Below.then hS h3, h3⟩)
theorem own_under {w w' : World} {base n z g : Nat} {e : TypeId} {v : Value} {xs : List Value} (h : w.ownsRow base e z v n xs) (hb : w.grownBy w' (some g)) (hg : g < base) : w'.ownsRow base e z v n xs := own_apart h hb (fun q e => by have := (h.lt q e).1; simp; omega)
end Go.Proofs.Ytcggcnegagogkaa
