/- The reference's numbers (layer 1): a long division, what its world holds between its steps. · The reference's numbers (layer 1): a long division. By contracts. · The reference of layer 2 (ratio): a product by a number, in its parts. By contracts. · What the reference tells of a whole number, under one name each: a number of 64 bits, or the error. · The reference of layer 2 (ratio): down, up, what is left; products held against each other. By contracts. · What the calls of layer 1 answer and what the reference tells, under one name each: a number of 64 bits, or the error. · Records: one field stored, whatever its type; results of a record; memory of the call's own behind other turns. -/
import Derived.Test.YtcaejanfhchacaaRefNumB
import Derived.Test.YtcaejanfhchacaaParA
import Derived.Laws.AppendOwnNone
import Derived.Deep.RegionWith
import Derived.Deep.CutBlock
import Derived.Test.YtcaejanfhchacaaNatG
import Derived.Test.YtcaejanfhchacaaMemM
import Derived.Test.YtcaejanfhchacaaRec
import Derived.Deep.MidRow
namespace Go.Proofs.Ytcaejanfhchacaa
open Go.RowKit
set_option linter.unusedVariables false

/-- Between two steps of a division: the quotient's digits lie in block p, what is left in the cell behind it. -/
structure DivW (p : Nat) (wr : World) (qs : List Nat) (R : Nat) (A : Option Addr) (c : Nat) : Prop where
  row : ∀ k, k < qs.length → wr.cell? ⟨p, k, none⟩ = some (.int .i64 ((qs.getD k 0 : Nat) : Int))
  frz : ∀ k, wr.frozen? ⟨p, k, none⟩ = false
  size : p + 2 ≤ wr.heap.size
  cell : wr.cell? ⟨p + 1, 0, none⟩ = some (.slice A (digs R).length c)
  frz1 : wr.frozen? ⟨p + 1, 0, none⟩ = false
  nat : NatV wr wr.heap.size (.agg #[.slice A (digs R).length c]) R
  fresh : Fresh (p + 2) (.agg #[.slice A (digs R).length c])

theorem DivW.drew {p R c : Nat} {wr : World} {qs : List Nat} {A : Option Addr} (h : DivW p wr qs R A c) : DivW p wr.drew qs R A c := ⟨h.row, h.frz, h.size, h.cell, h.frz1, h.nat, h.fresh⟩

/-- Another number is left. -/
theorem DivW.left {p R R' L c c' : Nat} {w' : World} {qs : List Nat} {A A' : Option Addr} (h : DivW p w' qs R A c) (hL : p + 2 ≤ L)
    (hv : NatV w' w'.heap.size (.agg #[.slice A' (digs R').length c']) R') (hf : Fresh L (.agg #[.slice A' (digs R').length c'])) :
    DivW p (w'.setCell ⟨p + 1, 0, none⟩ (.slice A' (digs R').length c')) qs R' A' c' := by
  refine ⟨fun k hk => ?_, fun k => ?_, ?_, World.cell?_setCell_same _ _ _ h.cell, ?_, ?_, hf.down hL⟩
  · rw [World.cell?_setCell_other]
    · exact h.row k hk
    · intro e; injection e with e1; omega
  · rw [World.frozen?_setCell]; exact h.frz k
  · have := h.size; simpa [World.setCell] using this
  · rw [World.frozen?_setCell]; exact h.frz1
  · exact (hv.setCell hf (by show p + 1 < L; omega) _).up (by simp [World.setCell])

/-- Another digit of the quotient. -/
theorem DivW.digit {p R i x c : Nat} {wr : World} {qs : List Nat} {A : Option Addr} (h : DivW p wr qs R A c) (hi : i < qs.length) :
    DivW p (wr.setCell ⟨p, i, none⟩ (.int .i64 (x : Int))) (qs.set i x) R A c := by
  refine ⟨fun k hk => ?_, fun k => ?_, ?_, ?_, ?_, ?_, h.fresh⟩
  · rw [List.length_set] at hk
    by_cases e : k = i
    · subst e
      rw [World.cell?_setCell_same _ _ _ (h.row k hk)]
      simp [hi]
    · rw [World.cell?_setCell_other]
      · rw [h.row k hk]
        simp [List.getD, Ne.symm e]
      · intro e2; injection e2 with _ e3; omega
  · rw [World.frozen?_setCell]; exact h.frz k
  · have := h.size; simpa [World.setCell] using this
  · rw [World.cell?_setCell_other]
    · exact h.cell
    · intro e; injection e with e1; omega
  · rw [World.frozen?_setCell]; exact h.frz1
  · exact (h.nat.setCell h.fresh (by show p < p + 2; omega) _).up (by simp [World.setCell])

/-- The quotient's digits, as a row. -/
theorem DivW.digits {p R c : Nat} {wr : World} {qs : List Nat} {A : Option Addr} (h : DivW p wr qs R A c) : Row wr wr.heap.size (some ⟨p, 0, none⟩) (ints qs) := by
  intro k v hv
  have hk : k < qs.length := by
    have := (List.getElem?_eq_some_iff.1 hv).1
    rwa [ints_len] at this
  refine ⟨_, rfl, by have := h.size; show p < _; omega, ?_⟩
  have e : (⟨p, 0, none⟩ : Addr).add k = ⟨p, k, none⟩ := by
    unfold Addr.add
    by_cases hz : k = 0
    · rw [if_pos hz, hz]
    · rw [if_neg hz]; simp
  rw [e, h.row k hk]
  simp [ints, hk] at hv
  rw [← hv]
  simp [hk]

end Go.Proofs.Ytcaejanfhchacaa
namespace Go.Proofs.Ytcaejanfhchacaa
open Go.RowKit
set_option linter.unusedVariables false

end Go.Proofs.Ytcaejanfhchacaa
namespace Go.Proofs.Ytcaejanfhchacaa
open Go.RowKit
set_option linter.unusedVariables false

end Go.Proofs.Ytcaejanfhchacaa
namespace Go.Proofs.Ytcaejanfhchacaa
open Go.RowKit
set_option linter.unusedVariables false

/-- The number, if it is one of 64 bits. -/
def tx (N : Nat) : Nat := if N ≤ 18446744073709551615 then N else 0
/-- The error's number, if it is none. -/
def te (N : Nat) : Nat := if N ≤ 18446744073709551615 then 0 else 10
theorem tx_in {N : Nat} (h : N ≤ 18446744073709551615) : tx N = N := by unfold tx; rw [if_pos h]
theorem te_in {N : Nat} (h : N ≤ 18446744073709551615) : te N = 0 := by unfold te; rw [if_pos h]
theorem tx_out {N : Nat} (h : 18446744073709551615 < N) : tx N = 0 := by unfold tx; rw [if_neg (Nat.not_le_of_lt h)]
theorem te_out {N : Nat} (h : 18446744073709551615 < N) : te N = 10 := by unfold te; rw [if_neg (Nat.not_le_of_lt h)]

end Go.Proofs.Ytcaejanfhchacaa
namespace Go.Proofs.Ytcaejanfhchacaa
open Go.RowKit
set_option linter.unusedVariables false

end Go.Proofs.Ytcaejanfhchacaa
namespace Go.Proofs.Ytcaejanfhchacaa
open Go.RowKit
set_option linter.unusedVariables false

theorem sum_told (ns : List Nat) (A : Option Addr) (c B : Nat) (w : World) (hr : Row w B A (u64s ns)) (hlen : ns.length ≤ maxLen) (hn : ∀ n ∈ ns, n ≤ 18446744073709551615) :
    Calls Try.prog 110 #[.slice A ns.length c] w fun e w' => e = .returned (.tuple #[.int .u64 (tx (tot ns) : Nat), .int .i64 (te (tot ns) : Nat)]) ∧ w = w' := by
  by_cases h : tot ns ≤ 18446744073709551615
  · rw [tx_in h, te_in h]
    exact sum_ok ns A c B w hr hlen h
  · rw [tx_out (by omega), te_out (by omega)]
    exact sum_over ns A c B w hr hlen hn (by omega)

end Go.Proofs.Ytcaejanfhchacaa
namespace Go.Proofs.Ytcaejanfhchacaa
open Go.ChangeShapes Go.WideShapes Go.ChangeAt Go.RowKit Go.Deep
set_option linter.unusedVariables false
set_option linter.unusedSimpArgs false

theorem RecAt.frozen {w : World} {b : Nat} {cs : Array Value} {T : TypeId} (h : RecAt w b cs T) (k : Nat) : w.frozen? ⟨b, k, none⟩ = false := frozen_of_row w b k cs T h
section
variable {P : Program} {ops : Array Oper} {rest : List Oper} {o : Oper} {a : Act} {w : World} {Q : Exit → Act → World → Prop}
theorem run_store_slot (T : TypeId) (g k : Nat) (cs : Array Value) (T0 : TypeId) (v : Value) (hS : RecAt w g cs T0) (hk : k < cs.size) (hv : v.cells = #[v]) (h1 : v.oneCell' = true) (hi : (P.info? T).map (·.size) = some 1) :
    (storeVar T ⟨g, k, none⟩ v).run P w = .ok () (w.setCell ⟨g, k, none⟩ v) := by
  have h := run_storeCells_cells (P := P) g k [v] 0 w (fun j hj => by
    have : j = 0 := by simpa using hj
    subst this
    rw [hS.cell]; show (cs[k]?).isSome = true; rw [Array.getElem?_eq_getElem hk]; rfl) (fun j _ => hS.frozen _) (fun u hu => by
    have : u = v := by simpa using hu
    rw [this]; exact h1)
  cases hq : P.info? T with
  | none => simp [hq] at hi
  | some i =>
    have hs : i.size = 1 := by simpa [hq] using hi
    simp only [Nat.add_zero, World.setCells] at h
    simp [storeVar, sizeOf, typeInfo, hq, hv, hs, h]
/-- One value into its field; the world behind it has a new name. -/
theorem store_slot (T : TypeId) (x y : Operand) (ho : o.op = .store T x y) (hgd : Region.wanted o (yielded ops a.tmps) = true) (g k : Nat) (cs ds : Array Value) (T0 : TypeId) (v : Value) (hx : a.eval x = .pointer (some ⟨g, k, none⟩)) (hy : a.eval y = v) (hS : RecAt w g cs T0)
    (hk : k < cs.size) (hv : v.cells = #[v]) (h1 : v.oneCell' = true) (hi : (P.info? T).map (·.size) = some 1) (hd : cs.setIfInBounds k v = ds)
    (h : ∀ w', RecAt w' g ds T0 → Below g w w' → w'.heap.size = w.heap.size → (∀ j, j ≠ g → w'.heap[j]? = w.heap[j]?) → wpList P ops Q rest (a.put o.dst undef) w') : wpList P ops Q (o :: rest) a w :=
  wpList_step fun K hK => by
    rw [if_pos hgd]
    subst hd
    have hK' : K (a.put o.dst undef) (w.setCell ⟨g, k, none⟩ v) := by
      refine hK _ _ (h _ ?_ (Below.setCell (p := ⟨g, k, none⟩) (Below.refl g w) (Nat.le_refl _) _) (by simp) (fun j hj => heap_setCell_other _ _ _ _ hj))
      exact heap_setCell_same w g k _ _ _ hS
    unfold Oper.wp execOp
    simp only [ho, hx, hy, Instr.storeAt, Instr.sureAddr, Sem.run_bind, Sem.run_pure, Result.andThen_ok, run_store_slot T g k cs T0 v hS hk hv h1 hi]
    exact hK'
variable {fn : Func} {tmps : Array Value} {s k g : Nat} {T T0 : TypeId}
theorem res_rec1 (cs : Array Value) (h : fn.results = #[.cell s T]) (hp : tmps.getD s undef = .pointer (some ⟨g, 0, none⟩)) (hS : RecAt w g cs T0) {fs : Array Field} (hu : P.underlying T = some (.struct fs)) (hi : (P.info? T).map (·.size) = some cs.size) : (results fn tmps).run P w = .ok (.agg cs) w := by
  have hp' : tmps[s]?.getD undef = .pointer (some ⟨g, 0, none⟩) := by simpa using hp
  simp [results, h, hp', asAddr, run_loadVar_row w g T0 T cs (0, 0) _ hS hu rfl hi]
theorem res_rec2 (cs : Array Value) (h : fn.results = #[.cell s T, .tmp k]) (hp : tmps.getD s undef = .pointer (some ⟨g, 0, none⟩)) (hS : RecAt w g cs T0) {fs : Array Field} (hu : P.underlying T = some (.struct fs)) (hi : (P.info? T).map (·.size) = some cs.size) : (results fn tmps).run P w = .ok (.tuple #[.agg cs, tmps.getD k undef]) w := by
  have hp' : tmps[s]?.getD undef = .pointer (some ⟨g, 0, none⟩) := by simpa using hp
  simp [results, h, hp', asAddr, run_loadVar_row w g T0 T cs (0, 0) _ hS hu rfl hi]
end
theorem grown_any {w w' : World} (h : Below w.heap.size w w') (row : Option Nat) : w.grownBy w' row := ⟨h.os, h.tape, h.output, h.size, fun k hk _ => h.block k hk⟩
theorem grown_but {w w' : World} {g : Nat} (h : Below g w w') (hk : ∀ k, k ≠ g → w'.heap[k]? = w.heap[k]?) : w.grownBy w' (some g) := ⟨h.os, h.tape, h.output, h.size, fun k _ hne => hk k (fun e => hne (by rw [e]))⟩
theorem grown_to {w w' : World} {B g : Nat} (h : w.grownBy w' (some g)) (hB : B ≤ g) (hz : B ≤ w.heap.size) : Below B w w' := ⟨h.os, h.tape, h.output, h.size, fun k hk => h.block k (by omega) (by simp; omega)⟩
theorem own_slice {w : World} {base z n : Nat} {e : TypeId} {v : Value} {xs : List Value} (h : w.ownsRow base e z v n xs) : ∃ A c, v = .slice A n c := by
  rcases h.2 with ⟨rfl, rfl⟩ | ⟨g, cap, cur, rfl, _⟩
  · exact ⟨_, _, rfl⟩
  · exact ⟨_, _, rfl⟩
/-- Where a row of the call's own that holds something lies. -/
theorem own_some {w : World} {base z n c : Nat} {e : TypeId} {A : Option Addr} {xs : List Value} (h : w.ownsRow base e z (.slice A n c) n xs) (hn : 0 < n) : ∃ g, A = some ⟨g, 0, none⟩ ∧ base ≤ g := by
  rcases h.2 with ⟨h1, rfl⟩ | ⟨g, cap, cur, h1, h2, _⟩
  · omega
  · simp only [Value.slice.injEq] at h1
    exact ⟨g, h1.1, h2⟩
/-- Rows of other types lie in other blocks. -/
theorem own_types {w : World} {lo lo' n n' z z' : Nat} {e e' : TypeId} {v v' : Value} {xs xs' : List Value} (h : w.ownsRow lo e z v n xs) (h' : w.ownsRow lo' e' z' v' n' xs') (hne : e ≠ e') : ∀ g, v.ownBlock = some g → v'.ownBlock ≠ some g := by
  intro g hg hg'
  rcases h.2 with ⟨rfl, _⟩ | ⟨g1, c1, cur1, rfl, _, hh1, _⟩
  · cases hg
  · rcases h'.2 with ⟨rfl, _⟩ | ⟨g2, c2, cur2, rfl, _, hh2, _⟩
    · cases hg'
    · simp only [Value.ownBlock, Option.some.injEq] at hg hg'
      subst hg
      subst hg'
      rw [hh1] at hh2
      simp only [Option.some.injEq, Obj.cells.injEq] at hh2
      exact hne hh2.2.1
theorem own_lies {α : Type} [Rec α] {w : World} {base n c g : Nat} {e : TypeId} {l : List α} (h : w.ownsRow base e (Rec.z α) (.slice (some ⟨g, 0, none⟩) n c) n (rows l)) {k : Nat} {x : α} (hx : l[k]? = some x) : LiesAt w ⟨g, k * Rec.z α, none⟩ (Rec.vals x) := fun j v hv => by
  have := h.cells (g := g) rfl _ v (rows_at hx hv)
  rw [Addr.add_mid, Nat.zero_add] at this
  rw [Addr.add_mid]
  exact this
theorem own_of {w0 w1 : World} {P : Program} (hS : Below w0.heap.size w0 w1) {f : FuncId} {args : Array Value} {e : TypeId} {z n : Nat} {xs : List Value} (k : Calls P f args w1 fun e' w' => ∃ v, e' = .returned v ∧ w'.ownsRow w1.heap.size e z v n xs ∧ Below w1.heap.size w1 w') :
    Calls P f args w1 fun e' w' => ∃ v, e' = .returned v ∧ w'.ownsRow w0.heap.size e z v n xs ∧ Below w0.heap.size w0 w' ∧ Below w1.heap.size w1 w' :=
  k.mono (by rintro e' w' ⟨v, h1, h2, h3⟩; exact ⟨v, h1, own_base h2 hS.size, Below.then hS h3, h3⟩)
end Go.Proofs.Ytcaejanfhchacaa
