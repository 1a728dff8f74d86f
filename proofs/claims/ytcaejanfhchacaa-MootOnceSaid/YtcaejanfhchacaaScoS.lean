/- Layer 11 (score): standings in memory. · Layer 11 (score): standings moved whole: out of their block, into it, built, handed back, held against themselves. · A standing written word by word, and handed back beside words. · Parameters that come in with a law's arguments. · Standings, ticks and lists of ticks that come in with a law's arguments. -/
import Derived.Test.YtcaejanfhchacaaPlM
import Derived.Test.YtcaejanfhchacaaMemM
import Derived.Test.YtcaejanfhchacaaParL
import Derived.Test.YtcaejanfhchacaaSeq
import Derived.Deep.MidRow
import Derived.Test.YtcaejanfhchacaaLawB
import Derived.Test.YtcaejanfhchacaaParA
import Derived.Deep.Fields
import Derived.Deep.Slices
import Derived.Lib.SmallJoins
namespace Go.Proofs.Ytcaejanfhchacaa
open Go.RowKit
set_option linter.unusedVariables false
set_option linter.unusedSimpArgs false

/-- The values of a standing, in the order of its fields. -/
def Std.vals (s : Std) : Array Value := #[.int .u64 (s.bal : Int), .int .u64 (s.eff : Int), .int .u64 (s.score : Int), .int .i64 s.streak]
/-- In block b lies the standing. -/
def StdAt (w : World) (b : Nat) (s : Std) (T : TypeId) : Prop := w.heap[b]? = some (.cells s.vals T (0, 0))
theorem StdAt.lt {w : World} {b : Nat} {s : Std} {T : TypeId} (h : StdAt w b s T) : b < w.heap.size := (Array.getElem?_eq_some_iff.1 h).1
theorem StdAt.cell {w : World} {b : Nat} {s : Std} {T : TypeId} (h : StdAt w b s T) (k : Nat) : w.cell? ⟨b, k, none⟩ = s.vals[k]? := cell_of_row w b k _ _ _ h
theorem StdAt.below {w w' : World} {B b : Nat} {s : Std} {T : TypeId} (h : StdAt w b s T) (hb : Below B w w') (hB : b < B) : StdAt w' b s T := (hb.block b hB).trans h
theorem StdAt.up {w w' : World} {b : Nat} {s : Std} {T : TypeId} (h : StdAt w b s T) (hb : Below w.heap.size w w') : StdAt w' b s T := h.below hb h.lt
theorem StdAt.new (w : World) (s : Std) (T : TypeId) {b : Nat} (hb : b = w.heap.size) : StdAt (w.alloc (.cells s.vals T)) b s T := by subst hb; exact heap_alloc_new w _
theorem StdAt.c0 {w : World} {b : Nat} {s : Std} {T : TypeId} (h : StdAt w b s T) : w.cell? ⟨b, 0, none⟩ = some (.int .u64 (s.bal : Int)) := h.cell 0
theorem StdAt.c1 {w : World} {b : Nat} {s : Std} {T : TypeId} (h : StdAt w b s T) : w.cell? ⟨b, 1, none⟩ = some (.int .u64 (s.eff : Int)) := h.cell 1
theorem StdAt.c2 {w : World} {b : Nat} {s : Std} {T : TypeId} (h : StdAt w b s T) : w.cell? ⟨b, 2, none⟩ = some (.int .u64 (s.score : Int)) := h.cell 2
theorem StdAt.c3 {w : World} {b : Nat} {s : Std} {T : TypeId} (h : StdAt w b s T) : w.cell? ⟨b, 3, none⟩ = some (.int .i64 s.streak) := h.cell 3
theorem svals_size (s : Std) : s.vals.size = 4 := rfl
theorem std_size : (Try.prog.info? 114).map (·.size) = some 4 := by kernel_rfl

/-- The values of a working copy: the standing, and what it goes by. -/
def wvals (s : Std) (p : Par) : Array Value := #[.int .u64 (s.bal : Int), .int .u64 (s.eff : Int), .int .u64 (s.score : Int), .int .i64 s.streak, .int .u64 (p.inc : Int), .int .u64 (p.maxEff : Int), .int .u64 (p.floor : Int), .int .u64 (p.cap : Int), .int .u64 (p.up : Int), .int .u64 (p.down : Int), .int .u64 (p.bias : Int), .int .u64 (p.quot : Int), .int .u64 (p.biasEm : Int), .int .u64 (p.quotEm : Int), .int .u64 (p.recover : Int), .int .u64 (p.scoreCap : Int), .int .u64 (p.rate : Int), .int .u64 (p.bond : Int), .int .i64 p.delay, .int .i64 p.streak, .int .i64 p.boost, .int .i64 p.absent, .int .i64 p.burn, .int .i64 p.churn, .int .i64 p.wait, .int .i64 p.poll, .int .i64 p.enact, .int .i64 p.quorum]
def WorkAt (w : World) (b : Nat) (s : Std) (p : Par) (T : TypeId) : Prop := w.heap[b]? = some (.cells (wvals s p) T (0, 0))
theorem WorkAt.lt {w : World} {b : Nat} {s : Std} {p : Par} {T : TypeId} (h : WorkAt w b s p T) : b < w.heap.size := (Array.getElem?_eq_some_iff.1 h).1
theorem WorkAt.cell {w : World} {b : Nat} {s : Std} {p : Par} {T : TypeId} (h : WorkAt w b s p T) (k : Nat) : w.cell? ⟨b, k, none⟩ = (wvals s p)[k]? := cell_of_row w b k _ _ _ h
theorem WorkAt.below {w w' : World} {B b : Nat} {s : Std} {p : Par} {T : TypeId} (h : WorkAt w b s p T) (hb : Below B w w') (hB : b < B) : WorkAt w' b s p T := (hb.block b hB).trans h
theorem WorkAt.up {w w' : World} {b : Nat} {s : Std} {p : Par} {T : TypeId} (h : WorkAt w b s p T) (hb : Below w.heap.size w w') : WorkAt w' b s p T := h.below hb h.lt
theorem WorkAt.new (w : World) (s : Std) (p : Par) (T : TypeId) : WorkAt (w.alloc (.cells (wvals s p) T)) w.heap.size s p T := heap_alloc_new w _
theorem WorkAt.score {w : World} {b : Nat} {s : Std} {p : Par} {T : TypeId} (h : WorkAt w b s p T) : w.cell? ⟨b, 2, none⟩ = some (.int .u64 (s.score : Int)) := h.cell 2
theorem WorkAt.streak {w : World} {b : Nat} {s : Std} {p : Par} {T : TypeId} (h : WorkAt w b s p T) : w.cell? ⟨b, 3, none⟩ = some (.int .i64 s.streak) := h.cell 3
theorem WorkAt.bias {w : World} {b : Nat} {s : Std} {p : Par} {T : TypeId} (h : WorkAt w b s p T) : w.cell? ⟨b, 10, none⟩ = some (.int .u64 (p.bias : Int)) := h.cell 10
theorem WorkAt.biasEm {w : World} {b : Nat} {s : Std} {p : Par} {T : TypeId} (h : WorkAt w b s p T) : w.cell? ⟨b, 12, none⟩ = some (.int .u64 (p.biasEm : Int)) := h.cell 12
theorem WorkAt.recover {w : World} {b : Nat} {s : Std} {p : Par} {T : TypeId} (h : WorkAt w b s p T) : w.cell? ⟨b, 14, none⟩ = some (.int .u64 (p.recover : Int)) := h.cell 14
theorem WorkAt.scoreCap {w : World} {b : Nat} {s : Std} {p : Par} {T : TypeId} (h : WorkAt w b s p T) : w.cell? ⟨b, 15, none⟩ = some (.int .u64 (p.scoreCap : Int)) := h.cell 15
theorem WorkAt.most {w : World} {b : Nat} {s : Std} {p : Par} {T : TypeId} (h : WorkAt w b s p T) : w.cell? ⟨b, 19, none⟩ = some (.int .i64 p.streak) := h.cell 19
theorem wvals_size (s : Std) (p : Par) : (wvals s p).size = 28 := rfl
theorem WorkAt.std {w : World} {b : Nat} {s : Std} {p : Par} {T : TypeId} (h : WorkAt w b s p T) : w.rangeAt b 0 s.vals.toList := by
  intro j v hv
  rw [h.cell, ← hv, Array.getElem?_toList]
  have hj : j < 4 := by have := (List.getElem?_eq_some_iff.1 hv).1; rw [Array.length_toList, svals_size] at this; exact this
  match j, hj with
  | 0, _ | 1, _ | 2, _ | 3, _ => rfl
theorem WorkAt.there {w : World} {b : Nat} {s : Std} {p : Par} {T : TypeId} (h : WorkAt w b s p T) : w.there b 0 4 := fun j hj => by
  refine ⟨?_, frozen_of_row w b _ _ _ h⟩
  rw [h.cell]
  have : 0 + j < (wvals s p).size := by rw [wvals_size]; omega
  rw [Array.getElem?_eq_getElem this]; rfl
theorem WorkAt.set {w : World} {b : Nat} {s old : Std} {p q : Par} {T : TypeId} (h : WorkAt w b old q T) : WorkAt (w.setRow b (wvals s p)) b s p T := setRow_heap w b _ _ T (0, 0) h
theorem StdAt.set {w : World} {b : Nat} {s old : Std} {T : TypeId} (h : StdAt w b old T) : StdAt (w.setRow b s.vals) b s T := setRow_heap w b _ _ T (0, 0) h
end Go.Proofs.Ytcaejanfhchacaa
namespace Go.Proofs.Ytcaejanfhchacaa
open Go.RowKit Go.Deep
set_option linter.unusedVariables false
set_option linter.unusedSimpArgs false

section
variable {ops : Array Oper} {rest : List Oper} {o : Oper} {a : Act} {w : World} {Q : Exit → Act → World → Prop}
end
section
variable {fn : Func} {s : Nat} {T : TypeId} {x : Std} {g : Nat} {tmps : Array Value} {w : World}
end

section
variable {ops : Array Oper} {rest : List Oper} {o : Oper} {a : Act} {w : World} {Q : Exit → Act → World → Prop}
end
section
variable {fn : Func} {s : Nat} {T : TypeId} {x : Std} {g : Nat} {tmps : Array Value} {w : World}
end

section
variable {ops : Array Oper} {rest : List Oper} {o : Oper} {a : Act} {w : World} {Q : Exit → Act → World → Prop}
end
end Go.Proofs.Ytcaejanfhchacaa
namespace Go.Proofs.Ytcaejanfhchacaa
open Go.RowKit
set_option linter.unusedVariables false
set_option linter.unusedSimpArgs false

section
variable {ops : Array Oper} {rest : List Oper} {o : Oper} {a : Act} {w : World} {Q : Exit → Act → World → Prop}
theorem StdAt.frz {w : World} {b : Nat} {s : Std} {T : TypeId} (h : StdAt w b s T) (k : Nat) : w.frozen? ⟨b, k, none⟩ = false := frozen_of_row w b k _ _ h
end
section
variable {fn : Func} {s k j : Nat} {T : TypeId} {x : Std} {g : Nat} {tmps : Array Value} {w : World}
end
end Go.Proofs.Ytcaejanfhchacaa
namespace Go.Proofs.Ytcaejanfhchacaa
open Go.ChangeShapes Go.WideShapes Go.ChangeAt Go.RowKit Go.Deep
set_option linter.unusedVariables false

theorem par_fields : ∃ fs : Array Field, Try.prog.underlying 37 = some (.struct fs) ∧ oneCellFields Try.prog fs = true ∧ fs.map (·.type) = #[35, 35, 35, 35, 35, 35, 35, 35, 35, 35, 35, 35, 35, 35, 3, 3, 3, 3, 3, 3, 3, 3, 3, 3] := ⟨_, Try.underlying37, by kernel_rfl, by kernel_rfl⟩

theorem par_cells : Try.prog.cellsOf 37 = 24 := by kernel_rfl
theorem i64_bounds {a : Int} (h : (Lit.int .i64 a).wf = true) : -9223372036854775808 ≤ a ∧ a ≤ 9223372036854775807 := by
  simp only [Lit.wf, Bool.and_eq_true, decide_eq_true_eq] at h
  have e0 : IntKind.i64.min = -9223372036854775808 := by decide
  have e1 : IntKind.i64.max = 9223372036854775807 := by decide
  rw [e0, e1] at h
  exact h

theorem array24 {α : Type} {cs : Array α} (h : cs.size = 24) : cs = #[cs[0], cs[1], cs[2], cs[3], cs[4], cs[5], cs[6], cs[7], cs[8], cs[9], cs[10], cs[11], cs[12], cs[13], cs[14], cs[15], cs[16], cs[17], cs[18], cs[19], cs[20], cs[21], cs[22], cs[23]] := by
  apply Array.ext
  · simp [h]
  · intro i h1 h2
    rw [h] at h1
    match i, h1 with
    | 0, _ => rfl
    | 1, _ => rfl
    | 2, _ => rfl
    | 3, _ => rfl
    | 4, _ => rfl
    | 5, _ => rfl
    | 6, _ => rfl
    | 7, _ => rfl
    | 8, _ => rfl
    | 9, _ => rfl
    | 10, _ => rfl
    | 11, _ => rfl
    | 12, _ => rfl
    | 13, _ => rfl
    | 14, _ => rfl
    | 15, _ => rfl
    | 16, _ => rfl
    | 17, _ => rfl
    | 18, _ => rfl
    | 19, _ => rfl
    | 20, _ => rfl
    | 21, _ => rfl
    | 22, _ => rfl
    | 23, _ => rfl
    | k + 24, hk => omega

set_option maxRecDepth 100000 in
theorem open_par {H : Type} {enc : TypeId × Value → H} {w : World} {base : Nat} {held : Bool} {r : Reach} {b0 : Nat} {v : Value} {d : DataW H} {pl : List MemPlace}
    (hv : Value.okWide Try.prog w r b0 37 v) (h : DataW.Trod enc Try.prog w base (fun _ => true) held 37 v d pl) : ∃ p : Par, v = .agg p.vals ∧ p.Fits := by
  obtain ⟨fs, hfs, hone, hty⟩ := par_fields
  obtain ⟨cs, rfl, hsz0⟩ := okWide_struct hfs hv
  have hsz : cs.size = 24 := hsz0.trans par_cells
  obtain ⟨fuel, hf⟩ := h
  obtain ⟨ys, n2, hn2, hy, hlen, hyl, hfd⟩ := DataW.trod_struct hfs hf
  have hfl : fs.size = 24 := by have := congrArg Array.size hty; simpa using this
  have hfield : ∀ (j : Nat) (hj : j < 24) (ty : TypeId), (fs.map (·.type))[j]? = some ty → ∃ y, DataW.trod enc Try.prog w base (fun _ => true) held n2 ty [cs[j]] = some y := by
    intro j hj ty hjt
    rw [Array.getElem?_map] at hjt
    obtain ⟨f, hjf, rfl⟩ := Option.map_eq_some_iff.1 hjt
    obtain ⟨ho, hk⟩ := hone_of hone j f hjf
    have h1 := hfd j f hjf
    have hjc : j < (Value.agg cs).cells.toList.length := by simp [Value.cells]; omega
    rw [ho, hk, List.drop_eq_getElem_cons hjc, List.getElem?_eq_getElem (by omega)] at h1
    exact ⟨_, by simpa [Value.cells] using h1⟩
  have hw : ∀ (j : Nat) (hj : j < 24), (fs.map (·.type))[j]? = some 35 → ∃ n : Nat, cs[j] = .int .u64 (n : Int) ∧ n < 18446744073709551616 := by
    intro j hj hjt
    obtain ⟨y, hy⟩ := hfield j hj _ hjt
    obtain ⟨z, q, _, u⟩ := DataW.trod_int Try.underlying35 hy
    simp only [List.cons.injEq, and_true] at q
    have b := u64_fits u
    exact ⟨z.toNat, by rw [q, Int.toNat_of_nonneg b.1], by omega⟩
  have hi : ∀ (j : Nat) (hj : j < 24), (fs.map (·.type))[j]? = some 3 → ∃ n : Int, cs[j] = .int .i64 n ∧ -9223372036854775808 ≤ n ∧ n ≤ 9223372036854775807 := by
    intro j hj hjt
    obtain ⟨y, hy⟩ := hfield j hj _ hjt
    obtain ⟨z, q, _, u⟩ := DataW.trod_int Try.underlying3 hy
    simp only [List.cons.injEq, and_true] at q
    have b := i64_bounds u
    exact ⟨z, q, b.1, b.2⟩
  rw [hty] at hw hi
  obtain ⟨n0, e0, l0⟩ := hw 0 (by omega) rfl
  obtain ⟨n1, e1, l1⟩ := hw 1 (by omega) rfl
  obtain ⟨n2, e2, l2⟩ := hw 2 (by omega) rfl
  obtain ⟨n3, e3, l3⟩ := hw 3 (by omega) rfl
  obtain ⟨n4, e4, l4⟩ := hw 4 (by omega) rfl
  obtain ⟨n5, e5, l5⟩ := hw 5 (by omega) rfl
  obtain ⟨n6, e6, l6⟩ := hw 6 (by omega) rfl
  obtain ⟨n7, e7, l7⟩ := hw 7 (by omega) rfl
  obtain ⟨n8, e8, l8⟩ := hw 8 (by omega) rfl
  obtain ⟨n9, e9, l9⟩ := hw 9 (by omega) rfl
  obtain ⟨n10, e10, l10⟩ := hw 10 (by omega) rfl
  obtain ⟨n11, e11, l11⟩ := hw 11 (by omega) rfl
  obtain ⟨n12, e12, l12⟩ := hw 12 (by omega) rfl
  obtain ⟨n13, e13, l13⟩ := hw 13 (by omega) rfl
  obtain ⟨n14, e14, l14⟩ := hi 14 (by omega) rfl
  obtain ⟨n15, e15, l15⟩ := hi 15 (by omega) rfl
  obtain ⟨n16, e16, l16⟩ := hi 16 (by omega) rfl
  obtain ⟨n17, e17, l17⟩ := hi 17 (by omega) rfl
  obtain ⟨n18, e18, l18⟩ := hi 18 (by omega) rfl
  obtain ⟨n19, e19, l19⟩ := hi 19 (by omega) rfl
  obtain ⟨n20, e20, l20⟩ := hi 20 (by omega) rfl
  obtain ⟨n21, e21, l21⟩ := hi 21 (by omega) rfl
  obtain ⟨n22, e22, l22⟩ := hi 22 (by omega) rfl
  obtain ⟨n23, e23, l23⟩ := hi 23 (by omega) rfl
  refine ⟨⟨n0, n1, n2, n3, n4, n5, n6, n7, n8, n9, n10, n11, n12, n13, n14, n15, n16, n17, n18, n19, n20, n21, n22, n23⟩, ?_, ⟨?_, ?_⟩⟩
  · rw [array24 hsz, e0, e1, e2, e3, e4, e5, e6, e7, e8, e9, e10, e11, e12, e13, e14, e15, e16, e17, e18, e19, e20, e21, e22, e23]
    rfl
  · intro x hx
    simp only [Par.us, List.mem_cons, List.mem_nil_iff, or_false] at hx
    rcases hx with rfl | rfl | rfl | rfl | rfl | rfl | rfl | rfl | rfl | rfl | rfl | rfl | rfl | rfl <;> assumption
  · intro x hx
    simp only [Par.is, List.mem_cons, List.mem_nil_iff, or_false] at hx
    rcases hx with rfl | rfl | rfl | rfl | rfl | rfl | rfl | rfl | rfl | rfl <;> assumption
end Go.Proofs.Ytcaejanfhchacaa
namespace Go.Proofs.Ytcaejanfhchacaa
open Go.ChangeShapes Go.WideShapes Go.ChangeAt Go.RowKit Go.Deep
set_option linter.unusedVariables false

section
variable {H : Type} {enc : TypeId × Value → H} {w : World} {base : Nat} {held : Bool}
/-- Ticks lie one behind the other from an address on, in a block below B. -/
def TicksIn (w : World) (B : Nat) (A : Option Addr) (l : List (Bool × Int)) : Prop :=
  ∀ k x, l[k]? = some x → ∃ a, A = some a ∧ a.block < B ∧ w.cell? (a.add (k * 2)) = some (.bool x.1) ∧ w.cell? (a.add (k * 2 + 1)) = some (.int .i64 x.2)
theorem TicksIn.below {w w' : World} {B : Nat} {A : Option Addr} {l : List (Bool × Int)} (h : TicksIn w B A l) (hb : Below B w w') : TicksIn w' B A l := fun k x hx => by
  obtain ⟨a, hA, hB, c0, c1⟩ := h k x hx
  exact ⟨a, hA, hB, (hb.cell (by rw [addr_block]; exact hB)).trans c0, (hb.cell (by rw [addr_block]; exact hB)).trans c1⟩
end
end Go.Proofs.Ytcaejanfhchacaa
