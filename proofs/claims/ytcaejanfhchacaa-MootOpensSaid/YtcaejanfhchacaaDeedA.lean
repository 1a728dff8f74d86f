/- Layer 8 (deed): a deed in memory; which fields a kind uses. By contracts. -/
import Derived.Test.YtcaejanfhchacaaParL
import Derived.Test.YtcaejanfhchacaaParE
import Derived.Deep.MidRow
namespace Go.Proofs.Ytcaejanfhchacaa
open Go.RowKit
set_option linter.unusedVariables false
set_option linter.unusedSimpArgs false

/-- The values of a deed, in the order of its fields. -/
def Dd.vals (d : Dd) (A : Option Addr) (c : Nat) : Array Value := #[.int .i64 d.kind, .int .i64 d.account, .int .i64 d.member, .int .i64 d.dest, .int .u64 (d.amount : Int), .int .i64 d.epoch, .slice A d.bits.length c, .int .i64 d.what, .int .u64 (d.par.inc : Int), .int .u64 (d.par.maxEff : Int), .int .u64 (d.par.floor : Int), .int .u64 (d.par.cap : Int), .int .u64 (d.par.up : Int), .int .u64 (d.par.down : Int), .int .u64 (d.par.bias : Int), .int .u64 (d.par.quot : Int), .int .u64 (d.par.biasEm : Int), .int .u64 (d.par.quotEm : Int), .int .u64 (d.par.recover : Int), .int .u64 (d.par.scoreCap : Int), .int .u64 (d.par.rate : Int), .int .u64 (d.par.bond : Int), .int .i64 d.par.delay, .int .i64 d.par.streak, .int .i64 d.par.boost, .int .i64 d.par.absent, .int .i64 d.par.burn, .int .i64 d.par.churn, .int .i64 d.par.wait, .int .i64 d.par.poll, .int .i64 d.par.enact, .int .i64 d.par.quorum, .int .i64 d.motion, .bool d.yes]

/-- In block g lies the deed. -/
def DeedAt (w : World) (g : Nat) (d : Dd) (A : Option Addr) (c : Nat) (T : TypeId) : Prop := w.heap[g]? = some (.cells (d.vals A c) T (0, 0))
theorem DeedAt.lt {w : World} {g : Nat} {d : Dd} {A : Option Addr} {c : Nat} {T : TypeId} (h : DeedAt w g d A c T) : g < w.heap.size := (Array.getElem?_eq_some_iff.1 h).1
theorem DeedAt.cell {w : World} {g : Nat} {d : Dd} {A : Option Addr} {c : Nat} {T : TypeId} (h : DeedAt w g d A c T) (k : Nat) : w.cell? ⟨g, k, none⟩ = (d.vals A c)[k]? := cell_of_row w g k _ _ _ h
theorem DeedAt.grown {w w' : World} {g : Nat} {d : Dd} {A : Option Addr} {c : Nat} {T : TypeId} (h : DeedAt w g d A c T) {row : Option Nat} (hg : w.grownBy w' row) (hn : some g ≠ row) : DeedAt w' g d A c T := (hg.block g h.lt hn).trans h
theorem DeedAt.below {w w' : World} {B g : Nat} {d : Dd} {A : Option Addr} {c : Nat} {T : TypeId} (h : DeedAt w g d A c T) (hb : Below B w w') (hB : g < B) : DeedAt w' g d A c T := (hb.block g hB).trans h
theorem DeedAt.next {w w' : World} {g : Nat} {d : Dd} {A : Option Addr} {c : Nat} {T : TypeId} (h : DeedAt w g d A c T) (hb : Below w.heap.size w w') : DeedAt w' g d A c T := h.below hb h.lt
theorem DeedAt.new (w : World) (d : Dd) (A : Option Addr) (c : Nat) (T : TypeId) : DeedAt (w.alloc (.cells (d.vals A c) T)) w.heap.size d A c T := heap_alloc_new w _
theorem DeedAt.cells {w : World} {g : Nat} {d : Dd} {A : Option Addr} {c : Nat} {T : TypeId} (h : DeedAt w g d A c T) : w.cell? ⟨g, 0, none⟩ = some (.int .i64 d.kind) ∧ w.cell? ⟨g, 1, none⟩ = some (.int .i64 d.account) ∧ w.cell? ⟨g, 2, none⟩ = some (.int .i64 d.member) ∧ w.cell? ⟨g, 3, none⟩ = some (.int .i64 d.dest) ∧ w.cell? ⟨g, 4, none⟩ = some (.int .u64 (d.amount : Int)) ∧ w.cell? ⟨g, 5, none⟩ = some (.int .i64 d.epoch) ∧ w.cell? ⟨g, 6, none⟩ = some (.slice A d.bits.length c) ∧ w.cell? ⟨g, 7, none⟩ = some (.int .i64 d.what) ∧ w.cell? ⟨g, 32, none⟩ = some (.int .i64 d.motion) ∧ w.cell? ⟨g, 33, none⟩ = some (.bool d.yes) :=
  ⟨h.cell 0, h.cell 1, h.cell 2, h.cell 3, h.cell 4, h.cell 5, h.cell 6, h.cell 7, h.cell 32, h.cell 33⟩
theorem DeedAt.k0 {w : World} {g : Nat} {d : Dd} {A : Option Addr} {c : Nat} {T : TypeId} (h : DeedAt w g d A c T) : w.cell? ⟨g, 0, none⟩ = some (.int .i64 d.kind) := h.cell 0
theorem DeedAt.k1 {w : World} {g : Nat} {d : Dd} {A : Option Addr} {c : Nat} {T : TypeId} (h : DeedAt w g d A c T) : w.cell? ⟨g, 1, none⟩ = some (.int .i64 d.account) := h.cell 1
theorem DeedAt.k2 {w : World} {g : Nat} {d : Dd} {A : Option Addr} {c : Nat} {T : TypeId} (h : DeedAt w g d A c T) : w.cell? ⟨g, 2, none⟩ = some (.int .i64 d.member) := h.cell 2
theorem DeedAt.k3 {w : World} {g : Nat} {d : Dd} {A : Option Addr} {c : Nat} {T : TypeId} (h : DeedAt w g d A c T) : w.cell? ⟨g, 3, none⟩ = some (.int .i64 d.dest) := h.cell 3
theorem DeedAt.k4 {w : World} {g : Nat} {d : Dd} {A : Option Addr} {c : Nat} {T : TypeId} (h : DeedAt w g d A c T) : w.cell? ⟨g, 4, none⟩ = some (.int .u64 (d.amount : Int)) := h.cell 4
theorem DeedAt.k5 {w : World} {g : Nat} {d : Dd} {A : Option Addr} {c : Nat} {T : TypeId} (h : DeedAt w g d A c T) : w.cell? ⟨g, 5, none⟩ = some (.int .i64 d.epoch) := h.cell 5
theorem DeedAt.k6 {w : World} {g : Nat} {d : Dd} {A : Option Addr} {c : Nat} {T : TypeId} (h : DeedAt w g d A c T) : w.cell? ⟨g, 6, none⟩ = some (.slice A d.bits.length c) := h.cell 6
theorem DeedAt.k7 {w : World} {g : Nat} {d : Dd} {A : Option Addr} {c : Nat} {T : TypeId} (h : DeedAt w g d A c T) : w.cell? ⟨g, 7, none⟩ = some (.int .i64 d.what) := h.cell 7
theorem DeedAt.k32 {w : World} {g : Nat} {d : Dd} {A : Option Addr} {c : Nat} {T : TypeId} (h : DeedAt w g d A c T) : w.cell? ⟨g, 32, none⟩ = some (.int .i64 d.motion) := h.cell 32
theorem dvals_size (d : Dd) (A : Option Addr) (c : Nat) : (d.vals A c).size = 34 := rfl
theorem dvals_one (d : Dd) (A : Option Addr) (c : Nat) : (d.vals A c).all (·.oneCell') = true := by simp [Dd.vals, Value.oneCell']
theorem deed_size : (Try.prog.info? 48).map (·.size) = some 34 := by kernel_rfl
theorem DeedAt.pars {w : World} {g : Nat} {d : Dd} {A : Option Addr} {c : Nat} {T : TypeId} (h : DeedAt w g d A c T) : w.rangeAt g 8 d.par.vals.toList := by
  intro j v hv
  rw [h.cell, ← hv, Array.getElem?_toList]
  have hj : j < 24 := by have := (List.getElem?_eq_some_iff.1 hv).1; rw [Array.length_toList, vals_size] at this; exact this
  match j, hj with
  | 0, _ | 1, _ | 2, _ | 3, _ | 4, _ | 5, _ | 6, _ | 7, _ | 8, _ | 9, _ | 10, _ | 11, _ | 12, _ | 13, _ | 14, _ | 15, _ | 16, _ | 17, _ | 18, _ | 19, _ | 20, _ | 21, _ | 22, _ | 23, _ => rfl
theorem DeedAt.there {w : World} {g : Nat} {d : Dd} {A : Option Addr} {c : Nat} {T : TypeId} (h : DeedAt w g d A c T) : w.there g 8 24 := fun j hj => by
  refine ⟨?_, frozen_of_row w g _ _ _ h⟩
  rw [h.cell]
  have : 8 + j < (d.vals A c).size := by rw [dvals_size]; omega
  rw [Array.getElem?_eq_getElem this]; rfl

section
variable {ops : Array Oper} {rest : List Oper} {o : Oper} {a : Act} {w : World} {Q : Exit → Act → World → Prop}
/-- A whole deed out of its block; its parameters; a whole deed into its block; its parameters. -/
theorem load_deed (x : Operand) (ho : o.op = .load 48 x) (hgd : Region.wanted o (yielded ops a.tmps) = true) (g : Nat) (d : Dd) (A : Option Addr) (c : Nat) (T : TypeId) (hx : a.eval x = .pointer (some ⟨g, 0, none⟩)) (hD : DeedAt w g d A c T)
    (h : wpList Try.prog ops Q rest (a.put o.dst (.agg (d.vals A c))) w) : wpList Try.prog ops Q (o :: rest) a w :=
  wpList_step fun K hK => by
    rw [if_pos hgd]
    exact wp_load_row 48 x ho g hx T (d.vals A c) (0, 0) _ hD Try.underlying48 rfl deed_size (hK _ _ h)
theorem load_pars (x : Operand) (ho : o.op = .load 37 x) (hgd : Region.wanted o (yielded ops a.tmps) = true) (g : Nat) (d : Dd) (A : Option Addr) (c : Nat) (T : TypeId) (hx : a.eval x = .pointer (some ⟨g, 8, none⟩)) (hD : DeedAt w g d A c T)
    (h : wpList Try.prog ops Q rest (a.put o.dst (.agg d.par.vals)) w) : wpList Try.prog ops Q (o :: rest) a w :=
  wpList_step fun K hK => by
    rw [if_pos hgd]
    refine wp_load_mid 37 x ho g 8 hx d.par.vals.toList _ hD.pars Try.underlying37 rfl (by rw [Array.length_toList, vals_size]; exact par_size) ?_
    rw [Array.toArray_toList]
    exact hK _ _ h
theorem build_deed (parts : Array (Nat × Operand)) (ho : o.op = .build 48 parts) (hgd : Region.wanted o (yielded ops a.tmps) = true) (d : Dd) (A : Option Addr) (c : Nat) (hb : Try.prog.built 48 (parts.map fun (i, x) => (i, a.eval x)).toList = some (d.vals A c))
    (h : wpList Try.prog ops Q rest (a.put o.dst (.agg (d.vals A c))) w) : wpList Try.prog ops Q (o :: rest) a w :=
  wpList_step fun K hK => by
    rw [if_pos hgd]
    refine wp_build 48 parts ho (by rw [hb]; rfl) ?_
    rw [hb]
    exact hK _ _ h
end
theorem DeedAt.set {w : World} {g : Nat} {d old : Dd} {A B : Option Addr} {c e : Nat} {T : TypeId} (h : DeedAt w g old B e T) : DeedAt (w.setRow g (d.vals A c)) g d A c T := setRow_heap w g _ _ T (0, 0) h

section
variable {fn : Func} {s k l : Nat} {T : TypeId} {d : Dd} {A : Option Addr} {c g : Nat} {tmps : Array Value} {w : World}
end

/-- Which fields a kind uses. -/
def Dd.mask (d : Dd) : Int :=
  if d.kind = 1 then 97 else if d.kind = 2 then 65 else if d.kind = 3 then 67 else if d.kind = 4 then 3 else if d.kind = 5 then 4
  else if d.kind = 6 then (if d.what = 1 then 25 else if d.what = 2 then 105 else 9) else if d.kind = 7 then 131 else 0
def hb (f one : Int) : Bool := bits .and .i64 f one != 0

theorem has_is (f one : Int) (w : World) :
    Calls Try.prog 82 #[.int .i64 f, .int .i64 one] w fun e w' => e = .returned (.bool (hb f one)) ∧ w = w' := by
  go_enter Try.func82, Try.ntmps82
  go_wp2
  refine bodyPost_ret (v := .bool (hb f one)) (by simp [results, Try.results82, go_sem, hb]) rfl ⟨rfl, rfl⟩
theorem moved_is (k : Int) (w : World) :
    Calls Try.prog 105 #[.int .i64 k] w fun e w' => e = .returned (.int .i64 (if k = 1 then 16 else if k = 2 then 96 else 0)) ∧ w = w' := by
  by_cases h1 : k = 1
  · subst h1
    go_enter Try.func105, Try.ntmps105
    go_wp2
    go_ret
    exact ⟨rfl, rfl⟩
  · by_cases h2 : k = 2
    · subst h2
      go_enter Try.func105, Try.ntmps105
      go_wp2
      go_ret
      exact ⟨rfl, rfl⟩
    · have e1 : (k == 1) = false := by simpa using h1
      have e2 : (k == 2) = false := by simpa using h2
      rw [if_neg h1, if_neg h2]
      clear h1 h2
      go_enter Try.func105, Try.ntmps105
      go_wp2
      go_ret
      exact ⟨rfl, rfl⟩


set_option maxRecDepth 100000 in
theorem used1 (d : Dd) (A : Option Addr) (c : Nat) (w : World) (h : d.kind = 1) :
    Calls Try.prog 80 #[.agg (d.vals A c)] w fun e w' => e = .returned (.int .i64 97) ∧ Below w.heap.size w w' := by
  have hD := DeedAt.new w d A c 48
  have hB : Below w.heap.size w (w.alloc (.cells (d.vals A c) 48)) := (Below.refl _ _).alloc (Nat.le_refl _) _
  have c0 := hD.k0
  have c7 := hD.k7
  have e1 : (d.kind == 1) = true := by rw [h]; rfl
  clear h
  go_enter Try.func80, Try.ntmps80
  go_wp2_with (go_at_call 105; refine (km _).mono ?_; rintro e w' ⟨rfl, rfl⟩)
  go_ret
  exact ⟨rfl, hB⟩
set_option maxRecDepth 100000 in
theorem used2 (d : Dd) (A : Option Addr) (c : Nat) (w : World) (h : d.kind = 2) :
    Calls Try.prog 80 #[.agg (d.vals A c)] w fun e w' => e = .returned (.int .i64 65) ∧ Below w.heap.size w w' := by
  have hD := DeedAt.new w d A c 48
  have hB : Below w.heap.size w (w.alloc (.cells (d.vals A c) 48)) := (Below.refl _ _).alloc (Nat.le_refl _) _
  have c0 := hD.k0
  have c7 := hD.k7
  have e1 : (d.kind == 1) = false := by rw [h]; rfl
  have e2 : (d.kind == 2) = true := by rw [h]; rfl
  clear h
  go_enter Try.func80, Try.ntmps80
  go_wp2_with (go_at_call 105; refine (km _).mono ?_; rintro e w' ⟨rfl, rfl⟩)
  go_ret
  exact ⟨rfl, hB⟩
set_option maxRecDepth 100000 in
theorem used3 (d : Dd) (A : Option Addr) (c : Nat) (w : World) (h : d.kind = 3) :
    Calls Try.prog 80 #[.agg (d.vals A c)] w fun e w' => e = .returned (.int .i64 67) ∧ Below w.heap.size w w' := by
  have hD := DeedAt.new w d A c 48
  have hB : Below w.heap.size w (w.alloc (.cells (d.vals A c) 48)) := (Below.refl _ _).alloc (Nat.le_refl _) _
  have c0 := hD.k0
  have c7 := hD.k7
  have e1 : (d.kind == 1) = false := by rw [h]; rfl
  have e2 : (d.kind == 2) = false := by rw [h]; rfl
  have e3 : (d.kind == 3) = true := by rw [h]; rfl
  clear h
  go_enter Try.func80, Try.ntmps80
  go_wp2_with (go_at_call 105; refine (km _).mono ?_; rintro e w' ⟨rfl, rfl⟩)
  go_ret
  exact ⟨rfl, hB⟩
set_option maxRecDepth 100000 in
theorem used4 (d : Dd) (A : Option Addr) (c : Nat) (w : World) (h : d.kind = 4) :
    Calls Try.prog 80 #[.agg (d.vals A c)] w fun e w' => e = .returned (.int .i64 3) ∧ Below w.heap.size w w' := by
  have hD := DeedAt.new w d A c 48
  have hB : Below w.heap.size w (w.alloc (.cells (d.vals A c) 48)) := (Below.refl _ _).alloc (Nat.le_refl _) _
  have c0 := hD.k0
  have c7 := hD.k7
  have e1 : (d.kind == 1) = false := by rw [h]; rfl
  have e2 : (d.kind == 2) = false := by rw [h]; rfl
  have e3 : (d.kind == 3) = false := by rw [h]; rfl
  have e4 : (d.kind == 4) = true := by rw [h]; rfl
  clear h
  go_enter Try.func80, Try.ntmps80
  go_wp2_with (go_at_call 105; refine (km _).mono ?_; rintro e w' ⟨rfl, rfl⟩)
  go_ret
  exact ⟨rfl, hB⟩
set_option maxRecDepth 100000 in
theorem used5 (d : Dd) (A : Option Addr) (c : Nat) (w : World) (h : d.kind = 5) :
    Calls Try.prog 80 #[.agg (d.vals A c)] w fun e w' => e = .returned (.int .i64 4) ∧ Below w.heap.size w w' := by
  have hD := DeedAt.new w d A c 48
  have hB : Below w.heap.size w (w.alloc (.cells (d.vals A c) 48)) := (Below.refl _ _).alloc (Nat.le_refl _) _
  have c0 := hD.k0
  have c7 := hD.k7
  have e1 : (d.kind == 1) = false := by rw [h]; rfl
  have e2 : (d.kind == 2) = false := by rw [h]; rfl
  have e3 : (d.kind == 3) = false := by rw [h]; rfl
  have e4 : (d.kind == 4) = false := by rw [h]; rfl
  have e5 : (d.kind == 5) = true := by rw [h]; rfl
  clear h
  go_enter Try.func80, Try.ntmps80
  go_wp2_with (go_at_call 105; refine (km _).mono ?_; rintro e w' ⟨rfl, rfl⟩)
  go_ret
  exact ⟨rfl, hB⟩
set_option maxRecDepth 100000 in
theorem used7 (d : Dd) (A : Option Addr) (c : Nat) (w : World) (h : d.kind = 7) :
    Calls Try.prog 80 #[.agg (d.vals A c)] w fun e w' => e = .returned (.int .i64 131) ∧ Below w.heap.size w w' := by
  have hD := DeedAt.new w d A c 48
  have hB : Below w.heap.size w (w.alloc (.cells (d.vals A c) 48)) := (Below.refl _ _).alloc (Nat.le_refl _) _
  have c0 := hD.k0
  have c7 := hD.k7
  have e1 : (d.kind == 1) = false := by rw [h]; rfl
  have e2 : (d.kind == 2) = false := by rw [h]; rfl
  have e3 : (d.kind == 3) = false := by rw [h]; rfl
  have e4 : (d.kind == 4) = false := by rw [h]; rfl
  have e5 : (d.kind == 5) = false := by rw [h]; rfl
  have e6 : (d.kind == 6) = false := by rw [h]; rfl
  have e7 : (d.kind == 7) = true := by rw [h]; rfl
  clear h
  go_enter Try.func80, Try.ntmps80
  go_wp2_with (go_at_call 105; refine (km _).mono ?_; rintro e w' ⟨rfl, rfl⟩)
  go_ret
  exact ⟨rfl, hB⟩
set_option maxRecDepth 100000 in
theorem used6p (d : Dd) (A : Option Addr) (c : Nat) (w : World) (h : d.kind = 6) (hk : d.what = 1) :
    Calls Try.prog 80 #[.agg (d.vals A c)] w fun e w' => e = .returned (.int .i64 25) ∧ Below w.heap.size w w' := by
  have hD := DeedAt.new w d A c 48
  have hB : Below w.heap.size w (w.alloc (.cells (d.vals A c) 48)) := (Below.refl _ _).alloc (Nat.le_refl _) _
  have c0 := hD.k0
  have c7 := hD.k7
  have e1 : (d.kind == 1) = false := by rw [h]; rfl
  have e2 : (d.kind == 2) = false := by rw [h]; rfl
  have e3 : (d.kind == 3) = false := by rw [h]; rfl
  have e4 : (d.kind == 4) = false := by rw [h]; rfl
  have e5 : (d.kind == 5) = false := by rw [h]; rfl
  have e6 : (d.kind == 6) = true := by rw [h]; rfl
  have o1 : bits .or .i64 9 16 = 25 := by decide +kernel
  have km : ∀ w, Calls Try.prog 105 #[.int .i64 1] w fun e w' => e = .returned (.int .i64 16) ∧ w = w' := fun w => moved_is 1 w
  rw [hk] at c7
  clear h hk
  go_enter Try.func80, Try.ntmps80
  go_wp2_with (go_at_call 105; refine (km _).mono ?_; rintro e w' ⟨rfl, rfl⟩)
  go_ret
  exact ⟨rfl, hB⟩
set_option maxRecDepth 100000 in
theorem used6s (d : Dd) (A : Option Addr) (c : Nat) (w : World) (h : d.kind = 6) (hk : d.what = 2) :
    Calls Try.prog 80 #[.agg (d.vals A c)] w fun e w' => e = .returned (.int .i64 105) ∧ Below w.heap.size w w' := by
  have hD := DeedAt.new w d A c 48
  have hB : Below w.heap.size w (w.alloc (.cells (d.vals A c) 48)) := (Below.refl _ _).alloc (Nat.le_refl _) _
  have c0 := hD.k0
  have c7 := hD.k7
  have e1 : (d.kind == 1) = false := by rw [h]; rfl
  have e2 : (d.kind == 2) = false := by rw [h]; rfl
  have e3 : (d.kind == 3) = false := by rw [h]; rfl
  have e4 : (d.kind == 4) = false := by rw [h]; rfl
  have e5 : (d.kind == 5) = false := by rw [h]; rfl
  have e6 : (d.kind == 6) = true := by rw [h]; rfl
  have o1 : bits .or .i64 9 96 = 105 := by decide +kernel
  have km : ∀ w, Calls Try.prog 105 #[.int .i64 2] w fun e w' => e = .returned (.int .i64 96) ∧ w = w' := fun w => moved_is 2 w
  rw [hk] at c7
  clear h hk
  go_enter Try.func80, Try.ntmps80
  go_wp2_with (go_at_call 105; refine (km _).mono ?_; rintro e w' ⟨rfl, rfl⟩)
  go_ret
  exact ⟨rfl, hB⟩
set_option maxRecDepth 100000 in
theorem used6o (d : Dd) (A : Option Addr) (c : Nat) (w : World) (h : d.kind = 6) (h1 : d.what ≠ 1) (h2 : d.what ≠ 2) :
    Calls Try.prog 80 #[.agg (d.vals A c)] w fun e w' => e = .returned (.int .i64 9) ∧ Below w.heap.size w w' := by
  have hD := DeedAt.new w d A c 48
  have hB : Below w.heap.size w (w.alloc (.cells (d.vals A c) 48)) := (Below.refl _ _).alloc (Nat.le_refl _) _
  have c0 := hD.k0
  have c7 := hD.k7
  have e1 : (d.kind == 1) = false := by rw [h]; rfl
  have e2 : (d.kind == 2) = false := by rw [h]; rfl
  have e3 : (d.kind == 3) = false := by rw [h]; rfl
  have e4 : (d.kind == 4) = false := by rw [h]; rfl
  have e5 : (d.kind == 5) = false := by rw [h]; rfl
  have e6 : (d.kind == 6) = true := by rw [h]; rfl
  have o1 : bits .or .i64 9 0 = 9 := by decide +kernel
  have km : ∀ w, Calls Try.prog 105 #[.int .i64 d.what] w fun e w' => e = .returned (.int .i64 0) ∧ w = w' := fun w => by have := moved_is d.what w; rwa [if_neg h1, if_neg h2] at this
  clear h h1 h2
  go_enter Try.func80, Try.ntmps80
  go_wp2_with (go_at_call 105; refine (km _).mono ?_; rintro e w' ⟨rfl, rfl⟩)
  go_ret
  exact ⟨rfl, hB⟩
set_option maxRecDepth 100000 in
theorem used0 (d : Dd) (A : Option Addr) (c : Nat) (w : World) (h : d.kind < 1 ∨ 7 < d.kind) :
    Calls Try.prog 80 #[.agg (d.vals A c)] w fun e w' => e = .returned (.int .i64 0) ∧ Below w.heap.size w w' := by
  have hD := DeedAt.new w d A c 48
  have hB : Below w.heap.size w (w.alloc (.cells (d.vals A c) 48)) := (Below.refl _ _).alloc (Nat.le_refl _) _
  have c0 := hD.k0
  have c7 := hD.k7
  have e1 : (d.kind == 1) = false := by simp; omega
  have e2 : (d.kind == 2) = false := by simp; omega
  have e3 : (d.kind == 3) = false := by simp; omega
  have e4 : (d.kind == 4) = false := by simp; omega
  have e5 : (d.kind == 5) = false := by simp; omega
  have e6 : (d.kind == 6) = false := by simp; omega
  have e7 : (d.kind == 7) = false := by simp; omega
  clear h
  go_enter Try.func80, Try.ntmps80
  go_wp2_with (go_at_call 105; refine (km _).mono ?_; rintro e w' ⟨rfl, rfl⟩)
  go_ret
  exact ⟨rfl, hB⟩

theorem used_is (d : Dd) (A : Option Addr) (c : Nat) (w : World) :
    Calls Try.prog 80 #[.agg (d.vals A c)] w fun e w' => e = .returned (.int .i64 d.mask) ∧ Below w.heap.size w w' := by
  unfold Dd.mask
  by_cases h1 : d.kind = 1
  · rw [if_pos h1]; exact used1 d A c w h1
  · by_cases h2 : d.kind = 2
    · rw [if_neg h1, if_pos h2]; exact used2 d A c w h2
    · by_cases h3 : d.kind = 3
      · rw [if_neg h1, if_neg h2, if_pos h3]; exact used3 d A c w h3
      · by_cases h4 : d.kind = 4
        · rw [if_neg h1, if_neg h2, if_neg h3, if_pos h4]; exact used4 d A c w h4
        · by_cases h5 : d.kind = 5
          · rw [if_neg h1, if_neg h2, if_neg h3, if_neg h4, if_pos h5]; exact used5 d A c w h5
          · by_cases h6 : d.kind = 6
            · rw [if_neg h1, if_neg h2, if_neg h3, if_neg h4, if_neg h5, if_pos h6]
              by_cases k1 : d.what = 1
              · rw [if_pos k1]; exact used6p d A c w h6 k1
              · by_cases k2 : d.what = 2
                · rw [if_neg k1, if_pos k2]; exact used6s d A c w h6 k2
                · rw [if_neg k1, if_neg k2]; exact used6o d A c w h6 k1 k2
            · by_cases h7 : d.kind = 7
              · rw [if_neg h1, if_neg h2, if_neg h3, if_neg h4, if_neg h5, if_neg h6, if_pos h7]; exact used7 d A c w h7
              · rw [if_neg h1, if_neg h2, if_neg h3, if_neg h4, if_neg h5, if_neg h6, if_neg h7]; exact used0 d A c w (by omega)
end Go.Proofs.Ytcaejanfhchacaa
