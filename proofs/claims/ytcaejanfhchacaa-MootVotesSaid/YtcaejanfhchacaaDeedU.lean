/- Layer 8 (deed), the document's: which fields a kind has; whether a number is in its span. By contracts. -/
import Derived.Test.YtcaejanfhchacaaDeedIn
import Derived.Test.YtcaejanfhchacaaDeedE
namespace Go.Proofs.Ytcaejanfhchacaa
open Go.RowKit
set_option linter.unusedVariables false
set_option linter.unusedSimpArgs false

/-- A number within its span. -/
def inN (n lo hi : Int) : Bool := decide (lo ≤ n) && decide (n ≤ hi)
theorem rin_is (n lo hi : Int) (w : World) :
    Calls Try.prog 88 #[.int .i64 n, .int .i64 lo, .int .i64 hi] w fun e w' => e = .returned (.bool (inN n lo hi)) ∧ w = w' := by
  unfold inN
  cases h1 : decide (lo ≤ n) with
  | false =>
    go_enter Try.func88, Try.ntmps88
    go_wp2
    go_ret
    exact ⟨rfl, rfl⟩
  | true =>
    cases h2 : decide (n ≤ hi) with
    | false =>
      go_enter Try.func88, Try.ntmps88
      go_wp2
      go_ret
      exact ⟨rfl, rfl⟩
    | true =>
      go_enter Try.func88, Try.ntmps88
      go_wp2
      go_ret
      exact ⟨rfl, rfl⟩

/-- The fields by their number in the document, and their bit. -/
inductive Fld : Int → Int → Prop
  | account : Fld 1 1
  | member : Fld 2 2
  | dest : Fld 3 32
  | amount : Fld 4 64
  | mark : Fld 5 4
  | what : Fld 6 8
  | params : Fld 7 16
  | vote : Fld 8 128

set_option maxRecDepth 100000 in
set_option maxHeartbeats 2000000 in
theorem ruses1 (d : Dd) (A : Option Addr) (c : Nat) (n b : Int) (hf : Fld n b) (w : World) (h : d.kind = 1) :
    Calls Try.prog 89 #[.agg (d.vals A c), .int .i64 n] w fun e w' => e = .returned (.bool (hb d.mask b)) ∧ Below w.heap.size w w' := by
  have hD := DeedAt.new w d A c 57
  have hB : Below w.heap.size w (w.alloc (.cells (d.vals A c) 57)) := (Below.refl _ _).alloc (Nat.le_refl _) _
  have c0 := hD.k0
  have c7 := hD.k7
  have e1 : (d.kind == 1) = true := by rw [h]; rfl
  have hm : d.mask = 97 := by unfold Dd.mask; simp [h]
  rw [hm]
  clear hm h
  cases hf with
  | account =>
    rw [show hb 97 1 = true from by decide +kernel]
    go_enter Try.func89, Try.ntmps89
    go_wp2
    go_ret
    exact ⟨rfl, hB⟩
  | member =>
    rw [show hb 97 2 = false from by decide +kernel]
    go_enter Try.func89, Try.ntmps89
    go_wp2
    go_ret
    exact ⟨rfl, hB⟩
  | dest =>
    rw [show hb 97 32 = true from by decide +kernel]
    go_enter Try.func89, Try.ntmps89
    go_wp2
    go_ret
    exact ⟨rfl, hB⟩
  | amount =>
    rw [show hb 97 64 = true from by decide +kernel]
    go_enter Try.func89, Try.ntmps89
    go_wp2
    go_ret
    exact ⟨rfl, hB⟩
  | mark =>
    rw [show hb 97 4 = false from by decide +kernel]
    go_enter Try.func89, Try.ntmps89
    go_wp2
    go_ret
    exact ⟨rfl, hB⟩
  | what =>
    rw [show hb 97 8 = false from by decide +kernel]
    go_enter Try.func89, Try.ntmps89
    go_wp2
    go_ret
    exact ⟨rfl, hB⟩
  | params =>
    rw [show hb 97 16 = false from by decide +kernel]
    go_enter Try.func89, Try.ntmps89
    go_wp2
    go_ret
    exact ⟨rfl, hB⟩
  | vote =>
    rw [show hb 97 128 = false from by decide +kernel]
    go_enter Try.func89, Try.ntmps89
    go_wp2
    go_ret
    exact ⟨rfl, hB⟩

set_option maxRecDepth 100000 in
set_option maxHeartbeats 2000000 in
theorem ruses2 (d : Dd) (A : Option Addr) (c : Nat) (n b : Int) (hf : Fld n b) (w : World) (h : d.kind = 2) :
    Calls Try.prog 89 #[.agg (d.vals A c), .int .i64 n] w fun e w' => e = .returned (.bool (hb d.mask b)) ∧ Below w.heap.size w w' := by
  have hD := DeedAt.new w d A c 57
  have hB : Below w.heap.size w (w.alloc (.cells (d.vals A c) 57)) := (Below.refl _ _).alloc (Nat.le_refl _) _
  have c0 := hD.k0
  have c7 := hD.k7
  have e1 : (d.kind == 1) = false := by rw [h]; rfl
  have e2 : (d.kind == 2) = true := by rw [h]; rfl
  have hm : d.mask = 65 := by unfold Dd.mask; simp [h]
  rw [hm]
  clear hm h
  cases hf with
  | account =>
    rw [show hb 65 1 = true from by decide +kernel]
    go_enter Try.func89, Try.ntmps89
    go_wp2
    go_ret
    exact ⟨rfl, hB⟩
  | member =>
    rw [show hb 65 2 = false from by decide +kernel]
    go_enter Try.func89, Try.ntmps89
    go_wp2
    go_ret
    exact ⟨rfl, hB⟩
  | dest =>
    rw [show hb 65 32 = false from by decide +kernel]
    go_enter Try.func89, Try.ntmps89
    go_wp2
    go_ret
    exact ⟨rfl, hB⟩
  | amount =>
    rw [show hb 65 64 = true from by decide +kernel]
    go_enter Try.func89, Try.ntmps89
    go_wp2
    go_ret
    exact ⟨rfl, hB⟩
  | mark =>
    rw [show hb 65 4 = false from by decide +kernel]
    go_enter Try.func89, Try.ntmps89
    go_wp2
    go_ret
    exact ⟨rfl, hB⟩
  | what =>
    rw [show hb 65 8 = false from by decide +kernel]
    go_enter Try.func89, Try.ntmps89
    go_wp2
    go_ret
    exact ⟨rfl, hB⟩
  | params =>
    rw [show hb 65 16 = false from by decide +kernel]
    go_enter Try.func89, Try.ntmps89
    go_wp2
    go_ret
    exact ⟨rfl, hB⟩
  | vote =>
    rw [show hb 65 128 = false from by decide +kernel]
    go_enter Try.func89, Try.ntmps89
    go_wp2
    go_ret
    exact ⟨rfl, hB⟩

set_option maxRecDepth 100000 in
set_option maxHeartbeats 2000000 in
theorem ruses3 (d : Dd) (A : Option Addr) (c : Nat) (n b : Int) (hf : Fld n b) (w : World) (h : d.kind = 3) :
    Calls Try.prog 89 #[.agg (d.vals A c), .int .i64 n] w fun e w' => e = .returned (.bool (hb d.mask b)) ∧ Below w.heap.size w w' := by
  have hD := DeedAt.new w d A c 57
  have hB : Below w.heap.size w (w.alloc (.cells (d.vals A c) 57)) := (Below.refl _ _).alloc (Nat.le_refl _) _
  have c0 := hD.k0
  have c7 := hD.k7
  have e1 : (d.kind == 1) = false := by rw [h]; rfl
  have e2 : (d.kind == 2) = false := by rw [h]; rfl
  have e3 : (d.kind == 3) = true := by rw [h]; rfl
  have hm : d.mask = 67 := by unfold Dd.mask; simp [h]
  rw [hm]
  clear hm h
  cases hf with
  | account =>
    rw [show hb 67 1 = true from by decide +kernel]
    go_enter Try.func89, Try.ntmps89
    go_wp2
    go_ret
    exact ⟨rfl, hB⟩
  | member =>
    rw [show hb 67 2 = true from by decide +kernel]
    go_enter Try.func89, Try.ntmps89
    go_wp2
    go_ret
    exact ⟨rfl, hB⟩
  | dest =>
    rw [show hb 67 32 = false from by decide +kernel]
    go_enter Try.func89, Try.ntmps89
    go_wp2
    go_ret
    exact ⟨rfl, hB⟩
  | amount =>
    rw [show hb 67 64 = true from by decide +kernel]
    go_enter Try.func89, Try.ntmps89
    go_wp2
    go_ret
    exact ⟨rfl, hB⟩
  | mark =>
    rw [show hb 67 4 = false from by decide +kernel]
    go_enter Try.func89, Try.ntmps89
    go_wp2
    go_ret
    exact ⟨rfl, hB⟩
  | what =>
    rw [show hb 67 8 = false from by decide +kernel]
    go_enter Try.func89, Try.ntmps89
    go_wp2
    go_ret
    exact ⟨rfl, hB⟩
  | params =>
    rw [show hb 67 16 = false from by decide +kernel]
    go_enter Try.func89, Try.ntmps89
    go_wp2
    go_ret
    exact ⟨rfl, hB⟩
  | vote =>
    rw [show hb 67 128 = false from by decide +kernel]
    go_enter Try.func89, Try.ntmps89
    go_wp2
    go_ret
    exact ⟨rfl, hB⟩

set_option maxRecDepth 100000 in
set_option maxHeartbeats 2000000 in
theorem ruses4 (d : Dd) (A : Option Addr) (c : Nat) (n b : Int) (hf : Fld n b) (w : World) (h : d.kind = 4) :
    Calls Try.prog 89 #[.agg (d.vals A c), .int .i64 n] w fun e w' => e = .returned (.bool (hb d.mask b)) ∧ Below w.heap.size w w' := by
  have hD := DeedAt.new w d A c 57
  have hB : Below w.heap.size w (w.alloc (.cells (d.vals A c) 57)) := (Below.refl _ _).alloc (Nat.le_refl _) _
  have c0 := hD.k0
  have c7 := hD.k7
  have e1 : (d.kind == 1) = false := by rw [h]; rfl
  have e2 : (d.kind == 2) = false := by rw [h]; rfl
  have e3 : (d.kind == 3) = false := by rw [h]; rfl
  have e4 : (d.kind == 4) = true := by rw [h]; rfl
  have hm : d.mask = 3 := by unfold Dd.mask; simp [h]
  rw [hm]
  clear hm h
  cases hf with
  | account =>
    rw [show hb 3 1 = true from by decide +kernel]
    go_enter Try.func89, Try.ntmps89
    go_wp2
    go_ret
    exact ⟨rfl, hB⟩
  | member =>
    rw [show hb 3 2 = true from by decide +kernel]
    go_enter Try.func89, Try.ntmps89
    go_wp2
    go_ret
    exact ⟨rfl, hB⟩
  | dest =>
    rw [show hb 3 32 = false from by decide +kernel]
    go_enter Try.func89, Try.ntmps89
    go_wp2
    go_ret
    exact ⟨rfl, hB⟩
  | amount =>
    rw [show hb 3 64 = false from by decide +kernel]
    go_enter Try.func89, Try.ntmps89
    go_wp2
    go_ret
    exact ⟨rfl, hB⟩
  | mark =>
    rw [show hb 3 4 = false from by decide +kernel]
    go_enter Try.func89, Try.ntmps89
    go_wp2
    go_ret
    exact ⟨rfl, hB⟩
  | what =>
    rw [show hb 3 8 = false from by decide +kernel]
    go_enter Try.func89, Try.ntmps89
    go_wp2
    go_ret
    exact ⟨rfl, hB⟩
  | params =>
    rw [show hb 3 16 = false from by decide +kernel]
    go_enter Try.func89, Try.ntmps89
    go_wp2
    go_ret
    exact ⟨rfl, hB⟩
  | vote =>
    rw [show hb 3 128 = false from by decide +kernel]
    go_enter Try.func89, Try.ntmps89
    go_wp2
    go_ret
    exact ⟨rfl, hB⟩

set_option maxRecDepth 100000 in
set_option maxHeartbeats 2000000 in
theorem ruses5 (d : Dd) (A : Option Addr) (c : Nat) (n b : Int) (hf : Fld n b) (w : World) (h : d.kind = 5) :
    Calls Try.prog 89 #[.agg (d.vals A c), .int .i64 n] w fun e w' => e = .returned (.bool (hb d.mask b)) ∧ Below w.heap.size w w' := by
  have hD := DeedAt.new w d A c 57
  have hB : Below w.heap.size w (w.alloc (.cells (d.vals A c) 57)) := (Below.refl _ _).alloc (Nat.le_refl _) _
  have c0 := hD.k0
  have c7 := hD.k7
  have e1 : (d.kind == 1) = false := by rw [h]; rfl
  have e2 : (d.kind == 2) = false := by rw [h]; rfl
  have e3 : (d.kind == 3) = false := by rw [h]; rfl
  have e4 : (d.kind == 4) = false := by rw [h]; rfl
  have e5 : (d.kind == 5) = true := by rw [h]; rfl
  have hm : d.mask = 4 := by unfold Dd.mask; simp [h]
  rw [hm]
  clear hm h
  cases hf with
  | account =>
    rw [show hb 4 1 = false from by decide +kernel]
    go_enter Try.func89, Try.ntmps89
    go_wp2
    go_ret
    exact ⟨rfl, hB⟩
  | member =>
    rw [show hb 4 2 = false from by decide +kernel]
    go_enter Try.func89, Try.ntmps89
    go_wp2
    go_ret
    exact ⟨rfl, hB⟩
  | dest =>
    rw [show hb 4 32 = false from by decide +kernel]
    go_enter Try.func89, Try.ntmps89
    go_wp2
    go_ret
    exact ⟨rfl, hB⟩
  | amount =>
    rw [show hb 4 64 = false from by decide +kernel]
    go_enter Try.func89, Try.ntmps89
    go_wp2
    go_ret
    exact ⟨rfl, hB⟩
  | mark =>
    rw [show hb 4 4 = true from by decide +kernel]
    go_enter Try.func89, Try.ntmps89
    go_wp2
    go_ret
    exact ⟨rfl, hB⟩
  | what =>
    rw [show hb 4 8 = false from by decide +kernel]
    go_enter Try.func89, Try.ntmps89
    go_wp2
    go_ret
    exact ⟨rfl, hB⟩
  | params =>
    rw [show hb 4 16 = false from by decide +kernel]
    go_enter Try.func89, Try.ntmps89
    go_wp2
    go_ret
    exact ⟨rfl, hB⟩
  | vote =>
    rw [show hb 4 128 = false from by decide +kernel]
    go_enter Try.func89, Try.ntmps89
    go_wp2
    go_ret
    exact ⟨rfl, hB⟩

set_option maxRecDepth 100000 in
set_option maxHeartbeats 2000000 in
theorem ruses7 (d : Dd) (A : Option Addr) (c : Nat) (n b : Int) (hf : Fld n b) (w : World) (h : d.kind = 7) :
    Calls Try.prog 89 #[.agg (d.vals A c), .int .i64 n] w fun e w' => e = .returned (.bool (hb d.mask b)) ∧ Below w.heap.size w w' := by
  have hD := DeedAt.new w d A c 57
  have hB : Below w.heap.size w (w.alloc (.cells (d.vals A c) 57)) := (Below.refl _ _).alloc (Nat.le_refl _) _
  have c0 := hD.k0
  have c7 := hD.k7
  have e1 : (d.kind == 1) = false := by rw [h]; rfl
  have e2 : (d.kind == 2) = false := by rw [h]; rfl
  have e3 : (d.kind == 3) = false := by rw [h]; rfl
  have e4 : (d.kind == 4) = false := by rw [h]; rfl
  have e5 : (d.kind == 5) = false := by rw [h]; rfl
  have e6 : (d.kind == 6) = false := by rw [h]; rfl
  have e7 : (d.kind == 7) = true := by rw [h]; rfl
  have hm : d.mask = 131 := by unfold Dd.mask; simp [h]
  rw [hm]
  clear hm h
  cases hf with
  | account =>
    rw [show hb 131 1 = true from by decide +kernel]
    go_enter Try.func89, Try.ntmps89
    go_wp2
    go_ret
    exact ⟨rfl, hB⟩
  | member =>
    rw [show hb 131 2 = true from by decide +kernel]
    go_enter Try.func89, Try.ntmps89
    go_wp2
    go_ret
    exact ⟨rfl, hB⟩
  | dest =>
    rw [show hb 131 32 = false from by decide +kernel]
    go_enter Try.func89, Try.ntmps89
    go_wp2
    go_ret
    exact ⟨rfl, hB⟩
  | amount =>
    rw [show hb 131 64 = false from by decide +kernel]
    go_enter Try.func89, Try.ntmps89
    go_wp2
    go_ret
    exact ⟨rfl, hB⟩
  | mark =>
    rw [show hb 131 4 = false from by decide +kernel]
    go_enter Try.func89, Try.ntmps89
    go_wp2
    go_ret
    exact ⟨rfl, hB⟩
  | what =>
    rw [show hb 131 8 = false from by decide +kernel]
    go_enter Try.func89, Try.ntmps89
    go_wp2
    go_ret
    exact ⟨rfl, hB⟩
  | params =>
    rw [show hb 131 16 = false from by decide +kernel]
    go_enter Try.func89, Try.ntmps89
    go_wp2
    go_ret
    exact ⟨rfl, hB⟩
  | vote =>
    rw [show hb 131 128 = true from by decide +kernel]
    go_enter Try.func89, Try.ntmps89
    go_wp2
    go_ret
    exact ⟨rfl, hB⟩

set_option maxRecDepth 100000 in
set_option maxHeartbeats 2000000 in
theorem ruses6p (d : Dd) (A : Option Addr) (c : Nat) (n b : Int) (hf : Fld n b) (w : World) (h : d.kind = 6) (h1 : d.what = 1) :
    Calls Try.prog 89 #[.agg (d.vals A c), .int .i64 n] w fun e w' => e = .returned (.bool (hb d.mask b)) ∧ Below w.heap.size w w' := by
  have hD := DeedAt.new w d A c 57
  have hB : Below w.heap.size w (w.alloc (.cells (d.vals A c) 57)) := (Below.refl _ _).alloc (Nat.le_refl _) _
  have c0 := hD.k0
  have c7 := hD.k7
  have e1 : (d.kind == 1) = false := by rw [h]; rfl
  have e2 : (d.kind == 2) = false := by rw [h]; rfl
  have e3 : (d.kind == 3) = false := by rw [h]; rfl
  have e4 : (d.kind == 4) = false := by rw [h]; rfl
  have e5 : (d.kind == 5) = false := by rw [h]; rfl
  have e6 : (d.kind == 6) = true := by rw [h]; rfl
  have g1 : (d.what == 1) = true := by rw [h1]; rfl
  have g2 : (d.what == 2) = false := by rw [h1]; rfl
  have hm : d.mask = 25 := by unfold Dd.mask; simp [h, h1]
  rw [hm]
  clear hm h h1
  cases hf with
  | account =>
    rw [show hb 25 1 = true from by decide +kernel]
    go_enter Try.func89, Try.ntmps89
    go_wp2
    go_ret
    exact ⟨rfl, hB⟩
  | member =>
    rw [show hb 25 2 = false from by decide +kernel]
    go_enter Try.func89, Try.ntmps89
    go_wp2
    go_ret
    exact ⟨rfl, hB⟩
  | dest =>
    rw [show hb 25 32 = false from by decide +kernel]
    go_enter Try.func89, Try.ntmps89
    go_wp2
    go_ret
    exact ⟨rfl, hB⟩
  | amount =>
    rw [show hb 25 64 = false from by decide +kernel]
    go_enter Try.func89, Try.ntmps89
    go_wp2
    go_ret
    exact ⟨rfl, hB⟩
  | mark =>
    rw [show hb 25 4 = false from by decide +kernel]
    go_enter Try.func89, Try.ntmps89
    go_wp2
    go_ret
    exact ⟨rfl, hB⟩
  | what =>
    rw [show hb 25 8 = true from by decide +kernel]
    go_enter Try.func89, Try.ntmps89
    go_wp2
    go_ret
    exact ⟨rfl, hB⟩
  | params =>
    rw [show hb 25 16 = true from by decide +kernel]
    go_enter Try.func89, Try.ntmps89
    go_wp2
    go_ret
    exact ⟨rfl, hB⟩
  | vote =>
    rw [show hb 25 128 = false from by decide +kernel]
    go_enter Try.func89, Try.ntmps89
    go_wp2
    go_ret
    exact ⟨rfl, hB⟩

set_option maxRecDepth 100000 in
set_option maxHeartbeats 2000000 in
theorem ruses6s (d : Dd) (A : Option Addr) (c : Nat) (n b : Int) (hf : Fld n b) (w : World) (h : d.kind = 6) (h1 : d.what = 2) :
    Calls Try.prog 89 #[.agg (d.vals A c), .int .i64 n] w fun e w' => e = .returned (.bool (hb d.mask b)) ∧ Below w.heap.size w w' := by
  have hD := DeedAt.new w d A c 57
  have hB : Below w.heap.size w (w.alloc (.cells (d.vals A c) 57)) := (Below.refl _ _).alloc (Nat.le_refl _) _
  have c0 := hD.k0
  have c7 := hD.k7
  have e1 : (d.kind == 1) = false := by rw [h]; rfl
  have e2 : (d.kind == 2) = false := by rw [h]; rfl
  have e3 : (d.kind == 3) = false := by rw [h]; rfl
  have e4 : (d.kind == 4) = false := by rw [h]; rfl
  have e5 : (d.kind == 5) = false := by rw [h]; rfl
  have e6 : (d.kind == 6) = true := by rw [h]; rfl
  have g1 : (d.what == 1) = false := by rw [h1]; rfl
  have g2 : (d.what == 2) = true := by rw [h1]; rfl
  have hm : d.mask = 105 := by unfold Dd.mask; simp [h, h1]
  rw [hm]
  clear hm h h1
  cases hf with
  | account =>
    rw [show hb 105 1 = true from by decide +kernel]
    go_enter Try.func89, Try.ntmps89
    go_wp2
    go_ret
    exact ⟨rfl, hB⟩
  | member =>
    rw [show hb 105 2 = false from by decide +kernel]
    go_enter Try.func89, Try.ntmps89
    go_wp2
    go_ret
    exact ⟨rfl, hB⟩
  | dest =>
    rw [show hb 105 32 = true from by decide +kernel]
    go_enter Try.func89, Try.ntmps89
    go_wp2
    go_ret
    exact ⟨rfl, hB⟩
  | amount =>
    rw [show hb 105 64 = true from by decide +kernel]
    go_enter Try.func89, Try.ntmps89
    go_wp2
    go_ret
    exact ⟨rfl, hB⟩
  | mark =>
    rw [show hb 105 4 = false from by decide +kernel]
    go_enter Try.func89, Try.ntmps89
    go_wp2
    go_ret
    exact ⟨rfl, hB⟩
  | what =>
    rw [show hb 105 8 = true from by decide +kernel]
    go_enter Try.func89, Try.ntmps89
    go_wp2
    go_ret
    exact ⟨rfl, hB⟩
  | params =>
    rw [show hb 105 16 = false from by decide +kernel]
    go_enter Try.func89, Try.ntmps89
    go_wp2
    go_ret
    exact ⟨rfl, hB⟩
  | vote =>
    rw [show hb 105 128 = false from by decide +kernel]
    go_enter Try.func89, Try.ntmps89
    go_wp2
    go_ret
    exact ⟨rfl, hB⟩

set_option maxRecDepth 100000 in
set_option maxHeartbeats 2000000 in
theorem ruses6o (d : Dd) (A : Option Addr) (c : Nat) (n b : Int) (hf : Fld n b) (w : World) (h : d.kind = 6) (h1 : d.what ≠ 1) (h2 : d.what ≠ 2) :
    Calls Try.prog 89 #[.agg (d.vals A c), .int .i64 n] w fun e w' => e = .returned (.bool (hb d.mask b)) ∧ Below w.heap.size w w' := by
  have hD := DeedAt.new w d A c 57
  have hB : Below w.heap.size w (w.alloc (.cells (d.vals A c) 57)) := (Below.refl _ _).alloc (Nat.le_refl _) _
  have c0 := hD.k0
  have c7 := hD.k7
  have e1 : (d.kind == 1) = false := by rw [h]; rfl
  have e2 : (d.kind == 2) = false := by rw [h]; rfl
  have e3 : (d.kind == 3) = false := by rw [h]; rfl
  have e4 : (d.kind == 4) = false := by rw [h]; rfl
  have e5 : (d.kind == 5) = false := by rw [h]; rfl
  have e6 : (d.kind == 6) = true := by rw [h]; rfl
  have g1 : (d.what == 1) = false := by simpa using h1
  have g2 : (d.what == 2) = false := by simpa using h2
  have hm : d.mask = 9 := by unfold Dd.mask; simp [h, h1, h2]
  rw [hm]
  clear hm h h1 h2
  cases hf with
  | account =>
    rw [show hb 9 1 = true from by decide +kernel]
    go_enter Try.func89, Try.ntmps89
    go_wp2
    go_ret
    exact ⟨rfl, hB⟩
  | member =>
    rw [show hb 9 2 = false from by decide +kernel]
    go_enter Try.func89, Try.ntmps89
    go_wp2
    go_ret
    exact ⟨rfl, hB⟩
  | dest =>
    rw [show hb 9 32 = false from by decide +kernel]
    go_enter Try.func89, Try.ntmps89
    go_wp2
    go_ret
    exact ⟨rfl, hB⟩
  | amount =>
    rw [show hb 9 64 = false from by decide +kernel]
    go_enter Try.func89, Try.ntmps89
    go_wp2
    go_ret
    exact ⟨rfl, hB⟩
  | mark =>
    rw [show hb 9 4 = false from by decide +kernel]
    go_enter Try.func89, Try.ntmps89
    go_wp2
    go_ret
    exact ⟨rfl, hB⟩
  | what =>
    rw [show hb 9 8 = true from by decide +kernel]
    go_enter Try.func89, Try.ntmps89
    go_wp2
    go_ret
    exact ⟨rfl, hB⟩
  | params =>
    rw [show hb 9 16 = false from by decide +kernel]
    go_enter Try.func89, Try.ntmps89
    go_wp2
    go_ret
    exact ⟨rfl, hB⟩
  | vote =>
    rw [show hb 9 128 = false from by decide +kernel]
    go_enter Try.func89, Try.ntmps89
    go_wp2
    go_ret
    exact ⟨rfl, hB⟩

set_option maxRecDepth 100000 in
set_option maxHeartbeats 2000000 in
theorem ruses0 (d : Dd) (A : Option Addr) (c : Nat) (n b : Int) (hf : Fld n b) (w : World) (h : d.kind < 1 ∨ 7 < d.kind) :
    Calls Try.prog 89 #[.agg (d.vals A c), .int .i64 n] w fun e w' => e = .returned (.bool (hb d.mask b)) ∧ Below w.heap.size w w' := by
  have hD := DeedAt.new w d A c 57
  have hB : Below w.heap.size w (w.alloc (.cells (d.vals A c) 57)) := (Below.refl _ _).alloc (Nat.le_refl _) _
  have c0 := hD.k0
  have c7 := hD.k7
  have e1 : (d.kind == 1) = false := by simp; omega
  have e2 : (d.kind == 2) = false := by simp; omega
  have e3 : (d.kind == 3) = false := by simp; omega
  have e4 : (d.kind == 4) = false := by simp; omega
  have e5 : (d.kind == 5) = false := by simp; omega
  have e6 : (d.kind == 6) = false := by simp; omega
  have e7 : (d.kind == 7) = false := by simp; omega
  have hm : d.mask = 0 := by unfold Dd.mask; rw [if_neg (by omega), if_neg (by omega), if_neg (by omega), if_neg (by omega), if_neg (by omega), if_neg (by omega), if_neg (by omega)]
  rw [hm]
  clear hm h
  cases hf with
  | account =>
    rw [show hb 0 1 = false from by decide +kernel]
    go_enter Try.func89, Try.ntmps89
    go_wp2
    go_ret
    exact ⟨rfl, hB⟩
  | member =>
    rw [show hb 0 2 = false from by decide +kernel]
    go_enter Try.func89, Try.ntmps89
    go_wp2
    go_ret
    exact ⟨rfl, hB⟩
  | dest =>
    rw [show hb 0 32 = false from by decide +kernel]
    go_enter Try.func89, Try.ntmps89
    go_wp2
    go_ret
    exact ⟨rfl, hB⟩
  | amount =>
    rw [show hb 0 64 = false from by decide +kernel]
    go_enter Try.func89, Try.ntmps89
    go_wp2
    go_ret
    exact ⟨rfl, hB⟩
  | mark =>
    rw [show hb 0 4 = false from by decide +kernel]
    go_enter Try.func89, Try.ntmps89
    go_wp2
    go_ret
    exact ⟨rfl, hB⟩
  | what =>
    rw [show hb 0 8 = false from by decide +kernel]
    go_enter Try.func89, Try.ntmps89
    go_wp2
    go_ret
    exact ⟨rfl, hB⟩
  | params =>
    rw [show hb 0 16 = false from by decide +kernel]
    go_enter Try.func89, Try.ntmps89
    go_wp2
    go_ret
    exact ⟨rfl, hB⟩
  | vote =>
    rw [show hb 0 128 = false from by decide +kernel]
    go_enter Try.func89, Try.ntmps89
    go_wp2
    go_ret
    exact ⟨rfl, hB⟩

theorem ruses_is (d : Dd) (A : Option Addr) (c : Nat) (n b : Int) (hf : Fld n b) (w : World) :
    Calls Try.prog 89 #[.agg (d.vals A c), .int .i64 n] w fun e w' => e = .returned (.bool (hb d.mask b)) ∧ Below w.heap.size w w' := by
  by_cases h1 : d.kind = 1
  · exact ruses1 d A c n b hf w h1
  by_cases h2 : d.kind = 2
  · exact ruses2 d A c n b hf w h2
  by_cases h3 : d.kind = 3
  · exact ruses3 d A c n b hf w h3
  by_cases h4 : d.kind = 4
  · exact ruses4 d A c n b hf w h4
  by_cases h5 : d.kind = 5
  · exact ruses5 d A c n b hf w h5
  by_cases h7 : d.kind = 7
  · exact ruses7 d A c n b hf w h7
  by_cases h6 : d.kind = 6
  · by_cases k1 : d.what = 1
    · exact ruses6p d A c n b hf w h6 k1
    by_cases k2 : d.what = 2
    · exact ruses6s d A c n b hf w h6 k2
    exact ruses6o d A c n b hf w h6 k1 k2
  exact ruses0 d A c n b hf w (by omega)
end Go.Proofs.Ytcaejanfhchacaa
