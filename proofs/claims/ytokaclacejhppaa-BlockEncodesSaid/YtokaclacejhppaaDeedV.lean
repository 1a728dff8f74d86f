/- Layer 8 (deed), the document's: which fields a kind has; whether a number is in its span. By contracts. · Layer 8 (deed), the document's bytes of a deed. By contracts. -/
import Derived.Test.YtokaclacejhppaaDeedIn
import Derived.Test.YtokaclacejhppaaDeedE
import Derived.Test.YtokaclacejhppaaParJ
namespace Go.Proofs.Ytokaclacejhppaa
open Go.RowKit
set_option linter.unusedVariables false
set_option linter.unusedSimpArgs false

/-- A number within its span. -/
def inN (n lo hi : Int) : Bool := decide (lo ≤ n) && decide (n ≤ hi)
theorem rin_is (n lo hi : Int) (w : World) :
    Calls Try.prog 33 #[.int .i64 n, .int .i64 lo, .int .i64 hi] w fun e w' => e = .returned (.bool (inN n lo hi)) ∧ w = w' := by
  unfold inN
  cases h1 : decide (lo ≤ n) with
  | false =>
    go_enter Try.func33, Try.ntmps33
    go_wp2
    go_ret
    exact ⟨rfl, rfl⟩
  | true =>
    cases h2 : decide (n ≤ hi) with
    | false =>
      go_enter Try.func33, Try.ntmps33
      go_wp2
      go_ret
      exact ⟨rfl, rfl⟩
    | true =>
      go_enter Try.func33, Try.ntmps33
      go_wp2
      go_ret
      exact ⟨rfl, rfl⟩

/-- The fields by their number in the document, and their bit. -/
inductive Fld : Int → Int → Prop
  | account : Fld 1 1
  | member : Fld 2 2
  | dest : Fld 3 32
  | amount : Fld 4 64
  | mark : Fld 5 4
  | what : Fld 6 8
  | params : Fld 7 16
  | vote : Fld 8 128

set_option maxRecDepth 100000 in
set_option maxHeartbeats 2000000 in
theorem ruses1 (d : Dd) (A : Option Addr) (c : Nat) (n b : Int) (hf : Fld n b) (w : World) (h : d.kind = 1) :
    Calls Try.prog 34 #[.agg (d.vals A c), .int .i64 n] w fun e w' => e = .returned (.bool (hb d.mask b)) ∧ Below w.heap.size w w' := by
  have hD := DeedAt.new w d A c 60
  have hB : Below w.heap.size w (w.alloc (.cells (d.vals A c) 60)) := (Below.refl _ _).alloc (Nat.le_refl _) _
  have c0 := hD.k0
  have c7 := hD.k7
  have e1 : (d.kind == 1) = true := by rw [h]; rfl
  have hm : d.mask = 97 := by unfold Dd.mask; simp [h]
  rw [hm]
  clear hm h
  cases hf with
  | account =>
    rw [show hb 97 1 = true from by decide +kernel]
    go_enter Try.func34, Try.ntmps34
    go_wp2
    go_ret
    exact ⟨rfl, hB⟩
  | member =>
    rw [show hb 97 2 = false from by decide +kernel]
    go_enter Try.func34, Try.ntmps34
    go_wp2
    go_ret
    exact ⟨rfl, hB⟩
  | dest =>
    rw [show hb 97 32 = true from by decide +kernel]
    go_enter Try.func34, Try.ntmps34
    go_wp2
    go_ret
    exact ⟨rfl, hB⟩
  | amount =>
    rw [show hb 97 64 = true from by decide +kernel]
    go_enter Try.func34, Try.ntmps34
    go_wp2
    go_ret
    exact ⟨rfl, hB⟩
  | mark =>
    rw [show hb 97 4 = false from by decide +kernel]
    go_enter Try.func34, Try.ntmps34
    go_wp2
    go_ret
    exact ⟨rfl, hB⟩
  | what =>
    rw [show hb 97 8 = false from by decide +kernel]
    go_enter Try.func34, Try.ntmps34
    go_wp2
    go_ret
    exact ⟨rfl, hB⟩
  | params =>
    rw [show hb 97 16 = false from by decide +kernel]
    go_enter Try.func34, Try.ntmps34
    go_wp2
    go_ret
    exact ⟨rfl, hB⟩
  | vote =>
    rw [show hb 97 128 = false from by decide +kernel]
    go_enter Try.func34, Try.ntmps34
    go_wp2
    go_ret
    exact ⟨rfl, hB⟩

set_option maxRecDepth 100000 in
set_option maxHeartbeats 2000000 in
theorem ruses2 (d : Dd) (A : Option Addr) (c : Nat) (n b : Int) (hf : Fld n b) (w : World) (h : d.kind = 2) :
    Calls Try.prog 34 #[.agg (d.vals A c), .int .i64 n] w fun e w' => e = .returned (.bool (hb d.mask b)) ∧ Below w.heap.size w w' := by
  have hD := DeedAt.new w d A c 60
  have hB : Below w.heap.size w (w.alloc (.cells (d.vals A c) 60)) := (Below.refl _ _).alloc (Nat.le_refl _) _
  have c0 := hD.k0
  have c7 := hD.k7
  have e1 : (d.kind == 1) = false := by rw [h]; rfl
  have e2 : (d.kind == 2) = true := by rw [h]; rfl
  have hm : d.mask = 65 := by unfold Dd.mask; simp [h]
  rw [hm]
  clear hm h
  cases hf with
  | account =>
    rw [show hb 65 1 = true from by decide +kernel]
    go_enter Try.func34, Try.ntmps34
    go_wp2
    go_ret
    exact ⟨rfl, hB⟩
  | member =>
    rw [show hb 65 2 = false from by decide +kernel]
    go_enter Try.func34, Try.ntmps34
    go_wp2
    go_ret
    exact ⟨rfl, hB⟩
  | dest =>
    rw [show hb 65 32 = false from by decide +kernel]
    go_enter Try.func34, Try.ntmps34
    go_wp2
    go_ret
    exact ⟨rfl, hB⟩
  | amount =>
    rw [show hb 65 64 = true from by decide +kernel]
    go_enter Try.func34, Try.ntmps34
    go_wp2
    go_ret
    exact ⟨rfl, hB⟩
  | mark =>
    rw [show hb 65 4 = false from by decide +kernel]
    go_enter Try.func34, Try.ntmps34
    go_wp2
    go_ret
    exact ⟨rfl, hB⟩
  | what =>
    rw [show hb 65 8 = false from by decide +kernel]
    go_enter Try.func34, Try.ntmps34
    go_wp2
    go_ret
    exact ⟨rfl, hB⟩
  | params =>
    rw [show hb 65 16 = false from by decide +kernel]
    go_enter Try.func34, Try.ntmps34
    go_wp2
    go_ret
    exact ⟨rfl, hB⟩
  | vote =>
    rw [show hb 65 128 = false from by decide +kernel]
    go_enter Try.func34, Try.ntmps34
    go_wp2
    go_ret
    exact ⟨rfl, hB⟩

set_option maxRecDepth 100000 in
set_option maxHeartbeats 2000000 in
theorem ruses3 (d : Dd) (A : Option Addr) (c : Nat) (n b : Int) (hf : Fld n b) (w : World) (h : d.kind = 3) :
    Calls Try.prog 34 #[.agg (d.vals A c), .int .i64 n] w fun e w' => e = .returned (.bool (hb d.mask b)) ∧ Below w.heap.size w w' := by
  have hD := DeedAt.new w d A c 60
  have hB : Below w.heap.size w (w.alloc (.cells (d.vals A c) 60)) := (Below.refl _ _).alloc (Nat.le_refl _) _
  have c0 := hD.k0
  have c7 := hD.k7
  have e1 : (d.kind == 1) = false := by rw [h]; rfl
  have e2 : (d.kind == 2) = false := by rw [h]; rfl
  have e3 : (d.kind == 3) = true := by rw [h]; rfl
  have hm : d.mask = 67 := by unfold Dd.mask; simp [h]
  rw [hm]
  clear hm h
  cases hf with
  | account =>
    rw [show hb 67 1 = true from by decide +kernel]
    go_enter Try.func34, Try.ntmps34
    go_wp2
    go_ret
    exact ⟨rfl, hB⟩
  | member =>
    rw [show hb 67 2 = true from by decide +kernel]
    go_enter Try.func34, Try.ntmps34
    go_wp2
    go_ret
    exact ⟨rfl, hB⟩
  | dest =>
    rw [show hb 67 32 = false from by decide +kernel]
    go_enter Try.func34, Try.ntmps34
    go_wp2
    go_ret
    exact ⟨rfl, hB⟩
  | amount =>
    rw [show hb 67 64 = true from by decide +kernel]
    go_enter Try.func34, Try.ntmps34
    go_wp2
    go_ret
    exact ⟨rfl, hB⟩
  | mark =>
    rw [show hb 67 4 = false from by decide +kernel]
    go_enter Try.func34, Try.ntmps34
    go_wp2
    go_ret
    exact ⟨rfl, hB⟩
  | what =>
    rw [show hb 67 8 = false from by decide +kernel]
    go_enter Try.func34, Try.ntmps34
    go_wp2
    go_ret
    exact ⟨rfl, hB⟩
  | params =>
    rw [show hb 67 16 = false from by decide +kernel]
    go_enter Try.func34, Try.ntmps34
    go_wp2
    go_ret
    exact ⟨rfl, hB⟩
  | vote =>
    rw [show hb 67 128 = false from by decide +kernel]
    go_enter Try.func34, Try.ntmps34
    go_wp2
    go_ret
    exact ⟨rfl, hB⟩

set_option maxRecDepth 100000 in
set_option maxHeartbeats 2000000 in
theorem ruses4 (d : Dd) (A : Option Addr) (c : Nat) (n b : Int) (hf : Fld n b) (w : World) (h : d.kind = 4) :
    Calls Try.prog 34 #[.agg (d.vals A c), .int .i64 n] w fun e w' => e = .returned (.bool (hb d.mask b)) ∧ Below w.heap.size w w' := by
  have hD := DeedAt.new w d A c 60
  have hB : Below w.heap.size w (w.alloc (.cells (d.vals A c) 60)) := (Below.refl _ _).alloc (Nat.le_refl _) _
  have c0 := hD.k0
  have c7 := hD.k7
  have e1 : (d.kind == 1) = false := by rw [h]; rfl
  have e2 : (d.kind == 2) = false := by rw [h]; rfl
  have e3 : (d.kind == 3) = false := by rw [h]; rfl
  have e4 : (d.kind == 4) = true := by rw [h]; rfl
  have hm : d.mask = 3 := by unfold Dd.mask; simp [h]
  rw [hm]
  clear hm h
  cases hf with
  | account =>
    rw [show hb 3 1 = true from by decide +kernel]
    go_enter Try.func34, Try.ntmps34
    go_wp2
    go_ret
    exact ⟨rfl, hB⟩
  | member =>
    rw [show hb 3 2 = true from by decide +kernel]
    go_enter Try.func34, Try.ntmps34
    go_wp2
    go_ret
    exact ⟨rfl, hB⟩
  | dest =>
    rw [show hb 3 32 = false from by decide +kernel]
    go_enter Try.func34, Try.ntmps34
    go_wp2
    go_ret
    exact ⟨rfl, hB⟩
  | amount =>
    rw [show hb 3 64 = false from by decide +kernel]
    go_enter Try.func34, Try.ntmps34
    go_wp2
    go_ret
    exact ⟨rfl, hB⟩
  | mark =>
    rw [show hb 3 4 = false from by decide +kernel]
    go_enter Try.func34, Try.ntmps34
    go_wp2
    go_ret
    exact ⟨rfl, hB⟩
  | what =>
    rw [show hb 3 8 = false from by decide +kernel]
    go_enter Try.func34, Try.ntmps34
    go_wp2
    go_ret
    exact ⟨rfl, hB⟩
  | params =>
    rw [show hb 3 16 = false from by decide +kernel]
    go_enter Try.func34, Try.ntmps34
    go_wp2
    go_ret
    exact ⟨rfl, hB⟩
  | vote =>
    rw [show hb 3 128 = false from by decide +kernel]
    go_enter Try.func34, Try.ntmps34
    go_wp2
    go_ret
    exact ⟨rfl, hB⟩

set_option maxRecDepth 100000 in
set_option maxHeartbeats 2000000 in
theorem ruses5 (d : Dd) (A : Option Addr) (c : Nat) (n b : Int) (hf : Fld n b) (w : World) (h : d.kind = 5) :
    Calls Try.prog 34 #[.agg (d.vals A c), .int .i64 n] w fun e w' => e = .returned (.bool (hb d.mask b)) ∧ Below w.heap.size w w' := by
  have hD := DeedAt.new w d A c 60
  have hB : Below w.heap.size w (w.alloc (.cells (d.vals A c) 60)) := (Below.refl _ _).alloc (Nat.le_refl _) _
  have c0 := hD.k0
  have c7 := hD.k7
  have e1 : (d.kind == 1) = false := by rw [h]; rfl
  have e2 : (d.kind == 2) = false := by rw [h]; rfl
  have e3 : (d.kind == 3) = false := by rw [h]; rfl
  have e4 : (d.kind == 4) = false := by rw [h]; rfl
  have e5 : (d.kind == 5) = true := by rw [h]; rfl
  have hm : d.mask = 4 := by unfold Dd.mask; simp [h]
  rw [hm]
  clear hm h
  cases hf with
  | account =>
    rw [show hb 4 1 = false from by decide +kernel]
    go_enter Try.func34, Try.ntmps34
    go_wp2
    go_ret
    exact ⟨rfl, hB⟩
  | member =>
    rw [show hb 4 2 = false from by decide +kernel]
    go_enter Try.func34, Try.ntmps34
    go_wp2
    go_ret
    exact ⟨rfl, hB⟩
  | dest =>
    rw [show hb 4 32 = false from by decide +kernel]
    go_enter Try.func34, Try.ntmps34
    go_wp2
    go_ret
    exact ⟨rfl, hB⟩
  | amount =>
    rw [show hb 4 64 = false from by decide +kernel]
    go_enter Try.func34, Try.ntmps34
    go_wp2
    go_ret
    exact ⟨rfl, hB⟩
  | mark =>
    rw [show hb 4 4 = true from by decide +kernel]
    go_enter Try.func34, Try.ntmps34
    go_wp2
    go_ret
    exact ⟨rfl, hB⟩
  | what =>
    rw [show hb 4 8 = false from by decide +kernel]
    go_enter Try.func34, Try.ntmps34
    go_wp2
    go_ret
    exact ⟨rfl, hB⟩
  | params =>
    rw [show hb 4 16 = false from by decide +kernel]
    go_enter Try.func34, Try.ntmps34
    go_wp2
    go_ret
    exact ⟨rfl, hB⟩
  | vote =>
    rw [show hb 4 128 = false from by decide +kernel]
    go_enter Try.func34, Try.ntmps34
    go_wp2
    go_ret
    exact ⟨rfl, hB⟩

set_option maxRecDepth 100000 in
set_option maxHeartbeats 2000000 in
theorem ruses7 (d : Dd) (A : Option Addr) (c : Nat) (n b : Int) (hf : Fld n b) (w : World) (h : d.kind = 7) :
    Calls Try.prog 34 #[.agg (d.vals A c), .int .i64 n] w fun e w' => e = .returned (.bool (hb d.mask b)) ∧ Below w.heap.size w w' := by
  have hD := DeedAt.new w d A c 60
  have hB : Below w.heap.size w (w.alloc (.cells (d.vals A c) 60)) := (Below.refl _ _).alloc (Nat.le_refl _) _
  have c0 := hD.k0
  have c7 := hD.k7
  have e1 : (d.kind == 1) = false := by rw [h]; rfl
  have e2 : (d.kind == 2) = false := by rw [h]; rfl
  have e3 : (d.kind == 3) = false := by rw [h]; rfl
  have e4 : (d.kind == 4) = false := by rw [h]; rfl
  have e5 : (d.kind == 5) = false := by rw [h]; rfl
  have e6 : (d.kind == 6) = false := by rw [h]; rfl
  have e7 : (d.kind == 7) = true := by rw [h]; rfl
  have hm : d.mask = 131 := by unfold Dd.mask; simp [h]
  rw [hm]
  clear hm h
  cases hf with
  | account =>
    rw [show hb 131 1 = true from by decide +kernel]
    go_enter Try.func34, Try.ntmps34
    go_wp2
    go_ret
    exact ⟨rfl, hB⟩
  | member =>
    rw [show hb 131 2 = true from by decide +kernel]
    go_enter Try.func34, Try.ntmps34
    go_wp2
    go_ret
    exact ⟨rfl, hB⟩
  | dest =>
    rw [show hb 131 32 = false from by decide +kernel]
    go_enter Try.func34, Try.ntmps34
    go_wp2
    go_ret
    exact ⟨rfl, hB⟩
  | amount =>
    rw [show hb 131 64 = false from by decide +kernel]
    go_enter Try.func34, Try.ntmps34
    go_wp2
    go_ret
    exact ⟨rfl, hB⟩
  | mark =>
    rw [show hb 131 4 = false from by decide +kernel]
    go_enter Try.func34, Try.ntmps34
    go_wp2
    go_ret
    exact ⟨rfl, hB⟩
  | what =>
    rw [show hb 131 8 = false from by decide +kernel]
    go_enter Try.func34, Try.ntmps34
    go_wp2
    go_ret
    exact ⟨rfl, hB⟩
  | params =>
    rw [show hb 131 16 = false from by decide +kernel]
    go_enter Try.func34, Try.ntmps34
    go_wp2
    go_ret
    exact ⟨rfl, hB⟩
  | vote =>
    rw [show hb 131 128 = true from by decide +kernel]
    go_enter Try.func34, Try.ntmps34
    go_wp2
    go_ret
    exact ⟨rfl, hB⟩

set_option maxRecDepth 100000 in
set_option maxHeartbeats 2000000 in
theorem ruses6p (d : Dd) (A : Option Addr) (c : Nat) (n b : Int) (hf : Fld n b) (w : World) (h : d.kind = 6) (h1 : d.what = 1) :
    Calls Try.prog 34 #[.agg (d.vals A c), .int .i64 n] w fun e w' => e = .returned (.bool (hb d.mask b)) ∧ Below w.heap.size w w' := by
  have hD := DeedAt.new w d A c 60
  have hB : Below w.heap.size w (w.alloc (.cells (d.vals A c) 60)) := (Below.refl _ _).alloc (Nat.le_refl _) _
  have c0 := hD.k0
  have c7 := hD.k7
  have e1 : (d.kind == 1) = false := by rw [h]; rfl
  have e2 : (d.kind == 2) = false := by rw [h]; rfl
  have e3 : (d.kind == 3) = false := by rw [h]; rfl
  have e4 : (d.kind == 4) = false := by rw [h]; rfl
  have e5 : (d.kind == 5) = false := by rw [h]; rfl
  have e6 : (d.kind == 6) = true := by rw [h]; rfl
  have g1 : (d.what == 1) = true := by rw [h1]; rfl
  have g2 : (d.what == 2) = false := by rw [h1]; rfl
  have hm : d.mask = 25 := by unfold Dd.mask; simp [h, h1]
  rw [hm]
  clear hm h h1
  cases hf with
  | account =>
    rw [show hb 25 1 = true from by decide +kernel]
    go_enter Try.func34, Try.ntmps34
    go_wp2
    go_ret
    exact ⟨rfl, hB⟩
  | member =>
    rw [show hb 25 2 = false from by decide +kernel]
    go_enter Try.func34, Try.ntmps34
    go_wp2
    go_ret
    exact ⟨rfl, hB⟩
  | dest =>
    rw [show hb 25 32 = false from by decide +kernel]
    go_enter Try.func34, Try.ntmps34
    go_wp2
    go_ret
    exact ⟨rfl, hB⟩
  | amount =>
    rw [show hb 25 64 = false from by decide +kernel]
    go_enter Try.func34, Try.ntmps34
    go_wp2
    go_ret
    exact ⟨rfl, hB⟩
  | mark =>
    rw [show hb 25 4 = false from by decide +kernel]
    go_enter Try.func34, Try.ntmps34
    go_wp2
    go_ret
    exact ⟨rfl, hB⟩
  | what =>
    rw [show hb 25 8 = true from by decide +kernel]
    go_enter Try.func34, Try.ntmps34
    go_wp2
    go_ret
    exact ⟨rfl, hB⟩
  | params =>
    rw [show hb 25 16 = true from by decide +kernel]
    go_enter Try.func34, Try.ntmps34
    go_wp2
    go_ret
    exact ⟨rfl, hB⟩
  | vote =>
    rw [show hb 25 128 = false from by decide +kernel]
    go_enter Try.func34, Try.ntmps34
    go_wp2
    go_ret
    exact ⟨rfl, hB⟩

set_option maxRecDepth 100000 in
set_option maxHeartbeats 2000000 in
theorem ruses6s (d : Dd) (A : Option Addr) (c : Nat) (n b : Int) (hf : Fld n b) (w : World) (h : d.kind = 6) (h1 : d.what = 2) :
    Calls Try.prog 34 #[.agg (d.vals A c), .int .i64 n] w fun e w' => e = .returned (.bool (hb d.mask b)) ∧ Below w.heap.size w w' := by
  have hD := DeedAt.new w d A c 60
  have hB : Below w.heap.size w (w.alloc (.cells (d.vals A c) 60)) := (Below.refl _ _).alloc (Nat.le_refl _) _
  have c0 := hD.k0
  have c7 := hD.k7
  have e1 : (d.kind == 1) = false := by rw [h]; rfl
  have e2 : (d.kind == 2) = false := by rw [h]; rfl
  have e3 : (d.kind == 3) = false := by rw [h]; rfl
  have e4 : (d.kind == 4) = false := by rw [h]; rfl
  have e5 : (d.kind == 5) = false := by rw [h]; rfl
  have e6 : (d.kind == 6) = true := by rw [h]; rfl
  have g1 : (d.what == 1) = false := by rw [h1]; rfl
  have g2 : (d.what == 2) = true := by rw [h1]; rfl
  have hm : d.mask = 105 := by unfold Dd.mask; simp [h, h1]
  rw [hm]
  clear hm h h1
  cases hf with
  | account =>
    rw [show hb 105 1 = true from by decide +kernel]
    go_enter Try.func34, Try.ntmps34
    go_wp2
    go_ret
    exact ⟨rfl, hB⟩
  | member =>
    rw [show hb 105 2 = false from by decide +kernel]
    go_enter Try.func34, Try.ntmps34
    go_wp2
    go_ret
    exact ⟨rfl, hB⟩
  | dest =>
    rw [show hb 105 32 = true from by decide +kernel]
    go_enter Try.func34, Try.ntmps34
    go_wp2
    go_ret
    exact ⟨rfl, hB⟩
  | amount =>
    rw [show hb 105 64 = true from by decide +kernel]
    go_enter Try.func34, Try.ntmps34
    go_wp2
    go_ret
    exact ⟨rfl, hB⟩
  | mark =>
    rw [show hb 105 4 = false from by decide +kernel]
    go_enter Try.func34, Try.ntmps34
    go_wp2
    go_ret
    exact ⟨rfl, hB⟩
  | what =>
    rw [show hb 105 8 = true from by decide +kernel]
    go_enter Try.func34, Try.ntmps34
    go_wp2
    go_ret
    exact ⟨rfl, hB⟩
  | params =>
    rw [show hb 105 16 = false from by decide +kernel]
    go_enter Try.func34, Try.ntmps34
    go_wp2
    go_ret
    exact ⟨rfl, hB⟩
  | vote =>
    rw [show hb 105 128 = false from by decide +kernel]
    go_enter Try.func34, Try.ntmps34
    go_wp2
    go_ret
    exact ⟨rfl, hB⟩

set_option maxRecDepth 100000 in
set_option maxHeartbeats 2000000 in
theorem ruses6o (d : Dd) (A : Option Addr) (c : Nat) (n b : Int) (hf : Fld n b) (w : World) (h : d.kind = 6) (h1 : d.what ≠ 1) (h2 : d.what ≠ 2) :
    Calls Try.prog 34 #[.agg (d.vals A c), .int .i64 n] w fun e w' => e = .returned (.bool (hb d.mask b)) ∧ Below w.heap.size w w' := by
  have hD := DeedAt.new w d A c 60
  have hB : Below w.heap.size w (w.alloc (.cells (d.vals A c) 60)) := (Below.refl _ _).alloc (Nat.le_refl _) _
  have c0 := hD.k0
  have c7 := hD.k7
  have e1 : (d.kind == 1) = false := by rw [h]; rfl
  have e2 : (d.kind == 2) = false := by rw [h]; rfl
  have e3 : (d.kind == 3) = false := by rw [h]; rfl
  have e4 : (d.kind == 4) = false := by rw [h]; rfl
  have e5 : (d.kind == 5) = false := by rw [h]; rfl
  have e6 : (d.kind == 6) = true := by rw [h]; rfl
  have g1 : (d.what == 1) = false := by simpa using h1
  have g2 : (d.what == 2) = false := by simpa using h2
  have hm : d.mask = 9 := by unfold Dd.mask; simp [h, h1, h2]
  rw [hm]
  clear hm h h1 h2
  cases hf with
  | account =>
    rw [show hb 9 1 = true from by decide +kernel]
    go_enter Try.func34, Try.ntmps34
    go_wp2
    go_ret
    exact ⟨rfl, hB⟩
  | member =>
    rw [show hb 9 2 = false from by decide +kernel]
    go_enter Try.func34, Try.ntmps34
    go_wp2
    go_ret
    exact ⟨rfl, hB⟩
  | dest =>
    rw [show hb 9 32 = false from by decide +kernel]
    go_enter Try.func34, Try.ntmps34
    go_wp2
    go_ret
    exact ⟨rfl, hB⟩
  | amount =>
    rw [show hb 9 64 = false from by decide +kernel]
    go_enter Try.func34, Try.ntmps34
    go_wp2
    go_ret
    exact ⟨rfl, hB⟩
  | mark =>
    rw [show hb 9 4 = false from by decide +kernel]
    go_enter Try.func34, Try.ntmps34
    go_wp2
    go_ret
    exact ⟨rfl, hB⟩
  | what =>
    rw [show hb 9 8 = true from by decide +kernel]
    go_enter Try.func34, Try.ntmps34
    go_wp2
    go_ret
    exact ⟨rfl, hB⟩
  | params =>
    rw [show hb 9 16 = false from by decide +kernel]
    go_enter Try.func34, Try.ntmps34
    go_wp2
    go_ret
    exact ⟨rfl, hB⟩
  | vote =>
    rw [show hb 9 128 = false from by decide +kernel]
    go_enter Try.func34, Try.ntmps34
    go_wp2
    go_ret
    exact ⟨rfl, hB⟩

set_option maxRecDepth 100000 in
set_option maxHeartbeats 2000000 in
theorem ruses0 (d : Dd) (A : Option Addr) (c : Nat) (n b : Int) (hf : Fld n b) (w : World) (h : d.kind < 1 ∨ 7 < d.kind) :
    Calls Try.prog 34 #[.agg (d.vals A c), .int .i64 n] w fun e w' => e = .returned (.bool (hb d.mask b)) ∧ Below w.heap.size w w' := by
  have hD := DeedAt.new w d A c 60
  have hB : Below w.heap.size w (w.alloc (.cells (d.vals A c) 60)) := (Below.refl _ _).alloc (Nat.le_refl _) _
  have c0 := hD.k0
  have c7 := hD.k7
  have e1 : (d.kind == 1) = false := by simp; omega
  have e2 : (d.kind == 2) = false := by simp; omega
  have e3 : (d.kind == 3) = false := by simp; omega
  have e4 : (d.kind == 4) = false := by simp; omega
  have e5 : (d.kind == 5) = false := by simp; omega
  have e6 : (d.kind == 6) = false := by simp; omega
  have e7 : (d.kind == 7) = false := by simp; omega
  have hm : d.mask = 0 := by unfold Dd.mask; rw [if_neg (by omega), if_neg (by omega), if_neg (by omega), if_neg (by omega), if_neg (by omega), if_neg (by omega), if_neg (by omega)]
  rw [hm]
  clear hm h
  cases hf with
  | account =>
    rw [show hb 0 1 = false from by decide +kernel]
    go_enter Try.func34, Try.ntmps34
    go_wp2
    go_ret
    exact ⟨rfl, hB⟩
  | member =>
    rw [show hb 0 2 = false from by decide +kernel]
    go_enter Try.func34, Try.ntmps34
    go_wp2
    go_ret
    exact ⟨rfl, hB⟩
  | dest =>
    rw [show hb 0 32 = false from by decide +kernel]
    go_enter Try.func34, Try.ntmps34
    go_wp2
    go_ret
    exact ⟨rfl, hB⟩
  | amount =>
    rw [show hb 0 64 = false from by decide +kernel]
    go_enter Try.func34, Try.ntmps34
    go_wp2
    go_ret
    exact ⟨rfl, hB⟩
  | mark =>
    rw [show hb 0 4 = false from by decide +kernel]
    go_enter Try.func34, Try.ntmps34
    go_wp2
    go_ret
    exact ⟨rfl, hB⟩
  | what =>
    rw [show hb 0 8 = false from by decide +kernel]
    go_enter Try.func34, Try.ntmps34
    go_wp2
    go_ret
    exact ⟨rfl, hB⟩
  | params =>
    rw [show hb 0 16 = false from by decide +kernel]
    go_enter Try.func34, Try.ntmps34
    go_wp2
    go_ret
    exact ⟨rfl, hB⟩
  | vote =>
    rw [show hb 0 128 = false from by decide +kernel]
    go_enter Try.func34, Try.ntmps34
    go_wp2
    go_ret
    exact ⟨rfl, hB⟩

theorem ruses_is (d : Dd) (A : Option Addr) (c : Nat) (n b : Int) (hf : Fld n b) (w : World) :
    Calls Try.prog 34 #[.agg (d.vals A c), .int .i64 n] w fun e w' => e = .returned (.bool (hb d.mask b)) ∧ Below w.heap.size w w' := by
  by_cases h1 : d.kind = 1
  · exact ruses1 d A c n b hf w h1
  by_cases h2 : d.kind = 2
  · exact ruses2 d A c n b hf w h2
  by_cases h3 : d.kind = 3
  · exact ruses3 d A c n b hf w h3
  by_cases h4 : d.kind = 4
  · exact ruses4 d A c n b hf w h4
  by_cases h5 : d.kind = 5
  · exact ruses5 d A c n b hf w h5
  by_cases h7 : d.kind = 7
  · exact ruses7 d A c n b hf w h7
  by_cases h6 : d.kind = 6
  · by_cases k1 : d.what = 1
    · exact ruses6p d A c n b hf w h6 k1
    by_cases k2 : d.what = 2
    · exact ruses6s d A c n b hf w h6 k2
    exact ruses6o d A c n b hf w h6 k1 k2
  exact ruses0 d A c n b hf w (by omega)
end Go.Proofs.Ytokaclacejhppaa
namespace Go.Proofs.Ytokaclacejhppaa
open Go.RowKit
set_option linter.unusedVariables false
set_option linter.unusedSimpArgs false

theorem par_pos (p : Par) : 0 < p.bytes.length := by
  have e : p.bytes = form p.inc ++ ((p.nums.drop 1).flatMap form) := by simp [Par.bytes, Par.nums, Par.us]
  rw [e, List.length_append]
  have := form_pos p.inc
  omega

set_option maxRecDepth 100000 in
set_option maxHeartbeats 1000000 in
theorem rnumb_is (n : Nat) (pre : List Nat) (B : Nat) (v : Value) (w : World) (hn : n ≤ 9223372036854775807) (hB : B ≤ w.heap.size) (hown : w.ownsRow B 5 1 v pre.length (u8s pre)) (hl : pre.length ≤ 100000) :
    Calls Try.prog 57 #[v, .int .i64 (n : Int)] w fun e w' => ∃ v', e = .returned v' ∧ w'.ownsRow B 5 1 v' (pre ++ form n).length (u8s (pre ++ form n)) ∧ Below B w w' := by
  have k := fun w => refform_is n w (by omega)
  obtain ⟨i0, hi0, hz0, hz1, hz2⟩ := info_parts u8_info
  have hwr : IntKind.u64.wrap (n : Int) = (n : Int) := IntWalk.u64_in _ (by omega)
  have hfl := form_word (n := n) (by omega)
  have hfp := form_pos n
  obtain ⟨F, hF⟩ : ∃ F, Hid (form n = F) := ⟨_, rfl⟩
  rw [hF.out] at k hfl hfp ⊢
  go_enter Try.func57, Try.ntmps57
  go_wp2_with (first
    | (go_at_call 36; refine (k _).mono ?_; rintro e w2 ⟨v2, rfl, hown2, hb2⟩; have hown3 := own_below0 hown hb2; obtain ⟨A2, c2, rfl, hl1, hl2, -, hL⟩ := Lies.own hown2; obtain ⟨a2, rfl⟩ := lies_at hL hfp; have HS := Lib.hid hL.src0; clear k)
    | (at_builtin; refine wpList_append_own _ rfl _ _ 25 rfl B 5 i0 (.int .u8 0) 1 1 Try.underlying25 hi0 hz0 hz1 hz2 rfl (by decide) _ _ _ rfl hown3 a2 F.length c2 (u8s F) rfl ?d1 ?d2 ?d3 ?d4 ?d5 ?d6 ?_))
  case d1 => simp [u8s_len]
  case d2 => exact HS.out
  case d3 => exact u8s_one
  case d4 => simp only [maxLen]; omega
  case d5 => omega
  case d6 => exact Nat.le_trans hB hb2.size
  intro v3 w3 hown4 hgrow3 _
  have hb3 : Below B w w3 := (hb2.mono hB).grown hgrow3 (Nat.le_trans hB hb2.size) (fun k hk => (hown3.lt k hk).1)
  clear hgrow3
  go_wp2
  refine bodyPost_ret (v := v3) (by simp [results, Try.results57, go_sem]) rfl ⟨_, rfl, ?_, hb3⟩
  rw [← u8s_append] at hown4
  rw [List.length_append]
  exact hown4

/-- A deed in block g beside its bytes so far, since w0. -/
structure FormAt (w0 : World) (g : Nat) (d : Dd) (A : Option Addr) (c : Nat) (pre : List Nat) (v : Value) (w : World) : Prop where
  deed : DeedAt w g d A c 60
  own : w.ownsRow (g + 1) 5 1 v pre.length (u8s pre)
  below : Below w0.heap.size w0 w
  size : g = w0.heap.size
  small : pre.length ≤ 1000
  lies : Lies w (· < w0.heap.size) A d.bits
section
variable {w0 w w' : World} {g : Nat} {d : Dd} {A : Option Addr} {c : Nat} {pre : List Nat} {v : Value}
theorem FormAt.next (h : FormAt w0 g d A c pre v w) (hb : Below w.heap.size w w') : FormAt w0 g d A c pre v w' :=
  ⟨h.deed.next hb, own_below0 h.own hb, Below.then h.below hb, h.size, h.small, h.lies.hold fun a ha => hb.cell (Nat.lt_of_lt_of_le ha h.below.size)⟩
theorem FormAt.more {v' : Value} {pre' : List Nat} (h : FormAt w0 g d A c pre v w) (hb : Below (g + 1) w w') (ho : w'.ownsRow (g + 1) 5 1 v' pre'.length (u8s pre')) (hs : pre'.length ≤ 1000) : FormAt w0 g d A c pre' v' w' := by
  have hz := h.size
  exact ⟨h.deed.below hb (Nat.lt_succ_self _), ho, h.below.trans (hb.mono (by omega)), h.size, hs, h.lies.hold fun a ha => hb.cell (by omega)⟩
theorem FormAt.num (h : FormAt w0 g d A c pre v w) (n : Nat) (ni : Int) (hni : ni = (n : Int)) (hn : n ≤ 9223372036854775807) (hs : pre.length ≤ 900) :
    Calls Try.prog 57 #[v, .int .i64 ni] w fun e w' => ∃ v', e = .returned v' ∧ FormAt w0 g d A c (pre ++ form n) v' w' := by
  subst hni
  have hl := h.deed.lt
  have hfl := form_word (n := n) (by omega)
  exact (rnumb_is n pre (g + 1) v w hn hl h.own (by omega)).mono (by rintro e w' ⟨v', rfl, ho, hb⟩; exact ⟨v', rfl, h.more hb ho (by rw [List.length_append]; omega)⟩)
theorem FormAt.uses (h : FormAt w0 g d A c pre v w) (n b : Int) (hf : Fld n b) (r : Bool) (hr : hb d.mask b = r) :
    Calls Try.prog 34 #[.agg (d.vals A c), .int .i64 n] w fun e w' => e = .returned (.bool r) ∧ FormAt w0 g d A c pre v w' := by
  subst hr
  exact (ruses_is d A c n b hf w).mono (by rintro e w' ⟨rfl, hb⟩; exact ⟨rfl, h.next hb⟩)
theorem FormAt.app {ops : Array Oper} {rest : List Oper} {o : Oper} {a : Act} {Q : Exit → Act → World → Prop} (s x : Operand) (h : FormAt w0 g d A c pre v w) (hgd : o.guard = none) (ho : o.op = .call { callee := .builtin .append, args := #[s, x], argTypes := #[25, 25] })
    (B : Nat) (v2 : Value) (F : List Nat) (n2 : Nat) (hn2 : n2 = F.length) (hv2 : w.ownsRow B 5 1 v2 n2 (u8s F)) (hF : 0 < F.length) (hl : pre.length + F.length ≤ 1000) (hs : a.eval s = v) (hx : a.eval x = v2)
    (hk : ∀ v' w', FormAt w0 g d A c (pre ++ F) v' w' → wpList Try.prog ops Q rest (a.put o.dst v') w') : wpList Try.prog ops Q (o :: rest) a w := by
  subst hn2
  obtain ⟨i0, hi0, hz0, hz1, hz2⟩ := info_parts u8_info
  obtain ⟨A2, c2, rfl, h1, h2, -, hL⟩ := Lies.own hv2
  obtain ⟨a2, rfl⟩ := lies_at hL hF
  have hlt := h.deed.lt
  refine wpList_append_own w hgd s x 25 ho (g + 1) 5 i0 (.int .u8 0) 1 1 Try.underlying25 hi0 hz0 hz1 hz2 rfl (by decide) v pre.length (u8s pre) hs h.own a2 F.length c2 (u8s F) hx (by simp [u8s_len]) hL.src0 u8s_one (by simp only [maxLen]; omega) (by omega) hlt fun v' w' hown hgrow _ => ?_
  rw [← u8s_append, ← List.length_append] at hown
  refine hk v' w' (h.more ?_ hown (by rw [List.length_append]; exact hl))
  exact ((Below.refl (g + 1) w)).grown hgrow hlt (fun k hk => (h.own.lt k hk).1)
end
theorem FormAt.start (w : World) (d : Dd) (A : Option Addr) (c : Nat) (hx : Lies w (· < w.heap.size) A d.bits) : FormAt w w.heap.size d A c [] (.slice none 0 0) (w.alloc (.cells (d.vals A c) 60)) := by
  have hB : Below w.heap.size w (w.alloc (.cells (d.vals A c) 60)) := (Below.refl _ _).alloc (Nat.le_refl _) _
  exact ⟨DeedAt.new w d A c _, World.ownsRow_nil _ _ _ _, hB, rfl, Nat.zero_le _, hx.hold fun a ha => hB.cell ha⟩

set_option maxRecDepth 100000 in
set_option maxHeartbeats 4000000 in
theorem rform_send (a t m : Nat) (h0 : a ≤ 63) (h1 : t ≤ 63) (h3 : m ≤ 4611686018427387904) (A : Option Addr) (c : Nat) (w : World) (hx : Lies w (· < w.heap.size) A (Dd.bits ⟨1, a, 0, t, m, 0, [], 0, Par.none, 0, false⟩)) :
    Calls Try.prog 37 #[.agg (Dd.vals ⟨1, a, 0, t, m, 0, [], 0, Par.none, 0, false⟩ A c)] w fun e w' => ∃ v pre, e = .returned v ∧ FormAt w w.heap.size ⟨1, a, 0, t, m, 0, [], 0, Par.none, 0, false⟩ A c pre v w' ∧ Hid (pre = Dd.bytes ⟨1, a, 0, t, m, 0, [], 0, Par.none, 0, false⟩) := by
  have q0 := FormAt.start w ⟨1, a, 0, t, m, 0, [], 0, Par.none, 0, false⟩ A c hx
  have dd := q0.deed
  have cs := q0.deed.cells
  dsimp only at cs
  obtain ⟨c0, c1, c2, c3, c4, c5, c6, c7, c32, c33⟩ := cs
  have hm : Dd.mask ⟨1, a, 0, t, m, 0, [], 0, Par.none, 0, false⟩ = 97 := rfl
  have l1 := form_word (n := 1) (by omega)
  have la := form_word (n := a) (by omega)
  have lt := form_word (n := t) (by omega)
  have lm := form_word (n := m) (by omega)
  clear hx
  go_enter Try.func37, Try.ntmps37
  go_wp2_with (first
    | (refine load_rdeed _ rfl rfl _ _ A c _ rfl (by assumption) ?_)
    | (refine load_rpars _ rfl rfl _ _ A c _ rfl (by assumption) ?_)
    | (go_at_call 57; refine (q0.num 1 1 rfl (by omega) (by simp only [List.length_append, List.length_nil]; omega)).mono ?_; rintro e w1 ⟨v1, rfl, q1⟩; clear dd q0; have dd := q1.deed; have cs := q1.deed.cells; dsimp only at cs; clear c0 c1 c2 c3 c4 c5 c6 c7 c32 c33; obtain ⟨c0, c1, c2, c3, c4, c5, c6, c7, c32, c33⟩ := cs)
    | (go_at_call 34; refine (q1.uses 1 1 .account true (by rw [hm]; decide +kernel)).mono ?_; rintro e w2 ⟨rfl, q2⟩; clear dd q1; have dd := q2.deed; have cs := q2.deed.cells; dsimp only at cs; clear c0 c1 c2 c3 c4 c5 c6 c7 c32 c33; obtain ⟨c0, c1, c2, c3, c4, c5, c6, c7, c32, c33⟩ := cs)
    | (go_at_call 57; refine (q2.num a (a : Int) rfl (by omega) (by simp only [List.length_append, List.length_nil]; omega)).mono ?_; rintro e w3 ⟨v3, rfl, q3⟩; clear dd q2; have dd := q3.deed; have cs := q3.deed.cells; dsimp only at cs; clear c0 c1 c2 c3 c4 c5 c6 c7 c32 c33; obtain ⟨c0, c1, c2, c3, c4, c5, c6, c7, c32, c33⟩ := cs)
    | (go_at_call 34; refine (q3.uses 2 2 .member false (by rw [hm]; decide +kernel)).mono ?_; rintro e w4 ⟨rfl, q4⟩; clear dd q3; have dd := q4.deed; have cs := q4.deed.cells; dsimp only at cs; clear c0 c1 c2 c3 c4 c5 c6 c7 c32 c33; obtain ⟨c0, c1, c2, c3, c4, c5, c6, c7, c32, c33⟩ := cs)
    | (go_at_call 34; refine (q4.uses 5 4 .mark false (by rw [hm]; decide +kernel)).mono ?_; rintro e w5 ⟨rfl, q5⟩; clear dd q4; have dd := q5.deed; have cs := q5.deed.cells; dsimp only at cs; clear c0 c1 c2 c3 c4 c5 c6 c7 c32 c33; obtain ⟨c0, c1, c2, c3, c4, c5, c6, c7, c32, c33⟩ := cs)
    | (go_at_call 34; refine (q5.uses 6 8 .what false (by rw [hm]; decide +kernel)).mono ?_; rintro e w6 ⟨rfl, q6⟩; clear dd q5; have dd := q6.deed; have cs := q6.deed.cells; dsimp only at cs; clear c0 c1 c2 c3 c4 c5 c6 c7 c32 c33; obtain ⟨c0, c1, c2, c3, c4, c5, c6, c7, c32, c33⟩ := cs)
    | (go_at_call 34; refine (q6.uses 7 16 .params false (by rw [hm]; decide +kernel)).mono ?_; rintro e w7 ⟨rfl, q7⟩; clear dd q6; have dd := q7.deed; have cs := q7.deed.cells; dsimp only at cs; clear c0 c1 c2 c3 c4 c5 c6 c7 c32 c33; obtain ⟨c0, c1, c2, c3, c4, c5, c6, c7, c32, c33⟩ := cs)
    | (go_at_call 34; refine (q7.uses 3 32 .dest true (by rw [hm]; decide +kernel)).mono ?_; rintro e w8 ⟨rfl, q8⟩; clear dd q7; have dd := q8.deed; have cs := q8.deed.cells; dsimp only at cs; clear c0 c1 c2 c3 c4 c5 c6 c7 c32 c33; obtain ⟨c0, c1, c2, c3, c4, c5, c6, c7, c32, c33⟩ := cs)
    | (go_at_call 57; refine (q8.num t (t : Int) rfl (by omega) (by simp only [List.length_append, List.length_nil]; omega)).mono ?_; rintro e w9 ⟨v9, rfl, q9⟩; clear dd q8; have dd := q9.deed; have cs := q9.deed.cells; dsimp only at cs; clear c0 c1 c2 c3 c4 c5 c6 c7 c32 c33; obtain ⟨c0, c1, c2, c3, c4, c5, c6, c7, c32, c33⟩ := cs)
    | (go_at_call 34; refine (q9.uses 4 64 .amount true (by rw [hm]; decide +kernel)).mono ?_; rintro e w10 ⟨rfl, q10⟩; clear dd q9; have dd := q10.deed; have cs := q10.deed.cells; dsimp only at cs; clear c0 c1 c2 c3 c4 c5 c6 c7 c32 c33; obtain ⟨c0, c1, c2, c3, c4, c5, c6, c7, c32, c33⟩ := cs)
    | (go_at_call 36; refine (refform_is m _ (by omega)).mono ?_; rintro e w11 ⟨z11, rfl, o11, hb11⟩; have q11 := q10.next hb11; clear dd q10; have dd := q11.deed)
    | (refine FormAt.app _ _ q11 rfl rfl _ _ (form m) _ rfl o11 (form_pos m) (by simp only [List.length_append, List.length_nil]; omega) rfl rfl ?_; intro v12 w12 q12; clear dd o11; have dd := q12.deed; have cs := q12.deed.cells; dsimp only at cs; clear c0 c1 c2 c3 c4 c5 c6 c7 c32 c33; obtain ⟨c0, c1, c2, c3, c4, c5, c6, c7, c32, c33⟩ := cs)
    | (go_at_call 34; refine (q12.uses 8 128 .vote false (by rw [hm]; decide +kernel)).mono ?_; rintro e w13 ⟨rfl, q13⟩; clear dd q12; have dd := q13.deed; have cs := q13.deed.cells; dsimp only at cs; clear c0 c1 c2 c3 c4 c5 c6 c7 c32 c33; obtain ⟨c0, c1, c2, c3, c4, c5, c6, c7, c32, c33⟩ := cs))
  exact bodyPost_ret (v := v12) (by simp [results, Try.results37, go_sem]) rfl ⟨_, _, rfl, q13, by show _ = _; unfold Dd.bytes; rw [parts_send]; simp [List.flatten]⟩

set_option maxRecDepth 100000 in
set_option maxHeartbeats 4000000 in
theorem rform_stake (a m : Nat) (h0 : a ≤ 63) (h3 : m ≤ 4611686018427387904) (A : Option Addr) (c : Nat) (w : World) (hx : Lies w (· < w.heap.size) A (Dd.bits ⟨2, a, 0, 0, m, 0, [], 0, Par.none, 0, false⟩)) :
    Calls Try.prog 37 #[.agg (Dd.vals ⟨2, a, 0, 0, m, 0, [], 0, Par.none, 0, false⟩ A c)] w fun e w' => ∃ v pre, e = .returned v ∧ FormAt w w.heap.size ⟨2, a, 0, 0, m, 0, [], 0, Par.none, 0, false⟩ A c pre v w' ∧ Hid (pre = Dd.bytes ⟨2, a, 0, 0, m, 0, [], 0, Par.none, 0, false⟩) := by
  have q0 := FormAt.start w ⟨2, a, 0, 0, m, 0, [], 0, Par.none, 0, false⟩ A c hx
  have dd := q0.deed
  have cs := q0.deed.cells
  dsimp only at cs
  obtain ⟨c0, c1, c2, c3, c4, c5, c6, c7, c32, c33⟩ := cs
  have hm : Dd.mask ⟨2, a, 0, 0, m, 0, [], 0, Par.none, 0, false⟩ = 65 := rfl
  have l2 := form_word (n := 2) (by omega)
  have la := form_word (n := a) (by omega)
  have lm := form_word (n := m) (by omega)
  clear hx
  go_enter Try.func37, Try.ntmps37
  go_wp2_with (first
    | (refine load_rdeed _ rfl rfl _ _ A c _ rfl (by assumption) ?_)
    | (refine load_rpars _ rfl rfl _ _ A c _ rfl (by assumption) ?_)
    | (go_at_call 57; refine (q0.num 2 2 rfl (by omega) (by simp only [List.length_append, List.length_nil]; omega)).mono ?_; rintro e w1 ⟨v1, rfl, q1⟩; clear dd q0; have dd := q1.deed; have cs := q1.deed.cells; dsimp only at cs; clear c0 c1 c2 c3 c4 c5 c6 c7 c32 c33; obtain ⟨c0, c1, c2, c3, c4, c5, c6, c7, c32, c33⟩ := cs)
    | (go_at_call 34; refine (q1.uses 1 1 .account true (by rw [hm]; decide +kernel)).mono ?_; rintro e w2 ⟨rfl, q2⟩; clear dd q1; have dd := q2.deed; have cs := q2.deed.cells; dsimp only at cs; clear c0 c1 c2 c3 c4 c5 c6 c7 c32 c33; obtain ⟨c0, c1, c2, c3, c4, c5, c6, c7, c32, c33⟩ := cs)
    | (go_at_call 57; refine (q2.num a (a : Int) rfl (by omega) (by simp only [List.length_append, List.length_nil]; omega)).mono ?_; rintro e w3 ⟨v3, rfl, q3⟩; clear dd q2; have dd := q3.deed; have cs := q3.deed.cells; dsimp only at cs; clear c0 c1 c2 c3 c4 c5 c6 c7 c32 c33; obtain ⟨c0, c1, c2, c3, c4, c5, c6, c7, c32, c33⟩ := cs)
    | (go_at_call 34; refine (q3.uses 2 2 .member false (by rw [hm]; decide +kernel)).mono ?_; rintro e w4 ⟨rfl, q4⟩; clear dd q3; have dd := q4.deed; have cs := q4.deed.cells; dsimp only at cs; clear c0 c1 c2 c3 c4 c5 c6 c7 c32 c33; obtain ⟨c0, c1, c2, c3, c4, c5, c6, c7, c32, c33⟩ := cs)
    | (go_at_call 34; refine (q4.uses 5 4 .mark false (by rw [hm]; decide +kernel)).mono ?_; rintro e w5 ⟨rfl, q5⟩; clear dd q4; have dd := q5.deed; have cs := q5.deed.cells; dsimp only at cs; clear c0 c1 c2 c3 c4 c5 c6 c7 c32 c33; obtain ⟨c0, c1, c2, c3, c4, c5, c6, c7, c32, c33⟩ := cs)
    | (go_at_call 34; refine (q5.uses 6 8 .what false (by rw [hm]; decide +kernel)).mono ?_; rintro e w6 ⟨rfl, q6⟩; clear dd q5; have dd := q6.deed; have cs := q6.deed.cells; dsimp only at cs; clear c0 c1 c2 c3 c4 c5 c6 c7 c32 c33; obtain ⟨c0, c1, c2, c3, c4, c5, c6, c7, c32, c33⟩ := cs)
    | (go_at_call 34; refine (q6.uses 7 16 .params false (by rw [hm]; decide +kernel)).mono ?_; rintro e w7 ⟨rfl, q7⟩; clear dd q6; have dd := q7.deed; have cs := q7.deed.cells; dsimp only at cs; clear c0 c1 c2 c3 c4 c5 c6 c7 c32 c33; obtain ⟨c0, c1, c2, c3, c4, c5, c6, c7, c32, c33⟩ := cs)
    | (go_at_call 34; refine (q7.uses 3 32 .dest false (by rw [hm]; decide +kernel)).mono ?_; rintro e w8 ⟨rfl, q8⟩; clear dd q7; have dd := q8.deed; have cs := q8.deed.cells; dsimp only at cs; clear c0 c1 c2 c3 c4 c5 c6 c7 c32 c33; obtain ⟨c0, c1, c2, c3, c4, c5, c6, c7, c32, c33⟩ := cs)
    | (go_at_call 34; refine (q8.uses 4 64 .amount true (by rw [hm]; decide +kernel)).mono ?_; rintro e w9 ⟨rfl, q9⟩; clear dd q8; have dd := q9.deed; have cs := q9.deed.cells; dsimp only at cs; clear c0 c1 c2 c3 c4 c5 c6 c7 c32 c33; obtain ⟨c0, c1, c2, c3, c4, c5, c6, c7, c32, c33⟩ := cs)
    | (go_at_call 36; refine (refform_is m _ (by omega)).mono ?_; rintro e w10 ⟨z10, rfl, o10, hb10⟩; have q10 := q9.next hb10; clear dd q9; have dd := q10.deed)
    | (refine FormAt.app _ _ q10 rfl rfl _ _ (form m) _ rfl o10 (form_pos m) (by simp only [List.length_append, List.length_nil]; omega) rfl rfl ?_; intro v11 w11 q11; clear dd o10; have dd := q11.deed; have cs := q11.deed.cells; dsimp only at cs; clear c0 c1 c2 c3 c4 c5 c6 c7 c32 c33; obtain ⟨c0, c1, c2, c3, c4, c5, c6, c7, c32, c33⟩ := cs)
    | (go_at_call 34; refine (q11.uses 8 128 .vote false (by rw [hm]; decide +kernel)).mono ?_; rintro e w12 ⟨rfl, q12⟩; clear dd q11; have dd := q12.deed; have cs := q12.deed.cells; dsimp only at cs; clear c0 c1 c2 c3 c4 c5 c6 c7 c32 c33; obtain ⟨c0, c1, c2, c3, c4, c5, c6, c7, c32, c33⟩ := cs))
  exact bodyPost_ret (v := v11) (by simp [results, Try.results37, go_sem]) rfl ⟨_, _, rfl, q12, by show _ = _; unfold Dd.bytes; rw [parts_stake]; simp [List.flatten]⟩

set_option maxRecDepth 100000 in
set_option maxHeartbeats 4000000 in
theorem rform_top (a b m : Nat) (h0 : a ≤ 63) (h1 : b ≤ 127) (h3 : m ≤ 4611686018427387904) (A : Option Addr) (c : Nat) (w : World) (hx : Lies w (· < w.heap.size) A (Dd.bits ⟨3, a, b, 0, m, 0, [], 0, Par.none, 0, false⟩)) :
    Calls Try.prog 37 #[.agg (Dd.vals ⟨3, a, b, 0, m, 0, [], 0, Par.none, 0, false⟩ A c)] w fun e w' => ∃ v pre, e = .returned v ∧ FormAt w w.heap.size ⟨3, a, b, 0, m, 0, [], 0, Par.none, 0, false⟩ A c pre v w' ∧ Hid (pre = Dd.bytes ⟨3, a, b, 0, m, 0, [], 0, Par.none, 0, false⟩) := by
  have q0 := FormAt.start w ⟨3, a, b, 0, m, 0, [], 0, Par.none, 0, false⟩ A c hx
  have dd := q0.deed
  have cs := q0.deed.cells
  dsimp only at cs
  obtain ⟨c0, c1, c2, c3, c4, c5, c6, c7, c32, c33⟩ := cs
  have hm : Dd.mask ⟨3, a, b, 0, m, 0, [], 0, Par.none, 0, false⟩ = 67 := rfl
  have l3 := form_word (n := 3) (by omega)
  have la := form_word (n := a) (by omega)
  have lb := form_word (n := b) (by omega)
  have lm := form_word (n := m) (by omega)
  clear hx
  go_enter Try.func37, Try.ntmps37
  go_wp2_with (first
    | (refine load_rdeed _ rfl rfl _ _ A c _ rfl (by assumption) ?_)
    | (refine load_rpars _ rfl rfl _ _ A c _ rfl (by assumption) ?_)
    | (go_at_call 57; refine (q0.num 3 3 rfl (by omega) (by simp only [List.length_append, List.length_nil]; omega)).mono ?_; rintro e w1 ⟨v1, rfl, q1⟩; clear dd q0; have dd := q1.deed; have cs := q1.deed.cells; dsimp only at cs; clear c0 c1 c2 c3 c4 c5 c6 c7 c32 c33; obtain ⟨c0, c1, c2, c3, c4, c5, c6, c7, c32, c33⟩ := cs)
    | (go_at_call 34; refine (q1.uses 1 1 .account true (by rw [hm]; decide +kernel)).mono ?_; rintro e w2 ⟨rfl, q2⟩; clear dd q1; have dd := q2.deed; have cs := q2.deed.cells; dsimp only at cs; clear c0 c1 c2 c3 c4 c5 c6 c7 c32 c33; obtain ⟨c0, c1, c2, c3, c4, c5, c6, c7, c32, c33⟩ := cs)
    | (go_at_call 57; refine (q2.num a (a : Int) rfl (by omega) (by simp only [List.length_append, List.length_nil]; omega)).mono ?_; rintro e w3 ⟨v3, rfl, q3⟩; clear dd q2; have dd := q3.deed; have cs := q3.deed.cells; dsimp only at cs; clear c0 c1 c2 c3 c4 c5 c6 c7 c32 c33; obtain ⟨c0, c1, c2, c3, c4, c5, c6, c7, c32, c33⟩ := cs)
    | (go_at_call 34; refine (q3.uses 2 2 .member true (by rw [hm]; decide +kernel)).mono ?_; rintro e w4 ⟨rfl, q4⟩; clear dd q3; have dd := q4.deed; have cs := q4.deed.cells; dsimp only at cs; clear c0 c1 c2 c3 c4 c5 c6 c7 c32 c33; obtain ⟨c0, c1, c2, c3, c4, c5, c6, c7, c32, c33⟩ := cs)
    | (go_at_call 57; refine (q4.num b (b : Int) rfl (by omega) (by simp only [List.length_append, List.length_nil]; omega)).mono ?_; rintro e w5 ⟨v5, rfl, q5⟩; clear dd q4; have dd := q5.deed; have cs := q5.deed.cells; dsimp only at cs; clear c0 c1 c2 c3 c4 c5 c6 c7 c32 c33; obtain ⟨c0, c1, c2, c3, c4, c5, c6, c7, c32, c33⟩ := cs)
    | (go_at_call 34; refine (q5.uses 5 4 .mark false (by rw [hm]; decide +kernel)).mono ?_; rintro e w6 ⟨rfl, q6⟩; clear dd q5; have dd := q6.deed; have cs := q6.deed.cells; dsimp only at cs; clear c0 c1 c2 c3 c4 c5 c6 c7 c32 c33; obtain ⟨c0, c1, c2, c3, c4, c5, c6, c7, c32, c33⟩ := cs)
    | (go_at_call 34; refine (q6.uses 6 8 .what false (by rw [hm]; decide +kernel)).mono ?_; rintro e w7 ⟨rfl, q7⟩; clear dd q6; have dd := q7.deed; have cs := q7.deed.cells; dsimp only at cs; clear c0 c1 c2 c3 c4 c5 c6 c7 c32 c33; obtain ⟨c0, c1, c2, c3, c4, c5, c6, c7, c32, c33⟩ := cs)
    | (go_at_call 34; refine (q7.uses 7 16 .params false (by rw [hm]; decide +kernel)).mono ?_; rintro e w8 ⟨rfl, q8⟩; clear dd q7; have dd := q8.deed; have cs := q8.deed.cells; dsimp only at cs; clear c0 c1 c2 c3 c4 c5 c6 c7 c32 c33; obtain ⟨c0, c1, c2, c3, c4, c5, c6, c7, c32, c33⟩ := cs)
    | (go_at_call 34; refine (q8.uses 3 32 .dest false (by rw [hm]; decide +kernel)).mono ?_; rintro e w9 ⟨rfl, q9⟩; clear dd q8; have dd := q9.deed; have cs := q9.deed.cells; dsimp only at cs; clear c0 c1 c2 c3 c4 c5 c6 c7 c32 c33; obtain ⟨c0, c1, c2, c3, c4, c5, c6, c7, c32, c33⟩ := cs)
    | (go_at_call 34; refine (q9.uses 4 64 .amount true (by rw [hm]; decide +kernel)).mono ?_; rintro e w10 ⟨rfl, q10⟩; clear dd q9; have dd := q10.deed; have cs := q10.deed.cells; dsimp only at cs; clear c0 c1 c2 c3 c4 c5 c6 c7 c32 c33; obtain ⟨c0, c1, c2, c3, c4, c5, c6, c7, c32, c33⟩ := cs)
    | (go_at_call 36; refine (refform_is m _ (by omega)).mono ?_; rintro e w11 ⟨z11, rfl, o11, hb11⟩; have q11 := q10.next hb11; clear dd q10; have dd := q11.deed)
    | (refine FormAt.app _ _ q11 rfl rfl _ _ (form m) _ rfl o11 (form_pos m) (by simp only [List.length_append, List.length_nil]; omega) rfl rfl ?_; intro v12 w12 q12; clear dd o11; have dd := q12.deed; have cs := q12.deed.cells; dsimp only at cs; clear c0 c1 c2 c3 c4 c5 c6 c7 c32 c33; obtain ⟨c0, c1, c2, c3, c4, c5, c6, c7, c32, c33⟩ := cs)
    | (go_at_call 34; refine (q12.uses 8 128 .vote false (by rw [hm]; decide +kernel)).mono ?_; rintro e w13 ⟨rfl, q13⟩; clear dd q12; have dd := q13.deed; have cs := q13.deed.cells; dsimp only at cs; clear c0 c1 c2 c3 c4 c5 c6 c7 c32 c33; obtain ⟨c0, c1, c2, c3, c4, c5, c6, c7, c32, c33⟩ := cs))
  exact bodyPost_ret (v := v12) (by simp [results, Try.results37, go_sem]) rfl ⟨_, _, rfl, q13, by show _ = _; unfold Dd.bytes; rw [parts_top]; simp [List.flatten]⟩

set_option maxRecDepth 100000 in
set_option maxHeartbeats 4000000 in
theorem rform_leave (a b : Nat) (h0 : a ≤ 63) (h1 : b ≤ 127) (A : Option Addr) (c : Nat) (w : World) (hx : Lies w (· < w.heap.size) A (Dd.bits ⟨4, a, b, 0, 0, 0, [], 0, Par.none, 0, false⟩)) :
    Calls Try.prog 37 #[.agg (Dd.vals ⟨4, a, b, 0, 0, 0, [], 0, Par.none, 0, false⟩ A c)] w fun e w' => ∃ v pre, e = .returned v ∧ FormAt w w.heap.size ⟨4, a, b, 0, 0, 0, [], 0, Par.none, 0, false⟩ A c pre v w' ∧ Hid (pre = Dd.bytes ⟨4, a, b, 0, 0, 0, [], 0, Par.none, 0, false⟩) := by
  have q0 := FormAt.start w ⟨4, a, b, 0, 0, 0, [], 0, Par.none, 0, false⟩ A c hx
  have dd := q0.deed
  have cs := q0.deed.cells
  dsimp only at cs
  obtain ⟨c0, c1, c2, c3, c4, c5, c6, c7, c32, c33⟩ := cs
  have hm : Dd.mask ⟨4, a, b, 0, 0, 0, [], 0, Par.none, 0, false⟩ = 3 := rfl
  have l4 := form_word (n := 4) (by omega)
  have la := form_word (n := a) (by omega)
  have lb := form_word (n := b) (by omega)
  clear hx
  go_enter Try.func37, Try.ntmps37
  go_wp2_with (first
    | (refine load_rdeed _ rfl rfl _ _ A c _ rfl (by assumption) ?_)
    | (refine load_rpars _ rfl rfl _ _ A c _ rfl (by assumption) ?_)
    | (go_at_call 57; refine (q0.num 4 4 rfl (by omega) (by simp only [List.length_append, List.length_nil]; omega)).mono ?_; rintro e w1 ⟨v1, rfl, q1⟩; clear dd q0; have dd := q1.deed; have cs := q1.deed.cells; dsimp only at cs; clear c0 c1 c2 c3 c4 c5 c6 c7 c32 c33; obtain ⟨c0, c1, c2, c3, c4, c5, c6, c7, c32, c33⟩ := cs)
    | (go_at_call 34; refine (q1.uses 1 1 .account true (by rw [hm]; decide +kernel)).mono ?_; rintro e w2 ⟨rfl, q2⟩; clear dd q1; have dd := q2.deed; have cs := q2.deed.cells; dsimp only at cs; clear c0 c1 c2 c3 c4 c5 c6 c7 c32 c33; obtain ⟨c0, c1, c2, c3, c4, c5, c6, c7, c32, c33⟩ := cs)
    | (go_at_call 57; refine (q2.num a (a : Int) rfl (by omega) (by simp only [List.length_append, List.length_nil]; omega)).mono ?_; rintro e w3 ⟨v3, rfl, q3⟩; clear dd q2; have dd := q3.deed; have cs := q3.deed.cells; dsimp only at cs; clear c0 c1 c2 c3 c4 c5 c6 c7 c32 c33; obtain ⟨c0, c1, c2, c3, c4, c5, c6, c7, c32, c33⟩ := cs)
    | (go_at_call 34; refine (q3.uses 2 2 .member true (by rw [hm]; decide +kernel)).mono ?_; rintro e w4 ⟨rfl, q4⟩; clear dd q3; have dd := q4.deed; have cs := q4.deed.cells; dsimp only at cs; clear c0 c1 c2 c3 c4 c5 c6 c7 c32 c33; obtain ⟨c0, c1, c2, c3, c4, c5, c6, c7, c32, c33⟩ := cs)
    | (go_at_call 57; refine (q4.num b (b : Int) rfl (by omega) (by simp only [List.length_append, List.length_nil]; omega)).mono ?_; rintro e w5 ⟨v5, rfl, q5⟩; clear dd q4; have dd := q5.deed; have cs := q5.deed.cells; dsimp only at cs; clear c0 c1 c2 c3 c4 c5 c6 c7 c32 c33; obtain ⟨c0, c1, c2, c3, c4, c5, c6, c7, c32, c33⟩ := cs)
    | (go_at_call 34; refine (q5.uses 5 4 .mark false (by rw [hm]; decide +kernel)).mono ?_; rintro e w6 ⟨rfl, q6⟩; clear dd q5; have dd := q6.deed; have cs := q6.deed.cells; dsimp only at cs; clear c0 c1 c2 c3 c4 c5 c6 c7 c32 c33; obtain ⟨c0, c1, c2, c3, c4, c5, c6, c7, c32, c33⟩ := cs)
    | (go_at_call 34; refine (q6.uses 6 8 .what false (by rw [hm]; decide +kernel)).mono ?_; rintro e w7 ⟨rfl, q7⟩; clear dd q6; have dd := q7.deed; have cs := q7.deed.cells; dsimp only at cs; clear c0 c1 c2 c3 c4 c5 c6 c7 c32 c33; obtain ⟨c0, c1, c2, c3, c4, c5, c6, c7, c32, c33⟩ := cs)
    | (go_at_call 34; refine (q7.uses 7 16 .params false (by rw [hm]; decide +kernel)).mono ?_; rintro e w8 ⟨rfl, q8⟩; clear dd q7; have dd := q8.deed; have cs := q8.deed.cells; dsimp only at cs; clear c0 c1 c2 c3 c4 c5 c6 c7 c32 c33; obtain ⟨c0, c1, c2, c3, c4, c5, c6, c7, c32, c33⟩ := cs)
    | (go_at_call 34; refine (q8.uses 3 32 .dest false (by rw [hm]; decide +kernel)).mono ?_; rintro e w9 ⟨rfl, q9⟩; clear dd q8; have dd := q9.deed; have cs := q9.deed.cells; dsimp only at cs; clear c0 c1 c2 c3 c4 c5 c6 c7 c32 c33; obtain ⟨c0, c1, c2, c3, c4, c5, c6, c7, c32, c33⟩ := cs)
    | (go_at_call 34; refine (q9.uses 4 64 .amount false (by rw [hm]; decide +kernel)).mono ?_; rintro e w10 ⟨rfl, q10⟩; clear dd q9; have dd := q10.deed; have cs := q10.deed.cells; dsimp only at cs; clear c0 c1 c2 c3 c4 c5 c6 c7 c32 c33; obtain ⟨c0, c1, c2, c3, c4, c5, c6, c7, c32, c33⟩ := cs)
    | (go_at_call 34; refine (q10.uses 8 128 .vote false (by rw [hm]; decide +kernel)).mono ?_; rintro e w11 ⟨rfl, q11⟩; clear dd q10; have dd := q11.deed; have cs := q11.deed.cells; dsimp only at cs; clear c0 c1 c2 c3 c4 c5 c6 c7 c32 c33; obtain ⟨c0, c1, c2, c3, c4, c5, c6, c7, c32, c33⟩ := cs))
  exact bodyPost_ret (v := v5) (by simp [results, Try.results37, go_sem]) rfl ⟨_, _, rfl, q11, by show _ = _; unfold Dd.bytes; rw [parts_leave]; simp [List.flatten]⟩

set_option maxRecDepth 100000 in
set_option maxHeartbeats 4000000 in
theorem rform_mark (ep : Nat) (xs : List Nat) (h0 : ep ≤ 1073741824) (hxl : xs.length ≤ 32) (A : Option Addr) (c : Nat) (w : World) (hx : Lies w (· < w.heap.size) A (Dd.bits ⟨5, 0, 0, 0, 0, ep, xs, 0, Par.none, 0, false⟩)) (hA : A = none → c = 0) :
    Calls Try.prog 37 #[.agg (Dd.vals ⟨5, 0, 0, 0, 0, ep, xs, 0, Par.none, 0, false⟩ A c)] w fun e w' => ∃ v pre, e = .returned v ∧ FormAt w w.heap.size ⟨5, 0, 0, 0, 0, ep, xs, 0, Par.none, 0, false⟩ A c pre v w' ∧ Hid (pre = Dd.bytes ⟨5, 0, 0, 0, 0, ep, xs, 0, Par.none, 0, false⟩) := by
  have q0 := FormAt.start w ⟨5, 0, 0, 0, 0, ep, xs, 0, Par.none, 0, false⟩ A c hx
  have dd := q0.deed
  have cs := q0.deed.cells
  dsimp only at cs
  obtain ⟨c0, c1, c2, c3, c4, c5, c6, c7, c32, c33⟩ := cs
  have hm : Dd.mask ⟨5, 0, 0, 0, 0, ep, xs, 0, Par.none, 0, false⟩ = 4 := rfl
  have l5 := form_word (n := 5) (by omega)
  have lep := form_word (n := ep) (by omega)
  have lxslength := form_word (n := xs.length) (by omega)
  clear hx
  go_enter Try.func37, Try.ntmps37
  go_wp2_with (first
    | (refine load_rdeed _ rfl rfl _ _ A c _ rfl (by assumption) ?_)
    | (refine load_rpars _ rfl rfl _ _ A c _ rfl (by assumption) ?_)
    | (go_at_call 57; refine (q0.num 5 5 rfl (by omega) (by simp only [List.length_append, List.length_nil]; omega)).mono ?_; rintro e w1 ⟨v1, rfl, q1⟩; clear dd q0; have dd := q1.deed; have cs := q1.deed.cells; dsimp only at cs; clear c0 c1 c2 c3 c4 c5 c6 c7 c32 c33; obtain ⟨c0, c1, c2, c3, c4, c5, c6, c7, c32, c33⟩ := cs)
    | (go_at_call 34; refine (q1.uses 1 1 .account false (by rw [hm]; decide +kernel)).mono ?_; rintro e w2 ⟨rfl, q2⟩; clear dd q1; have dd := q2.deed; have cs := q2.deed.cells; dsimp only at cs; clear c0 c1 c2 c3 c4 c5 c6 c7 c32 c33; obtain ⟨c0, c1, c2, c3, c4, c5, c6, c7, c32, c33⟩ := cs)
    | (go_at_call 34; refine (q2.uses 2 2 .member false (by rw [hm]; decide +kernel)).mono ?_; rintro e w3 ⟨rfl, q3⟩; clear dd q2; have dd := q3.deed; have cs := q3.deed.cells; dsimp only at cs; clear c0 c1 c2 c3 c4 c5 c6 c7 c32 c33; obtain ⟨c0, c1, c2, c3, c4, c5, c6, c7, c32, c33⟩ := cs)
    | (go_at_call 34; refine (q3.uses 5 4 .mark true (by rw [hm]; decide +kernel)).mono ?_; rintro e w4 ⟨rfl, q4⟩; clear dd q3; have dd := q4.deed; have cs := q4.deed.cells; dsimp only at cs; clear c0 c1 c2 c3 c4 c5 c6 c7 c32 c33; obtain ⟨c0, c1, c2, c3, c4, c5, c6, c7, c32, c33⟩ := cs)
    | (go_at_call 57; refine (q4.num ep (ep : Int) rfl (by omega) (by simp only [List.length_append, List.length_nil]; omega)).mono ?_; rintro e w5 ⟨v5, rfl, q5⟩; clear dd q4; have dd := q5.deed; have cs := q5.deed.cells; dsimp only at cs; clear c0 c1 c2 c3 c4 c5 c6 c7 c32 c33; obtain ⟨c0, c1, c2, c3, c4, c5, c6, c7, c32, c33⟩ := cs)
    | (go_at_call 58; refine (refraw_is xs _ A c _ q5.lies (by omega) hA).mono ?_; rintro e w6 ⟨z6, rfl, o6, hb6⟩; have q6 := q5.next hb6; clear dd q5; have dd := q6.deed)
    | (refine FormAt.app _ _ q6 rfl rfl _ _ (form xs.length ++ xs) _ (by rw [List.length_append]) o6 (by rw [List.length_append]; have := form_pos xs.length; omega) (by simp only [List.length_append, List.length_nil]; omega) rfl rfl ?_; intro v7 w7 q7; clear dd o6; have dd := q7.deed; have cs := q7.deed.cells; dsimp only at cs; clear c0 c1 c2 c3 c4 c5 c6 c7 c32 c33; obtain ⟨c0, c1, c2, c3, c4, c5, c6, c7, c32, c33⟩ := cs)
    | (go_at_call 34; refine (q7.uses 6 8 .what false (by rw [hm]; decide +kernel)).mono ?_; rintro e w8 ⟨rfl, q8⟩; clear dd q7; have dd := q8.deed; have cs := q8.deed.cells; dsimp only at cs; clear c0 c1 c2 c3 c4 c5 c6 c7 c32 c33; obtain ⟨c0, c1, c2, c3, c4, c5, c6, c7, c32, c33⟩ := cs)
    | (go_at_call 34; refine (q8.uses 7 16 .params false (by rw [hm]; decide +kernel)).mono ?_; rintro e w9 ⟨rfl, q9⟩; clear dd q8; have dd := q9.deed; have cs := q9.deed.cells; dsimp only at cs; clear c0 c1 c2 c3 c4 c5 c6 c7 c32 c33; obtain ⟨c0, c1, c2, c3, c4, c5, c6, c7, c32, c33⟩ := cs)
    | (go_at_call 34; refine (q9.uses 3 32 .dest false (by rw [hm]; decide +kernel)).mono ?_; rintro e w10 ⟨rfl, q10⟩; clear dd q9; have dd := q10.deed; have cs := q10.deed.cells; dsimp only at cs; clear c0 c1 c2 c3 c4 c5 c6 c7 c32 c33; obtain ⟨c0, c1, c2, c3, c4, c5, c6, c7, c32, c33⟩ := cs)
    | (go_at_call 34; refine (q10.uses 4 64 .amount false (by rw [hm]; decide +kernel)).mono ?_; rintro e w11 ⟨rfl, q11⟩; clear dd q10; have dd := q11.deed; have cs := q11.deed.cells; dsimp only at cs; clear c0 c1 c2 c3 c4 c5 c6 c7 c32 c33; obtain ⟨c0, c1, c2, c3, c4, c5, c6, c7, c32, c33⟩ := cs)
    | (go_at_call 34; refine (q11.uses 8 128 .vote false (by rw [hm]; decide +kernel)).mono ?_; rintro e w12 ⟨rfl, q12⟩; clear dd q11; have dd := q12.deed; have cs := q12.deed.cells; dsimp only at cs; clear c0 c1 c2 c3 c4 c5 c6 c7 c32 c33; obtain ⟨c0, c1, c2, c3, c4, c5, c6, c7, c32, c33⟩ := cs))
  exact bodyPost_ret (v := v7) (by simp [results, Try.results37, go_sem]) rfl ⟨_, _, rfl, q12, by show _ = _; unfold Dd.bytes; rw [parts_mark]; simp [List.flatten]⟩

set_option maxRecDepth 100000 in
set_option maxHeartbeats 4000000 in
theorem rform_params (a : Nat) (p : Par) (T : Nat) (h0 : a ≤ 63) (hp : Par.Right p T) (A : Option Addr) (c : Nat) (w : World) (hx : Lies w (· < w.heap.size) A (Dd.bits ⟨6, a, 0, 0, 0, 0, [], 1, p, 0, false⟩)) :
    Calls Try.prog 37 #[.agg (Dd.vals ⟨6, a, 0, 0, 0, 0, [], 1, p, 0, false⟩ A c)] w fun e w' => ∃ v pre, e = .returned v ∧ FormAt w w.heap.size ⟨6, a, 0, 0, 0, 0, [], 1, p, 0, false⟩ A c pre v w' ∧ Hid (pre = Dd.bytes ⟨6, a, 0, 0, 0, 0, [], 1, p, 0, false⟩) := by
  have q0 := FormAt.start w ⟨6, a, 0, 0, 0, 0, [], 1, p, 0, false⟩ A c hx
  have dd := q0.deed
  have cs := q0.deed.cells
  dsimp only at cs
  obtain ⟨c0, c1, c2, c3, c4, c5, c6, c7, c32, c33⟩ := cs
  have hm : Dd.mask ⟨6, a, 0, 0, 0, 0, [], 1, p, 0, false⟩ = 25 := rfl
  have l6 := form_word (n := 6) (by omega)
  have la := form_word (n := a) (by omega)
  have l1 := form_word (n := 1) (by omega)
  have hpl := bytes_len (.params 0 p T (by decide) hp (right_fits hp).1)
  have hpp : 0 < p.bytes.length := par_pos p
  have hpl2 : p.bytes.length ≤ 280 := by
    have e : (Dd.bytes ⟨6, (0 : Nat), 0, 0, 0, 0, [], 1, p, 0, false⟩).length ≤ 280 := hpl.2
    unfold Dd.bytes at e
    rw [parts_params] at e
    simp only [List.flatten_append, List.length_append, flat_map] at e
    unfold Par.bytes
    omega
  clear hpl
  clear hx
  go_enter Try.func37, Try.ntmps37
  go_wp2_with (first
    | (refine load_rdeed _ rfl rfl _ _ A c _ rfl (by assumption) ?_)
    | (refine load_rpars _ rfl rfl _ _ A c _ rfl (by assumption) ?_)
    | (go_at_call 57; refine (q0.num 6 6 rfl (by omega) (by simp only [List.length_append, List.length_nil]; omega)).mono ?_; rintro e w1 ⟨v1, rfl, q1⟩; clear dd q0; have dd := q1.deed; have cs := q1.deed.cells; dsimp only at cs; clear c0 c1 c2 c3 c4 c5 c6 c7 c32 c33; obtain ⟨c0, c1, c2, c3, c4, c5, c6, c7, c32, c33⟩ := cs)
    | (go_at_call 34; refine (q1.uses 1 1 .account true (by rw [hm]; decide +kernel)).mono ?_; rintro e w2 ⟨rfl, q2⟩; clear dd q1; have dd := q2.deed; have cs := q2.deed.cells; dsimp only at cs; clear c0 c1 c2 c3 c4 c5 c6 c7 c32 c33; obtain ⟨c0, c1, c2, c3, c4, c5, c6, c7, c32, c33⟩ := cs)
    | (go_at_call 57; refine (q2.num a (a : Int) rfl (by omega) (by simp only [List.length_append, List.length_nil]; omega)).mono ?_; rintro e w3 ⟨v3, rfl, q3⟩; clear dd q2; have dd := q3.deed; have cs := q3.deed.cells; dsimp only at cs; clear c0 c1 c2 c3 c4 c5 c6 c7 c32 c33; obtain ⟨c0, c1, c2, c3, c4, c5, c6, c7, c32, c33⟩ := cs)
    | (go_at_call 34; refine (q3.uses 2 2 .member false (by rw [hm]; decide +kernel)).mono ?_; rintro e w4 ⟨rfl, q4⟩; clear dd q3; have dd := q4.deed; have cs := q4.deed.cells; dsimp only at cs; clear c0 c1 c2 c3 c4 c5 c6 c7 c32 c33; obtain ⟨c0, c1, c2, c3, c4, c5, c6, c7, c32, c33⟩ := cs)
    | (go_at_call 34; refine (q4.uses 5 4 .mark false (by rw [hm]; decide +kernel)).mono ?_; rintro e w5 ⟨rfl, q5⟩; clear dd q4; have dd := q5.deed; have cs := q5.deed.cells; dsimp only at cs; clear c0 c1 c2 c3 c4 c5 c6 c7 c32 c33; obtain ⟨c0, c1, c2, c3, c4, c5, c6, c7, c32, c33⟩ := cs)
    | (go_at_call 34; refine (q5.uses 6 8 .what true (by rw [hm]; decide +kernel)).mono ?_; rintro e w6 ⟨rfl, q6⟩; clear dd q5; have dd := q6.deed; have cs := q6.deed.cells; dsimp only at cs; clear c0 c1 c2 c3 c4 c5 c6 c7 c32 c33; obtain ⟨c0, c1, c2, c3, c4, c5, c6, c7, c32, c33⟩ := cs)
    | (go_at_call 57; refine (q6.num 1 1 rfl (by omega) (by simp only [List.length_append, List.length_nil]; omega)).mono ?_; rintro e w7 ⟨v7, rfl, q7⟩; clear dd q6; have dd := q7.deed; have cs := q7.deed.cells; dsimp only at cs; clear c0 c1 c2 c3 c4 c5 c6 c7 c32 c33; obtain ⟨c0, c1, c2, c3, c4, c5, c6, c7, c32, c33⟩ := cs)
    | (go_at_call 34; refine (q7.uses 7 16 .params true (by rw [hm]; decide +kernel)).mono ?_; rintro e w8 ⟨rfl, q8⟩; clear dd q7; have dd := q8.deed; have cs := q8.deed.cells; dsimp only at cs; clear c0 c1 c2 c3 c4 c5 c6 c7 c32 c33; obtain ⟨c0, c1, c2, c3, c4, c5, c6, c7, c32, c33⟩ := cs)
    | (go_at_call 59; refine (rparform_is p T _ hp).mono ?_; rintro e w9 ⟨z9, rfl, o9, hb9⟩; have q9 := q8.next hb9; clear dd q8; have dd := q9.deed)
    | (refine FormAt.app _ _ q9 rfl rfl _ _ (p.bytes) _ rfl o9 (hpp) (by simp only [List.length_append, List.length_nil]; omega) rfl rfl ?_; intro v10 w10 q10; clear dd o9; have dd := q10.deed; have cs := q10.deed.cells; dsimp only at cs; clear c0 c1 c2 c3 c4 c5 c6 c7 c32 c33; obtain ⟨c0, c1, c2, c3, c4, c5, c6, c7, c32, c33⟩ := cs)
    | (go_at_call 34; refine (q10.uses 3 32 .dest false (by rw [hm]; decide +kernel)).mono ?_; rintro e w11 ⟨rfl, q11⟩; clear dd q10; have dd := q11.deed; have cs := q11.deed.cells; dsimp only at cs; clear c0 c1 c2 c3 c4 c5 c6 c7 c32 c33; obtain ⟨c0, c1, c2, c3, c4, c5, c6, c7, c32, c33⟩ := cs)
    | (go_at_call 34; refine (q11.uses 4 64 .amount false (by rw [hm]; decide +kernel)).mono ?_; rintro e w12 ⟨rfl, q12⟩; clear dd q11; have dd := q12.deed; have cs := q12.deed.cells; dsimp only at cs; clear c0 c1 c2 c3 c4 c5 c6 c7 c32 c33; obtain ⟨c0, c1, c2, c3, c4, c5, c6, c7, c32, c33⟩ := cs)
    | (go_at_call 34; refine (q12.uses 8 128 .vote false (by rw [hm]; decide +kernel)).mono ?_; rintro e w13 ⟨rfl, q13⟩; clear dd q12; have dd := q13.deed; have cs := q13.deed.cells; dsimp only at cs; clear c0 c1 c2 c3 c4 c5 c6 c7 c32 c33; obtain ⟨c0, c1, c2, c3, c4, c5, c6, c7, c32, c33⟩ := cs))
  exact bodyPost_ret (v := v10) (by simp [results, Try.results37, go_sem]) rfl ⟨_, _, rfl, q13, by show _ = _; unfold Dd.bytes; rw [parts_params]; rw [List.flatten_append, flat_map]; simp only [List.flatten_cons, List.flatten_nil, List.append_nil, List.nil_append, List.append_assoc]; rfl⟩

set_option maxRecDepth 100000 in
set_option maxHeartbeats 4000000 in
theorem rform_spend (a t m : Nat) (h0 : a ≤ 63) (h1 : t ≤ 63) (h3 : m ≤ 4611686018427387904) (A : Option Addr) (c : Nat) (w : World) (hx : Lies w (· < w.heap.size) A (Dd.bits ⟨6, a, 0, t, m, 0, [], 2, Par.none, 0, false⟩)) :
    Calls Try.prog 37 #[.agg (Dd.vals ⟨6, a, 0, t, m, 0, [], 2, Par.none, 0, false⟩ A c)] w fun e w' => ∃ v pre, e = .returned v ∧ FormAt w w.heap.size ⟨6, a, 0, t, m, 0, [], 2, Par.none, 0, false⟩ A c pre v w' ∧ Hid (pre = Dd.bytes ⟨6, a, 0, t, m, 0, [], 2, Par.none, 0, false⟩) := by
  have q0 := FormAt.start w ⟨6, a, 0, t, m, 0, [], 2, Par.none, 0, false⟩ A c hx
  have dd := q0.deed
  have cs := q0.deed.cells
  dsimp only at cs
  obtain ⟨c0, c1, c2, c3, c4, c5, c6, c7, c32, c33⟩ := cs
  have hm : Dd.mask ⟨6, a, 0, t, m, 0, [], 2, Par.none, 0, false⟩ = 105 := rfl
  have l6 := form_word (n := 6) (by omega)
  have la := form_word (n := a) (by omega)
  have l2 := form_word (n := 2) (by omega)
  have lt := form_word (n := t) (by omega)
  have lm := form_word (n := m) (by omega)
  clear hx
  go_enter Try.func37, Try.ntmps37
  go_wp2_with (first
    | (refine load_rdeed _ rfl rfl _ _ A c _ rfl (by assumption) ?_)
    | (refine load_rpars _ rfl rfl _ _ A c _ rfl (by assumption) ?_)
    | (go_at_call 57; refine (q0.num 6 6 rfl (by omega) (by simp only [List.length_append, List.length_nil]; omega)).mono ?_; rintro e w1 ⟨v1, rfl, q1⟩; clear dd q0; have dd := q1.deed; have cs := q1.deed.cells; dsimp only at cs; clear c0 c1 c2 c3 c4 c5 c6 c7 c32 c33; obtain ⟨c0, c1, c2, c3, c4, c5, c6, c7, c32, c33⟩ := cs)
    | (go_at_call 34; refine (q1.uses 1 1 .account true (by rw [hm]; decide +kernel)).mono ?_; rintro e w2 ⟨rfl, q2⟩; clear dd q1; have dd := q2.deed; have cs := q2.deed.cells; dsimp only at cs; clear c0 c1 c2 c3 c4 c5 c6 c7 c32 c33; obtain ⟨c0, c1, c2, c3, c4, c5, c6, c7, c32, c33⟩ := cs)
    | (go_at_call 57; refine (q2.num a (a : Int) rfl (by omega) (by simp only [List.length_append, List.length_nil]; omega)).mono ?_; rintro e w3 ⟨v3, rfl, q3⟩; clear dd q2; have dd := q3.deed; have cs := q3.deed.cells; dsimp only at cs; clear c0 c1 c2 c3 c4 c5 c6 c7 c32 c33; obtain ⟨c0, c1, c2, c3, c4, c5, c6, c7, c32, c33⟩ := cs)
    | (go_at_call 34; refine (q3.uses 2 2 .member false (by rw [hm]; decide +kernel)).mono ?_; rintro e w4 ⟨rfl, q4⟩; clear dd q3; have dd := q4.deed; have cs := q4.deed.cells; dsimp only at cs; clear c0 c1 c2 c3 c4 c5 c6 c7 c32 c33; obtain ⟨c0, c1, c2, c3, c4, c5, c6, c7, c32, c33⟩ := cs)
    | (go_at_call 34; refine (q4.uses 5 4 .mark false (by rw [hm]; decide +kernel)).mono ?_; rintro e w5 ⟨rfl, q5⟩; clear dd q4; have dd := q5.deed; have cs := q5.deed.cells; dsimp only at cs; clear c0 c1 c2 c3 c4 c5 c6 c7 c32 c33; obtain ⟨c0, c1, c2, c3, c4, c5, c6, c7, c32, c33⟩ := cs)
    | (go_at_call 34; refine (q5.uses 6 8 .what true (by rw [hm]; decide +kernel)).mono ?_; rintro e w6 ⟨rfl, q6⟩; clear dd q5; have dd := q6.deed; have cs := q6.deed.cells; dsimp only at cs; clear c0 c1 c2 c3 c4 c5 c6 c7 c32 c33; obtain ⟨c0, c1, c2, c3, c4, c5, c6, c7, c32, c33⟩ := cs)
    | (go_at_call 57; refine (q6.num 2 2 rfl (by omega) (by simp only [List.length_append, List.length_nil]; omega)).mono ?_; rintro e w7 ⟨v7, rfl, q7⟩; clear dd q6; have dd := q7.deed; have cs := q7.deed.cells; dsimp only at cs; clear c0 c1 c2 c3 c4 c5 c6 c7 c32 c33; obtain ⟨c0, c1, c2, c3, c4, c5, c6, c7, c32, c33⟩ := cs)
    | (go_at_call 34; refine (q7.uses 7 16 .params false (by rw [hm]; decide +kernel)).mono ?_; rintro e w8 ⟨rfl, q8⟩; clear dd q7; have dd := q8.deed; have cs := q8.deed.cells; dsimp only at cs; clear c0 c1 c2 c3 c4 c5 c6 c7 c32 c33; obtain ⟨c0, c1, c2, c3, c4, c5, c6, c7, c32, c33⟩ := cs)
    | (go_at_call 34; refine (q8.uses 3 32 .dest true (by rw [hm]; decide +kernel)).mono ?_; rintro e w9 ⟨rfl, q9⟩; clear dd q8; have dd := q9.deed; have cs := q9.deed.cells; dsimp only at cs; clear c0 c1 c2 c3 c4 c5 c6 c7 c32 c33; obtain ⟨c0, c1, c2, c3, c4, c5, c6, c7, c32, c33⟩ := cs)
    | (go_at_call 57; refine (q9.num t (t : Int) rfl (by omega) (by simp only [List.length_append, List.length_nil]; omega)).mono ?_; rintro e w10 ⟨v10, rfl, q10⟩; clear dd q9; have dd := q10.deed; have cs := q10.deed.cells; dsimp only at cs; clear c0 c1 c2 c3 c4 c5 c6 c7 c32 c33; obtain ⟨c0, c1, c2, c3, c4, c5, c6, c7, c32, c33⟩ := cs)
    | (go_at_call 34; refine (q10.uses 4 64 .amount true (by rw [hm]; decide +kernel)).mono ?_; rintro e w11 ⟨rfl, q11⟩; clear dd q10; have dd := q11.deed; have cs := q11.deed.cells; dsimp only at cs; clear c0 c1 c2 c3 c4 c5 c6 c7 c32 c33; obtain ⟨c0, c1, c2, c3, c4, c5, c6, c7, c32, c33⟩ := cs)
    | (go_at_call 36; refine (refform_is m _ (by omega)).mono ?_; rintro e w12 ⟨z12, rfl, o12, hb12⟩; have q12 := q11.next hb12; clear dd q11; have dd := q12.deed)
    | (refine FormAt.app _ _ q12 rfl rfl _ _ (form m) _ rfl o12 (form_pos m) (by simp only [List.length_append, List.length_nil]; omega) rfl rfl ?_; intro v13 w13 q13; clear dd o12; have dd := q13.deed; have cs := q13.deed.cells; dsimp only at cs; clear c0 c1 c2 c3 c4 c5 c6 c7 c32 c33; obtain ⟨c0, c1, c2, c3, c4, c5, c6, c7, c32, c33⟩ := cs)
    | (go_at_call 34; refine (q13.uses 8 128 .vote false (by rw [hm]; decide +kernel)).mono ?_; rintro e w14 ⟨rfl, q14⟩; clear dd q13; have dd := q14.deed; have cs := q14.deed.cells; dsimp only at cs; clear c0 c1 c2 c3 c4 c5 c6 c7 c32 c33; obtain ⟨c0, c1, c2, c3, c4, c5, c6, c7, c32, c33⟩ := cs))
  exact bodyPost_ret (v := v13) (by simp [results, Try.results37, go_sem]) rfl ⟨_, _, rfl, q14, by show _ = _; unfold Dd.bytes; rw [parts_spend]; simp [List.flatten]⟩

set_option maxRecDepth 100000 in
set_option maxHeartbeats 4000000 in
theorem rform_other (a k : Nat) (h0 : a ≤ 63) (k3 : 3 ≤ k) (k4 : k ≤ 4) (A : Option Addr) (c : Nat) (w : World) (hx : Lies w (· < w.heap.size) A (Dd.bits ⟨6, a, 0, 0, 0, 0, [], k, Par.none, 0, false⟩)) :
    Calls Try.prog 37 #[.agg (Dd.vals ⟨6, a, 0, 0, 0, 0, [], k, Par.none, 0, false⟩ A c)] w fun e w' => ∃ v pre, e = .returned v ∧ FormAt w w.heap.size ⟨6, a, 0, 0, 0, 0, [], k, Par.none, 0, false⟩ A c pre v w' ∧ Hid (pre = Dd.bytes ⟨6, a, 0, 0, 0, 0, [], k, Par.none, 0, false⟩) := by
  have q0 := FormAt.start w ⟨6, a, 0, 0, 0, 0, [], k, Par.none, 0, false⟩ A c hx
  have dd := q0.deed
  have cs := q0.deed.cells
  dsimp only at cs
  obtain ⟨c0, c1, c2, c3, c4, c5, c6, c7, c32, c33⟩ := cs
  have hm : Dd.mask ⟨6, a, 0, 0, 0, 0, [], k, Par.none, 0, false⟩ = 9 := by
    have e1 : ¬ (k : Int) = 1 := by omega
    have e2 : ¬ (k : Int) = 2 := by omega
    simp [Dd.mask, e1, e2]
  have l6 := form_word (n := 6) (by omega)
  have la := form_word (n := a) (by omega)
  have lk := form_word (n := k) (by omega)
  clear hx
  go_enter Try.func37, Try.ntmps37
  go_wp2_with (first
    | (refine load_rdeed _ rfl rfl _ _ A c _ rfl (by assumption) ?_)
    | (refine load_rpars _ rfl rfl _ _ A c _ rfl (by assumption) ?_)
    | (go_at_call 57; refine (q0.num 6 6 rfl (by omega) (by simp only [List.length_append, List.length_nil]; omega)).mono ?_; rintro e w1 ⟨v1, rfl, q1⟩; clear dd q0; have dd := q1.deed; have cs := q1.deed.cells; dsimp only at cs; clear c0 c1 c2 c3 c4 c5 c6 c7 c32 c33; obtain ⟨c0, c1, c2, c3, c4, c5, c6, c7, c32, c33⟩ := cs)
    | (go_at_call 34; refine (q1.uses 1 1 .account true (by rw [hm]; decide +kernel)).mono ?_; rintro e w2 ⟨rfl, q2⟩; clear dd q1; have dd := q2.deed; have cs := q2.deed.cells; dsimp only at cs; clear c0 c1 c2 c3 c4 c5 c6 c7 c32 c33; obtain ⟨c0, c1, c2, c3, c4, c5, c6, c7, c32, c33⟩ := cs)
    | (go_at_call 57; refine (q2.num a (a : Int) rfl (by omega) (by simp only [List.length_append, List.length_nil]; omega)).mono ?_; rintro e w3 ⟨v3, rfl, q3⟩; clear dd q2; have dd := q3.deed; have cs := q3.deed.cells; dsimp only at cs; clear c0 c1 c2 c3 c4 c5 c6 c7 c32 c33; obtain ⟨c0, c1, c2, c3, c4, c5, c6, c7, c32, c33⟩ := cs)
    | (go_at_call 34; refine (q3.uses 2 2 .member false (by rw [hm]; decide +kernel)).mono ?_; rintro e w4 ⟨rfl, q4⟩; clear dd q3; have dd := q4.deed; have cs := q4.deed.cells; dsimp only at cs; clear c0 c1 c2 c3 c4 c5 c6 c7 c32 c33; obtain ⟨c0, c1, c2, c3, c4, c5, c6, c7, c32, c33⟩ := cs)
    | (go_at_call 34; refine (q4.uses 5 4 .mark false (by rw [hm]; decide +kernel)).mono ?_; rintro e w5 ⟨rfl, q5⟩; clear dd q4; have dd := q5.deed; have cs := q5.deed.cells; dsimp only at cs; clear c0 c1 c2 c3 c4 c5 c6 c7 c32 c33; obtain ⟨c0, c1, c2, c3, c4, c5, c6, c7, c32, c33⟩ := cs)
    | (go_at_call 34; refine (q5.uses 6 8 .what true (by rw [hm]; decide +kernel)).mono ?_; rintro e w6 ⟨rfl, q6⟩; clear dd q5; have dd := q6.deed; have cs := q6.deed.cells; dsimp only at cs; clear c0 c1 c2 c3 c4 c5 c6 c7 c32 c33; obtain ⟨c0, c1, c2, c3, c4, c5, c6, c7, c32, c33⟩ := cs)
    | (go_at_call 57; refine (q6.num k (k : Int) rfl (by omega) (by simp only [List.length_append, List.length_nil]; omega)).mono ?_; rintro e w7 ⟨v7, rfl, q7⟩; clear dd q6; have dd := q7.deed; have cs := q7.deed.cells; dsimp only at cs; clear c0 c1 c2 c3 c4 c5 c6 c7 c32 c33; obtain ⟨c0, c1, c2, c3, c4, c5, c6, c7, c32, c33⟩ := cs)
    | (go_at_call 34; refine (q7.uses 7 16 .params false (by rw [hm]; decide +kernel)).mono ?_; rintro e w8 ⟨rfl, q8⟩; clear dd q7; have dd := q8.deed; have cs := q8.deed.cells; dsimp only at cs; clear c0 c1 c2 c3 c4 c5 c6 c7 c32 c33; obtain ⟨c0, c1, c2, c3, c4, c5, c6, c7, c32, c33⟩ := cs)
    | (go_at_call 34; refine (q8.uses 3 32 .dest false (by rw [hm]; decide +kernel)).mono ?_; rintro e w9 ⟨rfl, q9⟩; clear dd q8; have dd := q9.deed; have cs := q9.deed.cells; dsimp only at cs; clear c0 c1 c2 c3 c4 c5 c6 c7 c32 c33; obtain ⟨c0, c1, c2, c3, c4, c5, c6, c7, c32, c33⟩ := cs)
    | (go_at_call 34; refine (q9.uses 4 64 .amount false (by rw [hm]; decide +kernel)).mono ?_; rintro e w10 ⟨rfl, q10⟩; clear dd q9; have dd := q10.deed; have cs := q10.deed.cells; dsimp only at cs; clear c0 c1 c2 c3 c4 c5 c6 c7 c32 c33; obtain ⟨c0, c1, c2, c3, c4, c5, c6, c7, c32, c33⟩ := cs)
    | (go_at_call 34; refine (q10.uses 8 128 .vote false (by rw [hm]; decide +kernel)).mono ?_; rintro e w11 ⟨rfl, q11⟩; clear dd q10; have dd := q11.deed; have cs := q11.deed.cells; dsimp only at cs; clear c0 c1 c2 c3 c4 c5 c6 c7 c32 c33; obtain ⟨c0, c1, c2, c3, c4, c5, c6, c7, c32, c33⟩ := cs))
  exact bodyPost_ret (v := v7) (by simp [results, Try.results37, go_sem]) rfl ⟨_, _, rfl, q11, by show _ = _; unfold Dd.bytes; rw [parts_other _ _ (by omega) (by omega)]; simp [List.flatten]⟩

set_option maxRecDepth 100000 in
set_option maxHeartbeats 4000000 in
theorem rform_vote (a b n : Nat) (y : Bool) (h0 : a ≤ 63) (h1 : b ≤ 127) (h3 : n ≤ 31) (A : Option Addr) (c : Nat) (w : World) (hx : Lies w (· < w.heap.size) A (Dd.bits ⟨7, a, b, 0, 0, 0, [], 0, Par.none, n, y⟩)) :
    Calls Try.prog 37 #[.agg (Dd.vals ⟨7, a, b, 0, 0, 0, [], 0, Par.none, n, y⟩ A c)] w fun e w' => ∃ v pre, e = .returned v ∧ FormAt w w.heap.size ⟨7, a, b, 0, 0, 0, [], 0, Par.none, n, y⟩ A c pre v w' ∧ Hid (pre = Dd.bytes ⟨7, a, b, 0, 0, 0, [], 0, Par.none, n, y⟩) := by
  have q0 := FormAt.start w ⟨7, a, b, 0, 0, 0, [], 0, Par.none, n, y⟩ A c hx
  have dd := q0.deed
  have cs := q0.deed.cells
  dsimp only at cs
  obtain ⟨c0, c1, c2, c3, c4, c5, c6, c7, c32, c33⟩ := cs
  have hm : Dd.mask ⟨7, a, b, 0, 0, 0, [], 0, Par.none, n, y⟩ = 131 := rfl
  have l7 := form_word (n := 7) (by omega)
  have la := form_word (n := a) (by omega)
  have lb := form_word (n := b) (by omega)
  have ln := form_word (n := n) (by omega)
  have lY0 := form_word (n := 0) (by omega)
  have lY1 := form_word (n := 1) (by omega)
  clear hx
  cases y with
  | false =>
    go_enter Try.func37, Try.ntmps37
    go_wp2_with (first
      | (refine load_rdeed _ rfl rfl _ _ A c _ rfl (by assumption) ?_)
      | (refine load_rpars _ rfl rfl _ _ A c _ rfl (by assumption) ?_)
      | (go_at_call 57; refine (q0.num 7 7 rfl (by omega) (by simp only [List.length_append, List.length_nil]; omega)).mono ?_; rintro e w1 ⟨v1, rfl, q1⟩; clear dd q0; have dd := q1.deed; have cs := q1.deed.cells; dsimp only at cs; clear c0 c1 c2 c3 c4 c5 c6 c7 c32 c33; obtain ⟨c0, c1, c2, c3, c4, c5, c6, c7, c32, c33⟩ := cs)
      | (go_at_call 34; refine (q1.uses 1 1 .account true (by rw [hm]; decide +kernel)).mono ?_; rintro e w2 ⟨rfl, q2⟩; clear dd q1; have dd := q2.deed; have cs := q2.deed.cells; dsimp only at cs; clear c0 c1 c2 c3 c4 c5 c6 c7 c32 c33; obtain ⟨c0, c1, c2, c3, c4, c5, c6, c7, c32, c33⟩ := cs)
      | (go_at_call 57; refine (q2.num a (a : Int) rfl (by omega) (by simp only [List.length_append, List.length_nil]; omega)).mono ?_; rintro e w3 ⟨v3, rfl, q3⟩; clear dd q2; have dd := q3.deed; have cs := q3.deed.cells; dsimp only at cs; clear c0 c1 c2 c3 c4 c5 c6 c7 c32 c33; obtain ⟨c0, c1, c2, c3, c4, c5, c6, c7, c32, c33⟩ := cs)
      | (go_at_call 34; refine (q3.uses 2 2 .member true (by rw [hm]; decide +kernel)).mono ?_; rintro e w4 ⟨rfl, q4⟩; clear dd q3; have dd := q4.deed; have cs := q4.deed.cells; dsimp only at cs; clear c0 c1 c2 c3 c4 c5 c6 c7 c32 c33; obtain ⟨c0, c1, c2, c3, c4, c5, c6, c7, c32, c33⟩ := cs)
      | (go_at_call 57; refine (q4.num b (b : Int) rfl (by omega) (by simp only [List.length_append, List.length_nil]; omega)).mono ?_; rintro e w5 ⟨v5, rfl, q5⟩; clear dd q4; have dd := q5.deed; have cs := q5.deed.cells; dsimp only at cs; clear c0 c1 c2 c3 c4 c5 c6 c7 c32 c33; obtain ⟨c0, c1, c2, c3, c4, c5, c6, c7, c32, c33⟩ := cs)
      | (go_at_call 34; refine (q5.uses 5 4 .mark false (by rw [hm]; decide +kernel)).mono ?_; rintro e w6 ⟨rfl, q6⟩; clear dd q5; have dd := q6.deed; have cs := q6.deed.cells; dsimp only at cs; clear c0 c1 c2 c3 c4 c5 c6 c7 c32 c33; obtain ⟨c0, c1, c2, c3, c4, c5, c6, c7, c32, c33⟩ := cs)
      | (go_at_call 34; refine (q6.uses 6 8 .what false (by rw [hm]; decide +kernel)).mono ?_; rintro e w7 ⟨rfl, q7⟩; clear dd q6; have dd := q7.deed; have cs := q7.deed.cells; dsimp only at cs; clear c0 c1 c2 c3 c4 c5 c6 c7 c32 c33; obtain ⟨c0, c1, c2, c3, c4, c5, c6, c7, c32, c33⟩ := cs)
      | (go_at_call 34; refine (q7.uses 7 16 .params false (by rw [hm]; decide +kernel)).mono ?_; rintro e w8 ⟨rfl, q8⟩; clear dd q7; have dd := q8.deed; have cs := q8.deed.cells; dsimp only at cs; clear c0 c1 c2 c3 c4 c5 c6 c7 c32 c33; obtain ⟨c0, c1, c2, c3, c4, c5, c6, c7, c32, c33⟩ := cs)
      | (go_at_call 34; refine (q8.uses 3 32 .dest false (by rw [hm]; decide +kernel)).mono ?_; rintro e w9 ⟨rfl, q9⟩; clear dd q8; have dd := q9.deed; have cs := q9.deed.cells; dsimp only at cs; clear c0 c1 c2 c3 c4 c5 c6 c7 c32 c33; obtain ⟨c0, c1, c2, c3, c4, c5, c6, c7, c32, c33⟩ := cs)
      | (go_at_call 34; refine (q9.uses 4 64 .amount false (by rw [hm]; decide +kernel)).mono ?_; rintro e w10 ⟨rfl, q10⟩; clear dd q9; have dd := q10.deed; have cs := q10.deed.cells; dsimp only at cs; clear c0 c1 c2 c3 c4 c5 c6 c7 c32 c33; obtain ⟨c0, c1, c2, c3, c4, c5, c6, c7, c32, c33⟩ := cs)
      | (go_at_call 34; refine (q10.uses 8 128 .vote true (by rw [hm]; decide +kernel)).mono ?_; rintro e w11 ⟨rfl, q11⟩; clear dd q10; have dd := q11.deed; have cs := q11.deed.cells; dsimp only at cs; clear c0 c1 c2 c3 c4 c5 c6 c7 c32 c33; obtain ⟨c0, c1, c2, c3, c4, c5, c6, c7, c32, c33⟩ := cs)
      | (go_at_call 57; refine (q11.num n (n : Int) rfl (by omega) (by simp only [List.length_append, List.length_nil]; omega)).mono ?_; rintro e w12 ⟨v12, rfl, q12⟩; clear dd q11; have dd := q12.deed; have cs := q12.deed.cells; dsimp only at cs; clear c0 c1 c2 c3 c4 c5 c6 c7 c32 c33; obtain ⟨c0, c1, c2, c3, c4, c5, c6, c7, c32, c33⟩ := cs)
      | (go_at_call 57; refine (q12.num 0 0 rfl (by omega) (by simp only [List.length_append, List.length_nil]; omega)).mono ?_; rintro e w13 ⟨v13, rfl, q13⟩; clear dd q12; have dd := q13.deed; have cs := q13.deed.cells; dsimp only at cs; clear c0 c1 c2 c3 c4 c5 c6 c7 c32 c33; obtain ⟨c0, c1, c2, c3, c4, c5, c6, c7, c32, c33⟩ := cs))
    exact bodyPost_ret (v := v13) (by simp [results, Try.results37, go_sem]) rfl ⟨_, _, rfl, q13, by show _ = _; unfold Dd.bytes; rw [parts_vote]; simp [List.flatten]⟩
  | true =>
    go_enter Try.func37, Try.ntmps37
    go_wp2_with (first
      | (refine load_rdeed _ rfl rfl _ _ A c _ rfl (by assumption) ?_)
      | (refine load_rpars _ rfl rfl _ _ A c _ rfl (by assumption) ?_)
      | (go_at_call 57; refine (q0.num 7 7 rfl (by omega) (by simp only [List.length_append, List.length_nil]; omega)).mono ?_; rintro e w1 ⟨v1, rfl, q1⟩; clear dd q0; have dd := q1.deed; have cs := q1.deed.cells; dsimp only at cs; clear c0 c1 c2 c3 c4 c5 c6 c7 c32 c33; obtain ⟨c0, c1, c2, c3, c4, c5, c6, c7, c32, c33⟩ := cs)
      | (go_at_call 34; refine (q1.uses 1 1 .account true (by rw [hm]; decide +kernel)).mono ?_; rintro e w2 ⟨rfl, q2⟩; clear dd q1; have dd := q2.deed; have cs := q2.deed.cells; dsimp only at cs; clear c0 c1 c2 c3 c4 c5 c6 c7 c32 c33; obtain ⟨c0, c1, c2, c3, c4, c5, c6, c7, c32, c33⟩ := cs)
      | (go_at_call 57; refine (q2.num a (a : Int) rfl (by omega) (by simp only [List.length_append, List.length_nil]; omega)).mono ?_; rintro e w3 ⟨v3, rfl, q3⟩; clear dd q2; have dd := q3.deed; have cs := q3.deed.cells; dsimp only at cs; clear c0 c1 c2 c3 c4 c5 c6 c7 c32 c33; obtain ⟨c0, c1, c2, c3, c4, c5, c6, c7, c32, c33⟩ := cs)
      | (go_at_call 34; refine (q3.uses 2 2 .member true (by rw [hm]; decide +kernel)).mono ?_; rintro e w4 ⟨rfl, q4⟩; clear dd q3; have dd := q4.deed; have cs := q4.deed.cells; dsimp only at cs; clear c0 c1 c2 c3 c4 c5 c6 c7 c32 c33; obtain ⟨c0, c1, c2, c3, c4, c5, c6, c7, c32, c33⟩ := cs)
      | (go_at_call 57; refine (q4.num b (b : Int) rfl (by omega) (by simp only [List.length_append, List.length_nil]; omega)).mono ?_; rintro e w5 ⟨v5, rfl, q5⟩; clear dd q4; have dd := q5.deed; have cs := q5.deed.cells; dsimp only at cs; clear c0 c1 c2 c3 c4 c5 c6 c7 c32 c33; obtain ⟨c0, c1, c2, c3, c4, c5, c6, c7, c32, c33⟩ := cs)
      | (go_at_call 34; refine (q5.uses 5 4 .mark false (by rw [hm]; decide +kernel)).mono ?_; rintro e w6 ⟨rfl, q6⟩; clear dd q5; have dd := q6.deed; have cs := q6.deed.cells; dsimp only at cs; clear c0 c1 c2 c3 c4 c5 c6 c7 c32 c33; obtain ⟨c0, c1, c2, c3, c4, c5, c6, c7, c32, c33⟩ := cs)
      | (go_at_call 34; refine (q6.uses 6 8 .what false (by rw [hm]; decide +kernel)).mono ?_; rintro e w7 ⟨rfl, q7⟩; clear dd q6; have dd := q7.deed; have cs := q7.deed.cells; dsimp only at cs; clear c0 c1 c2 c3 c4 c5 c6 c7 c32 c33; obtain ⟨c0, c1, c2, c3, c4, c5, c6, c7, c32, c33⟩ := cs)
      | (go_at_call 34; refine (q7.uses 7 16 .params false (by rw [hm]; decide +kernel)).mono ?_; rintro e w8 ⟨rfl, q8⟩; clear dd q7; have dd := q8.deed; have cs := q8.deed.cells; dsimp only at cs; clear c0 c1 c2 c3 c4 c5 c6 c7 c32 c33; obtain ⟨c0, c1, c2, c3, c4, c5, c6, c7, c32, c33⟩ := cs)
      | (go_at_call 34; refine (q8.uses 3 32 .dest false (by rw [hm]; decide +kernel)).mono ?_; rintro e w9 ⟨rfl, q9⟩; clear dd q8; have dd := q9.deed; have cs := q9.deed.cells; dsimp only at cs; clear c0 c1 c2 c3 c4 c5 c6 c7 c32 c33; obtain ⟨c0, c1, c2, c3, c4, c5, c6, c7, c32, c33⟩ := cs)
      | (go_at_call 34; refine (q9.uses 4 64 .amount false (by rw [hm]; decide +kernel)).mono ?_; rintro e w10 ⟨rfl, q10⟩; clear dd q9; have dd := q10.deed; have cs := q10.deed.cells; dsimp only at cs; clear c0 c1 c2 c3 c4 c5 c6 c7 c32 c33; obtain ⟨c0, c1, c2, c3, c4, c5, c6, c7, c32, c33⟩ := cs)
      | (go_at_call 34; refine (q10.uses 8 128 .vote true (by rw [hm]; decide +kernel)).mono ?_; rintro e w11 ⟨rfl, q11⟩; clear dd q10; have dd := q11.deed; have cs := q11.deed.cells; dsimp only at cs; clear c0 c1 c2 c3 c4 c5 c6 c7 c32 c33; obtain ⟨c0, c1, c2, c3, c4, c5, c6, c7, c32, c33⟩ := cs)
      | (go_at_call 57; refine (q11.num n (n : Int) rfl (by omega) (by simp only [List.length_append, List.length_nil]; omega)).mono ?_; rintro e w12 ⟨v12, rfl, q12⟩; clear dd q11; have dd := q12.deed; have cs := q12.deed.cells; dsimp only at cs; clear c0 c1 c2 c3 c4 c5 c6 c7 c32 c33; obtain ⟨c0, c1, c2, c3, c4, c5, c6, c7, c32, c33⟩ := cs)
      | (go_at_call 57; refine (q12.num 1 1 rfl (by omega) (by simp only [List.length_append, List.length_nil]; omega)).mono ?_; rintro e w13 ⟨v13, rfl, q13⟩; clear dd q12; have dd := q13.deed; have cs := q13.deed.cells; dsimp only at cs; clear c0 c1 c2 c3 c4 c5 c6 c7 c32 c33; obtain ⟨c0, c1, c2, c3, c4, c5, c6, c7, c32, c33⟩ := cs))
    exact bodyPost_ret (v := v13) (by simp [results, Try.results37, go_sem]) rfl ⟨_, _, rfl, q13, by show _ = _; unfold Dd.bytes; rw [parts_vote]; simp [List.flatten]⟩

/-- The bytes of a deed that is right. -/
theorem rform_is (d : Dd) (A : Option Addr) (c : Nat) (w : World) (h : d.Right) (hx : Lies w (· < w.heap.size) A d.bits) (hA : A = none → c = 0) :
    Calls Try.prog 37 #[.agg (d.vals A c)] w fun e w' => ∃ v, e = .returned v ∧ w'.ownsRow w.heap.size 5 1 v d.bytes.length (u8s d.bytes) ∧ Below w.heap.size w w' := by
  have key : Calls Try.prog 37 #[.agg (d.vals A c)] w fun e w' => ∃ v pre, e = .returned v ∧ FormAt w w.heap.size d A c pre v w' ∧ Hid (pre = d.bytes) := by
    cases h with
    | send a t m h0 h1 h2 h3 => exact rform_send a t m h0 h1 h3 A c w hx
    | stake a m h0 h2 h3 => exact rform_stake a m h0 h3 A c w hx
    | top a b m h0 h1 h2 h3 => exact rform_top a b m h0 h1 h3 A c w hx
    | leave a b h0 h1 => exact rform_leave a b h0 h1 A c w hx
    | mark ep xs h0 h1 h2 => exact rform_mark ep xs h0 h1 A c w hx hA
    | params a p T h0 h1 h2 => exact rform_params a p T h0 h1 A c w hx
    | spend a t m h0 h1 h2 h3 => exact rform_spend a t m h0 h1 h3 A c w hx
    | other a k h0 h1 h2 => exact rform_other a k h0 h1 h2 A c w hx
    | vote a b n y h0 h1 h2 => exact rform_vote a b n y h0 h1 h2 A c w hx
  refine key.mono ?_
  rintro e w' ⟨v, pre, rfl, hq, hp⟩
  have ho := hq.own
  rw [hp.out] at ho
  exact ⟨v, rfl, ⟨ho.1, ho.2.imp id fun ⟨g, cap, cur, h1, h2, h3⟩ => ⟨g, cap, cur, h1, Nat.le_of_succ_le h2, h3⟩⟩, hq.below⟩
end Go.Proofs.Ytokaclacejhppaa
