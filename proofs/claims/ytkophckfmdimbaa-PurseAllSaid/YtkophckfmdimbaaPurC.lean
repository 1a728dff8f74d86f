/- Layer 17 (purse): a list of words and a way that come in with a law's arguments; the chapter's examples. -/
import Derived.Test.YtkophckfmdimbaaPurB
import Derived.Test.YtkophckfmdimbaaLaw
import Derived.Lib.SmallJoins
namespace Go.Proofs.Ytkophckfmdimbaa
open Go.ChangeShapes Go.WideShapes Go.ChangeAt Go.RowKit Go.Deep
set_option linter.unusedVariables false
set_option linter.unusedSimpArgs false

/-- In block b lie two whole numbers and a word. -/
def WayAt (w : World) (b : Nat) (f t : Int) (n : Nat) (T : TypeId) : Prop := w.heap[b]? = some (.cells #[.int .i64 f, .int .i64 t, .int .u64 (n : Int)] T (0, 0))
theorem WayAt.lt {w : World} {b n : Nat} {f t : Int} {T : TypeId} (h : WayAt w b f t n T) : b < w.heap.size := (Array.getElem?_eq_some_iff.1 h).1
theorem WayAt.up {w w' : World} {b n : Nat} {f t : Int} {T : TypeId} (h : WayAt w b f t n T) (hb : Below w.heap.size w w') : WayAt w' b f t n T := by
  unfold WayAt; rw [hb.block b h.lt]; exact h
theorem WayAt.new (w : World) (f t : Int) (n : Nat) (T : TypeId) : WayAt (w.alloc (.cells #[.int .i64 f, .int .i64 t, .int .u64 (n : Int)] T)) w.heap.size f t n T := heap_alloc_new w _
theorem WayAt.c0 {w : World} {b n : Nat} {f t : Int} {T : TypeId} (h : WayAt w b f t n T) : w.cell? ⟨b, 0, none⟩ = some (.int .i64 f) := cell_of_row w b 0 _ _ _ h
theorem WayAt.c1 {w : World} {b n : Nat} {f t : Int} {T : TypeId} (h : WayAt w b f t n T) : w.cell? ⟨b, 1, none⟩ = some (.int .i64 t) := cell_of_row w b 1 _ _ _ h
theorem WayAt.c2 {w : World} {b n : Nat} {f t : Int} {T : TypeId} (h : WayAt w b f t n T) : w.cell? ⟨b, 2, none⟩ = some (.int .u64 (n : Int)) := cell_of_row w b 2 _ _ _ h

section
variable {H : Type} {enc : TypeId × Value → H} {w : World} {base : Nat} {held : Bool}
/-- A list of words that comes in: as open_u64s, and what is none has no room. -/
theorem open_words {P : Program} {t e : TypeId} {A : Option Addr} {n c : Nat} {d : DataW H} {p : List MemPlace} (ht : P.underlying t = some (.slice e)) (he : P.underlying e = some (.int .u64)) (hC : P.cellsOf e = 1)
    (h : DataW.Trod enc P w base (fun _ => true) held t (.slice A n c) d p) :
    ∃ ns : List Nat, n = ns.length ∧ (∀ x ∈ ns, x ≤ 18446744073709551615) ∧ ns.length ≤ c ∧ c ≤ maxLen ∧ (A = none → c = 0) ∧ Row w w.heap.size A (u64s ns) := by
  obtain ⟨ns, h1, h2, h3, h4, h5⟩ := open_u64s ht he hC h
  refine ⟨ns, h1, h2, h3, h4, fun e => ?_, h5⟩
  subst e
  obtain ⟨fuel, hf⟩ := h
  rcases open_ints ht he hC hf with ⟨hcs, hx⟩ | ⟨a, len, cap, zs, hcs, _⟩
  · simp [Value.cells] at hcs
    exact hcs.2
  · simp [Value.cells] at hcs
set_option maxRecDepth 100000 in
theorem open_way {r : Reach} {b0 : Nat} {v : Value} {d : DataW H} {pl : List MemPlace}
    (hv : Value.okWide Try.prog w r b0 25 v) (h : DataW.Trod enc Try.prog w base (fun _ => true) held 25 v d pl) :
    ∃ (f t : Int) (n : Nat), v = .agg #[.int .i64 f, .int .i64 t, .int .u64 (n : Int)] ∧ n ≤ 18446744073709551615 := by
  obtain ⟨x0, x1, x2, y0, y1, y2, m, rfl, rfl, rfl, h0, h1, h2⟩ := Joins.open_agg3 Try.underlying25 (by kernel_rfl) (by kernel_rfl) hv h
  obtain ⟨a0, e0, rfl, u0⟩ := DataW.trod_int Try.underlying3 h0
  obtain ⟨a1, e1, rfl, u1⟩ := DataW.trod_int Try.underlying3 h1
  obtain ⟨a2, e2, rfl, u2⟩ := DataW.trod_int Try.underlying23 h2
  simp only [List.cons.injEq, and_true] at e0 e1 e2
  have b2 := u64_fits u2
  exact ⟨a0, a1, a2.toNat, by rw [Int.toNat_of_nonneg b2.1, e0, e1, e2], by omega⟩
end

theorem move_ex (A : Option Addr) (c : Nat) (w : World) (hr : Row w w.heap.size A (u64s [5, 3])) :
    Calls Try.prog 10 #[.slice A 2 c, .int .i64 0, .int .i64 1, .int .u64 4] w fun e w' => ∃ A c, e = .returned (.tuple #[.slice A 2 c, .int .i64 0]) ∧ Row w' w'.heap.size A (u64s [1, 7]) ∧ Below w.heap.size w w' := by
  have e : pmoved [5, 3] 0 1 4 = ([1, 7], 0) := by
    have h0 : pdrawn [5, 3] ((0 : Nat) : Int) 4 = ([1, 3], 0) := pdrawn_ok (k := 0) (by decide) (by decide)
    have h1 : ppaid [1, 3] ((1 : Nat) : Int) 4 = ([1, 7], 0) := ppaid_ok (k := 1) (by decide) (by decide)
    have h2 : ¬ NoPurse [5, 3] 1 := purse_is (k := 1) (by decide)
    have h3 : (pdrawn [5, 3] 0 4) = ([1, 3], 0) := h0
    rw [pmoved_paid h2 (by rw [h3]), h3]
    exact h1
  have k := pmove_is [5, 3] 0 1 4 A c w hr (by decide) (by decide) (by decide)
  rw [e] at k
  refine k.mono ?_
  rintro e w' ⟨A', c', rfl, h1, h2, h3, h4, h5⟩
  exact ⟨A', c', rfl, h4, h5⟩
theorem move_ex2 (A : Option Addr) (c : Nat) (w : World) (hr : Row w w.heap.size A (u64s [5, 3])) :
    Calls Try.prog 10 #[.slice A 2 c, .int .i64 0, .int .i64 1, .int .u64 6] w fun e w' => ∃ A c, e = .returned (.tuple #[.slice A 0 c, .int .i64 171]) ∧ Below w.heap.size w w' := by
  have e : pmoved [5, 3] 0 1 6 = ([], 171) := by
    have h0 : pdrawn [5, 3] ((0 : Nat) : Int) 6 = ([], 171) := pdrawn_less (k := 0) (by decide) (by decide)
    have h2 : ¬ NoPurse [5, 3] 1 := purse_is (k := 1) (by decide)
    have h3 : (pdrawn [5, 3] 0 6) = ([], 171) := h0
    rw [pmoved_not h2 (by rw [h3]; decide), h3]
  have k := pmove_is [5, 3] 0 1 6 A c w hr (by decide) (by decide) (by decide)
  rw [e] at k
  refine k.mono ?_
  rintro e w' ⟨A', c', rfl, h1, h2, h3, h4, h5⟩
  exact ⟨A', c', rfl, h5⟩

set_option maxRecDepth 100000 in
set_option maxHeartbeats 1000000 in
theorem purse_awake (w : World) : Calls Try.prog 6 #[] w fun e w' => e = .returned (.bool true) ∧ Below w.heap.size w w' := by
  have k1 : ∀ w1 W : World, W = w1.alloc (.cells #[.int .u64 5, .int .u64 3] 23) → Calls Try.prog 10 #[.slice (some ⟨w1.heap.size, 0, none⟩) 2 2, .int .i64 0, .int .i64 1, .int .u64 4] W fun e w' =>
      ∃ A' c', e = .returned (.tuple #[.slice A' 2 c', .int .i64 0]) ∧ Row w' w'.heap.size A' (u64s [1, 7]) ∧ Below w1.heap.size w1 w' := by
    rintro w1 W rfl
    refine (move_ex _ 2 _ ((row_new w1 [5, 3] _).up (by simp))).mono ?_
    rintro e w' ⟨A', c', h1, h2, h3⟩
    exact ⟨A', c', h1, h2, ((Below.refl _ _).alloc (Nat.le_refl _) _).trans (h3.mono (by simp))⟩
  have k2 : ∀ w1 W : World, W = w1.alloc (.cells #[.int .u64 5, .int .u64 3] 23) → Calls Try.prog 10 #[.slice (some ⟨w1.heap.size, 0, none⟩) 2 2, .int .i64 0, .int .i64 1, .int .u64 6] W fun e w' =>
      ∃ A' c', e = .returned (.tuple #[.slice A' 0 c', .int .i64 171]) ∧ Below w1.heap.size w1 w' := by
    rintro w1 W rfl
    refine (move_ex2 _ 2 _ ((row_new w1 [5, 3] _).up (by simp))).mono ?_
    rintro e w' ⟨A', c', h1, h3⟩
    exact ⟨A', c', h1, ((Below.refl _ _).alloc (Nat.le_refl _) _).trans (h3.mono (by simp))⟩
  have k3 : ∀ (A : Option Addr) (c : Nat) (w1 W : World), Row w1 w1.heap.size A (u64s [1, 7]) → W = w1.alloc (.cells #[.int .u64 1, .int .u64 7] 23) → Calls Try.prog 15 #[.slice A 2 c, .slice (some ⟨w1.heap.size, 0, none⟩) 2 2] W fun e w' =>
      e = .returned (.bool true) ∧ Below w1.heap.size w1 w' := by
    rintro A c w1 W hr rfl
    refine (same_words_true [1, 7] A _ c 2 _ ((hr.alloc (Nat.le_refl _) _).up (by simp)) ((row_new w1 [1, 7] _).up (by simp)) (by decide)).mono ?_
    rintro e w' ⟨h1, h3⟩
    exact ⟨h1, ((Below.refl _ _).alloc (Nat.le_refl _) _).trans (h3.mono (by simp))⟩
  have K1 := Lib.hid k1
  have K2 := Lib.hid k2
  have K3 := Lib.hid k3
  clear k1 k2 k3
  go_enter Try.func6, Try.ntmps6
  go_wp2_with (first
    | (go_at_call 10; refine (K1.out w _ rfl).mono ?_; clear K1; rintro e w1 ⟨A1, c1, rfl, hr1, hb1⟩)
    | (go_at_call 10; refine (K2.out w1 _ rfl).mono ?_; clear K2; rintro e w2 ⟨A2, c2, rfl, hb2⟩; have hr2 := (hr1.below hb2).up hb2.size)
    | (go_at_call 15; refine (K3.out A1 c1 w2 _ hr2 rfl).mono ?_; clear K3; rintro e w3 ⟨rfl, hb3⟩))
  go_ret
  exact ⟨rfl, Below.then (Below.then hb1 hb2) hb3⟩
end Go.Proofs.Ytkophckfmdimbaa
