/- Layer 20 (roll): memory of the call's own that is written over, and what that leaves as it was; marks that stay. -/
import Derived.Test.YtbahcbnnogdmfaaRolC
namespace Go.Proofs.Ytbahcbnnogdmfaa
open Go.RowKit
set_option linter.unusedVariables false
set_option linter.unusedSimpArgs false

/-- Cells of some blocks have been written, each that was there; nothing else turned. -/
structure Wrote (T : Nat → Prop) (w w' : World) : Prop where
  os : w'.os = w.os
  tape : w'.tape = w.tape
  output : w'.output = w.output
  size : w'.heap.size = w.heap.size
  other : ∀ k, ¬ T k → w'.heap[k]? = w.heap[k]?
  cell : ∀ p : Addr, (w.cell? p).isSome = true → (w'.cell? p).isSome = true
  frozen : ∀ p : Addr, w'.frozen? p = w.frozen? p
theorem Wrote.refl (T : Nat → Prop) (w : World) : Wrote T w w := ⟨rfl, rfl, rfl, rfl, fun _ _ => rfl, fun _ h => h, fun _ => rfl⟩
theorem Wrote.set {T : Nat → Prop} {w w' : World} (h : Wrote T w w') {g : Nat} (hg : T g) (k : Nat) (v : Value) : Wrote T w (w'.setCell ⟨g, k, none⟩ v) :=
  ⟨h.os, h.tape, h.output, by simpa [World.setCell] using h.size, fun i hi => (Below.heap_setCell _ _ _ _ (fun e => hi (by rw [e]; exact hg))).trans (h.other i hi), fun p hp => by
    by_cases e : p = ⟨g, k, none⟩
    · subst e
      rw [World.cell?_setCell_same' _ _ _ (h.cell _ hp)]
      rfl
    · rw [World.cell?_setCell_other _ _ _ _ (fun h => e h.symm)]
      exact h.cell p hp, fun p => by rw [World.frozen?_setCell]; exact h.frozen p⟩
theorem Wrote.below {T : Nat → Prop} {w w' : World} {lo : Nat} (h : Wrote T w w') (hT : ∀ k, T k → lo ≤ k) : Below lo w w' :=
  ⟨h.os, h.tape, h.output, Nat.le_of_eq h.size.symm, fun k hk => h.other k fun hk' => by have := hT k hk'; omega⟩
theorem Wrote.own {T : Nat → Prop} {w w' : World} (h : Wrote T w w') {base n z : Nat} {e : TypeId} {v : Value} {xs : List Value} (ho : w.ownsRow base e z v n xs) (hT : ∀ g, v.ownBlock = some g → base ≤ g → ¬ T g) : w'.ownsRow base e z v n xs := by
  refine ⟨ho.1, ?_⟩
  rcases ho.2 with h0 | ⟨g, cap, cur, hv, hg, hh, h1⟩
  · exact .inl h0
  · refine .inr ⟨g, cap, cur, hv, hg, ?_, h1⟩
    rw [h.other g (hT g (by rw [hv]; rfl) hg)]
    exact hh
theorem Wrote.made {T : Nat → Prop} {w w' : World} (h : Wrote T w w') {hi : Nat} {v : Value} {xs : List (List Nat)} (hm : Made w hi v xs) (hT : ∀ k, T k → k < hi) : Made w' hi v xs := by
  obtain ⟨l, hl, ho, he⟩ := hm
  exact ⟨l, hl, h.own ho fun g _ hg ht => by have := hT g ht; omega, fun b hb => h.own (he b hb) fun g _ hg ht => by have := hT g ht; omega⟩
/-- A cell of a row of the call's own, in a world where some were written over. -/
theorem Wrote.at {T : Nat → Prop} {w w' : World} (h : Wrote T w w') {base n c g k : Nat} {e : TypeId} {xs : List Value} (ho : w.ownsRow base e 1 (.slice (some ⟨g, 0, none⟩) n c) n xs) (hk : k < n) :
    (∃ v, w'.cell? ⟨g, k, none⟩ = some v) ∧ w'.frozen? ⟨g, k, none⟩ = false := by
  have hl := ho.1
  have hx : k < xs.length := by omega
  have h1 := h.cell ⟨g, k, none⟩ (by rw [own_cell ho (List.getElem?_eq_getElem hx)]; rfl)
  exact ⟨Option.isSome_iff_exists.1 h1, by rw [h.frozen]; exact ho.frozenAt k⟩
/-- The k-th of a row that was not written. -/
theorem Wrote.read {T : Nat → Prop} {w w' : World} (h : Wrote T w w') {base n c k : Nat} {A : Option Addr} {l : List BV} (ho : w.ownsRow base 22 1 (.slice A n c) n (bvs l)) (hT : ∀ g, (Value.slice A n c).ownBlock = some g → ¬ T g) (hk : k < l.length) :
    ∃ a, A = some a ∧ w'.cell? (a.add k) = some (.slice (l[k]).row (l[k]).bs.length (l[k]).cap) := by
  obtain ⟨a, hA, _, hc⟩ := own_row ho k _ (bvs_get (List.getElem?_eq_getElem hk))
  refine ⟨a, hA, ?_⟩
  rw [World.cell?_of_block (w := w) (h.other _ (hT _ (by rw [addr_block, hA]; rfl)))]
  exact hc

/-- Marks in which one member is marked. -/
def Good (m : Nat) (x : List Nat) : Prop := IsMarks x ∧ bitAt x m = true ∧ ∀ y ∈ x, y < 256
theorem field_whole {fs : List Nat} (h : fs.length ≤ 16) : FieldI fs (8 * (fs.length : Int)) := by
  refine ⟨by omega, by omega, by omega, fun k hk => bit_out ?_⟩
  have : (8 * (fs.length : Int)).toNat = 8 * fs.length := by omega
  omega
theorem field_mine (m : Nat) : FieldI [pw m] 8 := by
  have := field_whole (fs := [pw m]) (by simp)
  simpa using this
theorem mine_at {m : Nat} (h : m ≤ 7) : bitAt [pw m] m = true := by
  unfold bitAt pw
  have : m / 8 = 0 := by omega
  rw [this]
  simp [Nat.testBit_two_pow_self]
theorem mine_all (m : Nat) : ∀ y ∈ [pw m], y < 256 := fun y hy => by simp at hy; subst hy; exact pw_lt m
theorem good_first {m : Nat} (h : m ≤ 7) : Good m (joined nobody (wide [pw m])) :=
  ⟨marks_joined nobody_marks (by decide) (field_mine m), by rw [at_joined nobody_marks (by decide) (field_mine m), mine_at h, Bool.or_true], all_joined nobody_all (mine_all m)⟩
theorem good_more {m : Nat} {ms fs : List Nat} (h : Good m ms) (hf : fs.length ≤ 16) (hb : ∀ y ∈ fs, y < 256) : Good m (joined ms (wide fs)) :=
  ⟨marks_joined h.1 (by omega) (field_whole hf), by rw [at_joined h.1 (by omega) (field_whole hf), h.2.1, Bool.true_or], all_joined h.2.2 hb⟩
theorem good_turned {m k : Nat} {xs : List (List Nat)} {x : List Nat} (hl : xs.length = min k 8) (h : ∀ x ∈ xs, Good m x) (hx : Good m x) : (turned xs x).length = min (k + 1) 8 ∧ ∀ y ∈ turned xs x, Good m y := by
  unfold turned
  refine ⟨by rw [List.length_cons, List.length_take, hl]; omega, fun y hy => ?_⟩
  rcases List.mem_cons.1 hy with rfl | h1
  · exact hx
  · exact h y (List.mem_of_mem_take h1)

theorem own_none {w : World} {base n c : Nat} {e : TypeId} {A : Option Addr} {xs : List Value} (h : w.ownsRow base e 1 (.slice A n c) n xs) : A = none → c = 0 := fun hA => by
  subst hA
  rcases h.2 with ⟨h1, _⟩ | ⟨g, cap, cur, h1, _⟩
  · simp only [Value.slice.injEq] at h1; exact h1.2.2
  · cases h1

/-- Marks and a ring of marks that were handed out may be written over: which blocks these are, and that each cell is there to be written. -/
theorem spent {w w' : World} {lo g cv c : Nat} {A : Option Addr} {l : List BV} {x : List Nat} (hO : w.ownsRow lo 22 1 (.slice A l.length c) l.length (bvs l)) (hE : ∀ b ∈ l, w.ownsRow lo 5 1 b.val b.bs.length (u8s b.bs)) (h16 : ∀ b ∈ l, b.bs.length = 16)
    (hx : w.ownsRow lo 5 1 (.slice (some ⟨g, 0, none⟩) 16 cv) 16 (u8s x)) (hb : Below w.heap.size w w') :
    ∃ T : Nat → Prop, (∀ k, T k → lo ≤ k) ∧ (∀ k, T k → k < w.heap.size) ∧ T g ∧ (∀ u, Wrote T w' u → ∀ k, k < 16 → (∃ v, u.cell? ⟨g, k, none⟩ = some v) ∧ u.frozen? ⟨g, k, none⟩ = false) ∧
      ∀ j, j < l.length → ∃ a g2 c2, A = some a ∧ T g2 ∧ (∀ u, Wrote T w' u → u.cell? (a.add j) = some (.slice (some ⟨g2, 0, none⟩) 16 c2)) ∧ ∀ u, Wrote T w' u → ∀ k, k < 16 → (∃ v, u.cell? ⟨g2, k, none⟩ = some v) ∧ u.frozen? ⟨g2, k, none⟩ = false := by
  refine ⟨fun k => lo ≤ k ∧ k < w.heap.size ∧ (Value.slice A l.length c).ownBlock ≠ some k, fun k h => h.1, fun k h => h.2.1, ⟨(hx.lt g rfl).1, (hx.lt g rfl).2, fun h => own_differ hO hx g h rfl⟩, fun u hu k hk => hu.at (own_kept hx hb) hk, fun j hj => ?_⟩
  have hO' := own_kept hO hb
  have hm := List.getElem_mem hj
  have he := hE _ hm
  have hl := h16 _ hm
  obtain ⟨a, hA, _, hc⟩ := own_row hO' j _ (bvs_get (List.getElem?_eq_getElem hj))
  obtain ⟨g2, c2, hv, _, _⟩ := own_cons he (by omega)
  unfold BV.val at hv he
  rw [hv] at he hc
  rw [hl] at he hc
  refine ⟨a, g2, c2, hA, ⟨(he.lt g2 rfl).1, (he.lt g2 rfl).2, fun h => own_differ hO he g2 h rfl⟩, fun u hu => ?_, fun u hu k hk => hu.at (own_kept he hb) hk⟩
  rw [World.cell?_of_block (w := w') (hu.other _ (fun h => h.2.2 (by rw [addr_block, hA]; rfl)))]
  exact hc

/-- One member marked among nobody; and among others. -/
theorem mark_first (m : Nat) (hm : m ≤ 7) (A A' : Option Addr) (c c' : Nat) (u : World) (h : Row u u.heap.size A (u8s nobody)) (h' : Row u u.heap.size A' (u8s [pw m])) :
    Calls Try.prog 7 #[.slice A 16 c, .slice A' 1 c', .int .i64 8] u fun e w' => ∃ g cv x, e = .returned (.tuple #[.slice (some ⟨g, 0, none⟩) 16 cv, .int .i64 0]) ∧ Good m x ∧ w'.ownsRow u.heap.size 5 1 (.slice (some ⟨g, 0, none⟩) 16 cv) 16 (u8s x) ∧ Below u.heap.size u w' := by
  have hg := good_first hm
  have k := mark_is nobody [pw m] 8 A A' c c' u (row_lies h) nobody_all (row_lies h') (mine_all m)
  rw [marked_yes nobody_marks (by decide) (field_mine m)] at k
  refine k.mono ?_
  rintro e w' ⟨v, rfl, ho, hb⟩
  simp only [marks_len hg.1] at ho
  obtain ⟨g, cv, rfl, _, _⟩ := own_cons ho (by decide)
  exact ⟨g, cv, _, rfl, hg, ho, hb⟩
theorem mark_more (m : Nat) (x fs : List Nat) (hx : Good m x) (hf : fs.length ≤ 16) (hb : ∀ y ∈ fs, y < 256) (A A' : Option Addr) (c c' : Nat) (u : World) (h : Row u u.heap.size A (u8s x)) (h' : Row u u.heap.size A' (u8s fs)) :
    Calls Try.prog 7 #[.slice A 16 c, .slice A' fs.length c', .int .i64 (8 * (fs.length : Int))] u fun e w' => ∃ g cv x, e = .returned (.tuple #[.slice (some ⟨g, 0, none⟩) 16 cv, .int .i64 0]) ∧ Good m x ∧ w'.ownsRow u.heap.size 5 1 (.slice (some ⟨g, 0, none⟩) 16 cv) 16 (u8s x) ∧ Below u.heap.size u w' := by
  have hg := good_more hx hf hb
  have k := mark_is x fs (8 * (fs.length : Int)) A A' c c' u (row_lies h) hx.2.2 (row_lies h') hb
  rw [marked_yes hx.1 (by omega) (field_whole hf), marks_len hx.1] at k
  refine k.mono ?_
  rintro e w' ⟨v, rfl, ho, hb⟩
  simp only [marks_len hg.1] at ho
  obtain ⟨g, cv, rfl, _, _⟩ := own_cons ho (by decide)
  exact ⟨g, cv, _, rfl, hg, ho, hb⟩
end Go.Proofs.Ytbahcbnnogdmfaa
