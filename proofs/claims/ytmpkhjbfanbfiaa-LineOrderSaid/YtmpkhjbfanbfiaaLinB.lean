/- Layer 16 (line): a line in memory; the methods of the row in it: size, all, find, join, take. By contracts. -/
import Derived.Test.YtmpkhjbfanbfiaaLinA
namespace Go.Proofs.Ytmpkhjbfanbfiaa
open Go.RowKit Go.Shelf
set_option linter.unusedVariables false
set_option linter.unusedSimpArgs false

/-- A line lies in block g: its list. -/
structure LineAt (w : World) (g : Nat) (A : Option Addr) (c : Nat) (l : List Int) : Prop where
  cell : w.cell? ⟨g, 0, none⟩ = some (.slice A l.length c)
  soft : w.frozen? ⟨g, 0, none⟩ = false
  le : l.length ≤ c
  cap : c ≤ maxLen
  lie : Lie w (· ≠ g) A (ivals l)
  bare : A = none → c = 0
theorem LineAt.lt {w : World} {g : Nat} {A : Option Addr} {c : Nat} {l : List Int} (h : LineAt w g A c l) : g < w.heap.size := World.block_lt_of_cell? w _ h.cell
theorem LineAt.below {w w' : World} {g : Nat} {A : Option Addr} {c : Nat} {l : List Int} (h : LineAt w g A c l) (hb : Below w.heap.size w w') : LineAt w' g A c l :=
  ⟨(hb.cell h.lt).trans h.cell, (hb.frozen h.lt).trans h.soft, h.le, h.cap, h.lie.below hb, h.bare⟩
theorem LineAt.empty {w : World} {g : Nat} {A : Option Addr} {c : Nat} {l : List Int} (h : LineAt w g A c l) (hA : A = none) : l = [] := by
  subst hA
  have h0 := h.lie.none_nil
  exact List.eq_nil_of_length_eq_zero (by have := ivals_len l; rw [h0] at this; simpa using this.symm)
/-- Behind a store of a slice that the call has made. -/
theorem LineAt.set {w : World} {g : Nat} {A A' : Option Addr} {c c' n : Nat} {l l' : List Int} {base : Nat} (h : LineAt w g A c l) (hown : w.ownsRow base 3 1 (.slice A' n c') l'.length (ivals l')) (hb : g < base) :
    LineAt (w.setCell ⟨g, 0, none⟩ (.slice A' n c')) g A' c' l' := by
  obtain ⟨A2, c2, hv, h1, h2, h3, h4⟩ := Lie.own hown
  cases hv
  refine ⟨?_, ?_, h1, h2, ?_, ?_⟩
  · exact World.cell?_setCell_same (u := .slice A l.length c) w _ _ h.cell
  · rw [World.frozen?_setCell]; exact h.soft
  · intro k v hv
    obtain ⟨a, hA, hs, hc⟩ := h4 k v hv
    refine ⟨a, hA, by omega, ?_⟩
    rw [World.cell?_setCell_far]
    · exact hc
    · rw [addr_block]; show g ≠ _; omega
  · intro hA
    subst hA
    rcases hown.2 with ⟨h5, _⟩ | ⟨g', cap, cur, h5, _⟩
    · injection h5 with _ _ h6
    · cases h5
theorem set_grown (w : World) (g : Nat) (v : Value) : w.grownBy (w.setCell ⟨g, 0, none⟩ v) (some g) := grown_set w g 0 v
theorem LineAt.far {w w' : World} {g : Nat} {A : Option Addr} {c : Nat} {l : List Int} {row : Option Nat} (h : LineAt w g A c l) (hb : w.grownBy w' row) (hg : row ≠ some g) (hr : ∀ b, row = some b → Lie w (fun k => k ≠ g ∧ k ≠ b) A (ivals l)) : LineAt w' g A c l := by
  have hbl : w'.heap[g]? = w.heap[g]? := hb.block g h.lt (fun e => hg e.symm)
  refine ⟨(World.cell?_of_block (a := ⟨g, 0, none⟩) hbl).trans h.cell, (World.frozen?_of_block (a := ⟨g, 0, none⟩) hbl).trans h.soft, h.le, h.cap, ?_, h.bare⟩
  cases row with
  | none => exact h.lie.grown hb (fun k hk => by simp)
  | some b => exact ((hr b rfl).grown hb (fun k hk e => hk.2 (Option.some.inj e))).imp (fun k _ hk => hk.1)

set_option maxRecDepth 100000 in
theorem size_is (g : Nat) (A : Option Addr) (c : Nat) (l : List Int) (w : World) (h : LineAt w g A c l) :
    Calls Try.prog 25 #[.pointer (some ⟨g, 0, none⟩)] w fun e w' => e = .returned (.int .i64 (l.length : Int)) ∧ w = w' := by
  have c0 := h.cell
  have hm := h.le
  have hm2 := h.cap
  unfold maxLen at hm2
  clear h
  go_enter Try.func25, Try.ntmps25
  go_wp2
  go_ret
  exact ⟨rfl, rfl⟩

set_option maxRecDepth 100000 in
theorem all_is (g : Nat) (A : Option Addr) (c : Nat) (l : List Int) (w : World) (h : LineAt w g A c l) (hl : l.length ≤ 1099511627776) :
    Calls Try.prog 27 #[.pointer (some ⟨g, 0, none⟩)] w fun e w' => ∃ v, e = .returned v ∧ w'.ownsRow w.heap.size 3 1 v l.length (ivals l) ∧ Below w.heap.size w w' := by
  have c0 := h.cell
  have kc := iclone_is l _ A c w h.lie hl
  clear h hl
  go_enter Try.func27, Try.ntmps27
  go_wp2_with (go_at_call 29; refine kc.mono ?_; clear kc; rintro e w1 ⟨v1, rfl, hown1, hb1⟩)
  refine bodyPost_ret (v := v1) (by simp [results, Try.results27, go_sem]) rfl ⟨_, rfl, hown1, hb1⟩

set_option maxRecDepth 100000 in
theorem find_no (g : Nat) (A : Option Addr) (c : Nat) (l : List Int) (x : Int) (w : World) (h : LineAt w g A c l) (hx : x ∉ l) :
    Calls Try.prog 24 #[.pointer (some ⟨g, 0, none⟩), .int .i64 x] w fun e w' => e = .returned (.tuple #[.int .i64 0, .bool false]) ∧ w = w' := by
  have c0 := h.cell
  have kc := index_is l x _ A c w h.lie (Nat.le_trans h.le h.cap)
  rw [fnd_miss (before_of hx _)] at kc
  clear h hx
  go_enter Try.func24, Try.ntmps24
  go_wp2_with (go_at_call 33; refine kc.mono ?_; clear kc; rintro e w1 ⟨rfl, rfl⟩)
  go_ret2
  exact ⟨rfl, rfl⟩

set_option maxRecDepth 100000 in
theorem find_yes (g : Nat) (A : Option Addr) (c : Nat) (l : List Int) (x : Int) (k : Nat) (w : World) (h : LineAt w g A c l) (hx : Lib.idxOf l x = (k : Int)) :
    Calls Try.prog 24 #[.pointer (some ⟨g, 0, none⟩), .int .i64 x] w fun e w' => e = .returned (.tuple #[.int .i64 (k : Int), .bool true]) ∧ w = w' := by
  have c0 := h.cell
  have kc := index_is l x _ A c w h.lie (Nat.le_trans h.le h.cap)
  rw [hx] at kc
  clear h hx
  go_enter Try.func24, Try.ntmps24
  go_wp2_with (go_at_call 33; refine kc.mono ?_; clear kc; rintro e w1 ⟨rfl, rfl⟩)
  go_ret2
  exact ⟨rfl, rfl⟩

/-- Two lists put together, out of a list of both that was made just now. -/
theorem concat_two (l1 l2 : List Int) (A1 A2 : Option Addr) (n1 n2 c1 c2 : Nat) (S1 S2 : Nat → Prop) (g : Nat) (w : World) (hg : w.heap[g]? = some (.cells #[.slice A1 n1 c1, .slice A2 n2 c2] 22 (0, 0))) (hn1 : l1.length = n1) (hn2 : l2.length = n2)
    (h1 : Lie w S1 A1 (ivals l1)) (h2 : Lie w S2 A2 (ivals l2)) (hb1 : A1 = none → c1 = 0) (hb2 : A2 = none → c2 = 0) (hl : n1 + n2 ≤ 1099511627776) :
    Calls Try.prog 32 #[.slice (some ⟨g, 0, none⟩) 2 2] w fun e w' => ∃ v, e = .returned v ∧ w'.ownsRow w.heap.size 3 1 v (l1 ++ l2).length (ivals (l1 ++ l2)) ∧ Below w.heap.size w w' := by
  subst hn1 hn2
  have hf : flat [⟨l1, A1, c1⟩, ⟨l2, A2, c2⟩] = l1 ++ l2 := by simp [flat]
  have k := concat_is [⟨l1, A1, c1⟩, ⟨l2, A2, c2⟩] (fun _ => True) (some ⟨g, 0, none⟩) 2 w ?_ (by simp) ?_ ?_ (by rw [hf, List.length_append]; exact hl)
  · rw [hf] at k
    exact k
  · intro j v hv
    refine ⟨_, rfl, trivial, ?_⟩
    rw [Addr.add_mid, Nat.zero_add, cell_of_row w g j _ _ _ hg, ← hv]
    simp [Sl.val]
  · intro s hs
    simp at hs
    rcases hs with rfl | rfl
    · exact ⟨_, h1⟩
    · exact ⟨_, h2⟩
  · intro s hs
    simp at hs
    rcases hs with rfl | rfl
    · exact hb1
    · exact hb2

set_option maxRecDepth 100000 in
set_option maxHeartbeats 1000000 in
/-- Behind all. -/
theorem join_is (g : Nat) (A : Option Addr) (c : Nat) (l l2 : List Int) (A2 : Option Addr) (c2 : Nat) (S2 : Nat → Prop) (w : World) (h : LineAt w g A c l) (h2 : Lie w S2 A2 (ivals l2)) (hb2 : A2 = none → c2 = 0) (hl : l.length + l2.length ≤ 1099511627776) :
    Calls Try.prog 23 #[.pointer (some ⟨g, 0, none⟩), .slice A2 l2.length c2] w fun e w' => e = .returned (.tuple #[]) ∧ (∃ A' c', LineAt w' g A' c' (l ++ l2)) ∧ w.grownBy w' (some g) := by
  have c0 := h.cell
  have hb0 : Below w.heap.size w (w.alloc (.cells #[.slice A l.length c, .slice A2 l2.length c2] 22)) := (Below.refl _ _).alloc (Nat.le_refl _) _
  have hL1 := h.below hb0
  have kc := concat_two l l2 A A2 l.length l2.length c c2 _ S2 w.heap.size _ (heap_alloc_new w (.cells #[.slice A l.length c, .slice A2 l2.length c2] 22)) rfl rfl hL1.lie (h2.below hb0) h.bare hb2 hl
  have hlt := h.lt
  obtain ⟨r, hr⟩ : ∃ r, l ++ l2 = r := ⟨_, rfl⟩
  rw [hr] at kc ⊢
  clear h h2 hr
  go_enter Try.func23, Try.ntmps23
  go_wp2_with (go_at_call 32; refine kc.mono ?_; clear kc; rintro e w1 ⟨v1, rfl, hown1, hb1⟩; have hL2 := hL1.below hb1; have d0 := hL2.cell; have s0 := hL2.soft; obtain ⟨A', c', rfl, -, -, -, -⟩ := Lie.own hown1)
  go_end0
  refine ⟨rfl, ⟨A', c', hL2.set hown1 (Nat.lt_of_lt_of_le hlt hb0.size)⟩, ?_⟩
  exact grown_trans (grown_below (Below.then hb0 hb1) _) (set_grown _ _ _)
end Go.Proofs.Ytmpkhjbfanbfiaa
