/- Layer 7 (param), the document's: the leak, found by halving. By contracts. -/
import Derived.Test.YtcaejanfhchacaaParL
import Derived.Test.YtcaejanfhchacaaRefNumB
import Derived.Test.YtcaejanfhchacaaRecW
import Derived.Deep.RegionHeld3
import Derived.Deep.CutBlock
import Derived.Deep.DeepCutAuto
namespace Go.Proofs.Ytcaejanfhchacaa
open Go.RowKit
set_option linter.unusedVariables false

theorem six_next {w w1 w2 : World} {b i j : Nat} {x y : Value} (hb : b < w.heap.size) (h : (w1.cell? ⟨b, i, none⟩ = some x ∧ w1.cell? ⟨b, j, none⟩ = some y) ∧ Below w.heap.size w w1) (h2 : Below w1.heap.size w1 w2) :
    (w2.cell? ⟨b, i, none⟩ = some x ∧ w2.cell? ⟨b, j, none⟩ = some y) ∧ Below w.heap.size w w2 := by
  have hl := h.2.size
  have e : ∀ k, w2.cell? ⟨b, k, none⟩ = w1.cell? ⟨b, k, none⟩ := fun k => h2.cell (show b < _ by omega)
  refine ⟨?_, Below.then h.2 h2⟩
  rw [e, e]
  exact h.1

theorem NatV.over {w1 w2 : World} {o : Obj} {v : Value} {N : Nat} (h : NatV w1 w1.heap.size v N) (hb : Below (w1.alloc o).heap.size (w1.alloc o) w2) : NatV w2 w2.heap.size v N := by
  have hs := hb.size
  have h1 : Below w1.heap.size w1 w2 := ((Below.refl _ _).alloc (Nat.le_refl _) o).trans (hb.mono (by simp))
  exact (h.below h1).up h1.size
theorem NatV.next {w1 w2 : World} {v : Value} {N : Nat} (h : NatV w1 w1.heap.size v N) (hb : Below w1.heap.size w1 w2) : NatV w2 w2.heap.size v N := (h.below hb).up hb.size
theorem NatV.more {w1 : World} {v : Value} {N : Nat} (h : NatV w1 w1.heap.size v N) (o : Obj) : NatV (w1.alloc o) (w1.alloc o).heap.size v N := h.next ((Below.refl _ _).alloc (Nat.le_refl _) o)

/-- A number in a box of its own, in block g, made since w0. -/
structure Boxed (w0 wx : World) (g : Nat) (A : Option Addr) (c X : Nat) : Prop where
  cell : wx.cell? ⟨g, 0, none⟩ = some (.slice A (digs X).length c)
  num : NatV wx wx.heap.size (.agg #[.slice A (digs X).length c]) X
  low : w0.heap.size ≤ g
  high : g < wx.heap.size
  below : Below w0.heap.size w0 wx
theorem Boxed.of_set {w0 w3 : World} {g c X L : Nat} {A : Option Addr} {u : Value} (hn : NatV w3 w3.heap.size (.agg #[.slice A (digs X).length c]) X) (hf : Fresh L (.agg #[.slice A (digs X).length c])) (hg : g < L)
    (hc : w3.cell? ⟨g, 0, none⟩ = some u) (h0 : w0.heap.size ≤ g) (hB : Below w0.heap.size w0 (w3.setCell ⟨g, 0, none⟩ (.slice A (digs X).length c))) : Boxed w0 (w3.setCell ⟨g, 0, none⟩ (.slice A (digs X).length c)) g A c X :=
  ⟨World.cell?_setCell_same _ _ _ hc, (hn.setCell hf hg _).up (by simp [World.setCell]), h0, by have := World.block_lt_of_cell? w3 _ hc; simpa [World.setCell] using this, hB⟩
theorem Boxed.of_new {w0 w3 : World} {c X : Nat} {A : Option Addr} (t : TypeId) (hn : NatV w3 w3.heap.size (.agg #[.slice A (digs X).length c]) X)
    (h0 : w0.heap.size ≤ w3.heap.size) (hB : Below w0.heap.size w0 (w3.alloc (.cells #[.slice A (digs X).length c] t))) : Boxed w0 (w3.alloc (.cells #[.slice A (digs X).length c] t)) w3.heap.size A c X :=
  ⟨by rw [World.cell?_alloc_at _ _ _ _ rfl]; rfl, hn.more _, h0, by simp, hB⟩
theorem Boxed.next {w0 wx w' : World} {g c X : Nat} {A : Option Addr} (h : Boxed w0 wx g A c X) (hb : Below wx.heap.size wx w') : Boxed w0 w' g A c X :=
  ⟨(hb.cell (p := ⟨g, 0, none⟩) h.high).trans h.cell, h.num.next hb, h.low, Nat.lt_of_lt_of_le h.high hb.size, h.below.trans (hb.mono h.below.size)⟩

theorem new_after {W w' : World} {u : Value} {t : TypeId} (hb : Below (W.alloc (.cells #[u] t)).heap.size (W.alloc (.cells #[u] t)) w') : w'.cell? ⟨W.heap.size, 0, none⟩ = some u ∧ w'.frozen? ⟨W.heap.size, 0, none⟩ = false := by
  have hl : W.heap.size < (W.alloc (.cells #[u] t)).heap.size := by simp
  refine ⟨(hb.cell (p := ⟨W.heap.size, 0, none⟩) hl).trans ?_, (hb.frozen (p := ⟨W.heap.size, 0, none⟩) hl).trans ?_⟩
  · rw [World.cell?_alloc_at _ _ _ _ rfl]; rfl
  · exact frozen_of_row _ _ 0 _ _ (heap_alloc_new W _)
theorem new_after_drew {W w' : World} {u : Value} {t : TypeId} (hb : Below (W.alloc (.cells #[u] t)).drew.heap.size (W.alloc (.cells #[u] t)).drew w') : w'.cell? ⟨W.heap.size, 0, none⟩ = some u ∧ w'.frozen? ⟨W.heap.size, 0, none⟩ = false :=
  new_after (W := W) (u := u) (t := t) ⟨hb.os, hb.tape, hb.output, hb.size, hb.block⟩
theorem box_after {w w' : World} {g : Nat} {u : Value} (hb : Below w.heap.size w w') (h : w.cell? ⟨g, 0, none⟩ = some u ∧ w.frozen? ⟨g, 0, none⟩ = false) : w'.cell? ⟨g, 0, none⟩ = some u ∧ w'.frozen? ⟨g, 0, none⟩ = false := by
  have hl := World.block_lt_of_cell? w _ h.1
  exact ⟨(hb.cell (p := ⟨g, 0, none⟩) hl).trans h.1, (hb.frozen (p := ⟨g, 0, none⟩) hl).trans h.2⟩

theorem six_swap {w w1 : World} {b i j : Nat} {x y : Value} {o o' : Obj} (hb : b < w.heap.size) (hs : w.heap.size ≤ w1.heap.size) (h : ((w1.alloc o).cell? ⟨b, i, none⟩ = some x ∧ (w1.alloc o).cell? ⟨b, j, none⟩ = some y) ∧ Below w.heap.size w (w1.alloc o)) :
    ((w1.alloc o').cell? ⟨b, i, none⟩ = some x ∧ (w1.alloc o').cell? ⟨b, j, none⟩ = some y) ∧ Below w.heap.size w (w1.alloc o') := by
  have e : ∀ (o : Obj) k, (w1.alloc o).cell? ⟨b, k, none⟩ = w1.cell? ⟨b, k, none⟩ := fun o k => World.cell?_alloc_lt _ _ _ (Nat.lt_of_lt_of_le hb hs)
  have h1 := h.1
  rw [e, e] at h1 ⊢
  refine ⟨h1, ⟨h.2.os, h.2.tape, h.2.output, by have := h.2.size; simpa using this, fun k hk => ?_⟩⟩
  have := h.2.block k hk
  rw [heap_alloc_old _ _ (Nat.lt_of_lt_of_le hk hs)] at this ⊢
  exact this
theorem six_set {w w1 : World} {b i j g : Nat} {x y u : Value} (hb : b < w.heap.size) (hg : w.heap.size ≤ g) (h : (w1.cell? ⟨b, i, none⟩ = some x ∧ w1.cell? ⟨b, j, none⟩ = some y) ∧ Below w.heap.size w w1) :
    ((w1.setCell ⟨g, 0, none⟩ u).cell? ⟨b, i, none⟩ = some x ∧ (w1.setCell ⟨g, 0, none⟩ u).cell? ⟨b, j, none⟩ = some y) ∧ Below w.heap.size w (w1.setCell ⟨g, 0, none⟩ u) := by
  have e : ∀ k, (w1.setCell ⟨g, 0, none⟩ u).cell? ⟨b, k, none⟩ = w1.cell? ⟨b, k, none⟩ := fun k => World.cell?_setCell_other _ _ _ _ (fun e => by injection e with e1; omega)
  have h1 := h.1
  refine ⟨?_, h.2.setCell hg _⟩
  rw [e, e]; exact h1

theorem tri_next {w w1 w2 : World} {b i j k : Nat} {x y z : Value} (hb : b < w.heap.size) (h : (w1.cell? ⟨b, i, none⟩ = some x ∧ w1.cell? ⟨b, j, none⟩ = some y ∧ w1.cell? ⟨b, k, none⟩ = some z) ∧ Below w.heap.size w w1) (h2 : Below w1.heap.size w1 w2) :
    (w2.cell? ⟨b, i, none⟩ = some x ∧ w2.cell? ⟨b, j, none⟩ = some y ∧ w2.cell? ⟨b, k, none⟩ = some z) ∧ Below w.heap.size w w2 := by
  have hl := h.2.size
  have e : ∀ k, w2.cell? ⟨b, k, none⟩ = w1.cell? ⟨b, k, none⟩ := fun k => h2.cell (show b < _ by omega)
  refine ⟨?_, Below.then h.2 h2⟩
  rw [e, e, e]
  exact h.1
theorem tri_swap {w w1 : World} {b i j k : Nat} {x y z : Value} {o o' : Obj} (hb : b < w.heap.size) (hs : w.heap.size ≤ w1.heap.size) (h : ((w1.alloc o).cell? ⟨b, i, none⟩ = some x ∧ (w1.alloc o).cell? ⟨b, j, none⟩ = some y ∧ (w1.alloc o).cell? ⟨b, k, none⟩ = some z) ∧ Below w.heap.size w (w1.alloc o)) :
    ((w1.alloc o').cell? ⟨b, i, none⟩ = some x ∧ (w1.alloc o').cell? ⟨b, j, none⟩ = some y ∧ (w1.alloc o').cell? ⟨b, k, none⟩ = some z) ∧ Below w.heap.size w (w1.alloc o') := by
  have e : ∀ (o : Obj) k, (w1.alloc o).cell? ⟨b, k, none⟩ = w1.cell? ⟨b, k, none⟩ := fun o k => World.cell?_alloc_lt _ _ _ (Nat.lt_of_lt_of_le hb hs)
  have h1 := h.1
  rw [e, e, e] at h1 ⊢
  refine ⟨h1, ⟨h.2.os, h.2.tape, h.2.output, by have := h.2.size; simpa using this, fun k hk => ?_⟩⟩
  have := h.2.block k hk
  rw [heap_alloc_old _ _ (Nat.lt_of_lt_of_le hk hs)] at this ⊢
  exact this
theorem tri_set {w w1 : World} {b i j k g : Nat} {x y z u : Value} (hb : b < w.heap.size) (hg : w.heap.size ≤ g) (h : (w1.cell? ⟨b, i, none⟩ = some x ∧ w1.cell? ⟨b, j, none⟩ = some y ∧ w1.cell? ⟨b, k, none⟩ = some z) ∧ Below w.heap.size w w1) :
    ((w1.setCell ⟨g, 0, none⟩ u).cell? ⟨b, i, none⟩ = some x ∧ (w1.setCell ⟨g, 0, none⟩ u).cell? ⟨b, j, none⟩ = some y ∧ (w1.setCell ⟨g, 0, none⟩ u).cell? ⟨b, k, none⟩ = some z) ∧ Below w.heap.size w (w1.setCell ⟨g, 0, none⟩ u) := by
  have e : ∀ k, (w1.setCell ⟨g, 0, none⟩ u).cell? ⟨b, k, none⟩ = w1.cell? ⟨b, k, none⟩ := fun k => World.cell?_setCell_other _ _ _ _ (fun e => by injection e with e1; omega)
  have h1 := h.1
  refine ⟨?_, h.2.setCell hg _⟩
  rw [e, e, e]; exact h1
theorem duo_next {w w1 w2 : World} {a b : Nat} {x y : Value} (ha : a < w.heap.size) (hb : b < w.heap.size) (h : (w1.cell? ⟨a, 0, none⟩ = some x ∧ w1.cell? ⟨b, 0, none⟩ = some y) ∧ Below w.heap.size w w1) (h2 : Below w1.heap.size w1 w2) :
    (w2.cell? ⟨a, 0, none⟩ = some x ∧ w2.cell? ⟨b, 0, none⟩ = some y) ∧ Below w.heap.size w w2 := by
  have hl := h.2.size
  refine ⟨?_, Below.then h.2 h2⟩
  rw [show w2.cell? ⟨a, 0, none⟩ = w1.cell? ⟨a, 0, none⟩ from h2.cell (show a < _ by omega), show w2.cell? ⟨b, 0, none⟩ = w1.cell? ⟨b, 0, none⟩ from h2.cell (show b < _ by omega)]
  exact h.1

set_option maxRecDepth 100000 in
set_option maxHeartbeats 2000000 in
theorem ticks_is (p : Par) (T : Nat) (w : World) (h1 : p.inc < 18446744073709551616) (h2 : p.bias < 18446744073709551616) (h3 : p.quot ≤ 1099511627776) (h4 : p.cap ≤ 1099511627776) (h5 : p.floor < p.cap) (hT : Par.Halt p T) :
    Calls Try.prog 53 #[.agg p.vals] w fun e w' => e = .returned (.int .u64 (T : Int)) ∧ Below w.heap.size w w' := by
  have k1 := fun w => of_any p.inc w (by omega)
  have k2 := fun w => of_any p.bias w (by omega)
  have k3 : ∀ (v1 v2 : Value) (w : World), NatV w w.heap.size v1 p.inc → NatV w w.heap.size v2 p.bias → Calls Try.prog 90 #[v1, v2] w fun e w' => ∃ v, e = .returned v ∧ NatV w' w'.heap.size v (p.inc * p.bias) ∧ Fresh w.heap.size v ∧ Below w.heap.size w w' :=
    fun v1 v2 w a b => mul_nat _ _ v1 v2 w.heap.size w a b (Nat.le_refl _) (Nat.le_trans (word_digs h1) (by omega)) (Nat.le_trans (word_digs h2) (by omega))
  have k4 := fun w => of_any (2 * p.quot) w (by omega)
  have k5 := fun w => of_any (p.cap - p.floor) w (by omega)
  rw [show ((2 * p.quot : Nat) : Int) = 2 * (p.quot : Int) by simp] at k4
  rw [show ((p.cap - p.floor : Nat) : Int) = (p.cap : Int) - (p.floor : Int) by omega] at k5
  have k6 : ∀ (v1 v2 : Value) (w : World), NatV w w.heap.size v1 (2 * p.quot) → NatV w w.heap.size v2 (p.cap - p.floor) → Calls Try.prog 90 #[v1, v2] w fun e w' => ∃ v, e = .returned v ∧ NatV w' w'.heap.size v (2 * p.quot * (p.cap - p.floor)) ∧ Fresh w.heap.size v ∧ Below w.heap.size w w' :=
    fun v1 v2 w a b => mul_nat _ _ v1 v2 w.heap.size w a b (Nat.le_refl _) (Nat.le_trans (word_digs (by omega)) (by omega)) (Nat.le_trans (word_digs (by omega)) (by omega))
  have y1 : IntKind.u64.wrap (2 * (p.quot : Int)) = 2 * (p.quot : Int) := IntWalk.u64_in _ (by omega)
  have y2 : IntKind.u64.wrap ((p.cap : Int) - (p.floor : Int)) = (p.cap : Int) - (p.floor : Int) := IntWalk.u64_in _ (by omega)
  have hP := ParAt.new w p 43
  obtain ⟨w0, hw0⟩ : ∃ w0, Hid (w.alloc (.cells p.vals 43) = w0) := ⟨_, rfl⟩
  have v0 : p.vals[0]? = some (.int .u64 (p.inc : Int)) := rfl
  have v6 : p.vals[6]? = some (.int .u64 (p.bias : Int)) := rfl
  have hB0 : Below w.heap.size w (w.alloc (.cells p.vals 43)) := (Below.refl _ _).alloc (Nat.le_refl _) _
  go_enter Try.func53, Try.ntmps53
  go_upto_region 1 with fail
  rw [hw0.out] at hP hB0 ⊢
  have hlt := hP.lt
  obtain ⟨b, hb⟩ : ∃ b, Hid (w.heap.size = b) := ⟨_, rfl⟩
  rw [hb.out] at hP hlt ⊢
  go_cut [3] from 8 to 14 (fun s3 wx => ∃ g A c, s3 = .pointer (some ⟨g, 0, none⟩) ∧ Boxed w0 wx g A c (p.inc * p.bias))
  case first =>
    have c0 : w0.cell? ⟨b, 0, none⟩ = some (.int .u64 (p.inc : Int)) := hP.cell 0
    have c6 : w0.cell? ⟨b, 6, none⟩ = some (.int .u64 (p.bias : Int)) := hP.cell 6
    have hh : (w0.drew.cell? ⟨b, 0, none⟩ = some (.int .u64 (p.inc : Int)) ∧ w0.drew.cell? ⟨b, 6, none⟩ = some (.int .u64 (p.bias : Int))) ∧ Below w0.heap.size w0 w0.drew := ⟨⟨c0, c6⟩, (Below.refl _ _).drew⟩
    clear c0 c6
    go_region_held3 (fun w' => (w'.cell? ⟨b, 0, none⟩ = some (.int .u64 (p.inc : Int)) ∧ w'.cell? ⟨b, 6, none⟩ = some (.int .u64 (p.bias : Int))) ∧ Below w0.heap.size w0 w')
      (first | exact hh | exact six_next hlt (by assumption) hb3 | exact six_next hlt (by assumption) hb2 | exact six_next hlt (by assumption) hb1 | exact six_next hlt (by assumption) ((Below.refl _ _).alloc (Nat.le_refl _) _) | exact six_next hlt hh ((Below.refl _ _).alloc (Nat.le_refl _) _) | exact six_swap hlt z3 (by assumption) | exact six_set hlt (by first | exact Nat.le_refl _ | exact z1 | exact z2) (by assumption))
      (first
      | (go_at_call 91; (with_reducible refine (k1 _).mono ?_); rintro e w1 ⟨v1, rfl, hn1, hf1, hb1⟩; have s1 := hb1.size; (try simp at s1); have z1 : w0.heap.size ≤ w1.heap.size := (by omega); (try (have x1 : w1.cell? ⟨w0.heap.size, 0, none⟩ = some (.slice none 0 0) ∧ w1.frozen? ⟨w0.heap.size, 0, none⟩ = false := (by first | exact new_after hb1 | exact new_after_drew hb1); obtain ⟨x1c, x1f⟩ := id x1)))
      | (go_at_call 91; (with_reducible refine (k2 _).mono ?_); rintro e w2 ⟨v2, rfl, hn2, hf2, hb2⟩; have s2 := hb2.size; (try simp at s2); have z2 : w0.heap.size ≤ w2.heap.size := (by omega); (try (have x1 : w2.cell? ⟨w0.heap.size, 0, none⟩ = some (.slice none 0 0) ∧ w2.frozen? ⟨w0.heap.size, 0, none⟩ = false := box_after hb2 x1; obtain ⟨x1c, x1f⟩ := id x1)); (try (have x2 : w2.cell? ⟨w1.heap.size, 0, none⟩ = some (.slice none 0 0) ∧ w2.frozen? ⟨w1.heap.size, 0, none⟩ = false := (by first | exact new_after hb2 | exact new_after_drew hb2); obtain ⟨x2c, x2f⟩ := id x2)))
      | (go_at_call 90; (first | refine (k3 _ _ _ (hn1.next hb2) hn2).mono ?_ | refine (k3 _ _ _ (hn1.over hb2) hn2).mono ?_ | refine (k3 _ _ _ ((hn1.next hb2).more _) (hn2.more _)).mono ?_); rintro e w3 ⟨v3, rfl, hn3, hf3, hb3⟩; obtain ⟨A3, c3, rfl, _⟩ := id hn3; have s3 := hb3.size; (try simp at s3); have z3 : w0.heap.size ≤ w3.heap.size := (by omega); (try (have x1 : w3.cell? ⟨w0.heap.size, 0, none⟩ = some (.slice none 0 0) ∧ w3.frozen? ⟨w0.heap.size, 0, none⟩ = false := box_after hb3 x1; obtain ⟨x1c, x1f⟩ := id x1)); (try (have x2 : w3.cell? ⟨w1.heap.size, 0, none⟩ = some (.slice none 0 0) ∧ w3.frozen? ⟨w1.heap.size, 0, none⟩ = false := box_after hb3 x2; obtain ⟨x2c, x2f⟩ := id x2)); (try (have x3 : w3.cell? ⟨w2.heap.size, 0, none⟩ = some (.slice none 0 0) ∧ w3.frozen? ⟨w2.heap.size, 0, none⟩ = false := (by first | exact new_after hb3 | exact new_after_drew hb3); obtain ⟨x3c, x3f⟩ := id x3))))
    all_goals (go_wp2_with fail; go_meet)
    all_goals (first
      | exact ⟨_, A3, c3, rfl, Boxed.of_new _ hn3 z3 (And.right (by assumption))⟩
      | exact ⟨_, A3, c3, rfl, Boxed.of_set hn3 hf3 (by simp) x3.1 z2 (And.right (by assumption))⟩
      | exact ⟨_, A3, c3, rfl, Boxed.of_set hn3 hf3 (by omega) x2.1 z1 (And.right (by assumption))⟩
      | exact ⟨_, A3, c3, rfl, Boxed.of_set hn3 hf3 (by omega) x1.1 (Nat.le_refl _) (And.right (by assumption))⟩)
  case rest =>
    obtain ⟨wx, rfl⟩ : ∃ wx : World, wx = wc := ⟨_, rfl⟩
    obtain ⟨gA, A, cA, rfl, hA⟩ := hcut
    have hP1 := hP.below hA.below hlt
    have hlt1 : b < wx.heap.size := Nat.lt_of_lt_of_le hlt hA.below.size
    go_upto_region 2 with fail
    go_cut [4] from 15 to 25 (fun s4 wy => ∃ g A' c', s4 = .pointer (some ⟨g, 0, none⟩) ∧ Boxed wx wy g A' c' (2 * p.quot * (p.cap - p.floor)))
    case first =>
      have hh : (wx.drew.cell? ⟨b, 7, none⟩ = some (.int .u64 (p.quot : Int)) ∧ wx.drew.cell? ⟨b, 3, none⟩ = some (.int .u64 (p.cap : Int)) ∧ wx.drew.cell? ⟨b, 2, none⟩ = some (.int .u64 (p.floor : Int))) ∧ Below wx.heap.size wx wx.drew := ⟨⟨hP1.cell 7, hP1.cell 3, hP1.cell 2⟩, (Below.refl _ _).drew⟩
      go_region_held3 (fun w' => (w'.cell? ⟨b, 7, none⟩ = some (.int .u64 (p.quot : Int)) ∧ w'.cell? ⟨b, 3, none⟩ = some (.int .u64 (p.cap : Int)) ∧ w'.cell? ⟨b, 2, none⟩ = some (.int .u64 (p.floor : Int))) ∧ Below wx.heap.size wx w')
        (first | exact hh | exact tri_next hlt1 (by assumption) hb3 | exact tri_next hlt1 (by assumption) hb2 | exact tri_next hlt1 (by assumption) hb1 | exact tri_next hlt1 (by assumption) ((Below.refl _ _).alloc (Nat.le_refl _) _) | exact tri_next hlt1 hh ((Below.refl _ _).alloc (Nat.le_refl _) _) | exact tri_swap hlt1 z3 (by assumption) | exact tri_set hlt1 (by first | exact Nat.le_refl _ | exact z1 | exact z2) (by assumption))
        (first
          | (go_at_call 91; (with_reducible refine (k4 _).mono ?_); rintro e w1 ⟨v1, rfl, hn1, hf1, hb1⟩; have s1 := hb1.size; (try simp at s1); have z1 : wx.heap.size ≤ w1.heap.size := (by omega); (try (have x1 : w1.cell? ⟨wx.heap.size, 0, none⟩ = some (.slice none 0 0) ∧ w1.frozen? ⟨wx.heap.size, 0, none⟩ = false := (by first | exact new_after hb1 | exact new_after_drew hb1); obtain ⟨x1c, x1f⟩ := id x1)))
          | (go_at_call 91; (with_reducible refine (k5 _).mono ?_); rintro e w2 ⟨v2, rfl, hn2, hf2, hb2⟩; have s2 := hb2.size; (try simp at s2); have z2 : wx.heap.size ≤ w2.heap.size := (by omega); (try (have x1 : w2.cell? ⟨wx.heap.size, 0, none⟩ = some (.slice none 0 0) ∧ w2.frozen? ⟨wx.heap.size, 0, none⟩ = false := box_after hb2 x1; obtain ⟨x1c, x1f⟩ := id x1)); (try (have x2 : w2.cell? ⟨w1.heap.size, 0, none⟩ = some (.slice none 0 0) ∧ w2.frozen? ⟨w1.heap.size, 0, none⟩ = false := (by first | exact new_after hb2 | exact new_after_drew hb2); obtain ⟨x2c, x2f⟩ := id x2)))
          | (go_at_call 90; (first | refine (k6 _ _ _ (hn1.next hb2) hn2).mono ?_ | refine (k6 _ _ _ (hn1.over hb2) hn2).mono ?_ | refine (k6 _ _ _ ((hn1.next hb2).more _) (hn2.more _)).mono ?_); rintro e w3 ⟨v3, rfl, hn3, hf3, hb3⟩; obtain ⟨A3, c3, rfl, _⟩ := id hn3; have s3 := hb3.size; (try simp at s3); have z3 : wx.heap.size ≤ w3.heap.size := (by omega); (try (have x1 : w3.cell? ⟨wx.heap.size, 0, none⟩ = some (.slice none 0 0) ∧ w3.frozen? ⟨wx.heap.size, 0, none⟩ = false := box_after hb3 x1; obtain ⟨x1c, x1f⟩ := id x1)); (try (have x2 : w3.cell? ⟨w1.heap.size, 0, none⟩ = some (.slice none 0 0) ∧ w3.frozen? ⟨w1.heap.size, 0, none⟩ = false := box_after hb3 x2; obtain ⟨x2c, x2f⟩ := id x2)); (try (have x3 : w3.cell? ⟨w2.heap.size, 0, none⟩ = some (.slice none 0 0) ∧ w3.frozen? ⟨w2.heap.size, 0, none⟩ = false := (by first | exact new_after hb3 | exact new_after_drew hb3); obtain ⟨x3c, x3f⟩ := id x3))))
      all_goals (go_wp2_with fail; go_meet)
      all_goals (first
        | exact ⟨_, A3, c3, rfl, Boxed.of_new _ hn3 z3 (And.right (by assumption))⟩
        | exact ⟨_, A3, c3, rfl, Boxed.of_set hn3 hf3 (by simp) x3.1 z2 (And.right (by assumption))⟩
        | exact ⟨_, A3, c3, rfl, Boxed.of_set hn3 hf3 (by omega) x2.1 z1 (And.right (by assumption))⟩
        | exact ⟨_, A3, c3, rfl, Boxed.of_set hn3 hf3 (by omega) x1.1 (Nat.le_refl _) (And.right (by assumption))⟩)
    case rest =>
      obtain ⟨wy, rfl⟩ : ∃ wy : World, wy = wc := ⟨_, rfl⟩
      obtain ⟨gG, AG, cG, rfl, hG⟩ := hcut
      have hA2 : Boxed w0 wy gA A cA (p.inc * p.bias) := hA.next hG.below
      have hBy : Below w.heap.size w wy := by rw [hb.out]; rw [hb.out] at hB0; exact hB0.trans (hA2.below.mono (by have := hB0.size; omega))
      have hgG : wx.heap.size ≤ gG := hG.low
      obtain ⟨X, hX⟩ : ∃ X, Hid (p.inc * p.bias = X) := ⟨_, rfl⟩
      obtain ⟨Y, hY⟩ : ∃ Y, Hid (2 * p.quot * (p.cap - p.floor) = Y) := ⟨_, rfl⟩
      have hXl : X < 340282366920938463463374607431768211456 := by rw [← hX.out]; exact Nat.lt_of_le_of_lt (Nat.mul_le_mul (Nat.le_sub_one_of_lt h1) (Nat.le_sub_one_of_lt h2)) (by omega)
      have hYl : Y < 340282366920938463463374607431768211456 := by rw [← hY.out]; exact Nat.lt_of_le_of_lt (Nat.mul_le_mul (Nat.mul_le_mul_left 2 h3) (show p.cap - p.floor ≤ 1099511627776 by omega)) (by omega)
      rw [hX.out] at hA2
      rw [hY.out] at hG
      have hdX := Lib.hid (digs_len (k := 39) (show X < 10 ^ 39 by omega))
      have hlim : ∀ m B : Nat, m * (m + 1) = B → (p.lim m ↔ Y ≤ X * B) := fun m B h => by unfold Par.lim; rw [hX.out, hY.out, h]
      have HL := Lib.hid hlim
      have HT := Lib.hid hT
      have hyl : wy.heap.size = wy.heap.size := rfl
      have hBy' := Lib.hid hBy
      clear hX hY hXl hYl hlim hT hyl hBy k1 k2 k3 k4 k5 k6 y1 y2 v0 v6 hP hP1 hA hB0 hlt hlt1 hgG h1 h2 h3 h4 h5
      go_wp2
      go_loopw [5, 6] (fun s5 s6 wr => ∃ lo hi : Nat, s5 = .int .u64 (lo : Int) ∧ s6 = .int .u64 (hi : Int) ∧ Hid (lo < T ∧ T ≤ hi ∧ hi ≤ 1048577) ∧ Below wy.heap.size wy wr) (fun s5 s6 _ => (intOf s6 - intOf s5).toNat)
      case atStart => exact ⟨0, 1048577, rfl, rfl, ⟨HT.out.pos, HT.out.most, Nat.le_refl _⟩, Below.refl _ _⟩
      case round =>
        obtain ⟨lo, hi, rfl, rfl, HI, hBr⟩ := hrel
        have hAr := hA2.next hBr
        have hGr := hG.next hBr
        have hlh : lo < hi := by have := HI.out; omega
        have hh62 : hi < 4611686018427387904 := by have := HI.out; omega
        have y3 : IntKind.u64.wrap ((hi : Int) - (lo : Int)) = (hi : Int) - (lo : Int) := IntWalk.u64_in _ (by omega)
        have y4 : IntKind.u64.wrap ((lo : Int) + (hi : Int)) = (lo : Int) + (hi : Int) := IntWalk.u64_in _ (by omega)
        by_cases hgo : lo + 1 < hi
        · obtain ⟨m, hm⟩ : ∃ m, (lo + hi) / 2 = m := ⟨_, rfl⟩
          have hm1 : ((lo : Int) + (hi : Int)) / 2 = (m : Int) := by rw [← hm]; simp
          have hm2 : lo < m ∧ m < hi := by omega
          have hm3 : m ≤ 1048577 := by have := HI.out; omega
          obtain ⟨B, hB⟩ : ∃ B, m * (m + 1) = B := ⟨_, rfl⟩
          have hB1 : B ≤ 1099514773506 := hB ▸ Nat.le_trans (Nat.mul_le_mul hm3 (Nat.add_le_add_right hm3 1)) (by omega)
          have y5 : IntKind.u64.wrap ((m : Int) + 1) = (m : Int) + 1 := IntWalk.u64_in _ (by omega)
          have y6 : IntKind.u64.wrap ((m : Int) * ((m : Int) + 1)) = (B : Int) := by rw [show (m : Int) * ((m : Int) + 1) = ((m * (m + 1) : Nat) : Int) by simp, hB]; exact IntWalk.u64_in _ (by omega)
          have kO := fun w => of_any B w (by omega)
          have kM : ∀ (v1 v2 : Value) (w : World), NatV w w.heap.size v1 X → NatV w w.heap.size v2 B → Calls Try.prog 90 #[v1, v2] w fun e w' => ∃ v, e = .returned v ∧ NatV w' w'.heap.size v (X * B) ∧ Fresh w.heap.size v ∧ Below w.heap.size w w' :=
            fun v1 v2 w a b => mul_nat _ _ v1 v2 w.heap.size w a b (Nat.le_refl _) (Nat.le_trans hdX.out (by omega)) (Nat.le_trans (word_digs (by omega)) (by omega))
          obtain ⟨z, hz⟩ : ∃ z, Hid (cmpZ (X * B) Y = z) := ⟨_, rfl⟩
          have kC : ∀ (v1 v2 : Value) (w : World), NatV w w.heap.size v1 (X * B) → NatV w w.heap.size v2 Y → Calls Try.prog 92 #[v1, v2] w fun e w' => e = .returned (.int .i64 z) ∧ Below w.heap.size w w' :=
            fun v1 v2 w a b => by rw [← hz.out]; exact cmp_any _ _ v1 v2 w.heap.size w a b (Nat.le_refl _)
          have hh : (wr.drew.cell? ⟨gA, 0, none⟩ = some (.slice A (digs X).length cA) ∧ wr.drew.cell? ⟨gG, 0, none⟩ = some (.slice AG (digs Y).length cG)) ∧ Below wr.heap.size wr wr.drew := ⟨⟨hAr.cell, hGr.cell⟩, (Below.refl _ _).drew⟩
          have hlA := hAr.high
          have hlG := hGr.high
          have hE := HL.out m B hB
          by_cases hl : p.lim m
          · have hz0 : 0 ≤ z := by
              rw [← hz.out]
              have := hE.1 hl
              unfold cmpZ
              rw [if_neg (by omega)]
              split <;> omega
            have hnew : Hid (lo < T ∧ T ≤ m ∧ m ≤ 1048577) := ⟨HI.out.1, by rcases Nat.lt_or_ge m T with h | h; exact absurd hl (HT.out.below h); exact h, hm3⟩
            clear hE hl hz hm hB hB1 hm3
            go_upto_region 7 with fail
            go_region_held3 (fun w' => (w'.cell? ⟨gA, 0, none⟩ = some (.slice A (digs X).length cA) ∧ w'.cell? ⟨gG, 0, none⟩ = some (.slice AG (digs Y).length cG)) ∧ Below wr.heap.size wr w')
              (first | exact hh | exact duo_next hlA hlG (by assumption) hb3 | exact duo_next hlA hlG (by assumption) hb2 | exact duo_next hlA hlG (by assumption) hb1)
              (first
                | (go_at_call 91; refine (kO _).mono ?_; rintro e w1 ⟨v1, rfl, hn1, hf1, hb1⟩)
                | (go_at_call 90; refine (kM _ _ _ (NatV.next (w1 := wr.drew) hAr.num hb1) hn1).mono ?_; rintro e w2 ⟨v2, rfl, hn2, hf2, hb2⟩)
                | (go_at_call 92; refine (kC _ _ _ hn2 ((NatV.next (w1 := wr.drew) hGr.num hb1).next hb2)).mono ?_; rintro e w3 ⟨rfl, hb3⟩))
            have hfin : Below wr.heap.size wr w3 := And.right (by assumption)
            go_wp2
            go_roundw
            case rel => exact ⟨lo, m, rfl, rfl, hnew, hBr.trans (hfin.mono hBr.size)⟩
            case measure => simp [intOf]; omega
          · have hz0 : z < 0 := by
              rw [← hz.out]
              have h3 : ¬ Y ≤ X * B := fun h => hl (hE.2 h)
              unfold cmpZ
              rw [if_pos (by omega)]
              omega
            have hnew : Hid (m < T ∧ T ≤ hi ∧ hi ≤ 1048577) := ⟨by
              rcases Nat.lt_or_ge m T with h | h
              · exact h
              · rcases HT.out.yes with e | e
                · have := HI.out; omega
                · exact absurd (Par.lim_up e h) hl, HI.out.2⟩
            clear hE hl hz hm hB hB1 hm3
            go_upto_region 7 with fail
            go_region_held3 (fun w' => (w'.cell? ⟨gA, 0, none⟩ = some (.slice A (digs X).length cA) ∧ w'.cell? ⟨gG, 0, none⟩ = some (.slice AG (digs Y).length cG)) ∧ Below wr.heap.size wr w')
              (first | exact hh | exact duo_next hlA hlG (by assumption) hb3 | exact duo_next hlA hlG (by assumption) hb2 | exact duo_next hlA hlG (by assumption) hb1)
              (first
                | (go_at_call 91; refine (kO _).mono ?_; rintro e w1 ⟨v1, rfl, hn1, hf1, hb1⟩)
                | (go_at_call 90; refine (kM _ _ _ (NatV.next (w1 := wr.drew) hAr.num hb1) hn1).mono ?_; rintro e w2 ⟨v2, rfl, hn2, hf2, hb2⟩)
                | (go_at_call 92; refine (kC _ _ _ hn2 ((NatV.next (w1 := wr.drew) hGr.num hb1).next hb2)).mono ?_; rintro e w3 ⟨rfl, hb3⟩))
            have hfin : Below wr.heap.size wr w3 := And.right (by assumption)
            go_wp2
            go_roundw
            case rel => exact ⟨m, hi, rfl, rfl, hnew, hBr.trans (hfin.mono hBr.size)⟩
            case measure => simp [intOf]; omega
        · have hTe : T = hi := by have := HI.out; omega
          subst hTe
          have d0 : decide ((1 : Int) < (T : Int) - (lo : Int)) = false := by simp; omega
          go_wp2
          go_ret
          exact ⟨rfl, hBy'.out.trans (hBr.mono hBy'.out.size)⟩
end Go.Proofs.Ytcaejanfhchacaa
