/- The reference's digits (layer 1): the digit at a place; what is left without noughts at the upper end. By contracts. -/
import Derived.Test.YtfaocjgelhefjaaCore
import Derived.Test.YtfaocjgelhefjaaLists
import Derived.Test.YtfaocjgelhefjaaProg
import Derived.OwnWalk
namespace Go.Proofs.Ytfaocjgelhefjaa
open Go.RowKit
set_option linter.unusedVariables false

/-- Digits, as values. -/
def ints (ds : List Nat) : List Value := ds.map fun (d : Nat) => Value.int .i64 (d : Int)
theorem ints_len (ds : List Nat) : (ints ds).length = ds.length := by simp [ints]

theorem at_any (ds : List Nat) (A : Option Addr) (c i B : Nat) (w : World) (hr : Row w B A (ints ds)) (hlen : ds.length ≤ maxLen) (hi : i ≤ maxLen) :
    Calls Try.prog 41 #[.slice A ds.length c, .int .i64 (i : Int)] w fun e w' => e = .returned (.int .i64 ((ds.getD i 0 : Nat) : Int)) ∧ w = w' := by
  unfold maxLen at hlen hi
  by_cases hlt : i < ds.length
  · obtain ⟨a, rfl, hb, hc⟩ := hr.get (k := i) (by rw [ints_len]; exact hlt)
    simp only [ints, List.getElem_map] at hc
    have hg : ds.getD i 0 = ds[i] := by simp [hlt]
    have HG := Lib.hid hg
    clear hg
    go_enter Try.func41, Try.ntmps41
    go_wp2
    go_ret
    exact ⟨by rw [HG.out]; rfl, rfl⟩
  · have hg : ds.getD i 0 = 0 := by simp [List.getD, List.getElem?_eq_none (show ds.length ≤ i by omega)]
    have HG := Lib.hid hg
    clear hg
    go_enter Try.func41, Try.ntmps41
    go_wp2
    go_ret
    exact ⟨by rw [HG.out]; rfl, rfl⟩

theorem trimLen_step {ds : List Nat} {j : Nat} (hj : j < ds.length) (h : ds[j] = 0) : trimLen ds (j + 1) = trimLen ds j := by
  show (if ds.getD j 0 = 0 then trimLen ds j else j + 1) = _
  rw [if_pos (by simpa [hj] using h)]
theorem trimLen_stop {ds : List Nat} {j : Nat} (hj : j < ds.length) (h : ds[j] ≠ 0) : trimLen ds (j + 1) = j + 1 := by
  show (if ds.getD j 0 = 0 then trimLen ds j else j + 1) = _
  rw [if_neg (by simpa [hj] using h)]

set_option maxRecDepth 100000 in
theorem trim_any (ds : List Nat) (A : Option Addr) (c B : Nat) (w : World) (hr : Row w B A (ints ds)) (hlen : ds.length ≤ c) (hcm : c ≤ maxLen) :
    Calls Try.prog 42 #[.slice A ds.length c] w fun e w' => e = .returned (.agg #[.slice A (trimLen ds ds.length) c]) ∧ Below w.heap.size w w' := by
  unfold maxLen at hcm
  go_enter Try.func42, Try.ntmps42
  go_wp2
  go_loop [3] (fun n => ∃ k : Nat, k ≤ ds.length ∧ Hid (trimLen ds k = trimLen ds ds.length) ∧ n = .int .i64 k) (fun n => (intOf n).toNat)
  case atStart => exact ⟨_, Nat.le_refl _, rfl, rfl⟩
  case round =>
    obtain ⟨k, hk, HT, rfl⟩ := hrel
    rcases Nat.eq_zero_or_pos k with rfl | hpos
    · go_wp2
      refine bodyPost_ret (v := .agg #[.slice A 0 c]) (by simp [results, Try.results42, go_sem]) rfl ⟨by rw [← HT.out]; rfl, (Below.refl _ _).alloc (Nat.le_refl _) _⟩
    · obtain ⟨j, rfl⟩ : ∃ j, k = j + 1 := ⟨k - 1, by omega⟩
      obtain ⟨a, rfl, hb, hc⟩ := hr.get (k := j) (by rw [ints_len]; omega)
      simp only [ints, List.getElem_map] at hc
      have hc' : (w.alloc (.cells #[.slice none 0 0] 62)).cell? (a.add j) = some (.int .i64 (ds[j] : Nat)) := by
        rw [World.cell?_alloc_lt]
        · exact hc
        · have := World.block_lt_of_cell? w _ hc
          exact this
      by_cases h0 : ds[j] = 0
      · go_wp2
        go_round
        case rel => exact ⟨j, by omega, by show _ = _; rw [← HT.out, trimLen_step (by omega) h0], by go_num⟩
        case measure => simp [intOf]
      · go_wp2
        refine bodyPost_ret (v := .agg #[.slice (some a) (j + 1) c]) (by simp [results, Try.results42, go_sem]) rfl ⟨by rw [← HT.out, trimLen_stop (by omega) h0], (Below.refl _ _).alloc (Nat.le_refl _) _⟩

/-- The value v is the whole number N: its digits lie below block B. -/
def NatV (w : World) (B : Nat) (v : Value) (N : Nat) : Prop :=
  ∃ A c, v = .agg #[.slice A (digs N).length c] ∧ (digs N).length ≤ c ∧ c ≤ maxLen ∧ Row w B A (ints (digs N))

theorem NatV.below {w w' : World} {B : Nat} {v : Value} {N : Nat} (h : NatV w B v N) (hb : Below B w w') : NatV w' B v N := by
  obtain ⟨A, c, hv, hl, hm, hr⟩ := h
  exact ⟨A, c, hv, hl, hm, hr.below hb⟩
theorem NatV.up {w : World} {B B' : Nat} {v : Value} {N : Nat} (h : NatV w B v N) (hB : B ≤ B') : NatV w B' v N := by
  obtain ⟨A, c, hv, hl, hm, hr⟩ := h
  exact ⟨A, c, hv, hl, hm, hr.up hB⟩
theorem NatV.drewN {w : World} {B : Nat} {v : Value} {N : Nat} (h : NatV w B v N) (n : Nat) : NatV (w.drewN n) B v N := h
theorem NatV.zero (w : World) (B : Nat) : NatV w B (.agg #[.slice none 0 0]) 0 :=
  ⟨none, 0, by rw [digs_zero]; rfl, by rw [digs_zero]; simp, by simp [maxLen], by rw [digs_zero]; exact Row.nil _ _ _⟩

/-- The digits lie from block L on; where they lie nowhere there is no room. -/
def Fresh (L : Nat) (v : Value) : Prop := (∀ a n c, v = .agg #[.slice (some a) n c] → L ≤ a.block) ∧ ∀ n c, v = .agg #[.slice none n c] → c = 0

theorem Fresh.down {L L' : Nat} {v : Value} (h : Fresh L v) (hl : L' ≤ L) : Fresh L' v := ⟨fun a n c e => Nat.le_trans hl (h.1 a n c e), h.2⟩
theorem fresh_of {L n c : Nat} {A : Option Addr} (h1 : ∀ a, A = some a → L ≤ a.block) (h2 : A = none → c = 0) : Fresh L (.agg #[.slice A n c]) := by
  refine ⟨fun a m k e => ?_, fun m k e => ?_⟩
  · injection e with e
    have e1 := congrArg (fun x : Array Value => x[0]?) e
    simp at e1
    exact h1 a e1.1
  · injection e with e
    have e1 := congrArg (fun x : Array Value => x[0]?) e
    simp at e1
    rw [← e1.2.2]
    exact h2 e1.1

theorem NatV.setCell {w : World} {B L : Nat} {v : Value} {N : Nat} (h : NatV w B v N) (hf : Fresh L v) {p : Addr} (hp : p.block < L) (u : Value) : NatV (w.setCell p u) B v N := by
  obtain ⟨A, c, rfl, hl, hm, hr⟩ := h
  refine ⟨A, c, rfl, hl, hm, fun k x hx => ?_⟩
  obtain ⟨a, rfl, hb, hc⟩ := hr k x hx
  refine ⟨a, rfl, hb, ?_⟩
  rw [World.cell?_setCell_other]
  · exact hc
  · intro e
    have h1 := hf.1 a _ _ rfl
    have h2 : (a.add k).block = p.block := by rw [e]
    rw [addr_block] at h2
    omega

/-- Trimmed, a list of digits is its number. -/
theorem trim_nat (ds : List Nat) (hd : ∀ d ∈ ds, d < 10) (A : Option Addr) (c B L : Nat) (w : World) (hB : B ≤ w.heap.size) (hr : Row w B A (ints ds)) (hlen : ds.length ≤ c) (hcm : c ≤ maxLen) (hA : (∀ a, A = some a → L ≤ a.block) ∧ (A = none → c = 0)) :
    Calls Try.prog 42 #[.slice A ds.length c] w fun e w' => ∃ v, e = .returned v ∧ NatV w' B v (val ds) ∧ Fresh L v ∧ Below w.heap.size w w' := by
  refine (trim_any ds A c B w hr hlen hcm).mono ?_
  rintro e w' ⟨rfl, hb⟩
  have ht := trim_all ds hd
  have hl : (digs (val ds)).length = trimLen ds ds.length := by
    rw [← ht, List.length_take, Nat.min_eq_left (trimLen_le _ _)]
  refine ⟨_, rfl, ⟨A, c, by rw [hl], by rw [hl]; exact Nat.le_trans (trimLen_le _ _) hlen, hcm, ?_⟩, ?_, hb⟩
  · have hr' := (hr.below (hb.mono hB)).take (trimLen ds ds.length)
    unfold ints at hr' ⊢
    rw [← List.map_take, ht] at hr'
    exact hr'
  · exact fresh_of hA.1 hA.2

/-- A row of the call's own that is trimmed and put into the result's cell, a block below the row's: what the call ends with. -/
theorem result_nat {W w' : World} {B L : Nat} {v : Value} {N : Nat} (p : Addr) (hv : NatV w' B v N) (hf : Fresh L v) (hB : B ≤ w'.heap.size) (hp : W.heap.size ≤ p.block) (hpl : p.block < L) (hb : Below W.heap.size W w') (u : Value) :
    NatV (w'.setCell p u) (w'.setCell p u).heap.size v N ∧ Fresh W.heap.size v ∧ Below W.heap.size W (w'.setCell p u) :=
  ⟨(hv.setCell hf hpl u).up (by simpa [World.setCell] using hB), hf.down (by omega), hb.setCell hp u⟩
end Go.Proofs.Ytfaocjgelhefjaa
