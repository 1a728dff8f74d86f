/- The reference of layer 3 (root): how far the squares are. By contracts. -/
import Derived.Test.YtcofdpcngklblaaRef3
import Derived.Deep.RegionHeld3
namespace Go.Proofs.Ytcofdpcngklblaa
open Go.RowKit
set_option linter.unusedVariables false

theorem ref_below (n r b : Nat) (w : World) (hn : n < 18446744073709551616) (h : Hid (IsRoot n r)) (hb : Hid (r * r + b = n)) :
    Calls Try.prog 10 #[.int .u64 n] w fun e w' => e = .returned (.int .u64 b) ∧ Below w.heap.size w w' := by
  have hr := h.out.word hn
  obtain ⟨M, hM⟩ : ∃ M, Hid (r * r = M) := ⟨_, rfl⟩
  have hMb : n - M = b := by have := hb.out; have := hM.out; omega
  have hMn : M ≤ n := by have := hb.out; have := hM.out; omega
  have hbn : b ≤ 18446744073709551615 := by omega
  have HB := Lib.hid hMb
  clear hMb
  have ln := word_digs hn
  have k1 := fun w => of_any n w (by omega)
  have k2 := fun w => ref_root n r w hn h
  have k3 := fun w => ref_square r M w (by omega) hM
  have k4 : ∀ (v1 v2 : Value) (w : World), NatV w w.heap.size v1 n → NatV w w.heap.size v2 M → Calls Try.prog 17 #[v1, v2] w fun e w' => ∃ v, e = .returned v ∧ NatV w' w'.heap.size v b ∧ Fresh w.heap.size v ∧ Below w.heap.size w w' := by
    intro v1 v2 w h1 h2
    rw [← HB.out]
    exact sub_nat n M v1 v2 w.heap.size w h1 h2 (Nat.le_refl _) (by omega) hMn
  have k5 : ∀ (v : Value) (w : World), NatV w w.heap.size v b → Calls Try.prog 16 #[v] w fun e w' => e = .returned (.tuple #[.int .u64 b, .bool true]) ∧ Below w.heap.size w w' :=
    fun v w h1 => uint_fits b v w.heap.size w h1 (Nat.le_refl _) hbn
  go_enter Try.func10, Try.ntmps10
  go_wp2_with (first
    | (go_at_call 15; refine (k1 _).mono ?_; rintro e w1 ⟨v1, rfl, hv1, hf1, hb1⟩)
    | (go_at_call 9; refine (k2 _).mono ?_; rintro e w2 ⟨rfl, hb2⟩)
    | (go_at_call 14; refine (k3 _).mono ?_; rintro e w3 ⟨v3, rfl, hv3, hf3, hb3⟩)
    | (go_at_call 17; refine (k4 v1 v3 w3 ((((hv1.below hb2).up hb2.size).below hb3).up hb3.size) hv3).mono ?_; rintro e w4 ⟨v4, rfl, hv4, hf4, hb4⟩)
    | (go_at_call 16; refine (k5 v4 w4 hv4).mono ?_; rintro e w5 ⟨rfl, hb5⟩))
  go_ret
  exact ⟨rfl, Below.then (Below.then (Below.then (Below.then hb1 hb2) hb3) hb4) hb5⟩

set_option maxRecDepth 100000 in
theorem ref_above_none (n : Nat) (w : World) (hn : n < 18446744073709551616) (h : Hid (IsRoot n 4294967295)) :
    Calls Try.prog 11 #[.int .u64 n] w fun e w' => e = .returned (.int .u64 0) ∧ Below w.heap.size w w' := by
  have k2 : ∀ w, Calls Try.prog 9 #[.int .u64 n] w fun e w' => e = .returned (.int .u64 4294967295) ∧ Below w.heap.size w w' := fun w => ref_root n 4294967295 w hn h
  have k3 : ∀ w, Calls Try.prog 14 #[.int .u64 4294967296] w fun e w' => ∃ v, e = .returned v ∧ NatV w' w'.heap.size v 18446744073709551616 ∧ Fresh w.heap.size v ∧ Below w.heap.size w w' :=
    fun w => ref_square 4294967296 18446744073709551616 w (by omega) rfl
  have k5 : ∀ (v : Value) (w : World) (B : Nat), NatV w B v 18446744073709551616 → B ≤ w.heap.size → Calls Try.prog 16 #[v] w fun e w' => e = .returned (.tuple #[.int .u64 0, .bool false]) ∧ Below w.heap.size w w' :=
    fun v w B h1 hB => uint_big 18446744073709551616 v B w h1 hB (by omega)
  go_enter Try.func11, Try.ntmps11
  go_wp2_with (first
    | (go_at_call 9; refine (k2 _).mono ?_; rintro e w2 ⟨rfl, hb2⟩)
    | (go_at_call 14; refine (k3 _).mono ?_; rintro e w3 ⟨v3, rfl, hv3, hf3, hb3⟩; obtain ⟨A3, c3, rfl, _⟩ := id hv3)
    | (go_at_call 16; refine (k5 _ _ w3.heap.size (hv3.below ((Below.refl _ _).alloc (Nat.le_refl _) _)) (by simp)).mono ?_; rintro e w5 ⟨rfl, hb5⟩))
  go_ret
  exact ⟨rfl, (Below.then hb2 hb3).trans ((((Below.refl _ _).alloc (Nat.le_refl _) _).trans (hb5.mono (by simp))).mono (Below.then hb2 hb3).size)⟩

set_option maxRecDepth 100000 in
theorem ref_above_some (n r a : Nat) (w : World) (hn : n < 18446744073709551616) (h : Hid (IsRoot n r)) (hl : r < 4294967295) (ha : Hid (n + a = (r + 1) * (r + 1))) :
    Calls Try.prog 11 #[.int .u64 n] w fun e w' => e = .returned (.int .u64 a) ∧ Below w.heap.size w w' := by
  obtain ⟨S, hS⟩ : ∃ S, Hid ((r + 1) * (r + 1) = S) := ⟨_, rfl⟩
  have hS1 : S ≤ 18446744073709551615 := by
    rw [← hS.out]
    have := Nat.mul_le_mul (show r + 1 ≤ 4294967295 by omega) (show r + 1 ≤ 4294967295 by omega)
    omega
  have hSa : S - n = a := by have := ha.out; have := hS.out; omega
  have hSn : n ≤ S := by have := ha.out; have := hS.out; omega
  have han : a ≤ 18446744073709551615 := by omega
  have ls : (digs S).length ≤ 20 := word_digs (by omega)
  have HA := Lib.hid hSa
  clear hSa
  have k1 := fun w => of_any n w (by omega)
  have k2 := fun w => ref_root n r w hn h
  have k3 : ∀ w, Calls Try.prog 14 #[.int .u64 ((r : Int) + 1)] w fun e w' => ∃ v, e = .returned v ∧ NatV w' w'.heap.size v S ∧ Fresh w.heap.size v ∧ Below w.heap.size w w' :=
    fun w => ref_square (r + 1) S w (by omega) hS
  have k4 : ∀ (v1 v2 : Value) (w : World), NatV w w.heap.size v1 S → NatV w w.heap.size v2 n → Calls Try.prog 17 #[v1, v2] w fun e w' => ∃ v, e = .returned v ∧ NatV w' w'.heap.size v a ∧ Fresh w.heap.size v ∧ Below w.heap.size w w' := by
    intro v1 v2 w h1 h2
    rw [← HA.out]
    exact sub_nat S n v1 v2 w.heap.size w h1 h2 (Nat.le_refl _) (by omega) hSn
  have k5 : ∀ (v : Value) (w : World) (B N : Nat), N ≤ 18446744073709551615 → NatV w B v N → B ≤ w.heap.size → Calls Try.prog 16 #[v] w fun e w' => e = .returned (.tuple #[.int .u64 N, .bool true]) ∧ Below w.heap.size w w' :=
    fun v w B N hN h1 hB => uint_fits N v B w h1 hB hN
  have y1 : IntKind.u64.wrap ((r : Int) + 1) = (r : Int) + 1 := IntWalk.u64_in _ (by omega)
  have HL := Lib.hid hl
  clear hl
  go_enter Try.func11, Try.ntmps11
  go_wp2_with (first
    | (go_at_call 9; refine (k2 _).mono ?_; rintro e w2 ⟨rfl, hb2⟩)
    | (go_at_call 14; refine (k3 _).mono ?_; rintro e w3 ⟨v3, rfl, hv3, hf3, hb3⟩; obtain ⟨A3, c3, rfl, _⟩ := id hv3)
    | (go_at_call 16; refine (k5 _ _ w3.heap.size S hS1 (hv3.below ((Below.refl _ _).alloc (Nat.le_refl _) _)) (by simp)).mono ?_; rintro e w5 ⟨rfl, hb5⟩))
  have hb5' : Below (w3.heap.size + 1) (w3.alloc (.cells #[.slice A3 (digs S).length c3] 35)) w5 := by simpa using hb5
  go_region_held3 (fun w' => w'.cell? ⟨w3.heap.size, 0, none⟩ = some (.slice A3 (digs S).length c3) ∧ Below (w3.heap.size + 1) (w3.alloc (.cells #[.slice A3 (digs S).length c3] 35)) w')
    (first | exact ⟨boxed1 hb5'.drew, hb5'.drew⟩ | exact keep1 (by assumption) hb8 | exact keep1 (by assumption) hb7 | exact keep1 (by assumption) hb6)
    (first
      | (go_at_call 15; refine (k1 _).mono ?_; rintro e w6 ⟨v6, rfl, hv6, hf6, hb6⟩)
      | (go_at_call 17; refine (k4 _ _ w6 (keep_nat hv3 (Nat.le_refl _) (by assumption)) hv6).mono ?_; rintro e w7 ⟨v7, rfl, hv7, hf7, hb7⟩)
      | (go_at_call 16; refine (k5 _ w7 w7.heap.size a han hv7 (Nat.le_refl _)).mono ?_; rintro e w8 ⟨rfl, hb8⟩))
  have hheld : w8.cell? ⟨w3.heap.size, 0, none⟩ = some (.slice A3 (digs S).length c3) ∧ Below (w3.heap.size + 1) (w3.alloc (.cells #[.slice A3 (digs S).length c3] 35)) w8 := by assumption
  have hold := keep_old hheld
  clear hheld
  go_wp2
  go_ret
  exact ⟨rfl, Below.then (Below.then hb2 hb3) hold⟩
end Go.Proofs.Ytcofdpcngklblaa
