/- Layer 16 (line): Pop and New. By contracts. -/
import Derived.Test.YtmpkhjbfanbfiaaLinD
namespace Go.Proofs.Ytmpkhjbfanbfiaa
open Go.RowKit Go.Shelf
set_option linter.unusedVariables false
set_option linter.unusedSimpArgs false

theorem take_cap (l : List Int) (n : Nat) : l.take (min n l.length) = l.take n := by
  rcases Nat.le_total n l.length with h | h
  · rw [Nat.min_eq_left h]
  · rw [Nat.min_eq_right h, List.take_length, List.take_of_length_le h]
theorem drop_cap (l : List Int) (n : Nat) : l.drop (min n l.length) = l.drop n := by
  rcases Nat.le_total n l.length with h | h
  · rw [Nat.min_eq_left h]
  · rw [Nat.min_eq_right h, List.drop_length, List.drop_of_length_le h]

set_option maxRecDepth 100000 in
set_option maxHeartbeats 1000000 in
theorem pop_is (g : Nat) (A : Option Addr) (c : Nat) (l : List Int) (most : Int) (w : World) (h : LineAt w g A c l) (hl : l.length ≤ 1000000) :
    Calls Try.prog 13 #[.pointer (some ⟨g, 0, none⟩), .int .i64 most] w fun e w' => ∃ v, e = .returned v ∧ w'.ownsRow w.heap.size 3 1 v (l.take most.toNat).length (ivals (l.take most.toNat)) ∧ (∃ A' c', LineAt w' g A' c' (l.drop most.toNat)) ∧ w.grownBy w' (some g) := by
  have c0 := h.cell
  have ks := fun w1 (hb : Below w.heap.size w w1) => size_is g A c l w1 (h.below hb)
  have kt := fun w1 (hb : Below w.heap.size w w1) => take_is g A c l 0 (min most.toNat l.length) w1 (h.below hb) (Nat.zero_le _) (Nat.min_le_right _ _) hl
  simp only [take_cap, drop_cap, List.drop_zero, List.take_zero, List.nil_append] at kt
  obtain ⟨m, hm⟩ : ∃ m, min most.toNat l.length = m := ⟨_, rfl⟩
  rw [hm] at kt
  have e1 : min (max most 0) (l.length : Int) = (m : Int) := by omega
  obtain ⟨p, hp⟩ : ∃ p, l.take most.toNat = p := ⟨_, rfl⟩
  obtain ⟨r, hr⟩ : ∃ r, l.drop most.toNat = r := ⟨_, rfl⟩
  rw [hp, hr] at kt
  rw [hp, hr]
  have hlt := h.lt
  have KT := Lib.hid kt
  clear h kt hm hp hr
  go_enter Try.func13, Try.ntmps13
  go_wp2
  refine region_vary [] 10 (fun w' => Below w.heap.size w w') (by kernel_rfl) (by kernel_rfl) (Below.refl _ _).drew ?_
  simp only [List.take_succ_cons, List.take_zero, List.drop_succ_cons, List.drop_zero]
  iterate 8 ((refine' SeqV.calm0 _ (by rfl) (by rfl) (fun w => ?_) ?_; rotate_left; · (go_simp <;> with_reducible rfl)); simp only [Act.put, List.setIfInBounds_toArray, List.set_cons_zero, List.set_cons_succ])
  refine SeqV.call0 (fun w1 hS => (ks w1 hS).mono (by rintro e w2 ⟨rfl, rfl⟩; exact ⟨rfl, hS, Below.refl _ _⟩)) (by rfl) (by rfl) (fun w => ?_) ?_; · go_simp
  simp only [Act.put, List.setIfInBounds_toArray, List.set_cons_zero, List.set_cons_succ]
  (refine' SeqV.calm0 _ (by rfl) (by rfl) (fun w => ?_) ?_; rotate_left; · (go_simp <;> with_reducible rfl)); simp only [Act.put, List.setIfInBounds_toArray, List.set_cons_zero, List.set_cons_succ]
  intro val w3 hS3 hR3 hD3
  go_wp2_with (go_at_call 26; refine (KT.out w3 hS3).mono ?_; rintro e w4 ⟨v4, rfl, hown4, hL4, hg4⟩)
  refine bodyPost_ret (v := v4) (by simp [results, Try.results13, go_sem]) rfl ⟨_, rfl, own_base hown4 hS3.size, hL4, grown_trans (grown_below hS3 _) hg4⟩
set_option maxRecDepth 100000 in
theorem new_below (l : List Int) (S : Nat → Prop) (A : Option Addr) (c : Nat) (w : World) (hr : Lie w S A (ivals l)) (hlen : l.length ≤ 1000000) (h : ∃ x ∈ l, x < 0) :
    Calls Try.prog 7 #[.slice A l.length c] w fun e w' => e = .returned (.tuple #[.pointer none, .int .i64 2]) ∧ Below w.heap.size w w' := by
  have k1 := any_below l S A c w true hr (by unfold maxLen; omega) (.inl ⟨rfl, h⟩)
  clear hr h
  go_enter Try.func7, Try.ntmps7
  go_wp2_with (first
    | (go_at_call 20; refine k1.mono ?_; clear k1; rintro e w1 ⟨rfl, rfl⟩))
  go_ret2
  exact ⟨rfl, Below.refl _ _⟩

set_option maxRecDepth 100000 in
theorem new_twice (l : List Int) (S : Nat → Prop) (A : Option Addr) (c : Nat) (w : World) (hr : Lie w S A (ivals l)) (hlen : l.length ≤ 1000000) (h : ¬ ∃ x ∈ l, x < 0) (h2 : ¬ l.Nodup) :
    Calls Try.prog 7 #[.slice A l.length c] w fun e w' => e = .returned (.tuple #[.pointer none, .int .i64 231]) ∧ Below w.heap.size w w' := by
  have k1 := any_below l S A c w false hr (by unfold maxLen; omega) (.inr ⟨rfl, h⟩)
  have k2 := twice_is l S A c w true hr (by omega) (.inl ⟨rfl, h2⟩)
  clear hr h h2
  go_enter Try.func7, Try.ntmps7
  go_wp2_with (first
    | (go_at_call 20; refine k1.mono ?_; clear k1; rintro e w1 ⟨rfl, rfl⟩)
    | (go_at_call 22; refine k2.mono ?_; clear k2; rintro e w2 ⟨rfl, hb2⟩))
  go_ret2
  exact ⟨rfl, hb2⟩

set_option maxRecDepth 100000 in
theorem new_full (l : List Int) (S : Nat → Prop) (A : Option Addr) (c : Nat) (w : World) (hr : Lie w S A (ivals l)) (hlen : l.length ≤ 1000000) (h : ¬ ∃ x ∈ l, x < 0) (h2 : l.Nodup) (h3 : 256 < l.length) :
    Calls Try.prog 7 #[.slice A l.length c] w fun e w' => e = .returned (.tuple #[.pointer none, .int .i64 161]) ∧ Below w.heap.size w w' := by
  have k1 := any_below l S A c w false hr (by unfold maxLen; omega) (.inr ⟨rfl, h⟩)
  have k2 := twice_is l S A c w false hr (by omega) (.inr ⟨rfl, h2⟩)
  clear hr h h2
  go_enter Try.func7, Try.ntmps7
  go_wp2_with (first
    | (go_at_call 20; refine k1.mono ?_; clear k1; rintro e w1 ⟨rfl, rfl⟩)
    | (go_at_call 22; refine k2.mono ?_; clear k2; rintro e w2 ⟨rfl, hb2⟩))
  go_ret2
  exact ⟨rfl, hb2⟩

/-- A bare line is empty. -/
theorem line_bare (w : World) : LineAt (w.alloc (.cells #[.slice none 0 0] 50)) w.heap.size none 0 [] :=
  ⟨new_row w _ _ 0 _ rfl, by simp only [World.frozen?, heap_alloc_new]; rfl, Nat.le_refl _, Nat.zero_le _, Lie.nil _ _ _, fun _ => rfl⟩
set_option maxRecDepth 100000 in
theorem new_ok (l : List Int) (S : Nat → Prop) (A : Option Addr) (c : Nat) (w : World) (hr : Lie w S A (ivals l)) (hA : A = none → c = 0) (h : ¬ ∃ x ∈ l, x < 0) (h2 : l.Nodup) (h3 : l.length ≤ 256) :
    Calls Try.prog 7 #[.slice A l.length c] w fun e w' => ∃ g, e = .returned (.tuple #[.pointer (some ⟨g, 0, none⟩), .int .i64 0]) ∧ w.heap.size ≤ g ∧ (∃ A' c', LineAt w' g A' c' l) ∧ Below w.heap.size w w' := by
  have k1 := any_below l S A c w false hr (by unfold maxLen; omega) (.inr ⟨rfl, h⟩)
  have k2 := twice_is l S A c w false hr (by omega) (.inr ⟨rfl, h2⟩)
  have kj := fun (w2 : World) (hb : Below w.heap.size w w2) => join_is w2.heap.size none 0 [] l A c S (w2.alloc (.cells #[.slice none 0 0] 50)) (line_bare w2) (hr.below (hb.alloc hb.size _)) hA (by simp; omega)
  simp only [List.nil_append] at kj
  have KJ := Lib.hid kj
  clear hr h h2 hA kj
  go_enter Try.func7, Try.ntmps7
  go_wp2_with (first
    | (go_at_call 20; refine k1.mono ?_; clear k1; rintro e w1 ⟨rfl, rfl⟩)
    | (go_at_call 22; refine k2.mono ?_; clear k2; rintro e w2 ⟨rfl, hb2⟩)
    | (go_at_call 23; refine (KJ.out w2 hb2).mono ?_; clear KJ; rintro e w4 ⟨rfl, hL4, hg4⟩))
  go_ret2
  exact ⟨w2.heap.size, rfl, hb2.size, hL4, (hb2.alloc hb2.size _).grown hg4 (Nat.le_trans hb2.size (by simp)) (fun k hk => by cases hk; exact hb2.size)⟩
end Go.Proofs.Ytmpkhjbfanbfiaa
