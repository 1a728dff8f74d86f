/- Layer 16 (line): what is below 0, what stands twice; a row in memory and its methods. By contracts. -/
import Derived.Test.YtmpkhjbfanbfiaaLisB
import Derived.Test.YtmpkhjbfanbfiaaSeqV
import Derived.Shelf.Abstract
namespace Go.Proofs.Ytmpkhjbfanbfiaa
open Go.RowKit Go.Shelf
set_option linter.unusedVariables false
set_option linter.unusedSimpArgs false

theorem below_is (x : Int) (b : Bool) (w : World) (h : decide (x < 0) = b) :
    Calls Try.prog 21 #[.int .i64 x] w fun e w' => e = .returned (.bool b) ∧ w = w' := by
  subst h
  go_enter Try.func21, Try.ntmps21
  go_wp2
  go_ret
  exact ⟨rfl, rfl⟩
/-- The first k are 0 or above. -/
def Above (l : List Int) (k : Nat) : Prop := ∀ j x, j < k → l[j]? = some x → 0 ≤ x
theorem Above.zero (l : List Int) : Above l 0 := fun j x hj => absurd hj (Nat.not_lt_zero _)
theorem Above.succ {l : List Int} {k : Nat} (h : Above l k) (hk : k < l.length) (h0 : 0 ≤ l[k]) : Above l (k + 1) := fun j x hj hx => by
  by_cases e : j = k
  · subst e
    rw [List.getElem?_eq_getElem hk] at hx
    cases hx
    exact h0
  · exact h j x (by omega) hx
theorem Above.all {l : List Int} (h : Above l l.length) : ¬ ∃ x ∈ l, x < 0 := fun ⟨x, hm, hx⟩ => by
  obtain ⟨j, hj, e⟩ := List.getElem_of_mem hm
  have := h j x hj (by rw [List.getElem?_eq_getElem hj, e])
  omega
theorem below_at {l : List Int} {k : Nat} (hk : k < l.length) (h : l[k] < 0) : ∃ x ∈ l, x < 0 := ⟨_, List.getElem_mem hk, h⟩

set_option maxRecDepth 100000 in
set_option maxHeartbeats 1000000 in
theorem index_below_no (l : List Int) (S : Nat → Prop) (A : Option Addr) (c : Nat) (w : World) (hr : Lie w S A (ivals l)) (hlen : l.length ≤ maxLen) (h : ¬ ∃ x ∈ l, x < 0) :
    Calls Try.prog 28 #[.slice A l.length c, .func (.func 21) #[] #[]] w fun e w' => e = .returned (.int .i64 (-1)) ∧ w = w' := by
  unfold maxLen at hlen
  have eg := enters_of (P := Try.prog) Try.func21 (by kernel_rfl) rfl
  have HN := Lib.hid h
  clear h
  go_enter Try.func28, Try.ntmps28
  go_wp2
  go_loop [8] (fun i => ∃ k : Nat, k ≤ l.length ∧ i = .int .i64 k) (fun i => l.length - (intOf i).toNat)
  case atStart => exact ⟨0, Nat.zero_le _, rfl⟩
  case round =>
    obtain ⟨k, hk, rfl⟩ := hrel
    by_cases hlt : k < l.length
    · obtain ⟨a, rfl, hb, hc⟩ := hr.int hlt
      have hx0 : ¬ l[k] < 0 := fun hx => HN.out (below_at hlt hx)
      obtain ⟨y, hy⟩ : ∃ y, l[k] = y := ⟨_, rfl⟩
      rw [hy] at hc hx0
      clear hy
      have kb := fun w => below_is y false w (decide_eq_false hx0)
      clear hx0
      go_wp2_with (first
        | (go_at_call 21; refine (kb _).mono ?_; clear kb; rintro e w' ⟨rfl, rfl⟩)
        | (go_at_fn 21; refine (kb _).mono ?_; clear kb; rintro e w' ⟨rfl, rfl⟩))
      go_round
      case rel => exact ⟨k + 1, by omega, by go_num⟩
      case measure => simp [intOf]; omega
    · obtain rfl : k = l.length := by omega
      go_wp2
      go_ret
      exact ⟨rfl, rfl⟩

set_option maxRecDepth 100000 in
set_option maxHeartbeats 1000000 in
theorem index_below_yes (l : List Int) (S : Nat → Prop) (A : Option Addr) (c : Nat) (w : World) (hr : Lie w S A (ivals l)) (hlen : l.length ≤ maxLen) (h : ∃ x ∈ l, x < 0) :
    Calls Try.prog 28 #[.slice A l.length c, .func (.func 21) #[] #[]] w fun e w' => (∃ k : Nat, e = .returned (.int .i64 (k : Int)) ∧ k ≤ l.length) ∧ w = w' := by
  unfold maxLen at hlen
  have eg := enters_of (P := Try.prog) Try.func21 (by kernel_rfl) rfl
  have HN := Lib.hid h
  clear h
  go_enter Try.func28, Try.ntmps28
  go_wp2
  go_loop [8] (fun i => ∃ k : Nat, k ≤ l.length ∧ i = .int .i64 k ∧ Above l k) (fun i => l.length - (intOf i).toNat)
  case atStart => exact ⟨0, Nat.zero_le _, rfl, Above.zero _⟩
  case round =>
    obtain ⟨k, hk, rfl, hab⟩ := hrel
    have HA := Lib.hid hab
    clear hab
    by_cases hlt : k < l.length
    · obtain ⟨a, rfl, hb, hc⟩ := hr.int hlt
      obtain ⟨y, hy⟩ : ∃ y, l[k] = y := ⟨_, rfl⟩
      rw [hy] at hc
      have HY := Lib.hid hy
      clear hy
      by_cases hx0 : y < 0
      · have kb := fun w => below_is y true w (decide_eq_true hx0)
        clear hx0
        go_wp2_with (first
          | (go_at_call 21; refine (kb _).mono ?_; clear kb; rintro e w' ⟨rfl, rfl⟩)
          | (go_at_fn 21; refine (kb _).mono ?_; clear kb; rintro e w' ⟨rfl, rfl⟩))
        go_ret
        exact ⟨⟨k, rfl, by omega⟩, rfl⟩
      · have kb := fun w => below_is y false w (decide_eq_false hx0)
        have h0 : 0 ≤ y := by omega
        have H0 := Lib.hid h0
        clear hx0 h0
        go_wp2_with (first
          | (go_at_call 21; refine (kb _).mono ?_; clear kb; rintro e w' ⟨rfl, rfl⟩)
          | (go_at_fn 21; refine (kb _).mono ?_; clear kb; rintro e w' ⟨rfl, rfl⟩))
        go_round
        case rel => exact ⟨k + 1, by omega, by go_num, HA.out.succ hlt (by rw [HY.out]; exact H0.out)⟩
        case measure => simp [intOf]; omega
    · obtain rfl : k = l.length := by omega
      exact absurd HN.out HA.out.all

set_option maxRecDepth 100000 in
theorem any_below (l : List Int) (S : Nat → Prop) (A : Option Addr) (c : Nat) (w : World) (b : Bool) (hr : Lie w S A (ivals l)) (hlen : l.length ≤ maxLen) (h : (b = true ∧ ∃ x ∈ l, x < 0) ∨ (b = false ∧ ¬ ∃ x ∈ l, x < 0)) :
    Calls Try.prog 20 #[.slice A l.length c, .func (.func 21) #[] #[]] w fun e w' => e = .returned (.bool b) ∧ w = w' := by
  rcases h with ⟨rfl, h⟩ | ⟨rfl, h⟩
  · have k1 := index_below_yes l S A c w hr hlen h
    unfold maxLen at hlen
    clear h hr
    go_enter Try.func20, Try.ntmps20
    go_wp2_with (go_at_call 28; refine k1.mono ?_; clear k1; rintro e w' ⟨⟨k, rfl, hk⟩, rfl⟩)
    go_ret
    exact ⟨by simp, rfl⟩
  · have k1 := index_below_no l S A c w hr hlen h
    clear h hr hlen
    go_enter Try.func20, Try.ntmps20
    go_wp2_with (go_at_call 28; refine k1.mono ?_; clear k1; rintro e w' ⟨rfl, rfl⟩)
    go_ret
    exact ⟨by simp, rfl⟩

set_option maxRecDepth 100000 in
set_option maxHeartbeats 1000000 in
/-- Whether two are the same. -/
theorem twice_is (l : List Int) (S : Nat → Prop) (A : Option Addr) (c : Nat) (w : World) (b : Bool) (hr : Lie w S A (ivals l)) (hlen : l.length ≤ 1099511627776) (h : (b = true ∧ ¬ l.Nodup) ∨ (b = false ∧ l.Nodup)) :
    Calls Try.prog 22 #[.slice A l.length c] w fun e w' => e = .returned (.bool b) ∧ Below w.heap.size w w' := by
  have k1 := iclone_is l S A c w hr hlen
  have k2 := fun v w1 h => isort_is l w.heap.size v w1 h hlen
  have hp := (sorted_perm l).length_eq
  have k3 := fun v w1 h => icompact_is (l.mergeSort fun x y => decide (x ≤ y)) w.heap.size v w1 h (by rw [hp]; exact hlen)
  rw [hp] at k3
  have hcl := compact_lt l
  have hle := compact_len_le (l.mergeSort fun x y => decide (x ≤ y))
  rw [hp] at hle
  obtain ⟨m, hm⟩ : ∃ m, (Lib.compact (l.mergeSort fun x y => decide (x ≤ y))).length = m := ⟨_, rfl⟩
  rw [hm] at k3 hcl hle
  have hb2 : decide (m < l.length) = b := by
    rcases h with ⟨rfl, h⟩ | ⟨rfl, h⟩
    · exact decide_eq_true (hcl.2 h)
    · exact decide_eq_false (fun hx => hcl.1 hx h)
  subst hb2
  clear h hcl hm hr
  have hp2 := Lib.hid hp
  clear hp
  go_enter Try.func22, Try.ntmps22
  go_wp2_with (first
    | (go_at_call 29; refine k1.mono ?_; clear k1; rintro e w1 ⟨v1, rfl, hown1, hb1⟩)
    | (go_at_call 30; refine (k2 _ _ hown1).mono ?_; clear k2; rintro e w2 ⟨rfl, hown2, hb2⟩; have hb2 := hb2 _ (Nat.le_refl _) hb1.size)
    | (go_at_call 31; refine (k3 _ _ hown2).mono ?_; clear k3; rintro e w3 ⟨⟨A3, c3, rfl⟩, hb3⟩; have hb3 := hb3 _ (Nat.le_refl _) (Nat.le_trans hb1.size hb2.size)))
  go_ret
  exact ⟨by first | rfl | simp, (hb1.trans hb2).trans hb3⟩
end Go.Proofs.Ytmpkhjbfanbfiaa
