/- Layer 16 (line): the document's Find, Wrong, Same, Push. By contracts. -/
import Derived.Test.YtmpkhjbfanbfiaaLinA
import Derived.Test.YtmpkhjbfanbfiaaPart
namespace Go.Proofs.Ytmpkhjbfanbfiaa
open Go.RowKit Go.Shelf
set_option linter.unusedVariables false
set_option linter.unusedSimpArgs false

set_option maxRecDepth 100000 in
set_option maxHeartbeats 1000000 in
theorem rfind_is (l : List Int) (x : Int) (S : Nat → Prop) (A : Option Addr) (c : Nat) (w : World) (hr : Lie w S A (ivals l)) (hlen : l.length ≤ maxLen) :
    Calls Try.prog 14 #[.slice A l.length c, .int .i64 x] w fun e w' => e = .returned (.int .i64 (Lib.idxOf l x)) ∧ w = w' := by
  unfold maxLen at hlen
  go_enter Try.func14, Try.ntmps14
  go_wp2
  go_loop [5] (fun i => ∃ k : Nat, k ≤ l.length ∧ i = .int .i64 k ∧ Before l x k) (fun i => l.length - (intOf i).toNat)
  case atStart => exact ⟨0, Nat.zero_le _, rfl, Before.zero _ _⟩
  case round =>
    obtain ⟨k, hk, rfl, hbe⟩ := hrel
    by_cases hlt : k < l.length
    · obtain ⟨a, rfl, hb, hc⟩ := hr.int hlt
      have BE := Lib.hid hbe
      clear hbe
      obtain ⟨y, hy⟩ : ∃ y, l[k] = y := ⟨_, rfl⟩
      rw [hy] at hc
      have HY := Lib.hid hy
      clear hy
      by_cases hxy : y = x
      · subst hxy
        go_wp2
        go_ret
        exact ⟨by rw [fnd_hit BE.out hlt HY.out]; rfl, rfl⟩
      · go_wp2
        go_round
        case rel => exact ⟨k + 1, by omega, by go_num, BE.out.succ hlt (by rw [HY.out]; exact hxy)⟩
        case measure => simp [intOf]; omega
    · obtain rfl : k = l.length := by omega
      go_wp2
      go_ret
      exact ⟨by rw [fnd_miss hbe]; rfl, rfl⟩

set_option maxRecDepth 100000 in
set_option maxHeartbeats 1000000 in
theorem rwrong_is (l : List Int) (S : Nat → Prop) (A : Option Addr) (c : Nat) (w : World) (hr : Lie w S A (ivals l)) (hc : l.length ≤ c) (hcm : c ≤ maxLen) :
    Calls Try.prog 8 #[.slice A l.length c] w fun e w' => e = .returned (.int .i64 (wrong l : Nat)) ∧ Below w.heap.size w w' := by
  unfold maxLen at hcm
  have HW : ∀ n, wrong l = n → Hid (wrong l = n) := fun n h => h
  go_enter Try.func8, Try.ntmps8
  go_wp2
  go_loop [3] (fun i => ∃ k : Nat, k ≤ l.length ∧ i = .int .i64 k ∧ Above l k) (fun i => l.length - (intOf i).toNat)
  case atStart => exact ⟨0, Nat.zero_le _, rfl, Above.zero _⟩
  case round =>
    obtain ⟨k, hk, rfl, hab⟩ := hrel
    have HA := Lib.hid hab
    clear hab
    by_cases hlt : k < l.length
    · obtain ⟨a, rfl, hb, hcl⟩ := hr.int hlt
      obtain ⟨y, hy⟩ : ∃ y, l[k] = y := ⟨_, rfl⟩
      rw [hy] at hcl
      have HY := Lib.hid hy
      clear hy
      by_cases hx0 : y < 0
      · have hw := HW 2 (wrong_below (below_at hlt (by rw [HY.out]; exact hx0)))
        clear HW
        go_wp2
        go_ret
        exact ⟨by rw [hw.out]; rfl, Below.refl _ _⟩
      · have h0 : 0 ≤ y := by omega
        clear HW
        go_wp2
        go_round
        case rel => exact ⟨k + 1, by omega, by go_num, HA.out.succ hlt (by rw [HY.out]; exact h0)⟩
        case measure => simp [intOf]; omega
    · obtain rfl : k = l.length := by omega
      have hno := HA.out.all
      have HN := Lib.hid hno
      clear HA hno
      go_wp2
      go_loopw [4] (fun i wr => ∃ k : Nat, k ≤ l.length ∧ i = .int .i64 (k : Int) ∧ (l.take k).Nodup ∧ Below w.heap.size w wr) (fun i _ => l.length - (intOf i).toNat)
      case atStart => exact ⟨0, Nat.zero_le _, rfl, by simp, Below.refl _ _⟩
      case round =>
        obtain ⟨k, hk2, rfl, hnd, hB⟩ := hrel
        have HND := Lib.hid hnd
        clear hnd
        by_cases hlt : k < l.length
        · obtain ⟨a, rfl, hb, hcl⟩ := hr.int hlt
          obtain ⟨y, hy⟩ : ∃ y, l[k] = y := ⟨_, rfl⟩
          rw [hy] at hcl
          have HY := Lib.hid hy
          have n1 : (l.take k).length = k := by rw [List.length_take]; omega
          have kf := fun (w1 : World) (h : Below w.heap.size w w1) => rfind_is (l.take k) y S (some a) c w1 (fun j v hv => by
            obtain ⟨a', h1, h2, h3⟩ := hr.front k j v hv
            exact ⟨a', h1, h2, (h.cell (World.block_lt_of_cell? w _ h3)).trans h3⟩) (by rw [n1]; unfold maxLen; omega)
          rw [n1] at kf
          obtain ⟨z, hz⟩ : ∃ z, Lib.idxOf (l.take k) y = z := ⟨_, rfl⟩
          have hcs := fnd_cases (l.take k) y
          rw [hz] at hcs kf
          have cells : ∀ w', Below wr.heap.size wr w' → w'.cell? (a.add k) = some (.int .i64 y) := fun w' h => ((hB.trans (h.mono hB.size)).cell (World.block_lt_of_cell? w _ hcl)).trans hcl
          have kf2 : ∀ (p : Nat) w', Below wr.heap.size wr w' → Calls Try.prog 14 #[.slice (some a) k c, .int .i64 y] w' fun e w'' => e = .returned (.int .i64 z) ∧ Below wr.heap.size wr w'' := fun p w' h => (kf w' (hB.trans (h.mono hB.size))).mono (by rintro e w'' ⟨rfl, rfl⟩; exact ⟨rfl, h⟩)
          have hkc : k ≤ c := by omega
          have hki : (k : Int) < (l.length : Int) := by omega
          have hk0 : (0 : Int) ≤ (k : Int) := by omega
          clear n1 kf hz hy
          rcases hcs with ⟨hno, hz⟩ | ⟨j, hj, hjx, hz, hin⟩
          · subst hz
            have H1 := nodup_take_succ hlt HND.out (by rw [HY.out]; exact hno)
            have HN2 := Lib.hid H1
            clear H1 hno
            go_wp2
            refine region_list [] (fun _ w' => Below wr.heap.size wr w') (by kernel_rfl) (by kernel_rfl) (Below.refl _ _).drew ?_
            iterate 2 ((refine' SeqS.calm _ (by rfl) (by rfl) (fun w => ?_) ?_; rotate_left; · (go_simp <;> with_reducible rfl)); simp only [Act.put, List.setIfInBounds_toArray, List.set_cons_zero, List.set_cons_succ])
            refine SeqS.take _ (by rfl) (by rfl) (fun ph w' hS => exec_part_to _ _ rfl Try.underlying22 Try.sizeOf3 rfl rfl hkc) ?_
            simp only [Act.put, List.setIfInBounds_toArray, List.set_cons_zero, List.set_cons_succ]
            iterate 3 ((refine' SeqS.calm _ (by rfl) (by rfl) (fun w => ?_) ?_; rotate_left; · (go_simp <;> with_reducible rfl)); simp only [Act.put, List.setIfInBounds_toArray, List.set_cons_zero, List.set_cons_succ])
            (refine' SeqS.take _ (by rfl) (by rfl) (fun ph w' hS => ?_) ?_; rotate_left; · (have x0 := cells w' hS; go_simp <;> with_reducible rfl))
            simp only [Act.put, List.setIfInBounds_toArray, List.set_cons_zero, List.set_cons_succ]
            refine SeqS.call kf2 (by rfl) (by rfl) (fun w => ?_) ?_; · go_simp
            simp only [Act.put, List.setIfInBounds_toArray, List.set_cons_zero, List.set_cons_succ]
            (refine' SeqS.calm _ (by rfl) (by rfl) (fun w => ?_) ?_; rotate_left; · (go_simp <;> with_reducible rfl)); simp only [Act.put, List.setIfInBounds_toArray, List.set_cons_zero, List.set_cons_succ]
            intro w3 hw3
            have hB3 := hB.trans (hw3.mono hB.size)
            clear cells kf2
            go_wp2
            go_roundw
            case rel => exact ⟨k + 1, by omega, by go_num, HN2.out, hB3⟩
            case measure => simp [intOf]; omega
          · subst hz
            have hw := HW 231 (wrong_twice HN.out (twice_of_take hlt (by rw [HY.out]; exact hin)))
            clear HW hin hjx
            go_wp2
            refine region_list [] (fun _ w' => Below wr.heap.size wr w') (by kernel_rfl) (by kernel_rfl) (Below.refl _ _).drew ?_
            iterate 2 ((refine' SeqS.calm _ (by rfl) (by rfl) (fun w => ?_) ?_; rotate_left; · (go_simp <;> with_reducible rfl)); simp only [Act.put, List.setIfInBounds_toArray, List.set_cons_zero, List.set_cons_succ])
            refine SeqS.take _ (by rfl) (by rfl) (fun ph w' hS => exec_part_to _ _ rfl Try.underlying22 Try.sizeOf3 rfl rfl hkc) ?_
            simp only [Act.put, List.setIfInBounds_toArray, List.set_cons_zero, List.set_cons_succ]
            iterate 3 ((refine' SeqS.calm _ (by rfl) (by rfl) (fun w => ?_) ?_; rotate_left; · (go_simp <;> with_reducible rfl)); simp only [Act.put, List.setIfInBounds_toArray, List.set_cons_zero, List.set_cons_succ])
            (refine' SeqS.take _ (by rfl) (by rfl) (fun ph w' hS => ?_) ?_; rotate_left; · (have x0 := cells w' hS; go_simp <;> with_reducible rfl))
            simp only [Act.put, List.setIfInBounds_toArray, List.set_cons_zero, List.set_cons_succ]
            refine SeqS.call kf2 (by rfl) (by rfl) (fun w => ?_) ?_; · go_simp
            simp only [Act.put, List.setIfInBounds_toArray, List.set_cons_zero, List.set_cons_succ]
            (refine' SeqS.calm _ (by rfl) (by rfl) (fun w => ?_) ?_; rotate_left; · (go_simp <;> with_reducible rfl)); simp only [Act.put, List.setIfInBounds_toArray, List.set_cons_zero, List.set_cons_succ]
            intro w3 hw3
            have hB3 := hB.trans (hw3.mono hB.size)
            clear cells kf2
            go_wp2
            go_ret
            exact ⟨by rw [hw.out]; rfl, hB3⟩
        · obtain rfl : k = l.length := by omega
          have hnd := HND.out
          rw [List.take_length] at hnd
          by_cases h3 : 256 < l.length
          · have hw := HW 161 (wrong_full HN.out hnd h3)
            clear HW hnd
            go_wp2
            go_ret
            exact ⟨by rw [hw.out]; rfl, hB⟩
          · have hw := HW 0 (wrong_none HN.out hnd h3)
            clear HW hnd
            go_wp2
            go_ret
            exact ⟨by rw [hw.out]; rfl, hB⟩

set_option maxRecDepth 100000 in
set_option maxHeartbeats 1000000 in
theorem rsame_true (l : List Int) (S S' : Nat → Prop) (A A' : Option Addr) (c c' : Nat) (w : World) (hr : Lie w S A (ivals l)) (hr' : Lie w S' A' (ivals l)) (hlen : l.length ≤ maxLen) :
    Calls Try.prog 12 #[.slice A l.length c, .slice A' l.length c'] w fun e w' => e = .returned (.bool true) ∧ Below w.heap.size w w' := by
  unfold maxLen at hlen
  go_enter Try.func12, Try.ntmps12
  go_wp2
  go_loopw [5] (fun i wr => ∃ k q : Nat, k ≤ l.length ∧ i = .int .i64 k ∧ wr = w.drewN q) (fun i _ => l.length - (intOf i).toNat)
  case atStart => exact ⟨0, 0, Nat.zero_le _, rfl, rfl⟩
  case round =>
    obtain ⟨k, q, hk, rfl, rfl⟩ := hrel
    by_cases hlt : k < l.length
    · obtain ⟨a, rfl, hb, hc⟩ := hr.int hlt
      obtain ⟨a', rfl, hb', hc'⟩ := hr'.int hlt
      have hki : (k : Int) < (l.length : Int) := by omega
      have hk0 : (0 : Int) ≤ (k : Int) := by omega
      go_wp2
      go_quiet (fail)
      go_wp2
      go_roundw
      case rel => exact ⟨k + 1, _, by omega, by go_num, rfl⟩
      case measure => simp [intOf]; omega
    · obtain rfl : k = l.length := by omega
      go_wp2
      go_ret
      exact ⟨rfl, below_drewN (Below.refl _ _) _⟩
end Go.Proofs.Ytmpkhjbfanbfiaa
