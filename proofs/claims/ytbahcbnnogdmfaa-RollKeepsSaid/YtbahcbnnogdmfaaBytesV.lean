/- A copy of bytes; two texts of bytes held against each other. By contracts. -/
import Derived.Test.YtbahcbnnogdmfaaBytes
import Derived.Laws.AppendOwnNone
import Derived.Lib.SliceRun
namespace Go.Proofs.Ytbahcbnnogdmfaa
open Go.RowKit
set_option linter.unusedVariables false
set_option linter.unusedSimpArgs false

set_option maxRecDepth 100000 in
set_option maxHeartbeats 1000000 in
theorem clone_is (xs : List Nat) (S : Nat → Prop) (A : Option Addr) (c : Nat) (w : World) (hx : Lies w S A xs) (hl : xs.length ≤ 140737488355328) :
    Calls Try.prog 25 #[.slice A xs.length c] w fun e w' => ∃ v, e = .returned v ∧ w'.ownsRow w.heap.size 5 1 v xs.length (u8s xs) ∧ Below w.heap.size w w' := by
  have q22 : ∀ (w : World) (a : Option Addr) (n c n' c' : Nat), (binOp .eql 22 (.slice a n c) (.slice none n' c')).run Try.prog w = .ok (.bool a.isNone) w := fun w a n c n' c' => Lib.run_eql_slice_nil w _ _ a n c n' c' Try.underlying22
  rcases A with _ | a
  · have : xs = [] := by
      cases xs with
      | nil => rfl
      | cons x r => obtain ⟨a, ha, _⟩ := hx 0 x rfl; cases ha
    subst this
    go_enter Try.func25, Try.ntmps25
    go_wp2
    refine bodyPost_ret (v := .slice none 0 0) (by simp [results, Try.results25, go_sem]) rfl ⟨_, rfl, World.ownsRow_nil _ _ _ _, Below.refl _ _⟩
  · obtain ⟨i0, hi0, hz0, hz1, hz2⟩ := info_parts u8_info
    have hsrc := hx.src xs.length
    rw [List.take_length] at hsrc
    have hsrc2 : ∀ o j u, (u8s xs)[j]? = some u → (w.alloc o).cell? (a.add j) = some u := fun o j u hj => by
      rw [World.cell?_alloc_lt _ _ _ (World.block_lt_of_cell? w _ (hsrc j u hj))]; exact hsrc j u hj
    have HS := Lib.hid hsrc2
    clear hsrc hsrc2
    go_enter Try.func25, Try.ntmps25
    go_wp2_with (at_builtin; refine wpList_append_own _ rfl _ _ 22 rfl w.heap.size 5 i0 (.int .u8 0) 1 1 Try.underlying22 hi0 hz0 hz1 hz2 rfl (by decide) _ _ _ rfl (World.ownsRow_made w #[] 0 (Nat.le_refl _) (Nat.zero_le _) rfl) a xs.length c (u8s xs) rfl ?c1 ?c2 ?c3 ?c4 ?c5 ?c6 ?_)
    case c1 => simp [u8s_len]
    case c2 => exact HS.out _
    case c3 => exact u8s_one
    case c4 => simp only [maxLen]; omega
    case c5 => omega
    case c6 => simp
    intro v' w3 hown hgrow _
    have hb' : Below w.heap.size w w3 := ((Below.refl _ w).alloc (Nat.le_refl _) _).grown hgrow (by simp) (by intro k hk; simp [Value.ownBlock] at hk; omega)
    clear hgrow
    go_wp2
    refine bodyPost_ret (v := v') (by simp [results, Try.results25, go_sem]) rfl ⟨_, rfl, by simpa using hown, hb'⟩

set_option maxRecDepth 100000 in
set_option maxHeartbeats 1000000 in
theorem same_true (xs : List Nat) (S S' : Nat → Prop) (A A' : Option Addr) (c c' : Nat) (w : World) (hr : Lies w S A xs) (hr' : Lies w S' A' xs) (hlen : xs.length ≤ maxLen) :
    Calls Try.prog 9 #[.slice A xs.length c, .slice A' xs.length c'] w fun e w' => e = .returned (.bool true) ∧ Below w.heap.size w w' := by
  unfold maxLen at hlen
  go_enter Try.func9, Try.ntmps9
  go_wp2
  go_loopw [5] (fun i wr => ∃ k q : Nat, k ≤ xs.length ∧ i = .int .i64 k ∧ wr = w.drewN q) (fun i _ => xs.length - (intOf i).toNat)
  case atStart => exact ⟨0, 0, Nat.zero_le _, rfl, rfl⟩
  case round =>
    obtain ⟨k, q, hk, rfl, rfl⟩ := hrel
    by_cases hlt : k < xs.length
    · obtain ⟨a, rfl, hb, hc⟩ := hr.get hlt
      obtain ⟨a', rfl, hb', hc'⟩ := hr'.get hlt
      have hki : (k : Int) < (xs.length : Int) := by omega
      have hk0 : (0 : Int) ≤ (k : Int) := by omega
      go_wp2
      go_quiet (fail)
      go_wp2
      go_roundw
      case rel => exact ⟨k + 1, _, by omega, by go_num, rfl⟩
      case measure => simp [intOf]; omega
    · obtain rfl : k = xs.length := by omega
      go_wp2
      go_ret
      exact ⟨rfl, below_drewN (Below.refl _ _) _⟩
/-- A row of bytes that was laid just now. -/
theorem lies_new (w : World) (xs : List Nat) : Lies (w.alloc (.cells (u8s xs).toArray 5)) (· = w.heap.size) (some ⟨w.heap.size, 0, none⟩) xs := fun k x hx => by
  have hk : k < xs.length := (List.getElem?_eq_some_iff.1 hx).1
  have e : xs[k] = x := (List.getElem?_eq_some_iff.1 hx).2
  refine ⟨_, rfl, rfl, ?_⟩
  rw [Addr.add_mid, Nat.zero_add]
  refine new_row w _ _ k _ ?_
  rw [← e]
  simpa using u8s_get hk
end Go.Proofs.Ytbahcbnnogdmfaa
