/- Layer 19 (member): members in memory; who counts, whose they are, what they have. By contracts. · Layer 19 (member): whose a member is, whether it is gone, what it has. By contracts. · Layer 19 (member): what a member has is right for its status; a member that fits. By contracts. · Layer 19 (member): a member that fits; one that starts, ends, is credited. By contracts. · Layer 19 (member): one that starts, ends, is credited. By contracts. · A copy of bytes; two texts of bytes held against each other. By contracts. -/
import Derived.Test.YtcaejanfhchacaaMemM
import Derived.Test.YtcaejanfhchacaaRec
import Derived.Test.YtcaejanfhchacaaSeq
import Derived.Test.YtcaejanfhchacaaScoS
import Derived.Test.YtcaejanfhchacaaParL
import Derived.Test.YtcaejanfhchacaaPlM
import Derived.Test.YtcaejanfhchacaaBytes
import Derived.Test.YtcaejanfhchacaaProg
import Derived.Laws.AppendOwnNone
import Derived.Lib.SliceRun
namespace Go.Proofs.Ytcaejanfhchacaa
open Go.RowKit Go.Deep
set_option linter.unusedVariables false
set_option linter.unusedSimpArgs false

theorem size_mem : (Try.prog.info? 116).map (·.size) = some (Rec.z Mem) := by kernel_rfl
/-- The standing of a member. -/
theorem LiesAt.std {w : World} {a : Addr} {m : Mem} (h : LiesAt w a (Rec.vals m)) : LiesAt w a m.s.vals := fun j v hv => by
  refine h j v ?_
  have hj : j < 4 := by have := (List.getElem?_eq_some_iff.1 hv).1; rwa [Array.length_toList, svals_size] at this
  rw [← hv]
  match j, hj with
  | 0, _ | 1, _ | 2, _ | 3, _ => rfl

section
variable {ops : Array Oper} {rest : List Oper} {o : Oper} {a : Act} {w : World} {Q : Exit → Act → World → Prop}
end
section
variable {fn : Func} {s k : Nat} {T : TypeId} {x : Mem} {g : Nat} {tmps : Array Value} {w : World}
end
theorem mem_new (w : World) (m : Mem) (T : TypeId) : RecAt (w.alloc (.cells (Rec.vals m) T)) w.heap.size (Rec.vals m) T ∧ Below w.heap.size w (w.alloc (.cells (Rec.vals m) T)) := ⟨RecAt.new _ _ _, (Below.refl _ _).alloc (Nat.le_refl _) _⟩

set_option maxRecDepth 100000 in
theorem counts_is (m : Mem) (w : World) : Calls Try.prog 112 #[.agg (Rec.vals m)] w fun e w' => e = .returned (.bool m.counts) ∧ Below w.heap.size w w' := by
  obtain ⟨hS, hB⟩ := mem_new w m 116
  have c5 := hS.cell 5
  have x5 : (World.alloc w (.cells (Rec.vals m) 116)).cell? ⟨w.heap.size, 5, none⟩ = some (.int .i64 m.status) := c5
  clear c5 hS
  by_cases h2 : m.status = 2
  · rw [Mem.counts_two h2]
    rw [h2] at x5
    clear h2
    go_enter Try.func112, Try.ntmps112
    go_wp2
    go_ret
    exact ⟨by first | rfl | simp, hB⟩
  · by_cases h3 : m.status = 3
    · rw [Mem.counts_three h3]
      rw [h3] at x5
      clear h2 h3
      go_enter Try.func112, Try.ntmps112
      go_wp2
      go_ret
      exact ⟨by first | rfl | simp, hB⟩
    · rw [Mem.counts_no h2 h3]
      have d2 : (m.status == 2) = false := by simp [h2]
      have d3 : (m.status == 3) = false := by simp [h3]
      have d4 : decide (m.status = 2) = false := by simp [h2]
      have d5 : decide (m.status = 3) = false := by simp [h3]
      clear h2 h3
      go_enter Try.func112, Try.ntmps112
      go_wp2
      go_ret
      exact ⟨by first | rfl | simp, hB⟩
end Go.Proofs.Ytcaejanfhchacaa
namespace Go.Proofs.Ytcaejanfhchacaa
open Go.RowKit Go.Deep
set_option linter.unusedVariables false
set_option linter.unusedSimpArgs false

end Go.Proofs.Ytcaejanfhchacaa
namespace Go.Proofs.Ytcaejanfhchacaa
open Go.RowKit Go.Deep
set_option linter.unusedVariables false
set_option linter.unusedSimpArgs false

end Go.Proofs.Ytcaejanfhchacaa
namespace Go.Proofs.Ytcaejanfhchacaa
open Go.RowKit Go.Deep
set_option linter.unusedVariables false
set_option linter.unusedSimpArgs false

section
variable {P : Program}
end
end Go.Proofs.Ytcaejanfhchacaa
namespace Go.Proofs.Ytcaejanfhchacaa
open Go.RowKit Go.Deep
set_option linter.unusedVariables false
set_option linter.unusedSimpArgs false

end Go.Proofs.Ytcaejanfhchacaa
namespace Go.Proofs.Ytcaejanfhchacaa
open Go.RowKit
set_option linter.unusedVariables false
set_option linter.unusedSimpArgs false

set_option maxRecDepth 100000 in
set_option maxHeartbeats 1000000 in
theorem clone_is (xs : List Nat) (S : Nat → Prop) (A : Option Addr) (c : Nat) (w : World) (hx : Lies w S A xs) (hl : xs.length ≤ 140737488355328) :
    Calls Try.prog 69 #[.slice A xs.length c] w fun e w' => ∃ v, e = .returned v ∧ w'.ownsRow w.heap.size 5 1 v xs.length (u8s xs) ∧ Below w.heap.size w w' := by
  have q22 : ∀ (w : World) (a : Option Addr) (n c n' c' : Nat), (binOp .eql 38 (.slice a n c) (.slice none n' c')).run Try.prog w = .ok (.bool a.isNone) w := fun w a n c n' c' => Lib.run_eql_slice_nil w _ _ a n c n' c' Try.underlying38
  rcases A with _ | a
  · have : xs = [] := by
      cases xs with
      | nil => rfl
      | cons x r => obtain ⟨a, ha, _⟩ := hx 0 x rfl; cases ha
    subst this
    go_enter Try.func69, Try.ntmps69
    go_wp2
    refine bodyPost_ret (v := .slice none 0 0) (by simp [results, Try.results69, go_sem]) rfl ⟨_, rfl, World.ownsRow_nil _ _ _ _, Below.refl _ _⟩
  · obtain ⟨i0, hi0, hz0, hz1, hz2⟩ := info_parts u8_info
    have hsrc := hx.src xs.length
    rw [List.take_length] at hsrc
    have hsrc2 : ∀ o j u, (u8s xs)[j]? = some u → (w.alloc o).cell? (a.add j) = some u := fun o j u hj => by
      rw [World.cell?_alloc_lt _ _ _ (World.block_lt_of_cell? w _ (hsrc j u hj))]; exact hsrc j u hj
    have HS := Lib.hid hsrc2
    clear hsrc hsrc2
    go_enter Try.func69, Try.ntmps69
    go_wp2_with (at_builtin; refine wpList_append_own _ rfl _ _ 38 rfl w.heap.size 5 i0 (.int .u8 0) 1 1 Try.underlying38 hi0 hz0 hz1 hz2 rfl (by decide) _ _ _ rfl (World.ownsRow_made w #[] 0 (Nat.le_refl _) (Nat.zero_le _) rfl) a xs.length c (u8s xs) rfl ?c1 ?c2 ?c3 ?c4 ?c5 ?c6 ?_)
    case c1 => simp [u8s_len]
    case c2 => exact HS.out _
    case c3 => exact u8s_one
    case c4 => simp only [maxLen]; omega
    case c5 => omega
    case c6 => simp
    intro v' w3 hown hgrow _
    have hb' : Below w.heap.size w w3 := ((Below.refl _ w).alloc (Nat.le_refl _) _).grown hgrow (by simp) (by intro k hk; simp [Value.ownBlock] at hk; omega)
    clear hgrow
    go_wp2
    refine bodyPost_ret (v := v') (by simp [results, Try.results69, go_sem]) rfl ⟨_, rfl, by simpa using hown, hb'⟩

set_option maxRecDepth 100000 in
set_option maxHeartbeats 1000000 in
theorem same_true (xs : List Nat) (S S' : Nat → Prop) (A A' : Option Addr) (c c' : Nat) (w : World) (hr : Lies w S A xs) (hr' : Lies w S' A' xs) (hlen : xs.length ≤ maxLen) :
    Calls Try.prog 71 #[.slice A xs.length c, .slice A' xs.length c'] w fun e w' => e = .returned (.bool true) ∧ Below w.heap.size w w' := by
  unfold maxLen at hlen
  go_enter Try.func71, Try.ntmps71
  go_wp2
  go_loopw [5] (fun i wr => ∃ k q : Nat, k ≤ xs.length ∧ i = .int .i64 k ∧ wr = w.drewN q) (fun i _ => xs.length - (intOf i).toNat)
  case atStart => exact ⟨0, 0, Nat.zero_le _, rfl, rfl⟩
  case round =>
    obtain ⟨k, q, hk, rfl, rfl⟩ := hrel
    by_cases hlt : k < xs.length
    · obtain ⟨a, rfl, hb, hc⟩ := hr.get hlt
      obtain ⟨a', rfl, hb', hc'⟩ := hr'.get hlt
      have hki : (k : Int) < (xs.length : Int) := by omega
      have hk0 : (0 : Int) ≤ (k : Int) := by omega
      go_wp2
      go_quiet (fail)
      go_wp2
      go_roundw
      case rel => exact ⟨k + 1, _, by omega, by go_num, rfl⟩
      case measure => simp [intOf]; omega
    · obtain rfl : k = xs.length := by omega
      go_wp2
      go_ret
      exact ⟨rfl, below_drewN (Below.refl _ _) _⟩
end Go.Proofs.Ytcaejanfhchacaa
