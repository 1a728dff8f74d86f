/- Layer 18 (pool): copies of lists of deposits and of dues, and lists put together. By contracts. -/
import Derived.Test.YtoaeckfppoaljaaPoolM
import Derived.Laws.AppendOwnNone
import Derived.Lib.AppendZeros
import Derived.Lib.SliceRun
namespace Go.Proofs.Ytoaeckfppoaljaa
open Go.RowKit
set_option linter.unusedVariables false
set_option linter.unusedSimpArgs false

theorem info_dep : (Try.prog.info? 62).map (fun i => (i.zero, i.size, i.bytes)) = some (some (.agg (Rec.vals (Dep.zero : Dep))), Rec.z Dep, 32) := by kernel_rfl
theorem size_dep : (Try.prog.info? 62).map (·.size) = some (Rec.z Dep) := by kernel_rfl

theorem info_due : (Try.prog.info? 64).map (fun i => (i.zero, i.size, i.bytes)) = some (some (.agg (Rec.vals (Due.zero : Due))), Rec.z Due, 24) := by kernel_rfl
theorem size_due : (Try.prog.info? 64).map (·.size) = some (Rec.z Due) := by kernel_rfl

set_option maxRecDepth 100000 in
set_option maxHeartbeats 1000000 in
/-- A copy, in memory of its own. -/
theorem clone_due (l : List Due) (B : Nat) (A : Option Addr) (c : Nat) (w : World) (hx : Row w B A (rows l)) (hl : l.length ≤ 1000000000) :
    Calls Try.prog 42 #[.slice A l.length c] w fun e w' => ∃ v, e = .returned v ∧ w'.ownsRow w.heap.size 64 (Rec.z Due) v l.length (rows l) ∧ Below w.heap.size w w' := by
  have q22 : ∀ (w : World) (a : Option Addr) (n c n' c' : Nat), (binOp .eql 29 (.slice a n c) (.slice none n' c')).run Try.prog w = .ok (.bool a.isNone) w := fun w a n c n' c' => Lib.run_eql_slice_nil w _ _ a n c n' c' Try.underlying29
  rcases A with _ | a
  · obtain rfl := rows_none hx
    go_enter Try.func42, Try.ntmps42
    go_wp2
    refine bodyPost_ret (v := .slice none 0 0) (by simp [results, Try.results42, go_sem]) rfl ⟨_, rfl, World.ownsRow_nil _ _ _ _, Below.refl _ _⟩
  · obtain ⟨i0, hi0, hz0, hz1, hz2⟩ := info_parts info_due
    have hsrc2 : ∀ o j u, (rows l)[j]? = some u → (w.alloc o).cell? (a.add j) = some u := fun o j u hj => by
      obtain ⟨a', ha', _, this⟩ := hx j u hj
      cases ha'
      rw [World.cell?_alloc_lt _ _ _ (World.block_lt_of_cell? w _ this)]; exact this
    have HS := Lib.hid hsrc2
    have hrl := rows_len l
    clear hsrc2
    go_enter Try.func42, Try.ntmps42
    go_wp2_with (at_builtin; refine wpList_append_own _ rfl _ _ 29 rfl w.heap.size 64 i0 _ (Rec.z Due) 24 Try.underlying29 hi0 hz0 hz1 hz2 rfl (by decide) _ _ _ rfl (World.ownsRow_made w #[] 0 (Nat.le_refl _) (Nat.zero_le _) rfl) a l.length c (rows l) rfl ?c1 ?c2 ?c3 ?c4 ?c5 ?c6 ?_)
    case c1 => exact hrl
    case c2 => exact HS.out _
    case c3 => exact rows_onecell l
    case c4 => simp only [maxLen]; omega
    case c5 => omega
    case c6 => simp
    intro v' w3 hown hgrow _
    have hb' : Below w.heap.size w w3 := ((Below.refl _ w).alloc (Nat.le_refl _) _).grown hgrow (by simp) (by intro k hk; simp [Value.ownBlock] at hk; omega)
    clear hgrow
    go_wp2
    refine bodyPost_ret (v := v') (by simp [results, Try.results42, go_sem]) rfl ⟨_, rfl, by simpa using hown, hb'⟩

end Go.Proofs.Ytoaeckfppoaljaa
