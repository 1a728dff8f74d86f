/- Layer 19 (member): members in memory; who counts, whose they are, what they have. By contracts. -/
import Derived.Test.YtfmmcklggnflkaaMemM
import Derived.Test.YtfmmcklggnflkaaRecQ
import Derived.Test.YtfmmcklggnflkaaScoS
import Derived.Test.YtfmmcklggnflkaaParL
import Derived.Test.YtfmmcklggnflkaaCheck
import Derived.Test.YtfmmcklggnflkaaGraB
namespace Go.Proofs.Ytfmmcklggnflkaa
open Go.RowKit Go.Deep
set_option linter.unusedVariables false
set_option linter.unusedSimpArgs false

theorem size_mem : (Try.prog.info? 33).map (·.size) = some (Rec.z Mem) := by kernel_rfl
theorem RecAt.froz {w : World} {b : Nat} {cs : Array Value} {T : TypeId} (h : RecAt w b cs T) (k : Nat) : w.frozen? ⟨b, k, none⟩ = false := frozen_of_row w b k _ _ h
/-- The standing of a member. -/
theorem LiesAt.std {w : World} {a : Addr} {m : Mem} (h : LiesAt w a (Rec.vals m)) : LiesAt w a m.s.vals := fun j v hv => by
  refine h j v ?_
  have hj : j < 4 := by have := (List.getElem?_eq_some_iff.1 hv).1; rwa [Array.length_toList, svals_size] at this
  rw [← hv]
  match j, hj with
  | 0, _ | 1, _ | 2, _ | 3, _ => rfl

section
variable {ops : Array Oper} {rest : List Oper} {o : Oper} {a : Act} {w : World} {Q : Exit → Act → World → Prop}
/-- A word into its field; the world behind it has a new name. -/
theorem store_word (x y : Operand) (ho : o.op = .store 25 x y) (hgd : Region.wanted o (yielded ops a.tmps) = true) (g k : Nat) (cs ds : Array Value) (T : TypeId) (v z : Int) (hx : a.eval x = .pointer (some ⟨g, k, none⟩)) (hy : a.eval y = .int .u64 v) (hS : RecAt w g cs T) (hz : cs[k]? = some (.int .u64 z)) (hd : cs.setIfInBounds k (.int .u64 v) = ds)
    (h : ∀ w', RecAt w' g ds T → Below g w w' → w'.heap.size = w.heap.size → (∀ j, j ≠ g → w'.heap[j]? = w.heap[j]?) → wpList Try.prog ops Q rest (a.put o.dst undef) w') : wpList Try.prog ops Q (o :: rest) a w :=
  wpList_step fun K hK => by
    rw [if_pos hgd]
    subst hd
    have hc := (hS.cell k).trans hz
    have hf := hS.froz k
    have hK' : K (a.put o.dst undef) (w.setCell ⟨g, k, none⟩ (.int .u64 v)) := by
     refine hK _ _ (h _ ?_ (Below.setCell (p := ⟨g, k, none⟩) (Below.refl g w) (Nat.le_refl _) _) (by simp) (fun k hk => heap_setCell_other _ _ _ _ hk))
     exact heap_setCell_same w g k _ _ _ hS
    clear hz
    unfold Oper.wp execOp
    simp only [ho, hx, hy]
    go_simp
    exact hK'
theorem store_int (x y : Operand) (ho : o.op = .store 3 x y) (hgd : Region.wanted o (yielded ops a.tmps) = true) (g k : Nat) (cs ds : Array Value) (T : TypeId) (v z : Int) (hx : a.eval x = .pointer (some ⟨g, k, none⟩)) (hy : a.eval y = .int .i64 v) (hS : RecAt w g cs T) (hz : cs[k]? = some (.int .i64 z)) (hd : cs.setIfInBounds k (.int .i64 v) = ds)
    (h : ∀ w', RecAt w' g ds T → Below g w w' → w'.heap.size = w.heap.size → (∀ j, j ≠ g → w'.heap[j]? = w.heap[j]?) → wpList Try.prog ops Q rest (a.put o.dst undef) w') : wpList Try.prog ops Q (o :: rest) a w :=
  wpList_step fun K hK => by
    rw [if_pos hgd]
    subst hd
    have hc := (hS.cell k).trans hz
    have hf := hS.froz k
    have hK' : K (a.put o.dst undef) (w.setCell ⟨g, k, none⟩ (.int .i64 v)) := by
     refine hK _ _ (h _ ?_ (Below.setCell (p := ⟨g, k, none⟩) (Below.refl g w) (Nat.le_refl _) _) (by simp) (fun k hk => heap_setCell_other _ _ _ _ hk))
     exact heap_setCell_same w g k _ _ _ hS
    clear hz
    unfold Oper.wp execOp
    simp only [ho, hx, hy]
    go_simp
    exact hK'
end
section
variable {fn : Func} {s k : Nat} {T : TypeId} {x : Mem} {g : Nat} {tmps : Array Value} {w : World}
theorem res_mem2 (h : fn.results = #[.cell s 33, .tmp k]) (hp : tmps.getD s undef = .pointer (some ⟨g, 0, none⟩)) (hS : RecAt w g (Rec.vals x) T) : (results fn tmps).run Try.prog w = .ok (.tuple #[.agg (Rec.vals x), tmps.getD k undef]) w := by
  have hp' : tmps[s]?.getD undef = .pointer (some ⟨g, 0, none⟩) := by simpa using hp
  simp [results, h, hp', asAddr, run_loadVar_row w g T 33 (Rec.vals x) (0, 0) _ hS Try.underlying33 rfl size_mem]
end
theorem mem_new (w : World) (m : Mem) (T : TypeId) : RecAt (w.alloc (.cells (Rec.vals m) T)) w.heap.size (Rec.vals m) T ∧ Below w.heap.size w (w.alloc (.cells (Rec.vals m) T)) := ⟨RecAt.new _ _ _, (Below.refl _ _).alloc (Nat.le_refl _) _⟩

set_option maxRecDepth 100000 in
theorem counts_is (m : Mem) (w : World) : Calls Try.prog 15 #[.agg (Rec.vals m)] w fun e w' => e = .returned (.bool m.counts) ∧ Below w.heap.size w w' := by
  obtain ⟨hS, hB⟩ := mem_new w m 33
  have c5 := hS.cell 5
  have x5 : (World.alloc w (.cells (Rec.vals m) 33)).cell? ⟨w.heap.size, 5, none⟩ = some (.int .i64 m.status) := c5
  clear c5 hS
  by_cases h2 : m.status = 2
  · rw [Mem.counts_two h2]
    rw [h2] at x5
    clear h2
    go_enter Try.func15, Try.ntmps15
    go_wp2
    go_ret
    exact ⟨by first | rfl | simp, hB⟩
  · by_cases h3 : m.status = 3
    · rw [Mem.counts_three h3]
      rw [h3] at x5
      clear h2 h3
      go_enter Try.func15, Try.ntmps15
      go_wp2
      go_ret
      exact ⟨by first | rfl | simp, hB⟩
    · rw [Mem.counts_no h2 h3]
      have d2 : (m.status == 2) = false := by simp [h2]
      have d3 : (m.status == 3) = false := by simp [h3]
      have d4 : decide (m.status = 2) = false := by simp [h2]
      have d5 : decide (m.status = 3) = false := by simp [h3]
      clear h2 h3
      go_enter Try.func15, Try.ntmps15
      go_wp2
      go_ret
      exact ⟨by first | rfl | simp, hB⟩
end Go.Proofs.Ytfmmcklggnflkaa
