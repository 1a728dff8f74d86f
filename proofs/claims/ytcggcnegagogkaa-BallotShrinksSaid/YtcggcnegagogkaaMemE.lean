/- Layer 19 (member): members in memory; who counts, whose they are, what they have. By contracts. · Layer 19 (member): whose a member is, whether it is gone, what it has. By contracts. · Layer 19 (member): what a member has is right for its status; a member that fits. By contracts. · Layer 19 (member): a member that fits; one that starts, ends, is credited. By contracts. · Layer 19 (member): one that starts, ends, is credited. By contracts. -/
import Derived.Test.YtcggcnegagogkaaMemM
import Derived.Test.YtcggcnegagogkaaRecQ
import Derived.Test.YtcggcnegagogkaaScoS
import Derived.Test.YtcggcnegagogkaaParL
import Derived.Test.YtcggcnegagogkaaCheck
import Derived.Test.YtcggcnegagogkaaGraB
import Derived.Test.YtcggcnegagogkaaScoC
import Derived.Test.YtcggcnegagogkaaSeq
import Derived.Test.YtcggcnegagogkaaMoneySum
namespace Go.Proofs.Ytcggcnegagogkaa
open Go.RowKit Go.Deep
set_option linter.unusedVariables false
set_option linter.unusedSimpArgs false

theorem size_mem : (Try.prog.info? 50).map (·.size) = some (Rec.z Mem) := by kernel_rfl
theorem RecAt.froz {w : World} {b : Nat} {cs : Array Value} {T : TypeId} (h : RecAt w b cs T) (k : Nat) : w.frozen? ⟨b, k, none⟩ = false := frozen_of_row w b k _ _ h
/-- The standing of a member. -/
theorem LiesAt.std {w : World} {a : Addr} {m : Mem} (h : LiesAt w a (Rec.vals m)) : LiesAt w a m.s.vals := fun j v hv => by
  refine h j v ?_
  have hj : j < 4 := by have := (List.getElem?_eq_some_iff.1 hv).1; rwa [Array.length_toList, svals_size] at this
  rw [← hv]
  match j, hj with
  | 0, _ | 1, _ | 2, _ | 3, _ => rfl

section
variable {ops : Array Oper} {rest : List Oper} {o : Oper} {a : Act} {w : World} {Q : Exit → Act → World → Prop}
/-- A word into its field; the world behind it has a new name. -/
theorem store_word (x y : Operand) (ho : o.op = .store 26 x y) (hgd : Region.wanted o (yielded ops a.tmps) = true) (g k : Nat) (cs ds : Array Value) (T : TypeId) (v z : Int) (hx : a.eval x = .pointer (some ⟨g, k, none⟩)) (hy : a.eval y = .int .u64 v) (hS : RecAt w g cs T) (hz : cs[k]? = some (.int .u64 z)) (hd : cs.setIfInBounds k (.int .u64 v) = ds)
    (h : ∀ w', RecAt w' g ds T → Below g w w' → w'.heap.size = w.heap.size → (∀ j, j ≠ g → w'.heap[j]? = w.heap[j]?) → wpList Try.prog ops Q rest (a.put o.dst undef) w') : wpList Try.prog ops Q (o :: rest) a w :=
  wpList_step fun K hK => by
    rw [if_pos hgd]
    subst hd
    have hc := (hS.cell k).trans hz
    have hf := hS.froz k
    have hK' : K (a.put o.dst undef) (w.setCell ⟨g, k, none⟩ (.int .u64 v)) := by
     refine hK _ _ (h _ ?_ (Below.setCell (p := ⟨g, k, none⟩) (Below.refl g w) (Nat.le_refl _) _) (by simp) (fun k hk => heap_setCell_other _ _ _ _ hk))
     exact heap_setCell_same w g k _ _ _ hS
    clear hz
    unfold Oper.wp execOp
    simp only [ho, hx, hy]
    go_simp
    exact hK'
theorem store_int (x y : Operand) (ho : o.op = .store 3 x y) (hgd : Region.wanted o (yielded ops a.tmps) = true) (g k : Nat) (cs ds : Array Value) (T : TypeId) (v z : Int) (hx : a.eval x = .pointer (some ⟨g, k, none⟩)) (hy : a.eval y = .int .i64 v) (hS : RecAt w g cs T) (hz : cs[k]? = some (.int .i64 z)) (hd : cs.setIfInBounds k (.int .i64 v) = ds)
    (h : ∀ w', RecAt w' g ds T → Below g w w' → w'.heap.size = w.heap.size → (∀ j, j ≠ g → w'.heap[j]? = w.heap[j]?) → wpList Try.prog ops Q rest (a.put o.dst undef) w') : wpList Try.prog ops Q (o :: rest) a w :=
  wpList_step fun K hK => by
    rw [if_pos hgd]
    subst hd
    have hc := (hS.cell k).trans hz
    have hf := hS.froz k
    have hK' : K (a.put o.dst undef) (w.setCell ⟨g, k, none⟩ (.int .i64 v)) := by
     refine hK _ _ (h _ ?_ (Below.setCell (p := ⟨g, k, none⟩) (Below.refl g w) (Nat.le_refl _) _) (by simp) (fun k hk => heap_setCell_other _ _ _ _ hk))
     exact heap_setCell_same w g k _ _ _ hS
    clear hz
    unfold Oper.wp execOp
    simp only [ho, hx, hy]
    go_simp
    exact hK'
end
section
variable {fn : Func} {s k : Nat} {T : TypeId} {x : Mem} {g : Nat} {tmps : Array Value} {w : World}
theorem res_mem2 (h : fn.results = #[.cell s 50, .tmp k]) (hp : tmps.getD s undef = .pointer (some ⟨g, 0, none⟩)) (hS : RecAt w g (Rec.vals x) T) : (results fn tmps).run Try.prog w = .ok (.tuple #[.agg (Rec.vals x), tmps.getD k undef]) w := by
  have hp' : tmps[s]?.getD undef = .pointer (some ⟨g, 0, none⟩) := by simpa using hp
  simp [results, h, hp', asAddr, run_loadVar_row w g T 50 (Rec.vals x) (0, 0) _ hS Try.underlying50 rfl size_mem]
end
theorem mem_new (w : World) (m : Mem) (T : TypeId) : RecAt (w.alloc (.cells (Rec.vals m) T)) w.heap.size (Rec.vals m) T ∧ Below w.heap.size w (w.alloc (.cells (Rec.vals m) T)) := ⟨RecAt.new _ _ _, (Below.refl _ _).alloc (Nat.le_refl _) _⟩

set_option maxRecDepth 100000 in
theorem counts_is (m : Mem) (w : World) : Calls Try.prog 16 #[.agg (Rec.vals m)] w fun e w' => e = .returned (.bool m.counts) ∧ Below w.heap.size w w' := by
  obtain ⟨hS, hB⟩ := mem_new w m 50
  have c5 := hS.cell 5
  have x5 : (World.alloc w (.cells (Rec.vals m) 50)).cell? ⟨w.heap.size, 5, none⟩ = some (.int .i64 m.status) := c5
  clear c5 hS
  by_cases h2 : m.status = 2
  · rw [Mem.counts_two h2]
    rw [h2] at x5
    clear h2
    go_enter Try.func16, Try.ntmps16
    go_wp2
    go_ret
    exact ⟨by first | rfl | simp, hB⟩
  · by_cases h3 : m.status = 3
    · rw [Mem.counts_three h3]
      rw [h3] at x5
      clear h2 h3
      go_enter Try.func16, Try.ntmps16
      go_wp2
      go_ret
      exact ⟨by first | rfl | simp, hB⟩
    · rw [Mem.counts_no h2 h3]
      have d2 : (m.status == 2) = false := by simp [h2]
      have d3 : (m.status == 3) = false := by simp [h3]
      have d4 : decide (m.status = 2) = false := by simp [h2]
      have d5 : decide (m.status = 3) = false := by simp [h3]
      clear h2 h3
      go_enter Try.func16, Try.ntmps16
      go_wp2
      go_ret
      exact ⟨by first | rfl | simp, hB⟩
end Go.Proofs.Ytcggcnegagogkaa
namespace Go.Proofs.Ytcggcnegagogkaa
open Go.RowKit Go.Deep
set_option linter.unusedVariables false
set_option linter.unusedSimpArgs false

end Go.Proofs.Ytcggcnegagogkaa
namespace Go.Proofs.Ytcggcnegagogkaa
open Go.RowKit Go.Deep
set_option linter.unusedVariables false
set_option linter.unusedSimpArgs false

theorem mem_two (w : World) (p : Par) (m : Mem) : ParAt (World.alloc (w.alloc (.cells p.vals 46)) (.cells (Rec.vals m) 50)) w.heap.size p 46 ∧ RecAt (World.alloc (w.alloc (.cells p.vals 46)) (.cells (Rec.vals m) 50)) (w.heap.size + 1) (Rec.vals m) 50 ∧ Below w.heap.size w (World.alloc (w.alloc (.cells p.vals 46)) (.cells (Rec.vals m) 50)) :=
  ⟨(ParAt.new w p _).up ((Below.refl _ _).alloc (Nat.le_refl _) _), by have := RecAt.new (w.alloc (.cells p.vals 46)) (Rec.vals m) 50; simpa using this, ((Below.refl _ _).alloc (Nat.le_refl _) _).alloc (by simp) _⟩


end Go.Proofs.Ytcggcnegagogkaa
namespace Go.Proofs.Ytcggcnegagogkaa
open Go.RowKit Go.Deep
set_option linter.unusedVariables false
set_option linter.unusedSimpArgs false

section
variable {P : Program}
/-- Records of whole numbers held against each other. -/
theorem eq_fields_any (d : Nat) (xs ys : Array Value) (w : World) : ∀ (fs : List Field), (∀ f ∈ fs, f.name ≠ "_" ∧ ∃ k k' n j, P.underlying f.type = some (.int k') ∧ xs[f.offset]? = some (.int k n) ∧ ys[f.offset]? = some (.int k j)) →
    ∃ b, (Op.eqFields (d + 1) xs ys fs).run P w = .ok b w ∧ (b = true → ∀ f ∈ fs, xs[f.offset]? = ys[f.offset]?)
  | [], _ => ⟨true, by simp [Op.eqFields], fun _ f hf => by simp at hf⟩
  | f :: fs, h => by
    obtain ⟨hn, k, k', n, j, ht, hx, hy⟩ := h f List.mem_cons_self
    obtain ⟨b, ih, hb⟩ := eq_fields_any d xs ys w fs (fun g hg => h g (List.mem_cons_of_mem _ hg))
    unfold Op.eqFields
    rw [if_pos hn]
    simp only [Sem.run_bind, run_part_int ht hx, run_part_int ht hy, Result.andThen_ok, run_equalIn_int w d f.type k k' n j ht]
    by_cases e : n = j
    · subst e
      refine ⟨b, by simpa using ih, fun hb2 g hg => ?_⟩
      rcases List.mem_cons.1 hg with rfl | hg
      · rw [hx, hy]
      · exact hb hb2 g hg
    · refine ⟨false, ?_, fun h => by cases h⟩
      have : (n == j) = false := by simp [e]
      simp [this]
end
theorem std_flds : ∃ fs, Try.prog.underlying 48 = some (.struct fs) ∧ (∀ s t : Std, ∀ f ∈ fs.toList, f.name ≠ "_" ∧ ∃ k k' n j, Try.prog.underlying f.type = some (.int k') ∧ s.vals[f.offset]? = some (.int k n) ∧ t.vals[f.offset]? = some (.int k j)) ∧ ∀ k, k < 4 → ∃ f ∈ fs.toList, f.offset = k :=
  ⟨_, Try.underlying48, fun s t f hf => by
    simp at hf
    rcases hf with rfl | rfl | rfl | rfl
    · exact ⟨by decide, _, _, _, _, Try.underlying26, rfl, rfl⟩
    · exact ⟨by decide, _, _, _, _, Try.underlying26, rfl, rfl⟩
    · exact ⟨by decide, _, _, _, _, Try.underlying26, rfl, rfl⟩
    · exact ⟨by decide, _, _, _, _, Try.underlying3, rfl, rfl⟩, fun k hk => by
    match k, hk with
    | 0, _ => exact ⟨_, List.mem_cons_self, rfl⟩
    | 1, _ => exact ⟨_, List.mem_cons_of_mem _ List.mem_cons_self, rfl⟩
    | 2, _ => exact ⟨_, List.mem_cons_of_mem _ (List.mem_cons_of_mem _ List.mem_cons_self), rfl⟩
    | 3, _ => exact ⟨_, List.mem_cons_of_mem _ (List.mem_cons_of_mem _ (List.mem_cons_of_mem _ List.mem_cons_self)), rfl⟩⟩
theorem std_diff (s t : Std) (h : ¬ s = t) (w : World) : (binOp .neq 48 (.agg s.vals) (.agg t.vals)).run Try.prog w = .ok (.bool true) w := by
  obtain ⟨fs, hu, hfs, std_offs⟩ := std_flds
  have hfo : Try.prog.fieldsOf 48 = fs := by simp [Program.fieldsOf, hu]
  obtain ⟨b, hr, hb⟩ := eq_fields_any (P := Try.prog) 9998 s.vals t.vals w _ (hfs s t)
  have : b = false := by
    cases b with
    | false => rfl
    | true =>
      refine absurd ?_ h
      have hk : ∀ k, k < 4 → s.vals[k]? = t.vals[k]? := fun k hk => by
        obtain ⟨f, hf, e⟩ := std_offs k hk
        have := hb rfl f hf
        rwa [e] at this
      obtain ⟨b1, e1, c1, x1⟩ := s
      obtain ⟨b2, e2, c2, x2⟩ := t
      have h0 := hk 0 (by decide)
      have h1 := hk 1 (by decide)
      have h2 := hk 2 (by decide)
      have h3 := hk 3 (by decide)
      simp [Std.vals] at h0 h1 h2 h3
      simp [Std.mk.injEq]
      omega
  subst this
  rw [run_neq_struct, run_equalIn_struct w 9999 48 _ _ std_under (by kernel_rfl), hfo, hr]
  rfl
theorem exec_diff_std {o : Oper} {a : Act} (w : World) (x y : Operand) (t : TypeId) (ho : o.op = .binOp .neq 48 x y t) (s r : Std) (hx : a.eval x = .agg s.vals) (hy : a.eval y = .agg r.vals) (h : ¬ s = r) :
    (execOp a.eval o).run Try.prog w = .ok (.value (.bool true)) w := by
  unfold execOp
  simp only [ho, hx, hy, Sem.run_bind, run_eqGuard_agg w _ _ _ _ _ _ std_guard, Result.andThen_ok, std_diff s r h w]
  rfl


end Go.Proofs.Ytcggcnegagogkaa
namespace Go.Proofs.Ytcggcnegagogkaa
open Go.RowKit Go.Deep
set_option linter.unusedVariables false
set_option linter.unusedSimpArgs false

theorem mem_zero_new (w : World) (T : TypeId) {b : Nat} (hb : b = w.heap.size) : RecAt (w.alloc (.cells #[.int .u64 0, .int .u64 0, .int .u64 0, .int .i64 0, .int .i64 0, .int .i64 0] T)) b (Rec.vals Mem.zero) T := by
  subst hb
  exact RecAt.new w (Rec.vals Mem.zero) T


end Go.Proofs.Ytcggcnegagogkaa
