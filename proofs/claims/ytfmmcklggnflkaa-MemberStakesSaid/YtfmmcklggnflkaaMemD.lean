/- Layer 19 (member): a member that fits; one that starts, ends, is credited. By contracts. -/
import Derived.Test.YtfmmcklggnflkaaMemC
import Derived.Test.YtfmmcklggnflkaaMoneyB
namespace Go.Proofs.Ytfmmcklggnflkaa
open Go.RowKit Go.Deep
set_option linter.unusedVariables false
set_option linter.unusedSimpArgs false

section
variable {P : Program}
/-- Records of whole numbers held against each other. -/
theorem eq_fields_any (d : Nat) (xs ys : Array Value) (w : World) : ∀ (fs : List Field), (∀ f ∈ fs, f.name ≠ "_" ∧ ∃ k k' n j, P.underlying f.type = some (.int k') ∧ xs[f.offset]? = some (.int k n) ∧ ys[f.offset]? = some (.int k j)) →
    ∃ b, (Op.eqFields (d + 1) xs ys fs).run P w = .ok b w ∧ (b = true → ∀ f ∈ fs, xs[f.offset]? = ys[f.offset]?)
  | [], _ => ⟨true, by simp [Op.eqFields], fun _ f hf => by simp at hf⟩
  | f :: fs, h => by
    obtain ⟨hn, k, k', n, j, ht, hx, hy⟩ := h f List.mem_cons_self
    obtain ⟨b, ih, hb⟩ := eq_fields_any d xs ys w fs (fun g hg => h g (List.mem_cons_of_mem _ hg))
    unfold Op.eqFields
    rw [if_pos hn]
    simp only [Sem.run_bind, run_part_int ht hx, run_part_int ht hy, Result.andThen_ok, run_equalIn_int w d f.type k k' n j ht]
    by_cases e : n = j
    · subst e
      refine ⟨b, by simpa using ih, fun hb2 g hg => ?_⟩
      rcases List.mem_cons.1 hg with rfl | hg
      · rw [hx, hy]
      · exact hb hb2 g hg
    · refine ⟨false, ?_, fun h => by cases h⟩
      have : (n == j) = false := by simp [e]
      simp [this]
end
theorem std_flds : ∃ fs, Try.prog.underlying 31 = some (.struct fs) ∧ (∀ s t : Std, ∀ f ∈ fs.toList, f.name ≠ "_" ∧ ∃ k k' n j, Try.prog.underlying f.type = some (.int k') ∧ s.vals[f.offset]? = some (.int k n) ∧ t.vals[f.offset]? = some (.int k j)) ∧ ∀ k, k < 4 → ∃ f ∈ fs.toList, f.offset = k :=
  ⟨_, Try.underlying31, fun s t f hf => by
    simp at hf
    rcases hf with rfl | rfl | rfl | rfl
    · exact ⟨by decide, _, _, _, _, Try.underlying25, rfl, rfl⟩
    · exact ⟨by decide, _, _, _, _, Try.underlying25, rfl, rfl⟩
    · exact ⟨by decide, _, _, _, _, Try.underlying25, rfl, rfl⟩
    · exact ⟨by decide, _, _, _, _, Try.underlying3, rfl, rfl⟩, fun k hk => by
    match k, hk with
    | 0, _ => exact ⟨_, List.mem_cons_self, rfl⟩
    | 1, _ => exact ⟨_, List.mem_cons_of_mem _ List.mem_cons_self, rfl⟩
    | 2, _ => exact ⟨_, List.mem_cons_of_mem _ (List.mem_cons_of_mem _ List.mem_cons_self), rfl⟩
    | 3, _ => exact ⟨_, List.mem_cons_of_mem _ (List.mem_cons_of_mem _ (List.mem_cons_of_mem _ List.mem_cons_self)), rfl⟩⟩
theorem std_diff (s t : Std) (h : ¬ s = t) (w : World) : (binOp .neq 31 (.agg s.vals) (.agg t.vals)).run Try.prog w = .ok (.bool true) w := by
  obtain ⟨fs, hu, hfs, std_offs⟩ := std_flds
  have hfo : Try.prog.fieldsOf 31 = fs := by simp [Program.fieldsOf, hu]
  obtain ⟨b, hr, hb⟩ := eq_fields_any (P := Try.prog) 9998 s.vals t.vals w _ (hfs s t)
  have : b = false := by
    cases b with
    | false => rfl
    | true =>
      refine absurd ?_ h
      have hk : ∀ k, k < 4 → s.vals[k]? = t.vals[k]? := fun k hk => by
        obtain ⟨f, hf, e⟩ := std_offs k hk
        have := hb rfl f hf
        rwa [e] at this
      obtain ⟨b1, e1, c1, x1⟩ := s
      obtain ⟨b2, e2, c2, x2⟩ := t
      have h0 := hk 0 (by decide)
      have h1 := hk 1 (by decide)
      have h2 := hk 2 (by decide)
      have h3 := hk 3 (by decide)
      simp [Std.vals] at h0 h1 h2 h3
      simp [Std.mk.injEq]
      omega
  subst this
  rw [run_neq_struct, run_equalIn_struct w 9999 31 _ _ std_under (by kernel_rfl), hfo, hr]
  rfl
theorem exec_diff_std {o : Oper} {a : Act} (w : World) (x y : Operand) (t : TypeId) (ho : o.op = .binOp .neq 31 x y t) (s r : Std) (hx : a.eval x = .agg s.vals) (hy : a.eval y = .agg r.vals) (h : ¬ s = r) :
    (execOp a.eval o).run Try.prog w = .ok (.value (.bool true)) w := by
  unfold execOp
  simp only [ho, hx, hy, Sem.run_bind, run_eqGuard_agg w _ _ _ _ _ _ std_guard, Result.andThen_ok, std_diff s r h w]
  rfl


set_option maxRecDepth 100000 in
set_option maxHeartbeats 1000000 in
theorem fits_wrong (p : Par) (m : Mem) (w : World) (hc : CheckIs p 70) : Calls Try.prog 11 #[.agg p.vals, .agg (Rec.vals m)] w fun e w' => e = .returned (.bool false) ∧ Below w.heap.size w w' := by
  have hP : ParAt (World.alloc (w.alloc (.cells p.vals 42)) (.cells (Rec.vals m) 33)) w.heap.size p 42 := (mem_two w p m).1
  have hS : RecAt (World.alloc (w.alloc (.cells p.vals 42)) (.cells (Rec.vals m) 33)) (w.heap.size + 1) (Rec.vals m) 33 := (mem_two w p m).2.1
  have hB : Below w.heap.size w (World.alloc (w.alloc (.cells p.vals 42)) (.cells (Rec.vals m) 33)) := (mem_two w p m).2.2
  clear hB
  have kc := hc
  clear hc
  go_enter Try.func11, Try.ntmps11
  go_upto_region 1 with fail
  obtain ⟨w0, hw0⟩ : ∃ w0, (World.alloc (w.alloc (.cells p.vals 42)) (.cells (Rec.vals m) 33)) = w0 := ⟨_, rfl⟩
  have hB : Below w.heap.size w w0 := by rw [← hw0]; exact (mem_two w p m).2.2
  rw [hw0] at hP hS ⊢
  clear hw0
  have cells : ∀ w', Below w0.heap.size w0 w' → ParAt w' w.heap.size p 42 ∧ RecAt w' (w.heap.size + 1) (Rec.vals m) 33 := fun w' h => ⟨hP.up h, hS.up h⟩
  clear hP hS
  refine region_list [] (fun _ w' => Below w0.heap.size w0 w') (by kernel_rfl) (by kernel_rfl) (Below.refl _ _).drew ?_
  refine SeqS.take _ (by rfl) (by rfl) (fun ph w' hS => exec_load_par _ rfl _ _ _ rfl ((cells w' hS).1)) ?_
  simp only [Act.put, List.setIfInBounds_toArray, List.set_cons_zero, List.set_cons_succ]
  refine SeqS.call (below_call (Nat.le_refl _) (fun w _ => kc w)) (by rfl) (by rfl) (fun w => ?_) ?_; · go_simp
  simp only [Act.put, List.setIfInBounds_toArray, List.set_cons_zero, List.set_cons_succ]
  iterate 2 ((refine' SeqS.calm _ (by rfl) (by rfl) (fun w => ?_) ?_; rotate_left; · (go_simp <;> with_reducible rfl)); simp only [Act.put, List.setIfInBounds_toArray, List.set_cons_zero, List.set_cons_succ])
  iterate 7 ((refine SeqS.skip (by rfl) (by rfl) ?_); simp only [Act.put, List.setIfInBounds_toArray, List.set_cons_zero, List.set_cons_succ])
  refine' SeqS.calm _ (by rfl) (by rfl) (fun w => ?_) ?_; rotate_left; · (go_simp <;> with_reducible rfl)
  simp only [Act.put, List.setIfInBounds_toArray, List.set_cons_zero, List.set_cons_succ]
  intro w3 hw3
  have hB := Below.then hB hw3
  clear cells
  go_wp2
  go_ret
  exact ⟨by first | rfl | simp, hB⟩


set_option maxRecDepth 100000 in
set_option maxHeartbeats 1000000 in
theorem fits_trim (p : Par) (m : Mem) (w : World) (hc : CheckIs p 0) (hd : ¬ Std.trim p m.s = m.s) : Calls Try.prog 11 #[.agg p.vals, .agg (Rec.vals m)] w fun e w' => e = .returned (.bool false) ∧ Below w.heap.size w w' := by
  have hP : ParAt (World.alloc (w.alloc (.cells p.vals 42)) (.cells (Rec.vals m) 33)) w.heap.size p 42 := (mem_two w p m).1
  have hS : RecAt (World.alloc (w.alloc (.cells p.vals 42)) (.cells (Rec.vals m) 33)) (w.heap.size + 1) (Rec.vals m) 33 := (mem_two w p m).2.1
  have hB : Below w.heap.size w (World.alloc (w.alloc (.cells p.vals 42)) (.cells (Rec.vals m) 33)) := (mem_two w p m).2.2
  clear hB
  have kc := hc
  have kt := fun w => trim_ok m.s p w hc
  clear hc
  go_enter Try.func11, Try.ntmps11
  go_upto_region 1 with fail
  obtain ⟨w0, hw0⟩ : ∃ w0, (World.alloc (w.alloc (.cells p.vals 42)) (.cells (Rec.vals m) 33)) = w0 := ⟨_, rfl⟩
  have hB : Below w.heap.size w w0 := by rw [← hw0]; exact (mem_two w p m).2.2
  rw [hw0] at hP hS ⊢
  clear hw0
  have cells : ∀ w', Below w0.heap.size w0 w' → ParAt w' w.heap.size p 42 ∧ RecAt w' (w.heap.size + 1) (Rec.vals m) 33 := fun w' h => ⟨hP.up h, hS.up h⟩
  clear hP hS
  refine region_list [] (fun _ w' => Below w0.heap.size w0 w') (by kernel_rfl) (by kernel_rfl) (Below.refl _ _).drew ?_
  refine SeqS.take _ (by rfl) (by rfl) (fun ph w' hS => exec_load_par _ rfl _ _ _ rfl ((cells w' hS).1)) ?_
  simp only [Act.put, List.setIfInBounds_toArray, List.set_cons_zero, List.set_cons_succ]
  refine SeqS.call (below_call (Nat.le_refl _) (fun w _ => kc w)) (by rfl) (by rfl) (fun w => ?_) ?_; · go_simp
  simp only [Act.put, List.setIfInBounds_toArray, List.set_cons_zero, List.set_cons_succ]
  iterate 2 ((refine' SeqS.calm _ (by rfl) (by rfl) (fun w => ?_) ?_; rotate_left; · (go_simp <;> with_reducible rfl)); simp only [Act.put, List.setIfInBounds_toArray, List.set_cons_zero, List.set_cons_succ])
  refine SeqS.take _ (by rfl) (by rfl) (fun ph w' hS => exec_load_par _ rfl _ _ _ rfl ((cells w' hS).1)) ?_
  simp only [Act.put, List.setIfInBounds_toArray, List.set_cons_zero, List.set_cons_succ]
  refine' SeqS.calm _ (by rfl) (by rfl) (fun w => ?_) ?_; rotate_left; · (go_simp <;> with_reducible rfl)
  simp only [Act.put, List.setIfInBounds_toArray, List.set_cons_zero, List.set_cons_succ]
  refine SeqS.take _ (by rfl) (by rfl) (fun ph w' hS => exec_load_rec 31 _ rfl _ m.s.vals rfl (cells w' hS).2.lies.std Try.underlying31 std_size) ?_
  simp only [Act.put, List.setIfInBounds_toArray, List.set_cons_zero, List.set_cons_succ]
  refine SeqS.call (below_call (Nat.le_refl _) (fun w _ => kt w)) (by rfl) (by rfl) (fun w => ?_) ?_; · go_simp
  simp only [Act.put, List.setIfInBounds_toArray, List.set_cons_zero, List.set_cons_succ]
  refine' SeqS.calm _ (by rfl) (by rfl) (fun w => ?_) ?_; rotate_left; · (go_simp <;> with_reducible rfl)
  simp only [Act.put, List.setIfInBounds_toArray, List.set_cons_zero, List.set_cons_succ]
  refine SeqS.take _ (by rfl) (by rfl) (fun ph w' hS => exec_load_rec 31 _ rfl _ m.s.vals rfl (cells w' hS).2.lies.std Try.underlying31 std_size) ?_
  simp only [Act.put, List.setIfInBounds_toArray, List.set_cons_zero, List.set_cons_succ]
  refine SeqS.take _ (by rfl) (by rfl) (fun ph w' hS => exec_diff_std w' _ _ _ rfl (Std.trim p m.s) m.s rfl rfl hd) ?_
  simp only [Act.put, List.setIfInBounds_toArray, List.set_cons_zero, List.set_cons_succ]
  refine' SeqS.calm _ (by rfl) (by rfl) (fun w => ?_) ?_; rotate_left; · (go_simp <;> with_reducible rfl)
  simp only [Act.put, List.setIfInBounds_toArray, List.set_cons_zero, List.set_cons_succ]
  intro w3 hw3
  have hB := Below.then hB hw3
  clear cells hd
  go_wp2
  go_ret
  exact ⟨by first | rfl | simp, hB⟩


set_option maxRecDepth 100000 in
set_option maxHeartbeats 1000000 in
theorem fits_foreign (p : Par) (m : Mem) (w : World) (hc : CheckIs p 0) (hd : Std.trim p m.s = m.s) (ho : m.owned = false) : Calls Try.prog 11 #[.agg p.vals, .agg (Rec.vals m)] w fun e w' => e = .returned (.bool false) ∧ Below w.heap.size w w' := by
  have hP : ParAt (World.alloc (w.alloc (.cells p.vals 42)) (.cells (Rec.vals m) 33)) w.heap.size p 42 := (mem_two w p m).1
  have hS : RecAt (World.alloc (w.alloc (.cells p.vals 42)) (.cells (Rec.vals m) 33)) (w.heap.size + 1) (Rec.vals m) 33 := (mem_two w p m).2.1
  have hB : Below w.heap.size w (World.alloc (w.alloc (.cells p.vals 42)) (.cells (Rec.vals m) 33)) := (mem_two w p m).2.2
  clear hB
  have kc := hc
  have kt := fun w => trim_ok m.s p w hc
  rw [hd] at kt
  have ko := fun w => owned_is m w
  rw [ho] at ko
  clear hc hd ho
  go_enter Try.func11, Try.ntmps11
  go_upto_region 1 with fail
  obtain ⟨w0, hw0⟩ : ∃ w0, (World.alloc (w.alloc (.cells p.vals 42)) (.cells (Rec.vals m) 33)) = w0 := ⟨_, rfl⟩
  have hB : Below w.heap.size w w0 := by rw [← hw0]; exact (mem_two w p m).2.2
  rw [hw0] at hP hS ⊢
  clear hw0
  have cells : ∀ w', Below w0.heap.size w0 w' → ParAt w' w.heap.size p 42 ∧ RecAt w' (w.heap.size + 1) (Rec.vals m) 33 := fun w' h => ⟨hP.up h, hS.up h⟩
  clear hP hS
  refine region_list [] (fun _ w' => Below w0.heap.size w0 w') (by kernel_rfl) (by kernel_rfl) (Below.refl _ _).drew ?_
  refine SeqS.take _ (by rfl) (by rfl) (fun ph w' hS => exec_load_par _ rfl _ _ _ rfl ((cells w' hS).1)) ?_
  simp only [Act.put, List.setIfInBounds_toArray, List.set_cons_zero, List.set_cons_succ]
  refine SeqS.call (below_call (Nat.le_refl _) (fun w _ => kc w)) (by rfl) (by rfl) (fun w => ?_) ?_; · go_simp
  simp only [Act.put, List.setIfInBounds_toArray, List.set_cons_zero, List.set_cons_succ]
  iterate 2 ((refine' SeqS.calm _ (by rfl) (by rfl) (fun w => ?_) ?_; rotate_left; · (go_simp <;> with_reducible rfl)); simp only [Act.put, List.setIfInBounds_toArray, List.set_cons_zero, List.set_cons_succ])
  refine SeqS.take _ (by rfl) (by rfl) (fun ph w' hS => exec_load_par _ rfl _ _ _ rfl ((cells w' hS).1)) ?_
  simp only [Act.put, List.setIfInBounds_toArray, List.set_cons_zero, List.set_cons_succ]
  refine' SeqS.calm _ (by rfl) (by rfl) (fun w => ?_) ?_; rotate_left; · (go_simp <;> with_reducible rfl)
  simp only [Act.put, List.setIfInBounds_toArray, List.set_cons_zero, List.set_cons_succ]
  refine SeqS.take _ (by rfl) (by rfl) (fun ph w' hS => exec_load_rec 31 _ rfl _ m.s.vals rfl (cells w' hS).2.lies.std Try.underlying31 std_size) ?_
  simp only [Act.put, List.setIfInBounds_toArray, List.set_cons_zero, List.set_cons_succ]
  refine SeqS.call (below_call (Nat.le_refl _) (fun w _ => kt w)) (by rfl) (by rfl) (fun w => ?_) ?_; · go_simp
  simp only [Act.put, List.setIfInBounds_toArray, List.set_cons_zero, List.set_cons_succ]
  refine' SeqS.calm _ (by rfl) (by rfl) (fun w => ?_) ?_; rotate_left; · (go_simp <;> with_reducible rfl)
  simp only [Act.put, List.setIfInBounds_toArray, List.set_cons_zero, List.set_cons_succ]
  refine SeqS.take _ (by rfl) (by rfl) (fun ph w' hS => exec_load_rec 31 _ rfl _ m.s.vals rfl (cells w' hS).2.lies.std Try.underlying31 std_size) ?_
  simp only [Act.put, List.setIfInBounds_toArray, List.set_cons_zero, List.set_cons_succ]
  refine SeqS.take _ (by rfl) (by rfl) (fun ph w' hS => exec_neq_std w' _ _ _ rfl m.s rfl rfl) ?_
  simp only [Act.put, List.setIfInBounds_toArray, List.set_cons_zero, List.set_cons_succ]
  refine' SeqS.calm _ (by rfl) (by rfl) (fun w => ?_) ?_; rotate_left; · (go_simp <;> with_reducible rfl)
  simp only [Act.put, List.setIfInBounds_toArray, List.set_cons_zero, List.set_cons_succ]
  intro w3 hw3
  have hB := Below.then hB hw3
  obtain ⟨hP, hS⟩ := cells w3 hw3
  clear cells hw3 kt
  have HL := Lib.hid True.intro
  go_wp2_with (first
    | (clear HL; refine load_rec 33 _ rfl rfl _ (Rec.vals m) rfl hS.lies Try.underlying33 size_mem ?_)
    | (go_at_call 28; refine (ko _).mono ?_; rintro e w1 ⟨rfl, hb1⟩; have hP := hP.up hb1; have hS := hS.up hb1; have hB := Below.then hB hb1; clear hb1))
  go_ret
  exact ⟨by first | rfl | simp, hB⟩


set_option maxRecDepth 100000 in
set_option maxHeartbeats 1000000 in
theorem fits_held (p : Par) (m : Mem) (r : Bool) (w : World) (hc : CheckIs p 0) (hd : Std.trim p m.s = m.s) (ho : m.owned = true) (kh : ∀ w, Calls Try.prog 29 #[.agg p.vals, .agg (Rec.vals m)] w fun e w' => e = .returned (.bool r) ∧ Below w.heap.size w w') : Calls Try.prog 11 #[.agg p.vals, .agg (Rec.vals m)] w fun e w' => e = .returned (.bool r) ∧ Below w.heap.size w w' := by
  have hP : ParAt (World.alloc (w.alloc (.cells p.vals 42)) (.cells (Rec.vals m) 33)) w.heap.size p 42 := (mem_two w p m).1
  have hS : RecAt (World.alloc (w.alloc (.cells p.vals 42)) (.cells (Rec.vals m) 33)) (w.heap.size + 1) (Rec.vals m) 33 := (mem_two w p m).2.1
  have hB : Below w.heap.size w (World.alloc (w.alloc (.cells p.vals 42)) (.cells (Rec.vals m) 33)) := (mem_two w p m).2.2
  clear hB
  have kc := hc
  have kt := fun w => trim_ok m.s p w hc
  rw [hd] at kt
  have ko := fun w => owned_is m w
  rw [ho] at ko
  clear hc hd ho
  go_enter Try.func11, Try.ntmps11
  go_upto_region 1 with fail
  obtain ⟨w0, hw0⟩ : ∃ w0, (World.alloc (w.alloc (.cells p.vals 42)) (.cells (Rec.vals m) 33)) = w0 := ⟨_, rfl⟩
  have hB : Below w.heap.size w w0 := by rw [← hw0]; exact (mem_two w p m).2.2
  rw [hw0] at hP hS ⊢
  clear hw0
  have cells : ∀ w', Below w0.heap.size w0 w' → ParAt w' w.heap.size p 42 ∧ RecAt w' (w.heap.size + 1) (Rec.vals m) 33 := fun w' h => ⟨hP.up h, hS.up h⟩
  clear hP hS
  refine region_list [] (fun _ w' => Below w0.heap.size w0 w') (by kernel_rfl) (by kernel_rfl) (Below.refl _ _).drew ?_
  refine SeqS.take _ (by rfl) (by rfl) (fun ph w' hS => exec_load_par _ rfl _ _ _ rfl ((cells w' hS).1)) ?_
  simp only [Act.put, List.setIfInBounds_toArray, List.set_cons_zero, List.set_cons_succ]
  refine SeqS.call (below_call (Nat.le_refl _) (fun w _ => kc w)) (by rfl) (by rfl) (fun w => ?_) ?_; · go_simp
  simp only [Act.put, List.setIfInBounds_toArray, List.set_cons_zero, List.set_cons_succ]
  iterate 2 ((refine' SeqS.calm _ (by rfl) (by rfl) (fun w => ?_) ?_; rotate_left; · (go_simp <;> with_reducible rfl)); simp only [Act.put, List.setIfInBounds_toArray, List.set_cons_zero, List.set_cons_succ])
  refine SeqS.take _ (by rfl) (by rfl) (fun ph w' hS => exec_load_par _ rfl _ _ _ rfl ((cells w' hS).1)) ?_
  simp only [Act.put, List.setIfInBounds_toArray, List.set_cons_zero, List.set_cons_succ]
  refine' SeqS.calm _ (by rfl) (by rfl) (fun w => ?_) ?_; rotate_left; · (go_simp <;> with_reducible rfl)
  simp only [Act.put, List.setIfInBounds_toArray, List.set_cons_zero, List.set_cons_succ]
  refine SeqS.take _ (by rfl) (by rfl) (fun ph w' hS => exec_load_rec 31 _ rfl _ m.s.vals rfl (cells w' hS).2.lies.std Try.underlying31 std_size) ?_
  simp only [Act.put, List.setIfInBounds_toArray, List.set_cons_zero, List.set_cons_succ]
  refine SeqS.call (below_call (Nat.le_refl _) (fun w _ => kt w)) (by rfl) (by rfl) (fun w => ?_) ?_; · go_simp
  simp only [Act.put, List.setIfInBounds_toArray, List.set_cons_zero, List.set_cons_succ]
  refine' SeqS.calm _ (by rfl) (by rfl) (fun w => ?_) ?_; rotate_left; · (go_simp <;> with_reducible rfl)
  simp only [Act.put, List.setIfInBounds_toArray, List.set_cons_zero, List.set_cons_succ]
  refine SeqS.take _ (by rfl) (by rfl) (fun ph w' hS => exec_load_rec 31 _ rfl _ m.s.vals rfl (cells w' hS).2.lies.std Try.underlying31 std_size) ?_
  simp only [Act.put, List.setIfInBounds_toArray, List.set_cons_zero, List.set_cons_succ]
  refine SeqS.take _ (by rfl) (by rfl) (fun ph w' hS => exec_neq_std w' _ _ _ rfl m.s rfl rfl) ?_
  simp only [Act.put, List.setIfInBounds_toArray, List.set_cons_zero, List.set_cons_succ]
  refine' SeqS.calm _ (by rfl) (by rfl) (fun w => ?_) ?_; rotate_left; · (go_simp <;> with_reducible rfl)
  simp only [Act.put, List.setIfInBounds_toArray, List.set_cons_zero, List.set_cons_succ]
  intro w3 hw3
  have hB := Below.then hB hw3
  obtain ⟨hP, hS⟩ := cells w3 hw3
  clear cells hw3 kt
  skip
  go_wp2_with (first
    | (refine load_par _ rfl rfl _ p _ rfl (by assumption) ?_)
    | (refine load_rec 33 _ rfl rfl _ (Rec.vals m) rfl hS.lies Try.underlying33 size_mem ?_)
    | (go_at_call 28; refine (ko _).mono ?_; rintro e w1 ⟨rfl, hb1⟩; have hP := hP.up hb1; have hS := hS.up hb1; have hB := Below.then hB hb1; clear hb1)
    | (go_at_call 29; refine (kh _).mono ?_; rintro e w1 ⟨rfl, hb1⟩; have hP := hP.up hb1; have hS := hS.up hb1; have hB := Below.then hB hb1; clear hb1))
  go_ret
  exact ⟨by first | rfl | simp, hB⟩


/-- Of parameters that are right. -/
theorem fits_is (p : Par) (m : Mem) (w : World) (hc : CheckIs p 0) (hp : Par.Spans p) (hf : m.s.Fits) : Calls Try.prog 11 #[.agg p.vals, .agg (Rec.vals m)] w fun e w' => e = .returned (.bool (m.fits p)) ∧ Below w.heap.size w w' := by
  by_cases hd : Std.trim p m.s = m.s
  · have hh := Std.trim_held hp hd
    cases ho : m.owned with
    | true =>
      rw [show m.fits p = m.holds p by simp [Mem.fits, hh, ho]]
      exact fits_held p m _ w hc hd ho (fun w => holds_is p m w hc hp.inc0 hf)
    | false =>
      rw [show m.fits p = false by simp [Mem.fits, ho]]
      exact fits_foreign p m w hc hd ho
  · rw [show m.fits p = false by
      cases h : m.fits p with
      | false => rfl
      | true => exact absurd (Std.held_trim (Mem.fits_iff.1 h).1) hd]
    exact fits_trim p m w hc hd
end Go.Proofs.Ytfmmcklggnflkaa
