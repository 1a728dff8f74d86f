/- Law PrizeShares (P14.1): of any parameters and any standings the weights and the prizes are the document's, or refused. No condition. -/
import Derived.Test.YtijenmkhbkbnfaaAwake14
import Derived.Test.YtijenmkhbkbnfaaPriC
import Derived.Test.YtijenmkhbkbnfaaParP
import Derived.Test.YtijenmkhbkbnfaaParSb
import Derived.Test.YtijenmkhbkbnfaaLawP
import Derived.Test.YtijenmkhbkbnfaaStdL
import Derived.Test.YtijenmkhbkbnfaaParNew
import Derived.Test.YtijenmkhbkbnfaaRows
import Derived.Great.BuildSlice
namespace Go.Proofs.Ytijenmkhbkbnfaa.PrizeShares
open Go.RowKit Go.ChangeShapes Go.WideShapes Go.ChangeAt
set_option linter.unusedVariables false
set_option linter.unusedSimpArgs false


theorem rst_info : (Try.prog.info? 37).map (fun i => (i.zero, i.size, i.bytes)) = some (some (.agg Std.none.vals), 4, 32) := by kernel_rfl
theorem fill_one (s : Std) : Instr.fill (fun i => some (i * 4, 4)) ((Array.range (1 * 4)).map ((Value.agg Std.none.vals).cells[· % (Value.agg Std.none.vals).cells.size]!)) [(0, .agg s.vals)] = some s.vals := by kernel_rfl
section
variable {ops : Array Oper} {rest : List Oper} {o : Oper} {a : Act} {w : World} {Q : Exit → Act → World → Prop}
/-- A list of one standing. -/
theorem list_one_std (hgd : o.guard = none) (x : Operand) (t e : TypeId) (ho : o.op = .buildSlice t 1 #[(0, x)]) (hu : Try.prog.underlying t = some (.slice e)) (he : (Try.prog.info? e).map (fun i => (i.zero, i.size, i.bytes)) = some (some (.agg Std.none.vals), 4, 32)) (s : Std) (hx : a.eval x = .agg s.vals)
    (h : wpList Try.prog ops Q rest (a.put o.dst (.slice (some ⟨w.heap.size, 0, none⟩) 1 1)) (w.alloc (.cells s.vals e))) : wpList Try.prog ops Q (o :: rest) a w := by
  obtain ⟨i0, hi0, hz0, hz1, hz2⟩ := info_parts he
  refine wpList_buildSlice hgd t e 1 #[(0, x)] ho s.vals i0 _ hu hi0 hz0 (by rw [hz1]; decide) (by rw [hz1]; decide) ?_ h
  rw [hz1]
  simp only [List.map_toArray, List.map_cons, List.map_nil, hx]
  exact fill_one s
end
theorem std_new_at (w : World) (s : Std) (T : TypeId) : Std.At (w.alloc (.cells s.vals T)) ⟨w.heap.size, 0, none⟩ s := fun j v hv => by
  rw [Addr.add_mid, Nat.zero_add, cell_of_row _ _ _ _ _ _ (heap_alloc_new w _), ← hv]
  exact Array.getElem?_toList.symm
theorem std_one (s : Std) : ∀ v ∈ s.vals.toList, v.oneCell' = true := fun v hv => (Array.all_eq_true_iff_forall_mem.1 (svals_one s)) v (Array.mem_toList_iff.1 hv)
theorem sflat_next {l : List Std} {k : Nat} {x : Std} (h : l[k]? = some x) : sflat (l.take (k + 1)) = sflat (l.take k) ++ x.vals.toList := by
  rw [List.take_add_one, h]
  exact sflat_snoc _ x
theorem own4_next {w w' : World} {B n : Nat} {e : TypeId} {v : Value} {xs : List Value} (h : w.ownsRow B e 4 v n xs) (hb : Below w.heap.size w w') : w'.ownsRow B e 4 v n xs := h.kept (grown_of_below hb) (by cases v.ownBlock <;> simp)
theorem row_of_own4 {w : World} {B : Nat} {e : TypeId} {v : Value} {l : List Std} (h : w.ownsRow B e 4 v l.length (sflat l)) : ∃ A c, v = .slice A l.length c ∧ Row w w.heap.size A (sflat l) := by
  rcases h.2 with ⟨rfl, h2⟩ | ⟨g, cap, cur, rfl, hb, hh, hn, hm, hs, ht⟩
  · obtain rfl := List.eq_nil_of_length_eq_zero h2
    exact ⟨none, 0, rfl, Row.nil _ _ _⟩
  · exact ⟨some ⟨g, 0, none⟩, cap, rfl, fun k v hv => ⟨_, rfl, (h.lt g rfl).2, h.cells (g := g) rfl k v hv⟩⟩
theorem std_grown {w w' : World} {b : Nat} {s : Std} {T : TypeId} {row : Option Nat} (h : StdAt w b s T) (hg : w.grownBy w' row) (hne : some b ≠ row) : StdAt w' b s T := (hg.block b h.lt hne).trans h

set_option maxRecDepth 100000 in
set_option maxHeartbeats 2000000 in
theorem walk_many (p : Par) (T : Nat) (l : List Std) (A : Option Addr) (c : Nat) (w : World) (hl : 200 < l.length) (hm : l.length ≤ maxLen) : Calls Try.prog 3 #[.agg p.vals, .int .u64 (T : Int), .slice A l.length c] w fun ev w' => ev = .returned (.bool true) ∧ Below w.heap.size w w' := by
  have hP := ParAt.new w p 24
  have hB : Below w.heap.size w (w.alloc (.cells p.vals 24)) := (Below.refl _ _).alloc (Nat.le_refl _) _
  have d1 : decide ((200 : Int) < (l.length : Int)) = true := decide_eq_true (by omega)
  have d2 : decide (200 < l.length) = true := decide_eq_true hl
  unfold maxLen at hm
  go_enter Try.func3, Try.ntmps3
  go_wp2_with (first
    | (refine load_par _ rfl rfl _ p _ rfl (by assumption) ?_)
    | (go_at_call 7; refine (prize_awake _).mono ?_; rintro e w1 ⟨rfl, hb1⟩; have hP := hP.up hb1; have hB := Below.then hB hb1; clear hb1)
    )
  go_ret
  exact ⟨by first | rfl | simp, hB⟩


set_option maxRecDepth 100000 in
set_option maxHeartbeats 2000000 in
theorem walk_no (p : Par) (T : Nat) (l : List Std) (A : Option Addr) (c : Nat) (w : World) (hl : l.length ≤ 200) (hr : Row w w.heap.size A (sflat l)) (kr : ∀ w, Calls Try.prog 10 #[.agg p.vals] w fun e w' => e = .returned (.bool false) ∧ Below w.heap.size w w') (kws : ∀ s ∈ l, WeightIs p s 0) 
    (kz : ∀ w', Below w.heap.size w w' → Calls Try.prog 8 #[.agg p.vals, .int .u64 (T : Int), .slice A l.length c] w' fun e w2 => e = .returned (.tuple #[.slice none 0 0, .int .u64 0, .int .i64 70]) ∧ Below w'.heap.size w' w2) : Calls Try.prog 3 #[.agg p.vals, .int .u64 (T : Int), .slice A l.length c] w fun ev w' => ev = .returned (.bool true) ∧ Below w.heap.size w w' := by
  have hP := ParAt.new w p 24
  have hB : Below w.heap.size w (w.alloc (.cells p.vals 24)) := (Below.refl _ _).alloc (Nat.le_refl _) _
  obtain ⟨i0, hi0, hz0, hz1, hz2⟩ := info_parts rst_info
  have d1 : decide ((200 : Int) < (l.length : Int)) = false := decide_eq_false (by omega)
  have d2 : decide (200 < l.length) = false := decide_eq_false (by omega)
  have KWS := Lib.hid kws
  clear kws
  have HR0 := hr.below hB
  clear hr
  have hr := HR0
  clear HR0
  go_enter Try.func3, Try.ntmps3
  go_wp2_with (first
    | (refine load_par _ rfl rfl _ p _ rfl (by assumption) ?_)
    | (refine load_ref _ rfl rfl _ p _ rfl (by assumption) ?_)
    | (go_at_call 7; refine (prize_awake _).mono ?_; rintro e w1 ⟨rfl, hb1⟩; have hP := hP.up hb1; have hr := hr.below (hb1.mono hB.size); have hB := Below.then hB hb1; clear hb1)
    | (go_at_call 8; refine (kz _ hB).mono ?_; clear kz; rintro e w2 ⟨rfl, hb1⟩; have hP := hP.up hb1; have hr := hr.below (hb1.mono hB.size); have hB := Below.then hB hb1; clear hb1)
    | (go_at_call 9; refine (plain_is p _).mono ?_; rintro e w1 ⟨rfl, hb1⟩; have hP := hP.up hb1; have hr := hr.below (hb1.mono hB.size); have hB := Below.then hB hb1; clear hb1)
    | (refine store_ref_new _ _ rfl rfl _ p Par.none 31 rfl rfl (ParAt.new _ Par.none _) ?_; intro w2 hQ hb2; have hb1 := below_made (Below.refl _ _) hb2; clear hb2; have hP := hP.up hb1; have hr := hr.below (hb1.mono hB.size); have hB := Below.then hB hb1; clear hb1)
    | (go_at_call 10; refine (kr _).mono ?_; clear kr; rintro e w1 ⟨rfl, hb1⟩; have hQ := hQ.up hb1; have hP := hP.up hb1; have hr := hr.below (hb1.mono hB.size); have hB := Below.then hB hb1; clear hb1)
    )
  go_loopw [12, 37] (fun v iv wr => ∃ k : Nat, k ≤ l.length ∧ iv = .int .i64 (k : Int) ∧ wr.ownsRow w1.heap.size 37 4 v k (sflat (l.take k)) ∧ Below w1.heap.size w1 wr) (fun _ iv _ => l.length - (intOf iv).toNat)
  case atStart => exact ⟨0, Nat.zero_le _, rfl, World.ownsRow_nil _ _ _ _, Below.refl _ _⟩
  case round =>
    obtain ⟨k, hk, rfl, hown, hBr⟩ := hrel
    by_cases hlt : k < l.length
    · obtain ⟨s, hs⟩ : ∃ s, l[k]? = some s := ⟨_, List.getElem?_eq_getElem hlt⟩
      obtain ⟨a, e1, -, hat⟩ := std_row (hr.below (hBr.mono hB.size)) hs
      subst e1
      have kws := KWS.out
      have kw := kws s (List.mem_of_getElem? hs)
      unfold WeightIs at kw
      rw [show ((0 : Nat) : Int) = 0 from rfl] at kw
      have hki : (k : Int) < (l.length : Int) := by omega
      have hk0 : (0 : Int) ≤ (k : Int) := by omega
      have HS0 := Lib.hid hs
      have HOW := Lib.hid hown
      have HBR := Lib.hid hBr
      clear hs kws hown hBr
      go_wp2_with (first
        | (refine load_std_at _ rfl rfl _ s rfl hat ?_)
        | (refine store_std _ _ rfl rfl _ s Std.none 36 rfl rfl (std_zero_new _ _) ?_; intro w2 hX hb2; have hb2 := below_made (Below.refl _ _) hb2; have HO2 := Lib.hid (own4_next HOW.out hb2); have HB2 := Lib.hid (Below.then HBR.out hb2); have HZ2 := Lib.hid hb2.size; clear hb2)
        | (refine load_std _ rfl rfl _ s _ rfl hX ?_)
        | (refine store_rst _ _ rfl rfl _ s Std.none 37 rfl rfl (std_zero_new _ _) ?_; intro w4 hY hb4; have hb4 := below_made (Below.refl _ _) hb4; have hX4 := hX.up hb4; have HX4 := Lib.hid (hX4.up ((Below.refl _ _).alloc (Nat.le_refl _) (.cells s.vals 37))); have HY4 := Lib.hid (hY.up ((Below.refl _ _).alloc (Nat.le_refl _) (.cells s.vals 37))); have HO4 := Lib.hid ((own4_next HO2.out hb4).alloc (.cells s.vals 37)); have HB4 := Lib.hid ((Below.then HB2.out hb4).alloc (Below.then HB2.out hb4).size (.cells s.vals 37)); have HN4 := Lib.hid (std_new_at w4 s 37); have HZ4 := Lib.hid hb4.size; clear hb4 hX)
        | (refine load_rst _ rfl rfl _ s _ rfl hY ?_)
        | (refine list_one_std rfl _ _ _ rfl Try.underlying34 rst_info s rfl ?_)
        | (at_builtin; refine wpList_append_lies _ rfl _ _ 34 rfl w1.heap.size 37 i0 _ 4 32 Try.underlying34 hi0 hz0 hz1 hz2 rfl (by decide) _ k (sflat (l.take k)) rfl HO4.out ⟨w4.heap.size, 0, none⟩ 1 1 s.vals.toList rfl rfl HN4.out (std_one s) (by decide) ?c1 ?c2 ?c3 _ rfl ?_))
      case c1 => simp only [maxLen]; omega
      case c2 => omega
      case c3 => exact HB4.out.size
      intro g cap w7 hown7 hg7 hat7 hlt7
      have hne : ∀ b, wr.heap.size ≤ b → some b ≠ u12.ownBlock := fun b hb e => by have := (HOW.out.lt b e.symm).2; omega
      have hX7 := std_grown HX4.out hg7 (hne _ (Nat.le_refl _))
      have hY7 := std_grown HY4.out hg7 (hne _ HZ2.out)
      rw [← sflat_next HS0.out] at hown7
      have hB7 := HB4.out.grown hg7 HB4.out.size (fun k hk => (HO4.out.lt k hk).1)
      have HO7 := Lib.hid hown7
      have HB7 := Lib.hid hB7
      have hP7 := hP.up hB7
      have hQ7 := hQ.up hB7
      have cP := fun w' (h : Below w7.heap.size w7 w') => hP7.up h
      have cQ := fun w' (h : Below w7.heap.size w7 w') => hQ7.up h
      have cX := fun w' (h : Below w7.heap.size w7 w') => hX7.up h
      have cY := fun w' (h : Below w7.heap.size w7 w') => hY7.up h
      clear hown7 hg7 hat7 hlt7 hne hX7 hY7 hB7 hP7 hQ7 HO4 HB4 HN4 HX4 HY4 HZ4 HZ2 HO2 HB2 HOW HBR hX4 hY hat
      go_wp2
      refine region_list [] (fun _ w' => Below w7.heap.size w7 w') (by kernel_rfl) (by kernel_rfl) (Below.refl _ _).drew ?_
      iterate 2 ((refine' SeqS.calm _ (by rfl) (by rfl) (fun w => ?_) ?_; rotate_left; · (go_simp <;> with_reducible rfl)); simp only [Act.put, List.setIfInBounds_toArray, List.set_cons_zero, List.set_cons_succ])
      iterate 7 ((refine SeqS.skip (by rfl) (by rfl) ?_); simp only [Act.put, List.setIfInBounds_toArray, List.set_cons_zero, List.set_cons_succ])
      iterate 5 ((refine' SeqS.calm _ (by rfl) (by rfl) (fun w => ?_) ?_; rotate_left; · (go_simp <;> with_reducible rfl)); simp only [Act.put, List.setIfInBounds_toArray, List.set_cons_zero, List.set_cons_succ])
      refine SeqS.take _ (by rfl) (by rfl) (fun ph w' hS => exec_load_par _ rfl _ _ _ rfl (cP w' hS)) ?_
      simp only [Act.put, List.setIfInBounds_toArray, List.set_cons_zero, List.set_cons_succ]
      refine SeqS.take _ (by rfl) (by rfl) (fun ph w' hS => exec_load_std _ rfl _ _ _ rfl (cX w' hS)) ?_
      simp only [Act.put, List.setIfInBounds_toArray, List.set_cons_zero, List.set_cons_succ]
      refine SeqS.call (below_call (Nat.le_refl _) (fun w _ => kw w)) (by rfl) (by rfl) (fun w => ?_) ?_; · go_simp
      simp only [Act.put, List.setIfInBounds_toArray, List.set_cons_zero, List.set_cons_succ]
      iterate 3 ((refine' SeqS.calm _ (by rfl) (by rfl) (fun w => ?_) ?_; rotate_left; · (go_simp <;> with_reducible rfl)); simp only [Act.put, List.setIfInBounds_toArray, List.set_cons_zero, List.set_cons_succ])
      intro w8 hw8
      have HO8 := Lib.hid (own4_next HO7.out hw8)
      have HB8 := Lib.hid (Below.then HB7.out hw8)
      clear cP cQ cX cY hw8 HO7 HB7 kw
      go_wp2
      go_roundw
      case rel => exact ⟨k + 1, by omega, by go_num, HO8.out, HB8.out⟩
      case measure => simp [intOf]; omega
    · obtain rfl : k = l.length := by omega
      go_wp2
      go_ret
      exact ⟨by first | rfl | simp, hB.trans (hBr.mono hB.size)⟩


set_option maxRecDepth 100000 in
set_option maxHeartbeats 2000000 in
theorem walk_big (p : Par) (T : Nat) (l : List Std) (A : Option Addr) (c : Nat) (w : World) (hl : l.length ≤ 200) (hr : Row w w.heap.size A (sflat l)) (kr : ∀ w, Calls Try.prog 10 #[.agg p.vals] w fun e w' => e = .returned (.bool true) ∧ Below w.heap.size w w') (kws : ∀ s ∈ l, ∃ x, WeightIs p s x ∧ RweightIs p s x) (h128 : 128 < l.length) 
    (kz : ∀ w', Below w.heap.size w w' → Calls Try.prog 8 #[.agg p.vals, .int .u64 (T : Int), .slice A l.length c] w' fun e w2 => e = .returned (.tuple #[.slice none 0 0, .int .u64 0, .int .i64 3]) ∧ Below w'.heap.size w' w2) : Calls Try.prog 3 #[.agg p.vals, .int .u64 (T : Int), .slice A l.length c] w fun ev w' => ev = .returned (.bool true) ∧ Below w.heap.size w w' := by
  have hP := ParAt.new w p 24
  have hB : Below w.heap.size w (w.alloc (.cells p.vals 24)) := (Below.refl _ _).alloc (Nat.le_refl _) _
  obtain ⟨i0, hi0, hz0, hz1, hz2⟩ := info_parts rst_info
  have d1 : decide ((200 : Int) < (l.length : Int)) = false := decide_eq_false (by omega)
  have d2 : decide (200 < l.length) = false := decide_eq_false (by omega)
  have d128 : decide ((128 : Int) < (l.length : Int)) = true := decide_eq_true (by omega)
  have d129 : decide (128 < l.length) = true := decide_eq_true (by omega)
  have KWS := Lib.hid kws
  clear kws
  have HR0 := hr.below hB
  clear hr
  have hr := HR0
  clear HR0
  go_enter Try.func3, Try.ntmps3
  go_wp2_with (first
    | (refine load_par _ rfl rfl _ p _ rfl (by assumption) ?_)
    | (refine load_ref _ rfl rfl _ p _ rfl (by assumption) ?_)
    | (go_at_call 7; refine (prize_awake _).mono ?_; rintro e w1 ⟨rfl, hb1⟩; have hP := hP.up hb1; have hr := hr.below (hb1.mono hB.size); have hB := Below.then hB hb1; clear hb1)
    | (go_at_call 8; refine (kz _ hB).mono ?_; clear kz; rintro e w2 ⟨rfl, hb1⟩; have hP := hP.up hb1; have hr := hr.below (hb1.mono hB.size); have hB := Below.then hB hb1; clear hb1)
    | (go_at_call 9; refine (plain_is p _).mono ?_; rintro e w1 ⟨rfl, hb1⟩; have hP := hP.up hb1; have hr := hr.below (hb1.mono hB.size); have hB := Below.then hB hb1; clear hb1)
    | (refine store_ref_new _ _ rfl rfl _ p Par.none 31 rfl rfl (ParAt.new _ Par.none _) ?_; intro w2 hQ hb2; have hb1 := below_made (Below.refl _ _) hb2; clear hb2; have hP := hP.up hb1; have hr := hr.below (hb1.mono hB.size); have hB := Below.then hB hb1; clear hb1)
    | (go_at_call 10; refine (kr _).mono ?_; clear kr; rintro e w1 ⟨rfl, hb1⟩; have hQ := hQ.up hb1; have hP := hP.up hb1; have hr := hr.below (hb1.mono hB.size); have hB := Below.then hB hb1; clear hb1)
    )
  go_loopw [12, 37] (fun v iv wr => ∃ k : Nat, k ≤ l.length ∧ iv = .int .i64 (k : Int) ∧ wr.ownsRow w1.heap.size 37 4 v k (sflat (l.take k)) ∧ Below w1.heap.size w1 wr) (fun _ iv _ => l.length - (intOf iv).toNat)
  case atStart => exact ⟨0, Nat.zero_le _, rfl, World.ownsRow_nil _ _ _ _, Below.refl _ _⟩
  case round =>
    obtain ⟨k, hk, rfl, hown, hBr⟩ := hrel
    by_cases hlt : k < l.length
    · obtain ⟨s, hs⟩ : ∃ s, l[k]? = some s := ⟨_, List.getElem?_eq_getElem hlt⟩
      obtain ⟨a, e1, -, hat⟩ := std_row (hr.below (hBr.mono hB.size)) hs
      subst e1
      have kws := KWS.out
      obtain ⟨x, kw, kv⟩ := kws s (List.mem_of_getElem? hs)
      unfold WeightIs at kw
      unfold RweightIs at kv
      have hki : (k : Int) < (l.length : Int) := by omega
      have hk0 : (0 : Int) ≤ (k : Int) := by omega
      have HS0 := Lib.hid hs
      have HOW := Lib.hid hown
      have HBR := Lib.hid hBr
      clear hs kws hown hBr
      go_wp2_with (first
        | (refine load_std_at _ rfl rfl _ s rfl hat ?_)
        | (refine store_std _ _ rfl rfl _ s Std.none 36 rfl rfl (std_zero_new _ _) ?_; intro w2 hX hb2; have hb2 := below_made (Below.refl _ _) hb2; have HO2 := Lib.hid (own4_next HOW.out hb2); have HB2 := Lib.hid (Below.then HBR.out hb2); have HZ2 := Lib.hid hb2.size; clear hb2)
        | (refine load_std _ rfl rfl _ s _ rfl hX ?_)
        | (refine store_rst _ _ rfl rfl _ s Std.none 37 rfl rfl (std_zero_new _ _) ?_; intro w4 hY hb4; have hb4 := below_made (Below.refl _ _) hb4; have hX4 := hX.up hb4; have HX4 := Lib.hid (hX4.up ((Below.refl _ _).alloc (Nat.le_refl _) (.cells s.vals 37))); have HY4 := Lib.hid (hY.up ((Below.refl _ _).alloc (Nat.le_refl _) (.cells s.vals 37))); have HO4 := Lib.hid ((own4_next HO2.out hb4).alloc (.cells s.vals 37)); have HB4 := Lib.hid ((Below.then HB2.out hb4).alloc (Below.then HB2.out hb4).size (.cells s.vals 37)); have HN4 := Lib.hid (std_new_at w4 s 37); have HZ4 := Lib.hid hb4.size; clear hb4 hX)
        | (refine load_rst _ rfl rfl _ s _ rfl hY ?_)
        | (refine list_one_std rfl _ _ _ rfl Try.underlying34 rst_info s rfl ?_)
        | (at_builtin; refine wpList_append_lies _ rfl _ _ 34 rfl w1.heap.size 37 i0 _ 4 32 Try.underlying34 hi0 hz0 hz1 hz2 rfl (by decide) _ k (sflat (l.take k)) rfl HO4.out ⟨w4.heap.size, 0, none⟩ 1 1 s.vals.toList rfl rfl HN4.out (std_one s) (by decide) ?c1 ?c2 ?c3 _ rfl ?_))
      case c1 => simp only [maxLen]; omega
      case c2 => omega
      case c3 => exact HB4.out.size
      intro g cap w7 hown7 hg7 hat7 hlt7
      have hne : ∀ b, wr.heap.size ≤ b → some b ≠ u12.ownBlock := fun b hb e => by have := (HOW.out.lt b e.symm).2; omega
      have hX7 := std_grown HX4.out hg7 (hne _ (Nat.le_refl _))
      have hY7 := std_grown HY4.out hg7 (hne _ HZ2.out)
      rw [← sflat_next HS0.out] at hown7
      have hB7 := HB4.out.grown hg7 HB4.out.size (fun k hk => (HO4.out.lt k hk).1)
      have HO7 := Lib.hid hown7
      have HB7 := Lib.hid hB7
      have hP7 := hP.up hB7
      have hQ7 := hQ.up hB7
      have cP := fun w' (h : Below w7.heap.size w7 w') => hP7.up h
      have cQ := fun w' (h : Below w7.heap.size w7 w') => hQ7.up h
      have cX := fun w' (h : Below w7.heap.size w7 w') => hX7.up h
      have cY := fun w' (h : Below w7.heap.size w7 w') => hY7.up h
      clear hown7 hg7 hat7 hlt7 hne hX7 hY7 hB7 hP7 hQ7 HO4 HB4 HN4 HX4 HY4 HZ4 HZ2 HO2 HB2 HOW HBR hX4 hY hat
      go_wp2
      refine region_list [] (fun _ w' => Below w7.heap.size w7 w') (by kernel_rfl) (by kernel_rfl) (Below.refl _ _).drew ?_
      iterate 2 ((refine' SeqS.calm _ (by rfl) (by rfl) (fun w => ?_) ?_; rotate_left; · (go_simp <;> with_reducible rfl)); simp only [Act.put, List.setIfInBounds_toArray, List.set_cons_zero, List.set_cons_succ])
      refine SeqS.take _ (by rfl) (by rfl) (fun ph w' hS => exec_load_par _ rfl _ _ _ rfl (cP w' hS)) ?_
      simp only [Act.put, List.setIfInBounds_toArray, List.set_cons_zero, List.set_cons_succ]
      refine SeqS.take _ (by rfl) (by rfl) (fun ph w' hS => exec_load_std _ rfl _ _ _ rfl (cX w' hS)) ?_
      simp only [Act.put, List.setIfInBounds_toArray, List.set_cons_zero, List.set_cons_succ]
      refine SeqS.call (below_call (Nat.le_refl _) (fun w _ => kw w)) (by rfl) (by rfl) (fun w => ?_) ?_; · go_simp
      simp only [Act.put, List.setIfInBounds_toArray, List.set_cons_zero, List.set_cons_succ]
      refine SeqS.take _ (by rfl) (by rfl) (fun ph w' hS => exec_load_rpar _ rfl _ _ _ rfl (cQ w' hS)) ?_
      simp only [Act.put, List.setIfInBounds_toArray, List.set_cons_zero, List.set_cons_succ]
      refine SeqS.take _ (by rfl) (by rfl) (fun ph w' hS => exec_load_rst _ rfl _ _ _ rfl (cY w' hS)) ?_
      simp only [Act.put, List.setIfInBounds_toArray, List.set_cons_zero, List.set_cons_succ]
      refine SeqS.call (below_call (Nat.le_refl _) (fun w _ => kv w)) (by rfl) (by rfl) (fun w => ?_) ?_; · go_simp
      simp only [Act.put, List.setIfInBounds_toArray, List.set_cons_zero, List.set_cons_succ]
      iterate 6 ((refine' SeqS.calm _ (by rfl) (by rfl) (fun w => ?_) ?_; rotate_left; · (go_simp <;> with_reducible rfl)); simp only [Act.put, List.setIfInBounds_toArray, List.set_cons_zero, List.set_cons_succ])
      iterate 4 ((refine SeqS.skip (by rfl) (by rfl) ?_); simp only [Act.put, List.setIfInBounds_toArray, List.set_cons_zero, List.set_cons_succ])
      iterate 2 ((refine' SeqS.calm _ (by rfl) (by rfl) (fun w => ?_) ?_; rotate_left; · (go_simp <;> with_reducible rfl)); simp only [Act.put, List.setIfInBounds_toArray, List.set_cons_zero, List.set_cons_succ])
      intro w8 hw8
      have HO8 := Lib.hid (own4_next HO7.out hw8)
      have HB8 := Lib.hid (Below.then HB7.out hw8)
      clear cP cQ cX cY hw8 HO7 HB7 kw kv
      go_wp2
      go_roundw
      case rel => exact ⟨k + 1, by omega, by go_num, HO8.out, HB8.out⟩
      case measure => simp [intOf]; omega
    · obtain rfl : k = l.length := by omega
      go_wp2
      go_ret
      exact ⟨by first | rfl | simp, hB.trans (hBr.mono hB.size)⟩


set_option maxRecDepth 100000 in
set_option maxHeartbeats 2000000 in
theorem walk_ok (p : Par) (T : Nat) (l : List Std) (P : List Nat) (r : Nat) (A : Option Addr) (c : Nat) (w : World) (hl : l.length ≤ 200) (hr : Row w w.heap.size A (sflat l)) (kr : ∀ w, Calls Try.prog 10 #[.agg p.vals] w fun e w' => e = .returned (.bool true) ∧ Below w.heap.size w w') (kws : ∀ s ∈ l, ∃ x, WeightIs p s x ∧ RweightIs p s x) (hPl : P.length = l.length) (ky : ∀ (A : Option Addr) (c : Nat) (w : World), Row w w.heap.size A (sflat l) → Calls Try.prog 13 #[.agg p.vals, .int .u64 (T : Int), .slice A l.length c] w fun e w' => ∃ v, e = .returned (.tuple #[v, .int .u64 (r : Int)]) ∧ w'.ownsRow w.heap.size 22 1 v l.length (u64s P) ∧ Below w.heap.size w w') (h128 : l.length ≤ 128) 
    (kz : ∀ w', Below w.heap.size w w' → Calls Try.prog 8 #[.agg p.vals, .int .u64 (T : Int), .slice A l.length c] w' fun e w2 => ∃ A' c', e = .returned (.tuple #[.slice A' l.length c', .int .u64 (r : Int), .int .i64 0]) ∧ Row w2 w2.heap.size A' (u64s P) ∧ Below w'.heap.size w' w2) : Calls Try.prog 3 #[.agg p.vals, .int .u64 (T : Int), .slice A l.length c] w fun ev w' => ev = .returned (.bool true) ∧ Below w.heap.size w w' := by
  have hP := ParAt.new w p 24
  have hB : Below w.heap.size w (w.alloc (.cells p.vals 24)) := (Below.refl _ _).alloc (Nat.le_refl _) _
  obtain ⟨i0, hi0, hz0, hz1, hz2⟩ := info_parts rst_info
  have d1 : decide ((200 : Int) < (l.length : Int)) = false := decide_eq_false (by omega)
  have d2 : decide (200 < l.length) = false := decide_eq_false (by omega)
  have d128 : decide ((128 : Int) < (l.length : Int)) = false := decide_eq_false (by omega)
  have d129 : decide (128 < l.length) = false := decide_eq_false (by omega)
  have ksame : ∀ (A1 A2 : Option Addr) (c1 c2 : Nat) (v : World), Row v v.heap.size A1 (u64s P) → Row v v.heap.size A2 (u64s P) → Calls Try.prog 14 #[.slice A1 l.length c1, .slice A2 l.length c2] v fun e w' => e = .returned (.bool true) ∧ Below v.heap.size v w' := by
    intro A1 A2 c1 c2 v h1 h2
    have h := same_words_true P A1 A2 c1 c2 v h1 h2 (by unfold maxLen; omega)
    rwa [hPl] at h
  clear hPl
  have KWS := Lib.hid kws
  clear kws
  have HR0 := hr.below hB
  clear hr
  have hr := HR0
  clear HR0
  go_enter Try.func3, Try.ntmps3
  go_wp2_with (first
    | (refine load_par _ rfl rfl _ p _ rfl (by assumption) ?_)
    | (refine load_ref _ rfl rfl _ p _ rfl (by assumption) ?_)
    | (go_at_call 7; refine (prize_awake _).mono ?_; rintro e w1 ⟨rfl, hb1⟩; have hP := hP.up hb1; have hr := hr.below (hb1.mono hB.size); have hB := Below.then hB hb1; clear hb1)
    | (go_at_call 8; refine (kz _ hB).mono ?_; clear kz; rintro e w2 ⟨A2, c2, rfl, hr2, hb1⟩; have hP := hP.up hb1; have hr := hr.below (hb1.mono hB.size); have hB := Below.then hB hb1; clear hb1)
    | (go_at_call 9; refine (plain_is p _).mono ?_; rintro e w1 ⟨rfl, hb1⟩; have hP := hP.up hb1; have hr := hr.below (hb1.mono hB.size); have hB := Below.then hB hb1; have hr2 := (hr2.below hb1).up hb1.size; clear hb1)
    | (refine store_ref_new _ _ rfl rfl _ p Par.none 31 rfl rfl (ParAt.new _ Par.none _) ?_; intro w2 hQ hb2; have hb1 := below_made (Below.refl _ _) hb2; clear hb2; have hP := hP.up hb1; have hr := hr.below (hb1.mono hB.size); have hB := Below.then hB hb1; have hr2 := (hr2.below hb1).up hb1.size; clear hb1)
    | (go_at_call 10; refine (kr _).mono ?_; clear kr; rintro e w1 ⟨rfl, hb1⟩; have hQ := hQ.up hb1; have hP := hP.up hb1; have hr := hr.below (hb1.mono hB.size); have hB := Below.then hB hb1; have hr2 := (hr2.below hb1).up hb1.size; clear hb1)
    )
  go_loopw [12, 37] (fun v iv wr => ∃ k : Nat, k ≤ l.length ∧ iv = .int .i64 (k : Int) ∧ wr.ownsRow w1.heap.size 37 4 v k (sflat (l.take k)) ∧ Below w1.heap.size w1 wr) (fun _ iv _ => l.length - (intOf iv).toNat)
  case atStart => exact ⟨0, Nat.zero_le _, rfl, World.ownsRow_nil _ _ _ _, Below.refl _ _⟩
  case round =>
    obtain ⟨k, hk, rfl, hown, hBr⟩ := hrel
    by_cases hlt : k < l.length
    · obtain ⟨s, hs⟩ : ∃ s, l[k]? = some s := ⟨_, List.getElem?_eq_getElem hlt⟩
      obtain ⟨a, e1, -, hat⟩ := std_row (hr.below (hBr.mono hB.size)) hs
      subst e1
      have kws := KWS.out
      obtain ⟨x, kw, kv⟩ := kws s (List.mem_of_getElem? hs)
      unfold WeightIs at kw
      unfold RweightIs at kv
      have hki : (k : Int) < (l.length : Int) := by omega
      have hk0 : (0 : Int) ≤ (k : Int) := by omega
      have HS0 := Lib.hid hs
      have HOW := Lib.hid hown
      have HBR := Lib.hid hBr
      clear hs kws hown hBr
      go_wp2_with (first
        | (refine load_std_at _ rfl rfl _ s rfl hat ?_)
        | (refine store_std _ _ rfl rfl _ s Std.none 36 rfl rfl (std_zero_new _ _) ?_; intro w2 hX hb2; have hb2 := below_made (Below.refl _ _) hb2; have HO2 := Lib.hid (own4_next HOW.out hb2); have HB2 := Lib.hid (Below.then HBR.out hb2); have HZ2 := Lib.hid hb2.size; clear hb2)
        | (refine load_std _ rfl rfl _ s _ rfl hX ?_)
        | (refine store_rst _ _ rfl rfl _ s Std.none 37 rfl rfl (std_zero_new _ _) ?_; intro w4 hY hb4; have hb4 := below_made (Below.refl _ _) hb4; have hX4 := hX.up hb4; have HX4 := Lib.hid (hX4.up ((Below.refl _ _).alloc (Nat.le_refl _) (.cells s.vals 37))); have HY4 := Lib.hid (hY.up ((Below.refl _ _).alloc (Nat.le_refl _) (.cells s.vals 37))); have HO4 := Lib.hid ((own4_next HO2.out hb4).alloc (.cells s.vals 37)); have HB4 := Lib.hid ((Below.then HB2.out hb4).alloc (Below.then HB2.out hb4).size (.cells s.vals 37)); have HN4 := Lib.hid (std_new_at w4 s 37); have HZ4 := Lib.hid hb4.size; clear hb4 hX)
        | (refine load_rst _ rfl rfl _ s _ rfl hY ?_)
        | (refine list_one_std rfl _ _ _ rfl Try.underlying34 rst_info s rfl ?_)
        | (at_builtin; refine wpList_append_lies _ rfl _ _ 34 rfl w1.heap.size 37 i0 _ 4 32 Try.underlying34 hi0 hz0 hz1 hz2 rfl (by decide) _ k (sflat (l.take k)) rfl HO4.out ⟨w4.heap.size, 0, none⟩ 1 1 s.vals.toList rfl rfl HN4.out (std_one s) (by decide) ?c1 ?c2 ?c3 _ rfl ?_))
      case c1 => simp only [maxLen]; omega
      case c2 => omega
      case c3 => exact HB4.out.size
      intro g cap w7 hown7 hg7 hat7 hlt7
      have hne : ∀ b, wr.heap.size ≤ b → some b ≠ u12.ownBlock := fun b hb e => by have := (HOW.out.lt b e.symm).2; omega
      have hX7 := std_grown HX4.out hg7 (hne _ (Nat.le_refl _))
      have hY7 := std_grown HY4.out hg7 (hne _ HZ2.out)
      rw [← sflat_next HS0.out] at hown7
      have hB7 := HB4.out.grown hg7 HB4.out.size (fun k hk => (HO4.out.lt k hk).1)
      have HO7 := Lib.hid hown7
      have HB7 := Lib.hid hB7
      have hP7 := hP.up hB7
      have hQ7 := hQ.up hB7
      have cP := fun w' (h : Below w7.heap.size w7 w') => hP7.up h
      have cQ := fun w' (h : Below w7.heap.size w7 w') => hQ7.up h
      have cX := fun w' (h : Below w7.heap.size w7 w') => hX7.up h
      have cY := fun w' (h : Below w7.heap.size w7 w') => hY7.up h
      clear hown7 hg7 hat7 hlt7 hne hX7 hY7 hB7 hP7 hQ7 HO4 HB4 HN4 HX4 HY4 HZ4 HZ2 HO2 HB2 HOW HBR hX4 hY hat
      go_wp2
      refine region_list [] (fun _ w' => Below w7.heap.size w7 w') (by kernel_rfl) (by kernel_rfl) (Below.refl _ _).drew ?_
      iterate 2 ((refine' SeqS.calm _ (by rfl) (by rfl) (fun w => ?_) ?_; rotate_left; · (go_simp <;> with_reducible rfl)); simp only [Act.put, List.setIfInBounds_toArray, List.set_cons_zero, List.set_cons_succ])
      refine SeqS.take _ (by rfl) (by rfl) (fun ph w' hS => exec_load_par _ rfl _ _ _ rfl (cP w' hS)) ?_
      simp only [Act.put, List.setIfInBounds_toArray, List.set_cons_zero, List.set_cons_succ]
      refine SeqS.take _ (by rfl) (by rfl) (fun ph w' hS => exec_load_std _ rfl _ _ _ rfl (cX w' hS)) ?_
      simp only [Act.put, List.setIfInBounds_toArray, List.set_cons_zero, List.set_cons_succ]
      refine SeqS.call (below_call (Nat.le_refl _) (fun w _ => kw w)) (by rfl) (by rfl) (fun w => ?_) ?_; · go_simp
      simp only [Act.put, List.setIfInBounds_toArray, List.set_cons_zero, List.set_cons_succ]
      refine SeqS.take _ (by rfl) (by rfl) (fun ph w' hS => exec_load_rpar _ rfl _ _ _ rfl (cQ w' hS)) ?_
      simp only [Act.put, List.setIfInBounds_toArray, List.set_cons_zero, List.set_cons_succ]
      refine SeqS.take _ (by rfl) (by rfl) (fun ph w' hS => exec_load_rst _ rfl _ _ _ rfl (cY w' hS)) ?_
      simp only [Act.put, List.setIfInBounds_toArray, List.set_cons_zero, List.set_cons_succ]
      refine SeqS.call (below_call (Nat.le_refl _) (fun w _ => kv w)) (by rfl) (by rfl) (fun w => ?_) ?_; · go_simp
      simp only [Act.put, List.setIfInBounds_toArray, List.set_cons_zero, List.set_cons_succ]
      iterate 6 ((refine' SeqS.calm _ (by rfl) (by rfl) (fun w => ?_) ?_; rotate_left; · (go_simp <;> with_reducible rfl)); simp only [Act.put, List.setIfInBounds_toArray, List.set_cons_zero, List.set_cons_succ])
      iterate 4 ((refine SeqS.skip (by rfl) (by rfl) ?_); simp only [Act.put, List.setIfInBounds_toArray, List.set_cons_zero, List.set_cons_succ])
      iterate 2 ((refine' SeqS.calm _ (by rfl) (by rfl) (fun w => ?_) ?_; rotate_left; · (go_simp <;> with_reducible rfl)); simp only [Act.put, List.setIfInBounds_toArray, List.set_cons_zero, List.set_cons_succ])
      intro w8 hw8
      have HO8 := Lib.hid (own4_next HO7.out hw8)
      have HB8 := Lib.hid (Below.then HB7.out hw8)
      clear cP cQ cX cY hw8 HO7 HB7 kw kv
      go_wp2
      go_roundw
      case rel => exact ⟨k + 1, by omega, by go_num, HO8.out, HB8.out⟩
      case measure => simp [intOf]; omega
    · obtain rfl : k = l.length := by omega
      rw [List.take_length] at hown
      obtain ⟨A3, c3, rfl, hr3⟩ := row_of_own4 hown
      have hQ := hQ.up hBr
      have hr2 := (hr2.below hBr).up hBr.size
      have hB := Below.then hB hBr
      clear hown hBr
      go_wp2_with (first
        | (refine load_ref _ rfl rfl _ p _ rfl hQ ?_)
        | (go_at_call 13; refine (ky _ _ _ hr3).mono ?_; clear ky; rintro e w5 ⟨v5, rfl, hown5, hb5⟩; obtain ⟨A5, c5, rfl, -, -, hr5⟩ := Row.of_own hown5; have hr6 := (hr2.below hb5).up hb5.size; have hB := Below.then hB hb5; clear hb5)
        | (go_at_call 14; refine (ksame _ _ _ _ _ hr6 hr5).mono ?_; rintro e w6 ⟨rfl, hb6⟩; have hB := Below.then hB hb6; clear hb6))
      go_ret
      exact ⟨by first | rfl | simp, hB⟩

theorem walk (p : Par) (T : Nat) (l : List Std) (A : Option Addr) (c : Nat) (w : World) (hf : p.Fits) (hT : T < 18446744073709551616) (hl : ∀ s ∈ l, s.Fits) (hr : Row w w.heap.size A (sflat l)) (hc : l.length ≤ c) (hm : c ≤ maxLen) : Calls Try.prog 3 #[.agg p.vals, .int .u64 (T : Int), .slice A l.length c] w fun ev w' => ev = .returned (.bool true) ∧ Below w.heap.size w w' := by
  by_cases h200 : 200 < l.length
  · exact walk_many p T l A c w h200 (Nat.le_trans hc hm)
  by_cases hR : ∃ N, Par.Right p N
  · obtain ⟨N, hN⟩ := hR
    have kc : CheckIs p 0 := fun w => check_ok p N w hN
    have kr := fun w => refright_ok p N w hN
    have kws : ∀ s ∈ l, ∃ x, WeightIs p s x ∧ RweightIs p s x := fun s _ => ⟨_, weight_ok p s kc hN.spans, rweight_is p s hN.spans⟩
    by_cases h : l.length ≤ 128
    · refine walk_ok p T l (prizesOf p T l) (T - tot (prizesOf p T l)) A c w (by omega) hr kr kws (prizes_len p T l) (fun A' c' w' hr' => rprizes_is p T l A' c' w' hN.spans hT hr' h) h fun w' hw' => ?_
      refine (prizes_ok p T l A c w' kc hN.spans hT ((hr.below hw').up hw'.size) h).mono ?_
      rintro e w2 ⟨v, rfl, hown, hb⟩
      obtain ⟨A', c', rfl, -, -, hrow⟩ := Row.of_own hown
      exact ⟨A', c', rfl, hrow, hb⟩
    · exact walk_big p T l A c w (by omega) hr kr kws (by omega) (fun w' _ => prizes_big p T l A c w' kc (by omega) (Nat.le_trans hc hm))
  · have kc : CheckIs p 70 := fun w => check_no p w hf hR
    exact walk_no p T l A c w (by omega) hr (fun w => refright_no p w hR) (fun s _ => weight_no p s kc) (fun w' _ => prizes_no p T l A c w' kc)


theorem own : ownKnob Try.prog.godebug = none := by kernel_rfl
theorem laidOut : laidOutB Try.prog = true := by kernel_rfl

set_option maxRecDepth 100000 in
theorem lifted (os : Os) (started : os.Started) (H : Type) (enc : TypeId × Value → H) :
    ReturnsInHanded {} Try.checked os 3 .any (Rows.prizeSharesSpec.pre6 enc Try.prog Try.f3 Rows.prizeSharesRow.domain false) (Rows.prizeSharesSpec.post enc Try.prog Try.f3 false true false false) := by
  refine returnsInHanded_of_change (C := Try.checked) own started (by kernel_rfl) Try.func3
    (ChangeSpec.witness6 (enc := enc) (C := Try.checked) false ⟨#[], #[.agg #[.int .u64 0, .int .u64 0, .int .u64 0, .int .u64 0, .int .u64 0, .int .u64 0, .int .u64 0, .int .u64 0, .int .u64 0, .int .u64 0, .int .u64 0, .int .u64 0, .int .u64 0, .int .u64 0, .int .i64 0, .int .i64 0, .int .i64 0, .int .i64 0, .int .i64 0, .int .i64 0, .int .i64 0, .int .i64 0, .int .i64 0, .int .i64 0], .int .u64 0, .slice none 0 0], []⟩ 8 (by kernel_rfl) (by kernel_rfl) (by kernel_rfl) (by kernel_rfl)) ?_
  intro W base args ds gs before hval0 hW hcnd _
  have hval : ∀ (j : Nat) t v, Try.f3.params[j]? = some t → args[j]? = some v → Value.okWide Try.prog W .any base t v := hval0
  have hW' := hW
  obtain ⟨p, q, hA0, hV, rfl, hfz, hnd⟩ := hW
  have hlt : ∀ x ∈ p ++ q, x.block < W.heap.size := fun x hx => hW'.lt x hx
  have hA : DataW.TrodAll enc Try.prog W 0 (fun _ => true) true Try.f3.params.toList args.toList ds p := hA0
  rw [Try.params3] at hA hval
  obtain ⟨v0, vs0, d0, ds0, p0, q0, hargs, rfl, rfl, h0, r0⟩ := trodAll_cons hA
  obtain ⟨v1, vs1, d1, ds1, p1, q1, rfl, rfl, rfl, h1, r1⟩ := trodAll_cons r0
  obtain ⟨v2, vs2, d2, ds2, p2, q2, rfl, rfl, rfl, h2, r2⟩ := trodAll_cons r1
  obtain ⟨rfl, rfl, rfl⟩ := trodAll_nil r2
  obtain rfl : args = #[v0, v1, v2] := by cases args; simp_all
  obtain ⟨rfl, rfl⟩ := trodVars_none hV
  obtain ⟨a0, rfl, f0⟩ := open_par (hval 0 24 v0 rfl rfl) h0
  obtain ⟨a1, rfl, rfl, rfl, w1⟩ := open_int Try.underlying22 (hval 1 22 v1 rfl rfl) h1
  have b1 := u64_fits w1
  obtain ⟨n1, rfl⟩ := Int.eq_ofNat_of_zero_le b1.1
  obtain ⟨A2, n2, c2, rfl⟩ := okWide_slice Try.underlying25 (hval 2 25 v2 rfl rfl)
  obtain ⟨l2, hl2, hf2, hc2, hm2, hr2⟩ := open_stds h2
  subst hl2
  clear hA0 hval0
  refine (walk a0 n1 l2 A2 c2 W f0 (by have := b1.2; omega) hf2 hr2 hc2 hm2).mono fun e W' ⟨he, hg⟩ => ?_
  subst he
  exact ⟨_, rfl, law_post laidOut (by kernel_rfl) rfl rfl Try.underlying4 rfl hW' hg⟩

theorem over : Rows.prizeSharesRow.holds Try.pinned (OpenSpec.ofChange Rows.prizeSharesSpec) :=
  OpenClaim.holds_of_wide 3 Try.f3 rfl rfl rfl rfl rfl rfl rfl ⟨rfl, rfl, rfl, rfl, rfl⟩ rfl rfl rfl rfl rfl (by kernel_rfl) Try.func3 (by kernel_rfl)
    (of_decide_eq_true (by kernel_rfl)) (by unfold Func.isWrapper; first | (rw [if_pos (by decide +kernel)]; kernel_rfl) | (rw [if_neg (by decide +kernel)]; exact ⟨rfl, rfl⟩))
    (fun os started H enc _ => lifted os started H enc)

/-- The statement. -/
theorem proved : Rows.PrizeSharesSaid := over
#print axioms proved

end Go.Proofs.Ytijenmkhbkbnfaa.PrizeShares
