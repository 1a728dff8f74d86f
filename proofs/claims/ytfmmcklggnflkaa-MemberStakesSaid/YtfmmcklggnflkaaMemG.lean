/- Layer 19 (member), the document's: a member as it has it, who counts, what is active and present. By contracts. -/
import Derived.Test.YtfmmcklggnflkaaMemF
import Derived.Test.YtfmmcklggnflkaaBitD
import Derived.Test.YtfmmcklggnflkaaNatG
namespace Go.Proofs.Ytfmmcklggnflkaa
open Go.RowKit Go.Deep
set_option linter.unusedVariables false
set_option linter.unusedSimpArgs false

theorem size_rmem : (Try.prog.info? 36).map (·.size) = some (Rec.z Mem) := by kernel_rfl
theorem info_rmem : (Try.prog.info? 36).map (fun i => (i.zero, i.size, i.bytes)) = some (some (.agg (Rec.vals (Mem.zero : Mem))), Rec.z Mem, 48) := by kernel_rfl
theorem wd_info : (Try.prog.info? 25).map (fun i => (i.zero, i.size, i.bytes)) = some (some (.int .u64 0), 1, 8) := by kernel_rfl
theorem mem_zero_at (w : World) (T : TypeId) {b : Nat} (hb : b = w.heap.size) : RecAt (w.alloc (.cells #[.int .u64 0, .int .u64 0, .int .u64 0, .int .i64 0, .int .i64 0, .int .i64 0] T)) b (Rec.vals Mem.zero) T := by
  subst hb
  exact RecAt.new w (Rec.vals Mem.zero) T
section
variable {ops : Array Oper} {rest : List Oper} {o : Oper} {a : Act} {w : World} {Q : Exit → Act → World → Prop}
set_option maxRecDepth 100000 in
theorem built_rmem (s : Std) (x y : Int) : Try.prog.built 36 [(0, .agg s.vals), (1, .int .i64 x), (2, .int .i64 y)] = some (Rec.vals (⟨s, x, y⟩ : Mem)) := by kernel_rfl
set_option maxRecDepth 100000 in
theorem build_rmem (u v z : Operand) (ho : o.op = .build 36 #[(0, u), (1, v), (2, z)]) (hgd : Region.wanted o (yielded ops a.tmps) = true) (m : Mem) (hx : a.eval u = .agg m.s.vals) (hy : a.eval v = .int .i64 m.owner) (hz : a.eval z = .int .i64 m.status)
    (h : wpList Try.prog ops Q rest (a.put o.dst (.agg (Rec.vals m))) w) : wpList Try.prog ops Q (o :: rest) a w := by
  refine build_rec 36 _ ho hgd _ ?_ h
  simp only [List.map_toArray, List.map_cons, List.map_nil, hx, hy, hz]
  exact built_rmem m.s m.owner m.status
end
section
variable {fn : Func} {s k : Nat} {T : TypeId} {x : Mem} {g : Nat} {tmps : Array Value} {w : World}
theorem res_rmem (h : fn.results = #[.cell s 36]) (hp : tmps.getD s undef = .pointer (some ⟨g, 0, none⟩)) (hS : RecAt w g (Rec.vals x) T) : (results fn tmps).run Try.prog w = .ok (.agg (Rec.vals x)) w :=
  results_cell_row h tmps w g T (Rec.vals x) (0, 0) _ hp hS Try.underlying36 rfl size_rmem
end
set_option maxRecDepth 100000 in
theorem fill_mem (m : Mem) : Instr.fill (fun i => some (i * (Rec.vals m).size, (Rec.vals m).size)) ((Array.range (1 * (Rec.vals m).size)).map ((Value.agg (Rec.vals (Mem.zero : Mem))).cells[· % (Value.agg (Rec.vals (Mem.zero : Mem))).cells.size]!)) [(0, .agg (Rec.vals m))] = some (Rec.vals m) := by kernel_rfl

set_option maxRecDepth 100000 in
set_option maxHeartbeats 1000000 in
theorem mplain_is (m : Mem) (w : World) : Calls Try.prog 7 #[.agg (Rec.vals m)] w fun e w' => e = .returned (.agg (Rec.vals m)) ∧ Below w.heap.size w w' := by
  go_enter Try.func7, Try.ntmps7
  go_upto_region 1 with fail
  generalize hw0 : World.alloc _ _ = w0
  have hS : RecAt w0 w.heap.size (Rec.vals m) 33 := by rw [← hw0]; exact (mem_new w m _).1.up ((Below.refl _ _).alloc (Nat.le_refl _) _)
  have hN : RecAt w0 (w.heap.size + 1) (Rec.vals Mem.zero) 36 := by rw [← hw0]; exact mem_zero_at _ _ (by simp)
  have hB : Below w.heap.size w w0 := by rw [← hw0]; exact (mem_new w m _).2.alloc (mem_new w m _).2.size _
  clear hw0
  have x4 : _ = some (Value.int IntKind.i64 m.owner) := hS.cell 4
  have x5 : _ = some (Value.int IntKind.i64 m.status) := hS.cell 5
  go_wp2_with (first
    | (refine load_rec 31 _ rfl rfl _ m.s.vals rfl hS.lies.std Try.underlying31 std_size ?_)
    | (refine build_rmem _ _ _ rfl rfl m rfl rfl rfl ?_)
    | (refine store_rec 36 _ _ rfl rfl _ (Rec.vals m) (Rec.vals Mem.zero) 36 rfl rfl hN size_rmem rfl (Rec.one m) ?_; intro w4 hR hb4 hz4 hk4; have hB := hB.trans (hb4.mono (Nat.le_succ _)); clear hz4 hk4 hb4))
  refine bodyPost_ret (res_rmem Try.results7 rfl hR) rfl ⟨rfl, hB⟩

set_option maxRecDepth 100000 in
theorem rcounts_is (m : Mem) (w : World) : Calls Try.prog 19 #[.agg (Rec.vals m)] w fun e w' => e = .returned (.bool m.counts) ∧ Below w.heap.size w w' := by
  obtain ⟨hS, hB⟩ := mem_new w m 36
  have x5 : (World.alloc w (.cells (Rec.vals m) 36)).cell? ⟨w.heap.size, 5, none⟩ = some (.int .i64 m.status) := hS.cell 5
  clear hS
  by_cases h2 : m.status = 2
  · rw [Mem.counts_two h2]
    rw [h2] at x5
    clear h2
    go_enter Try.func19, Try.ntmps19
    go_wp2
    go_ret
    exact ⟨by first | rfl | simp, hB⟩
  · by_cases h3 : m.status = 3
    · rw [Mem.counts_three h3]
      rw [h3] at x5
      clear h2 h3
      go_enter Try.func19, Try.ntmps19
      go_wp2
      go_ret
      exact ⟨by first | rfl | simp, hB⟩
    · rw [Mem.counts_no h2 h3]
      have d2 : (m.status == 2) = false := by simp [h2]
      have d3 : (m.status == 3) = false := by simp [h3]
      have d4 : decide (m.status = 2) = false := by simp [h2]
      have d5 : decide (m.status = 3) = false := by simp [h3]
      clear h2 h3
      go_enter Try.func19, Try.ntmps19
      go_wp2
      go_ret
      exact ⟨by first | rfl | simp, hB⟩

/-- Two slices of the call's own, not in one block. -/
def Apart19 (u v : Value) : Prop := ∀ g, u.ownBlock = some g → v.ownBlock ≠ some g
theorem Apart19.nil (v : Value) : Apart19 (.slice none 0 0) v := fun g h => by simp [Value.ownBlock] at h
theorem Apart19.symm {u v : Value} (h : Apart19 u v) : Apart19 v u := fun g h1 h2 => h g h2 h1
/-- The one has grown; the other lies as it did. -/
theorem Apart19.grown {w : World} {B z n n2 c : Nat} {e : TypeId} {u v : Value} {xs : List Value} {g : Nat} (h : Apart19 u v) {H : Nat} (hu : w.ownsRow B e z u n xs) (hat : v.ownBlock = some g ∨ g = H) (hH : w.heap.size ≤ H) : Apart19 u (.slice (some ⟨g, 0, none⟩) n2 c) := fun b hb hb2 => by
  have hgb : g = b := by simpa [Value.ownBlock] using hb2
  subst hgb
  rcases hat with h1 | h1
  · exact h g hb h1
  · have := (hu.lt g hb).2
    omega
theorem own_box {w : World} {B z : Nat} {e : TypeId} {v : Value} {n : Nat} {xs : List Value} (h : w.ownsRow B e z v n xs) (o : Obj) : (w.alloc o).ownsRow B e z v n xs := own_kept h ((Below.refl _ _).alloc (Nat.le_refl _) _)
/-- Words that the call put together itself. -/
theorem words_own {w : World} {B : Nat} {v : Value} {n : Nat} {ns : List Nat} (hn : n = ns.length) (h : w.ownsRow B 25 1 v n (u64s ns)) : ∃ A c, v = .slice A ns.length c ∧ Row w w.heap.size A (u64s ns) := by
  subst hn
  rcases h.2 with ⟨rfl, h2⟩ | ⟨g, cap, cur, rfl, hb, hh, hn, hm, hs, ht⟩
  · obtain rfl := List.eq_nil_of_length_eq_zero h2
    exact ⟨none, 0, rfl, Row.nil _ _ _⟩
  · exact ⟨some ⟨g, 0, none⟩, cap, rfl, fun k v hv => ⟨_, rfl, (h.lt g rfl).2, h.cells (g := g) rfl k v hv⟩⟩
/-- What is picked so far, as the document has it. -/
structure Pick (l : List Mem) (xs : List Nat) (k : Nat) (l1 l2 : List Nat) : Prop where
  there : picked (isThere xs) l k = l1
  all : picked isAct l k = l2
theorem Pick.len {l : List Mem} {xs : List Nat} {k : Nat} {l1 l2 : List Nat} (h : Pick l xs k l1 l2) : l1.length ≤ k ∧ l2.length ≤ k := ⟨by rw [← h.there]; exact picked_len _ _ _, by rw [← h.all]; exact picked_len _ _ _⟩
theorem Pick.skip {l : List Mem} {xs : List Nat} {k : Nat} {l1 l2 : List Nat} {m : Mem} (h : Pick l xs k l1 l2) (hm : l[k]? = some m) (hc : m.counts = false) : Pick l xs (k + 1) l1 l2 :=
  ⟨by rw [picked_no hm (by simp [isThere, hc])]; exact h.there, by rw [picked_no hm (by simp [isAct, hc])]; exact h.all⟩
theorem Pick.here {l : List Mem} {xs : List Nat} {k : Nat} {l1 l2 : List Nat} {m : Mem} (h : Pick l xs k l1 l2) (hm : l[k]? = some m) (hc : m.counts = true) (hb : bitAt xs k = true) : Pick l xs (k + 1) (l1 ++ [m.s.eff]) (l2 ++ [m.s.eff]) :=
  ⟨by rw [picked_yes hm (by simp [isThere, hc, hb]), h.there], by rw [picked_yes hm (by simp [isAct, hc]), h.all]⟩
theorem Pick.gone {l : List Mem} {xs : List Nat} {k : Nat} {l1 l2 : List Nat} {m : Mem} (h : Pick l xs k l1 l2) (hm : l[k]? = some m) (hc : m.counts = true) (hb : bitAt xs k = false) : Pick l xs (k + 1) l1 (l2 ++ [m.s.eff]) :=
  ⟨by rw [picked_no hm (by simp [isThere, hc, hb])]; exact h.there, by rw [picked_yes hm (by simp [isAct, hc]), h.all]⟩
theorem u64s_snoc19 (l : List Nat) (x : Nat) : u64s (l ++ [x]) = u64s l ++ [.int .u64 (x : Int)] := by simp [u64s]

set_option maxRecDepth 100000 in
set_option maxHeartbeats 2000000 in
theorem rstakes_of (l : List Mem) (A : Option Addr) (c : Nat) (xs : List Nat) (A2 : Option Addr) (c2 : Nat) (p t y : Nat) (w : World) (hr : Row w w.heap.size A (rows l)) (hx : Row w w.heap.size A2 (u8s xs)) (hb : ∀ x ∈ xs, x < 256) (hl : l.length ≤ 100000) (hf : ∀ m ∈ l, m.s.Fits) (HY : Hid (stk l xs = (p, t, y))) :
    Calls Try.prog 8 #[.slice A l.length c, .slice A2 xs.length c2] w fun e w' => e = .returned (.tuple #[.int .u64 (p : Int), .int .u64 (t : Int), .int .i64 (y : Int)]) ∧ Below w.heap.size w w' := by
  obtain ⟨i0, hi0, hz0, hz1, hz2⟩ := info_parts wd_info
  have HR := Lib.hid hr
  have HX := Lib.hid hx
  have HF := Lib.hid hf
  have HBY := Lib.hid hb
  clear hr hx hf hb
  go_enter Try.func8, Try.ntmps8
  go_wp2
  go_loopw [7, 8, 9] (fun v7 v8 iv wr => ∃ (k : Nat) (l1 l2 : List Nat), k ≤ l.length ∧ iv = .int .i64 (k : Int) ∧ Hid (Pick l xs k l1 l2) ∧ Hid (Apart19 v7 v8) ∧
      Hid (wr.ownsRow w.heap.size 25 1 v7 l1.length (u64s l1)) ∧ Hid (wr.ownsRow w.heap.size 25 1 v8 l2.length (u64s l2)) ∧ Below w.heap.size w wr) (fun _ _ iv _ => l.length - (intOf iv).toNat)
  case atStart => exact ⟨0, [], [], Nat.zero_le _, rfl, Lib.hid ⟨rfl, rfl⟩, Lib.hid (Apart19.nil _), Lib.hid (World.ownsRow_nil _ _ _ _), Lib.hid (World.ownsRow_nil _ _ _ _), Below.refl _ _⟩
  case round =>
    obtain ⟨k, l1, l2, hk, rfl, HP, HA, HO7, HO8, hB⟩ := hrel
    by_cases hlt : k < l.length
    · obtain ⟨m, hs⟩ : ∃ m, l[k]? = some m := ⟨_, List.getElem?_eq_getElem hlt⟩
      obtain ⟨a, rfl, hab, hat0⟩ := rows_row (HR.out.below hB) hs
      have hat : LiesAt wr (a.add (k * 6)) (Rec.vals m) := hat0
      have hki : (k : Int) < (l.length : Int) := by omega
      have hk0 : (0 : Int) ≤ (k : Int) := by omega
      have kc := fun w => rcounts_is m w
      have HLN := Lib.hid HP.out.len
      clear hat0
      cases hc : m.counts with
      | false =>
        rw [hc] at kc
        have HP2 := Lib.hid (HP.out.skip hs hc)
        clear hs hc HP
        go_wp2_with (first
          | (refine load_rec 36 _ rfl rfl _ (Rec.vals m) rfl hat Try.underlying36 size_rmem ?_)
          | (go_at_call 19; refine (kc _).mono ?_; clear kc; rintro e w3 ⟨rfl, hb3⟩; have HO73 := Lib.hid (own_kept HO7.out hb3); have HO83 := Lib.hid (own_kept HO8.out hb3); have hB3 := Below.then hB hb3; clear hb3))
        go_roundw
        case rel => exact ⟨k + 1, l1, l2, by omega, by go_num, HP2, HA, HO73, HO83, hB3⟩
        case measure => simp [intOf]; omega
      | true =>
        rw [hc] at kc
        have kg := fun (w1 : World) (hx : Lies w1 (· < w.heap.size) A2 xs) => rget_ok xs _ A2 c2 (k : Int) w1 hx HBY.out (by omega)
        rw [bitI_nat] at kg
        have KG := Lib.hid kg
        have hlen : ∀ q : Int, q = (l.length : Int) → (k : Int) < q := fun q e => by omega
        clear kg hlen
        cases hbit : bitAt xs k with
        | true =>
          rw [hbit] at KG
          have HP2 := Lib.hid (HP.out.here hs hc hbit)
          have HS0 := Lib.hid hs
          clear hs hc HP hbit
          go_wp2_with (first
            | (refine load_rec 36 _ rfl rfl _ (Rec.vals m) rfl hat Try.underlying36 size_rmem ?_)
            | (go_at_call 19; refine (kc _).mono ?_; clear kc; rintro e w3 ⟨rfl, hb3⟩; have HO73 := Lib.hid (own_kept HO7.out hb3); have HO83 := Lib.hid (own_kept HO8.out hb3); have hB3 := Below.then hB hb3; have x1 : w3.cell? ⟨(a.add (k * 6)).block, (a.add (k * 6)).off + 1, none⟩ = some (Value.int IntKind.u64 (m.s.eff : Int)) := (hat.up hb3).fld 0 rfl; clear hb3)
            | (at_builtin; refine wpList_append_lies _ rfl _ _ 58 rfl w.heap.size 25 i0 (.int .u64 0) 1 8 Try.underlying58 hi0 hz0 hz1 hz2 rfl (by decide) _ l2.length (u64s l2) rfl (own_box HO83.out _) ⟨w3.heap.size, 0, none⟩ 1 1 [.int .u64 (m.s.eff : Int)] rfl rfl (new_first _ _ _) ?c2 (by decide) ?c3 ?c4 ?c5 _ rfl ?_))
          case c2 => intro u hu; simp at hu; subst hu; rfl
          case c3 => have := HLN.out.2; simp only [maxLen]; omega
          case c4 => have := HLN.out.2; omega
          case c5 => have := hB3.size; simp; omega
          intro g8 cap8 w85 hown hg hat5 hlt5
          have hB85 : Below w.heap.size w w85 := (hB3.alloc hB3.size _).grown hg (Nat.le_trans hB3.size (by simp)) (fun b hb => (HO83.out.lt b hb).1)
          have HO85 : Hid (w85.ownsRow w.heap.size 25 1 (.slice (some ⟨g8, 0, none⟩) (l2.length + 1) cap8) (l2 ++ [m.s.eff]).length (u64s (l2 ++ [m.s.eff]))) := Lib.hid (by rw [u64s_snoc19, List.length_append]; exact hown)
          have HO75 := Lib.hid (own_apart (own_box HO73.out _) hg (fun b hb e => HA.out b hb e))
          have HA5 : Hid (Apart19 u7 (.slice (some ⟨g8, 0, none⟩) (l2.length + 1) cap8)) := Lib.hid (HA.out.grown HO73.out hat5 (Nat.le_succ _))
          clear hown hg hat5 hlt5 HO7 HO8 HO73 HO83 HA hat x1
          have hat : LiesAt w85 (a.add (k * 6)) (Rec.vals m) := by
            obtain ⟨a', e, _, h⟩ := rows_row (HR.out.below hB85) HS0.out
            cases e
            exact h
          have x1 : w85.cell? ⟨(a.add (k * 6)).block, (a.add (k * 6)).off + 1, none⟩ = some (Value.int IntKind.u64 (m.s.eff : Int)) := hat.fld 0 rfl
          clear hat
          go_wp2_with (first
            | (go_at_call 20; refine (KG.out _ (Lies.ofRow (HX.out.below hB85))).mono ?_; clear KG; rintro e w4 ⟨rfl, rfl⟩)
            | (at_builtin; refine wpList_append_lies _ rfl _ _ 58 rfl w.heap.size 25 i0 (.int .u64 0) 1 8 Try.underlying58 hi0 hz0 hz1 hz2 rfl (by decide) _ l1.length (u64s l1) rfl (own_box HO75.out _) ⟨w85.heap.size, 0, none⟩ 1 1 [.int .u64 (m.s.eff : Int)] rfl rfl (new_first _ _ _) ?c2 (by decide) ?c3 ?c4 ?c5 _ rfl ?_))
          case c2 => intro u hu; simp at hu; subst hu; rfl
          case c3 => have := HLN.out.1; simp only [maxLen]; omega
          case c4 => have := HLN.out.1; omega
          case c5 => have := hB85.size; simp; omega
          intro g7 cap7 w95 hown hg hat5 hlt5
          have hB95 : Below w.heap.size w w95 := (hB85.alloc hB85.size _).grown hg (Nat.le_trans hB85.size (by simp)) (fun b hb => (HO75.out.lt b hb).1)
          have HO95 : Hid (w95.ownsRow w.heap.size 25 1 (.slice (some ⟨g7, 0, none⟩) (l1.length + 1) cap7) (l1 ++ [m.s.eff]).length (u64s (l1 ++ [m.s.eff]))) := Lib.hid (by rw [u64s_snoc19, List.length_append]; exact hown)
          have HO96 := Lib.hid (own_apart (own_box HO85.out _) hg (fun b hb e => HA5.out b e hb))
          have HA6 : Hid (Apart19 (.slice (some ⟨g7, 0, none⟩) (l1.length + 1) cap7) (.slice (some ⟨g8, 0, none⟩) (l2.length + 1) cap8)) := Lib.hid ((HA5.out.symm.grown HO85.out hat5 (Nat.le_succ _)).symm)
          clear hown hg hat5 hlt5 HO75 HO85 HA5 x1
          go_wp2
          go_roundw
          case rel => exact ⟨k + 1, l1 ++ [m.s.eff], l2 ++ [m.s.eff], by omega, by go_num, HP2, HA6, HO95, HO96, hB95⟩
          case measure => simp [intOf]; omega
        | false =>
          rw [hbit] at KG
          have HP2 := Lib.hid (HP.out.gone hs hc hbit)
          have HS0 := Lib.hid hs
          clear hs hc HP hbit
          go_wp2_with (first
            | (refine load_rec 36 _ rfl rfl _ (Rec.vals m) rfl hat Try.underlying36 size_rmem ?_)
            | (go_at_call 19; refine (kc _).mono ?_; clear kc; rintro e w3 ⟨rfl, hb3⟩; have HO73 := Lib.hid (own_kept HO7.out hb3); have HO83 := Lib.hid (own_kept HO8.out hb3); have hB3 := Below.then hB hb3; have x1 : w3.cell? ⟨(a.add (k * 6)).block, (a.add (k * 6)).off + 1, none⟩ = some (Value.int IntKind.u64 (m.s.eff : Int)) := (hat.up hb3).fld 0 rfl; clear hb3)
            | (at_builtin; refine wpList_append_lies _ rfl _ _ 58 rfl w.heap.size 25 i0 (.int .u64 0) 1 8 Try.underlying58 hi0 hz0 hz1 hz2 rfl (by decide) _ l2.length (u64s l2) rfl (own_box HO83.out _) ⟨w3.heap.size, 0, none⟩ 1 1 [.int .u64 (m.s.eff : Int)] rfl rfl (new_first _ _ _) ?c2 (by decide) ?c3 ?c4 ?c5 _ rfl ?_))
          case c2 => intro u hu; simp at hu; subst hu; rfl
          case c3 => have := HLN.out.2; simp only [maxLen]; omega
          case c4 => have := HLN.out.2; omega
          case c5 => have := hB3.size; simp; omega
          intro g8 cap8 w85 hown hg hat5 hlt5
          have hB85 : Below w.heap.size w w85 := (hB3.alloc hB3.size _).grown hg (Nat.le_trans hB3.size (by simp)) (fun b hb => (HO83.out.lt b hb).1)
          have HO85 : Hid (w85.ownsRow w.heap.size 25 1 (.slice (some ⟨g8, 0, none⟩) (l2.length + 1) cap8) (l2 ++ [m.s.eff]).length (u64s (l2 ++ [m.s.eff]))) := Lib.hid (by rw [u64s_snoc19, List.length_append]; exact hown)
          have HO75 := Lib.hid (own_apart (own_box HO73.out _) hg (fun b hb e => HA.out b hb e))
          have HA5 : Hid (Apart19 u7 (.slice (some ⟨g8, 0, none⟩) (l2.length + 1) cap8)) := Lib.hid (HA.out.grown HO73.out hat5 (Nat.le_succ _))
          clear hown hg hat5 hlt5 HO7 HO8 HO73 HO83 HA hat x1
          go_wp2_with (go_at_call 20; refine (KG.out _ (Lies.ofRow (HX.out.below hB85))).mono ?_; clear KG; rintro e w4 ⟨rfl, rfl⟩)
          go_roundw
          case rel => exact ⟨k + 1, l1, l2 ++ [m.s.eff], by omega, by go_num, HP2, HA5, HO75, HO85, hB85⟩
          case measure => simp [intOf]; omega
    · obtain rfl : k = l.length := by omega
      have hM : ∀ m ∈ l, m.s.eff ≤ 18446744073709551615 := fun m hm => by have := (HF.out m hm).eff; omega
      have hn1 : ∀ n ∈ l1, n ≤ 18446744073709551615 := by rw [← HP.out.there]; exact picked_most hM _
      have hn2 : ∀ n ∈ l2, n ≤ 18446744073709551615 := by rw [← HP.out.all]; exact picked_most hM _
      have hln := HP.out.len
      have e1 : presents l xs l.length = tot l1 := by unfold presents; rw [HP.out.there]
      have e2 : actives l l.length = tot l2 := by unfold actives; rw [HP.out.all]
      have hle := presents_le l xs l.length
      rw [e1, e2] at hle
      have hy := HY.out
      obtain ⟨A7, c7, rfl, hr7⟩ := words_own rfl HO7.out
      obtain ⟨A8, c8, rfl, hr8⟩ := words_own rfl HO8.out
      have k8 := fun (w1 : World) (h : Row w1 w1.heap.size A8 (u64s l2)) => sum_nat l2 A8 c8 w1.heap.size w1 h (Nat.le_refl _) (by omega) hn2
      have k7 := fun (w1 : World) (h : Row w1 w1.heap.size A7 (u64s l1)) => sum_nat l1 A7 c7 w1.heap.size w1 h (Nat.le_refl _) (by omega) hn1
      have HR7 := Lib.hid hr7
      have HR8 := Lib.hid hr8
      by_cases hT : tot l2 ≤ 18446744073709551615
      · rw [stk_in (by rw [e2]; exact hT), e1, e2] at hy
        simp only [Prod.mk.injEq] at hy
        obtain ⟨h1, h2, rfl⟩ := hy
        rw [h1] at k7 hle
        rw [h2] at k8 hT hle
        have hT1 : p ≤ 18446744073709551615 := by omega
        have K8 := Lib.hid k8
        have K7 := Lib.hid k7
        have ku8 := fun (v : Value) (w1 : World) (h : NatV w1 w1.heap.size v t) => uint_fits t v _ w1 h (Nat.le_refl _) hT
        have ku7 := fun (v : Value) (w1 : World) (h : NatV w1 w1.heap.size v p) => uint_fits p v _ w1 h (Nat.le_refl _) hT1
        have U8 := Lib.hid ku8
        have U7 := Lib.hid ku7
        clear hM hn1 hn2 hln e1 e2 hle h1 h2 k8 k7 hr7 hr8 ku8 ku7 hT hT1 HP HA HO7 HO8 HY HF HBY HX HR
        go_wp2_with (first
          | (go_at_call 22; refine (K8.out _ HR8.out).mono ?_; clear K8; rintro e w2 ⟨v2, rfl, hv2, hf2, hb2⟩; have HV2 := Lib.hid hv2; have HR72 := Lib.hid (HR7.out.kept hb2); have hB2 := Below.then hB hb2; clear hb2 hf2 hv2 HR7)
          | (go_at_call 21; refine (U8.out _ _ HV2.out).mono ?_; clear U8; rintro e w3 ⟨rfl, hb3⟩; have HR73 := Lib.hid (HR72.out.kept hb3); have hB3 := Below.then hB2 hb3; clear hb3 HR72)
          | (go_at_call 22; refine (K7.out _ HR73.out).mono ?_; clear K7; rintro e w4 ⟨v4, rfl, hv4, hf4, hb4⟩; have HV4 := Lib.hid hv4; have hB4 := Below.then hB3 hb4; clear hb4 hf4 hv4)
          | (go_at_call 21; refine (U7.out _ _ HV4.out).mono ?_; clear U7; rintro e w5 ⟨rfl, hb5⟩; have hB5 := Below.then hB4 hb5; clear hb5))
        go_ret3
        exact ⟨by first | rfl | simp, hB5⟩
      · rw [stk_out (by rw [e2]; exact hT)] at hy
        simp only [Prod.mk.injEq] at hy
        obtain ⟨rfl, rfl, rfl⟩ := hy
        have ku8 := fun (v : Value) (w1 : World) (h : NatV w1 w1.heap.size v (tot l2)) => uint_big _ v _ w1 h (Nat.le_refl _) (by omega)
        generalize tot l2 = t at *
        have K8 := Lib.hid k8
        have U8 := Lib.hid ku8
        clear hM hn1 hn2 hln e1 e2 hle k8 k7 hr7 hr8 ku8 hT HP HA HO7 HO8 HY HF HBY HX HR
        go_wp2_with (first
          | (go_at_call 22; refine (K8.out _ HR8.out).mono ?_; clear K8; rintro e w2 ⟨v2, rfl, hv2, hf2, hb2⟩; have HV2 := Lib.hid hv2; have hB2 := Below.then hB hb2; clear hb2 hf2 hv2)
          | (go_at_call 21; refine (U8.out _ _ HV2.out).mono ?_; clear U8; rintro e w3 ⟨rfl, hb3⟩; have hB3 := Below.then hB2 hb3; clear hb3))
        go_ret3
        exact ⟨by first | rfl | simp, hB3⟩
end Go.Proofs.Ytfmmcklggnflkaa
