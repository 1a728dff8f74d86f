/- Layer 18 (pool), the document's: lists as it has them, one deposit more, two lists that are the same. By contracts. -/
import Derived.Test.YtaaildlopknbjaaPoolA
import Derived.Test.YtaaildlopknbjaaPoolE
import Derived.Test.YtaaildlopknbjaaRecQ
import Derived.Laws.AppendOwnNone
namespace Go.Proofs.Ytaaildlopknbjaa
open Go.RowKit Go.Shelf Go.Deep
set_option linter.unusedVariables false
set_option linter.unusedSimpArgs false


theorem info_rdep : (Try.prog.info? 34).map (fun i => (i.zero, i.size, i.bytes)) = some (some (.agg (Rec.vals (Dep.zero : Dep))), Rec.z Dep, 32) := by kernel_rfl
theorem size_rdep : (Try.prog.info? 34).map (·.size) = some (Rec.z Dep) := by kernel_rfl
set_option maxRecDepth 100000 in
set_option maxHeartbeats 2000000 in
/-- As the document has them. -/
theorem deposits_is (l : List Dep) (B : Nat) (A : Option Addr) (c : Nat) (w : World) (hr : Row w B A (rows l)) (hB0 : B ≤ w.heap.size) (hl : l.length ≤ 1000000) :
    Calls Try.prog 9 #[.slice A l.length c] w fun e w' => ∃ A' c', e = .returned (.slice A' l.length c') ∧ l.length ≤ c' ∧ c' ≤ maxLen ∧ (A' = none → c' = 0) ∧ Row w' w'.heap.size A' (rows l) ∧ Below w.heap.size w w' := by
  obtain ⟨i0, hi0, hz0, hz1, hz2⟩ := info_parts info_rdep
  have HR := Lib.hid (hr.up hB0)
  clear hr
  go_enter Try.func9, Try.ntmps9
  go_wp2
  go_loopw [3, 8] (fun v4 iv wr => ∃ (k : Nat), k ≤ l.length ∧ iv = .int .i64 (k : Int) ∧ Hid (wr.ownsRow w.heap.size 34 (Rec.z Dep) v4 k (rows (l.take k))) ∧ Below w.heap.size w wr) (fun _ iv _ => l.length - (intOf iv).toNat)
  case atStart => exact ⟨0, Nat.zero_le _, rfl, Lib.hid (World.ownsRow_nil _ _ _ _), Below.refl _ _⟩
  case round =>
    obtain ⟨k, hk, rfl, HO4, hB⟩ := hrel
    by_cases hlt : k < l.length
    · obtain ⟨s, hs⟩ : ∃ s, l[k]? = some s := ⟨_, List.getElem?_eq_getElem hlt⟩
      obtain ⟨a, rfl, hab, hat0⟩ := rows_row (HR.out.below hB) hs
      have hat : LiesAt wr (a.add (k * 4)) (Rec.vals s) := hat0
      have HN := Lib.hid (rows_next hs)
      have hki : (k : Int) < (l.length : Int) := by omega
      have hk0 : (0 : Int) ≤ (k : Int) := by omega
      clear hs hat0
      go_wp2_with (first
        | (refine load_rec 25 _ rfl rfl _ (Rec.vals s) rfl hat Try.underlying25 size_dep ?_)
        | (refine store_rec 25 _ _ rfl rfl _ (Rec.vals s) (Rec.vals Dep.zero) 25 rfl rfl (RecAt.new _ _ _) size_dep rfl (Rec.one s) ?_; intro w2 hS2 hb2 hsz hkp; clear hsz hkp; have hb2 := rec_made (Below.refl _ _) hb2; have HO42 := Lib.hid (own_kept HO4.out hb2); have hB2 := Below.then hB hb2; clear hb2 hat)
        | (refine load_rec 25 _ rfl rfl _ (Rec.vals s) rfl hS2.lies Try.underlying25 size_dep ?_)
        | (refine list_one_rec 30 34 rfl _ rfl Try.underlying30 (Rec.vals s) (Rec.vals Dep.zero) info_rdep rfl (by decide) (by decide) (fill_dep s) rfl ?_)
        | (at_builtin; refine wpList_append_lies _ rfl _ _ 30 rfl w.heap.size 34 i0 _ (Rec.z Dep) 32 Try.underlying30 hi0 hz0 hz1 hz2 rfl (by decide) _ k (rows (l.take k)) rfl (own_kept HO42.out ((Below.refl _ _).alloc (Nat.le_refl _) _)) ⟨w2.heap.size, 0, none⟩ 1 1 (Rec.vals s).toList rfl rfl (RecAt.new w2 (Rec.vals s) 34).lies (rec_onecell s) (by decide) ?c1 ?c2 ?c3 _ rfl ?_))
      case c1 => simp only [maxLen]; omega
      case c2 => omega
      case c3 => exact Nat.le_trans hB2.size (by first | exact Nat.le_succ _ | simp)
      intro g cap w7 hown7 hg7 hat7 hlt7
      have hB7 : Below w.heap.size w w7 := (hB2.alloc hB2.size _).grown hg7 (Nat.le_trans hB2.size (by simp)) (fun b hb => (HO42.out.lt b hb).1)
      rw [← HN.out] at hown7
      have HO47 := Lib.hid hown7
      clear hown7 hg7 hat7 hlt7 HO4 HO42
      go_wp2
      go_roundw
      case rel => exact ⟨k + 1, by omega, by go_num, HO47, hB7⟩
      case measure => simp [intOf]; omega
    · obtain rfl : k = l.length := by omega
      have h4 := HO4.out
      rw [List.take_length] at h4
      obtain ⟨A1, c1, rfl, h1, h2, h3, hr1⟩ := rows_of_own rfl h4
      clear HO4 h4
      go_wp2
      refine bodyPost_ret (v := .slice A1 l.length c1) (by simp [results, Try.results9, go_sem]) rfl ⟨A1, c1, rfl, h1, h2, h3, hr1, hB⟩

theorem info_rdue : (Try.prog.info? 68).map (fun i => (i.zero, i.size, i.bytes)) = some (some (.agg (Rec.vals (Due.zero : Due))), Rec.z Due, 24) := by kernel_rfl
theorem size_rdue : (Try.prog.info? 68).map (·.size) = some (Rec.z Due) := by kernel_rfl
set_option maxRecDepth 100000 in
set_option maxHeartbeats 2000000 in
/-- As the document has them. -/
theorem dues_is (l : List Due) (B : Nat) (A : Option Addr) (c : Nat) (w : World) (hr : Row w B A (rows l)) (hB0 : B ≤ w.heap.size) (hl : l.length ≤ 1000000) :
    Calls Try.prog 14 #[.slice A l.length c] w fun e w' => ∃ A' c', e = .returned (.slice A' l.length c') ∧ l.length ≤ c' ∧ c' ≤ maxLen ∧ (A' = none → c' = 0) ∧ Row w' w'.heap.size A' (rows l) ∧ Below w.heap.size w w' := by
  obtain ⟨i0, hi0, hz0, hz1, hz2⟩ := info_parts info_rdue
  have HR := Lib.hid (hr.up hB0)
  clear hr
  go_enter Try.func14, Try.ntmps14
  go_wp2
  go_loopw [3, 8] (fun v4 iv wr => ∃ (k : Nat), k ≤ l.length ∧ iv = .int .i64 (k : Int) ∧ Hid (wr.ownsRow w.heap.size 68 (Rec.z Due) v4 k (rows (l.take k))) ∧ Below w.heap.size w wr) (fun _ iv _ => l.length - (intOf iv).toNat)
  case atStart => exact ⟨0, Nat.zero_le _, rfl, Lib.hid (World.ownsRow_nil _ _ _ _), Below.refl _ _⟩
  case round =>
    obtain ⟨k, hk, rfl, HO4, hB⟩ := hrel
    by_cases hlt : k < l.length
    · obtain ⟨s, hs⟩ : ∃ s, l[k]? = some s := ⟨_, List.getElem?_eq_getElem hlt⟩
      obtain ⟨a, rfl, hab, hat0⟩ := rows_row (HR.out.below hB) hs
      have hat : LiesAt wr (a.add (k * 3)) (Rec.vals s) := hat0
      have HN := Lib.hid (rows_next hs)
      have hki : (k : Int) < (l.length : Int) := by omega
      have hk0 : (0 : Int) ≤ (k : Int) := by omega
      clear hs hat0
      go_wp2_with (first
        | (refine load_rec 50 _ rfl rfl _ (Rec.vals s) rfl hat Try.underlying50 size_due ?_)
        | (refine store_rec 50 _ _ rfl rfl _ (Rec.vals s) (Rec.vals Due.zero) 50 rfl rfl (RecAt.new _ _ _) size_due rfl (Rec.one s) ?_; intro w2 hS2 hb2 hsz hkp; clear hsz hkp; have hb2 := rec_made (Below.refl _ _) hb2; have HO42 := Lib.hid (own_kept HO4.out hb2); have hB2 := Below.then hB hb2; clear hb2 hat)
        | (refine load_rec 50 _ rfl rfl _ (Rec.vals s) rfl hS2.lies Try.underlying50 size_due ?_)
        | (refine list_one_rec 46 68 rfl _ rfl Try.underlying46 (Rec.vals s) (Rec.vals Due.zero) info_rdue rfl (by decide) (by decide) (fill_due s) rfl ?_)
        | (at_builtin; refine wpList_append_lies _ rfl _ _ 46 rfl w.heap.size 68 i0 _ (Rec.z Due) 24 Try.underlying46 hi0 hz0 hz1 hz2 rfl (by decide) _ k (rows (l.take k)) rfl (own_kept HO42.out ((Below.refl _ _).alloc (Nat.le_refl _) _)) ⟨w2.heap.size, 0, none⟩ 1 1 (Rec.vals s).toList rfl rfl (RecAt.new w2 (Rec.vals s) 68).lies (rec_onecell s) (by decide) ?c1 ?c2 ?c3 _ rfl ?_))
      case c1 => simp only [maxLen]; omega
      case c2 => omega
      case c3 => exact Nat.le_trans hB2.size (by first | exact Nat.le_succ _ | simp)
      intro g cap w7 hown7 hg7 hat7 hlt7
      have hB7 : Below w.heap.size w w7 := (hB2.alloc hB2.size _).grown hg7 (Nat.le_trans hB2.size (by simp)) (fun b hb => (HO42.out.lt b hb).1)
      rw [← HN.out] at hown7
      have HO47 := Lib.hid hown7
      clear hown7 hg7 hat7 hlt7 HO4 HO42
      go_wp2
      go_roundw
      case rel => exact ⟨k + 1, by omega, by go_num, HO47, hB7⟩
      case measure => simp [intOf]; omega
    · obtain rfl : k = l.length := by omega
      have h4 := HO4.out
      rw [List.take_length] at h4
      obtain ⟨A1, c1, rfl, h1, h2, h3, hr1⟩ := rows_of_own rfl h4
      clear HO4 h4
      go_wp2
      refine bodyPost_ret (v := .slice A1 l.length c1) (by simp [results, Try.results14, go_sem]) rfl ⟨A1, c1, rfl, h1, h2, h3, hr1, hB⟩

set_option maxRecDepth 100000 in
set_option maxHeartbeats 2000000 in
theorem radd_no (l : List Dep) (d : Dep) (A : Option Addr) (c : Nat) (w : World) (h : ¬ (d.placed ∧ d.amt ≠ 0 ∧ d.amt ≤ 4611686018427387904)) :
    Calls Try.prog 8 #[.slice A l.length c, .agg (Rec.vals d)] w fun e w' => Recs w (padded l d) e w' := by
  rw [padded_no h]
  obtain ⟨acc, mem, amt, new⟩ := d
  have hB : Below w.heap.size w (w.alloc (.cells (Rec.vals (⟨acc, mem, amt, new⟩ : Dep)) 34)) := (Below.refl _ _).alloc (Nat.le_refl _) _
  have c0 : (Rec.vals (⟨acc, mem, amt, new⟩ : Dep))[0]? = some (.int .i64 acc) := rfl
  have c1 : (Rec.vals (⟨acc, mem, amt, new⟩ : Dep))[1]? = some (.int .i64 mem) := rfl
  have c2 : (Rec.vals (⟨acc, mem, amt, new⟩ : Dep))[2]? = some (.int .u64 (amt : Int)) := rfl
  by_cases g0 : acc < 0
  · clear h
    go_enter Try.func8, Try.ntmps8
    go_wp2
    refine bodyPost_ret (v := .tuple #[.slice none 0 0, .int .i64 2]) (by simp [results, Try.results8, go_sem]) rfl (Recs.none 2 hB)
  by_cases g1 : 63 < acc
  · clear h
    go_enter Try.func8, Try.ntmps8
    go_wp2
    refine bodyPost_ret (v := .tuple #[.slice none 0 0, .int .i64 2]) (by simp [results, Try.results8, go_sem]) rfl (Recs.none 2 hB)
  by_cases g2 : mem < 0
  · clear h
    go_enter Try.func8, Try.ntmps8
    go_wp2
    refine bodyPost_ret (v := .tuple #[.slice none 0 0, .int .i64 2]) (by simp [results, Try.results8, go_sem]) rfl (Recs.none 2 hB)
  by_cases g3 : 127 < mem
  · clear h
    go_enter Try.func8, Try.ntmps8
    go_wp2
    refine bodyPost_ret (v := .tuple #[.slice none 0 0, .int .i64 2]) (by simp [results, Try.results8, go_sem]) rfl (Recs.none 2 hB)
  have hn : (new = true ∧ 0 < mem) ∨ amt = 0 ∨ 4611686018427387904 < amt := by
    by_cases e1 : amt = 0
    · exact .inr (.inl e1)
    · by_cases e2 : 4611686018427387904 < amt
      · exact .inr (.inr e2)
      · refine .inl (Classical.byContradiction fun e3 => h ⟨⟨⟨by show 0 ≤ acc; omega, by show acc < 64; omega⟩, ?_⟩, e1, by show amt ≤ 4611686018427387904; omega⟩)
        show (new = true ∧ mem = 0) ∨ (new = false ∧ 0 ≤ mem ∧ mem < 128)
        cases new
        · exact .inr ⟨rfl, by omega, by omega⟩
        · refine .inl ⟨rfl, ?_⟩
          have : ¬ 0 < mem := fun e => e3 ⟨rfl, e⟩
          omega
  clear h
  cases new
  · have c3 : (Rec.vals (⟨acc, mem, amt, false⟩ : Dep))[3]? = some (.bool false) := rfl
    have hn : amt = 0 ∨ 4611686018427387904 < amt := hn.resolve_left fun e => by cases e.1
    by_cases g5 : amt = 0
    · have z1 : ((amt : Int) == 0) = true := by simp; omega
      clear hn g5
      go_enter Try.func8, Try.ntmps8
      go_wp2
      refine bodyPost_ret (v := .tuple #[.slice none 0 0, .int .i64 2]) (by simp [results, Try.results8, go_sem]) rfl (Recs.none 2 hB)
    have g6 := hn.resolve_left g5
    have z1 : ((amt : Int) == 0) = false := by simp; omega
    have z2 : decide ((4611686018427387904 : Int) < (amt : Int)) = true := decide_eq_true (by omega)
    clear hn g5 g6
    go_enter Try.func8, Try.ntmps8
    go_wp2
    refine bodyPost_ret (v := .tuple #[.slice none 0 0, .int .i64 2]) (by simp [results, Try.results8, go_sem]) rfl (Recs.none 2 hB)
  · have c3 : (Rec.vals (⟨acc, mem, amt, true⟩ : Dep))[3]? = some (.bool true) := rfl
    by_cases g4 : 0 < mem
    · clear hn
      go_enter Try.func8, Try.ntmps8
      go_wp2
      refine bodyPost_ret (v := .tuple #[.slice none 0 0, .int .i64 2]) (by simp [results, Try.results8, go_sem]) rfl (Recs.none 2 hB)
    have hn : amt = 0 ∨ 4611686018427387904 < amt := hn.resolve_left fun e => g4 e.2
    by_cases g5 : amt = 0
    · have z1 : ((amt : Int) == 0) = true := by simp; omega
      clear hn g5
      go_enter Try.func8, Try.ntmps8
      go_wp2
      refine bodyPost_ret (v := .tuple #[.slice none 0 0, .int .i64 2]) (by simp [results, Try.results8, go_sem]) rfl (Recs.none 2 hB)
    have g6 := hn.resolve_left g5
    have z1 : ((amt : Int) == 0) = false := by simp; omega
    have z2 : decide ((4611686018427387904 : Int) < (amt : Int)) = true := decide_eq_true (by omega)
    clear hn g5 g6
    go_enter Try.func8, Try.ntmps8
    go_wp2
    refine bodyPost_ret (v := .tuple #[.slice none 0 0, .int .i64 2]) (by simp [results, Try.results8, go_sem]) rfl (Recs.none 2 hB)

set_option maxRecDepth 100000 in
set_option maxHeartbeats 2000000 in
theorem radd_ok (l : List Dep) (d : Dep) (A : Option Addr) (c : Nat) (w : World) (hr : Row w w.heap.size A (rows l)) (hl : l.length ≤ 1000000) (hz : A = none → c = 0) (h : d.placed ∧ d.amt ≠ 0 ∧ d.amt ≤ 4611686018427387904) :
    Calls Try.prog 8 #[.slice A l.length c, .agg (Rec.vals d)] w fun e w' => Recs w (padded l d) e w' := by
  obtain ⟨i0, hi0, hz0, hz1, hz2⟩ := info_parts info_rdep
  obtain ⟨w0, hw0⟩ : ∃ w0, w0 = w.alloc (.cells (Rec.vals d) 34) := ⟨_, rfl⟩
  have hB : Below w.heap.size w w0 := by subst hw0; exact (Below.refl _ _).alloc (Nat.le_refl _) _
  have hS0 : RecAt w0 w.heap.size (Rec.vals d) 34 := by subst hw0; exact RecAt.new w (Rec.vals d) 34
  have x0 : w0.cell? ⟨w.heap.size, 0, none⟩ = some (.int .i64 d.acc) := hS0.cell 0
  have x1 : w0.cell? ⟨w.heap.size, 1, none⟩ = some (.int .i64 d.mem) := hS0.cell 1
  have x2 : w0.cell? ⟨w.heap.size, 2, none⟩ = some (.int .u64 (d.amt : Int)) := hS0.cell 2
  have x3 : w0.cell? ⟨w.heap.size, 3, none⟩ = some (.bool d.new) := hS0.cell 3
  have g0 : ¬ d.acc < 0 := by have := h.1.1.1; omega
  have g1 : ¬ 63 < d.acc := by have := h.1.1.2; omega
  have g2 : ¬ d.mem < 0 := by rcases h.1.2 with ⟨_, e⟩ | ⟨_, e, _⟩ <;> omega
  have g3 : ¬ 127 < d.mem := by rcases h.1.2 with ⟨_, e⟩ | ⟨_, _, e⟩ <;> omega
  have z1 : ((d.amt : Int) == 0) = false := by have := h.2.1; simp; omega
  have z2 : decide ((4611686018427387904 : Int) < (d.amt : Int)) = false := decide_eq_false (by have := h.2.2; omega)
  have hn : d.new = true → ¬ 0 < d.mem := fun e => by rcases h.1.2 with ⟨_, e2⟩ | ⟨e2, _⟩; omega; rw [e] at e2; cases e2
  by_cases hf : 256 ≤ l.length
  · rw [padded_full h hf]
    have z3 : (256 : Int) ≤ (l.length : Int) := by omega
    clear h hf hr hS0
    obtain ⟨nw, en⟩ : ∃ nw, d.new = nw := ⟨_, rfl⟩
    rw [en] at x3 hn
    clear en
    cases nw
    · clear hn
      go_enter Try.func8, Try.ntmps8
      go_upto_region 1 with fail
      rw [← hw0]
      clear hw0
      go_wp2
      refine bodyPost_ret (v := .tuple #[.slice none 0 0, .int .i64 161]) (by simp [results, Try.results8, go_sem]) rfl (Recs.none 161 hB)
    · have g4 := hn rfl
      clear hn
      go_enter Try.func8, Try.ntmps8
      go_upto_region 1 with fail
      rw [← hw0]
      clear hw0
      go_wp2
      refine bodyPost_ret (v := .tuple #[.slice none 0 0, .int .i64 161]) (by simp [results, Try.results8, go_sem]) rfl (Recs.none 161 hB)
  · rw [padded_ok h hf]
    have z3 : ¬ (256 : Int) ≤ (l.length : Int) := by omega
    have HS0 := Lib.hid hS0
    have HRL := Lib.hid (rows_len l)
    have hr0 := hr.kept hB
    have HR := Lib.hid hr0
    clear h hf hr hS0 hr0
    obtain ⟨nw, en⟩ : ∃ nw, d.new = nw := ⟨_, rfl⟩
    rw [en] at x3 hn
    clear en
    rcases A with _ | a
    · have hl0 := rows_none HR.out
      obtain rfl := hz rfl
      subst hl0
      cases nw
      · clear hn
        go_enter Try.func8, Try.ntmps8
        go_upto_region 1 with fail
        rw [← hw0]
        clear hw0
        go_wp2_with (first
          | (at_builtin; refine wpList_append_own_none rfl _ _ 30 rfl w0.heap.size 34 i0 (Rec.z Dep) Try.underlying30 hi0 _ _ _ rfl (World.ownsRow_nil _ _ _ _) rfl ?_)
          | (refine load_rec 34 _ rfl rfl _ (Rec.vals d) rfl HS0.out.lies Try.underlying34 size_rdep ?_)
          | (refine list_one_rec 30 34 rfl _ rfl Try.underlying30 (Rec.vals d) (Rec.vals Dep.zero) info_rdep rfl (by decide) (by decide) (fill_dep d) rfl ?_)
          | (at_builtin; refine wpList_append_own _ rfl _ _ 30 rfl w0.heap.size 34 i0 _ (Rec.z Dep) 32 Try.underlying30 hi0 hz0 hz1 hz2 rfl (by decide) _ 0 (rows ([] : List Dep)) rfl (own_kept (World.ownsRow_nil w0 _ _ _) ((Below.refl _ _).alloc (Nat.le_refl _) _)) ⟨w0.heap.size, 0, none⟩ 1 1 (Rec.vals d).toList rfl rfl (RecAt.new w0 (Rec.vals d) 34).lies (rec_onecell d) (by simp [maxLen]) (by simp) (by first | exact Nat.le_succ _ | simp) ?_))
        intro v7 w7 hown7 hg7 _
        have hB7 : Below w.heap.size w w7 := hB.trans ((((Below.refl _ w0).alloc (Nat.le_refl _) _).grown hg7 (by first | exact Nat.le_succ _ | simp) (fun b hb => by simp [Value.ownBlock] at hb)).mono hB.size)
        have hown8 : w7.ownsRow w0.heap.size 34 (Rec.z Dep) v7 (0 + 1) (rows (([] : List Dep) ++ [d])) := by rw [rows_snoc]; exact hown7
        clear hg7 hown7
        go_wp2
        refine bodyPost_ret (v := .tuple #[v7, .int .i64 0]) (by simp [results, Try.results8, go_sem]) rfl (Recs.own hown8 rfl hB7)
      · have g4 := hn rfl
        clear hn
        go_enter Try.func8, Try.ntmps8
        go_upto_region 1 with fail
        rw [← hw0]
        clear hw0
        go_wp2_with (first
          | (at_builtin; refine wpList_append_own_none rfl _ _ 30 rfl w0.heap.size 34 i0 (Rec.z Dep) Try.underlying30 hi0 _ _ _ rfl (World.ownsRow_nil _ _ _ _) rfl ?_)
          | (refine load_rec 34 _ rfl rfl _ (Rec.vals d) rfl HS0.out.lies Try.underlying34 size_rdep ?_)
          | (refine list_one_rec 30 34 rfl _ rfl Try.underlying30 (Rec.vals d) (Rec.vals Dep.zero) info_rdep rfl (by decide) (by decide) (fill_dep d) rfl ?_)
          | (at_builtin; refine wpList_append_own _ rfl _ _ 30 rfl w0.heap.size 34 i0 _ (Rec.z Dep) 32 Try.underlying30 hi0 hz0 hz1 hz2 rfl (by decide) _ 0 (rows ([] : List Dep)) rfl (own_kept (World.ownsRow_nil w0 _ _ _) ((Below.refl _ _).alloc (Nat.le_refl _) _)) ⟨w0.heap.size, 0, none⟩ 1 1 (Rec.vals d).toList rfl rfl (RecAt.new w0 (Rec.vals d) 34).lies (rec_onecell d) (by simp [maxLen]) (by simp) (by first | exact Nat.le_succ _ | simp) ?_))
        intro v7 w7 hown7 hg7 _
        have hB7 : Below w.heap.size w w7 := hB.trans ((((Below.refl _ w0).alloc (Nat.le_refl _) _).grown hg7 (by first | exact Nat.le_succ _ | simp) (fun b hb => by simp [Value.ownBlock] at hb)).mono hB.size)
        have hown8 : w7.ownsRow w0.heap.size 34 (Rec.z Dep) v7 (0 + 1) (rows (([] : List Dep) ++ [d])) := by rw [rows_snoc]; exact hown7
        clear hg7 hown7
        go_wp2
        refine bodyPost_ret (v := .tuple #[v7, .int .i64 0]) (by simp [results, Try.results8, go_sem]) rfl (Recs.own hown8 rfl hB7)
    · have hsrc : ∀ q v, (rows l)[q]? = some v → w0.cell? (a.add q) = some v := fun q v hq => by
        obtain ⟨a', ha', _, hc'⟩ := HR.out q v hq
        cases ha'
        exact hc'
      have HSRC := Lib.hid hsrc
      clear hsrc
      cases nw
      · clear hn
        go_enter Try.func8, Try.ntmps8
        go_upto_region 1 with fail
        rw [← hw0]
        clear hw0
        go_upto_region 7 with (at_builtin; refine wpList_append_own _ rfl _ _ 30 rfl w0.heap.size 34 i0 _ (Rec.z Dep) 32 Try.underlying30 hi0 hz0 hz1 hz2 rfl (by decide) _ 0 [] rfl (World.ownsRow_nil _ _ _ _) a l.length c (rows l) rfl HRL.out HSRC.out (rows_onecell l) (by simp only [maxLen]; omega) (by omega) (Nat.le_refl _) ?_)
        intro v6 w6 hown6 hg6 _
        have hB6 : Below w0.heap.size w0 w6 := (Below.refl _ w0).grown hg6 (Nat.le_refl _) (fun b hb => by simp [Value.ownBlock] at hb)
        have HO6 : Hid (w6.ownsRow w0.heap.size 34 (Rec.z Dep) v6 l.length (rows l)) := Lib.hid (by simpa using hown6)
        have HS6 := Lib.hid (HS0.out.up hB6)
        clear hown6 hg6 x0 x1 x2 x3
        go_wp2_with (first
          | (refine load_rec 34 _ rfl rfl _ (Rec.vals d) rfl HS6.out.lies Try.underlying34 size_rdep ?_)
          | (refine list_one_rec 30 34 rfl _ rfl Try.underlying30 (Rec.vals d) (Rec.vals Dep.zero) info_rdep rfl (by decide) (by decide) (fill_dep d) rfl ?_)
          | (at_builtin; refine wpList_append_own _ rfl _ _ 30 rfl w0.heap.size 34 i0 _ (Rec.z Dep) 32 Try.underlying30 hi0 hz0 hz1 hz2 rfl (by decide) _ l.length (rows l) rfl (own_kept HO6.out ((Below.refl _ _).alloc (Nat.le_refl _) _)) ⟨w6.heap.size, 0, none⟩ 1 1 (Rec.vals d).toList rfl rfl (RecAt.new w6 (Rec.vals d) 34).lies (rec_onecell d) (by simp only [maxLen]; omega) (by omega) (Nat.le_trans hB6.size (by first | exact Nat.le_succ _ | simp)) ?_))
        intro v7 w7 hown7 hg7 _
        have hB7 : Below w.heap.size w w7 := hB.trans (((hB6.alloc hB6.size _).grown hg7 (Nat.le_trans hB6.size (by first | exact Nat.le_succ _ | simp)) (fun b hb => (HO6.out.lt b hb).1)).mono hB.size)
        rw [← rows_snoc] at hown7
        clear hg7
        go_wp2
        refine bodyPost_ret (v := .tuple #[v7, .int .i64 0]) (by simp [results, Try.results8, go_sem]) rfl (Recs.own hown7 (by simp) hB7)
      · have g4 := hn rfl
        clear hn
        go_enter Try.func8, Try.ntmps8
        go_upto_region 1 with fail
        rw [← hw0]
        clear hw0
        go_upto_region 7 with (at_builtin; refine wpList_append_own _ rfl _ _ 30 rfl w0.heap.size 34 i0 _ (Rec.z Dep) 32 Try.underlying30 hi0 hz0 hz1 hz2 rfl (by decide) _ 0 [] rfl (World.ownsRow_nil _ _ _ _) a l.length c (rows l) rfl HRL.out HSRC.out (rows_onecell l) (by simp only [maxLen]; omega) (by omega) (Nat.le_refl _) ?_)
        intro v6 w6 hown6 hg6 _
        have hB6 : Below w0.heap.size w0 w6 := (Below.refl _ w0).grown hg6 (Nat.le_refl _) (fun b hb => by simp [Value.ownBlock] at hb)
        have HO6 : Hid (w6.ownsRow w0.heap.size 34 (Rec.z Dep) v6 l.length (rows l)) := Lib.hid (by simpa using hown6)
        have HS6 := Lib.hid (HS0.out.up hB6)
        clear hown6 hg6 x0 x1 x2 x3
        go_wp2_with (first
          | (refine load_rec 34 _ rfl rfl _ (Rec.vals d) rfl HS6.out.lies Try.underlying34 size_rdep ?_)
          | (refine list_one_rec 30 34 rfl _ rfl Try.underlying30 (Rec.vals d) (Rec.vals Dep.zero) info_rdep rfl (by decide) (by decide) (fill_dep d) rfl ?_)
          | (at_builtin; refine wpList_append_own _ rfl _ _ 30 rfl w0.heap.size 34 i0 _ (Rec.z Dep) 32 Try.underlying30 hi0 hz0 hz1 hz2 rfl (by decide) _ l.length (rows l) rfl (own_kept HO6.out ((Below.refl _ _).alloc (Nat.le_refl _) _)) ⟨w6.heap.size, 0, none⟩ 1 1 (Rec.vals d).toList rfl rfl (RecAt.new w6 (Rec.vals d) 34).lies (rec_onecell d) (by simp only [maxLen]; omega) (by omega) (Nat.le_trans hB6.size (by first | exact Nat.le_succ _ | simp)) ?_))
        intro v7 w7 hown7 hg7 _
        have hB7 : Below w.heap.size w w7 := hB.trans (((hB6.alloc hB6.size _).grown hg7 (Nat.le_trans hB6.size (by first | exact Nat.le_succ _ | simp)) (fun b hb => (HO6.out.lt b hb).1)).mono hB.size)
        rw [← rows_snoc] at hown7
        clear hg7
        go_wp2
        refine bodyPost_ret (v := .tuple #[v7, .int .i64 0]) (by simp [results, Try.results8, go_sem]) rfl (Recs.own hown7 (by simp) hB7)

theorem radd_is (l : List Dep) (d : Dep) (A : Option Addr) (c : Nat) (w : World) (hr : Row w w.heap.size A (rows l)) (hl : l.length ≤ 1000000) (hz : A = none → c = 0) :
    Calls Try.prog 8 #[.slice A l.length c, .agg (Rec.vals d)] w fun e w' => Recs w (padded l d) e w' := by
  by_cases h : d.placed ∧ d.amt ≠ 0 ∧ d.amt ≤ 4611686018427387904
  · exact radd_ok l d A c w hr hl hz h
  · exact radd_no l d A c w h
end Go.Proofs.Ytaaildlopknbjaa
