/- Law BallotShrinks (P22.3): what passes passes with one yes more, and with less active; who doesn't count has no weight. No condition. -/
import Derived.Test.YtcggcnegagogkaaBalP
import Derived.Test.YtcggcnegagogkaaSeqV
import Derived.Test.YtcggcnegagogkaaLawM
import Derived.Test.YtcggcnegagogkaaLawP
import Derived.Test.YtcggcnegagogkaaBvM
import Derived.Test.YtcggcnegagogkaaRows
import Derived.BigRegion
import Derived.RegionTactic
import Derived.ChangeAlike
namespace Go.Proofs.Ytcggcnegagogkaa.BallotShrinks
open Go.RowKit Go.ChangeShapes Go.WideShapes Go.ChangeAt Go.Deep
set_option linter.unusedVariables false
set_option linter.unusedSimpArgs false

theorem info_amem : (Try.prog.info? 50).map (fun i => (i.zero, i.size, i.bytes)) = some (some (.agg (Rec.vals (Mem.zero : Mem))), Rec.z Mem, 48) := by kernel_rfl
/-- Every vote is a yes. -/
theorem yes_row (w : World) : Row (w.alloc (.cells #[.int .u8 255, .int .u8 255, .int .u8 255, .int .u8 255] 5)) (w.alloc (.cells #[.int .u8 255, .int .u8 255, .int .u8 255, .int .u8 255] 5)).heap.size (some ⟨w.heap.size, 0, none⟩) (u8s [255, 255, 255, 255]) :=
  (Lie.made w (u8s [255, 255, 255, 255]) 5).row fun k _ e => by subst e; simp
theorem size_u64 : (Try.prog.info? 26).map (·.size) = some 1 := by kernel_rfl
/-- Those who don't count, of the first k. -/
theorem idle_yes {l : List Mem} {k : Nat} {m : Mem} {r : List Mem} (hs : l[k]? = some m) (hm : m.counts = false) (h : (l.take k).filter (fun m => !m.counts) = r) : (l.take (k + 1)).filter (fun m => !m.counts) = r ++ [m] := by
  rw [List.take_add_one, hs, List.filter_append, h]
  simp [hm]
theorem idle_no {l : List Mem} {k : Nat} {m : Mem} {r : List Mem} (hs : l[k]? = some m) (hm : m.counts = true) (h : (l.take k).filter (fun m => !m.counts) = r) : (l.take (k + 1)).filter (fun m => !m.counts) = r := by
  rw [List.take_add_one, hs, List.filter_append, h]
  simp [hm]
theorem idle_len {l r : List Mem} {k : Nat} (h : (l.take k).filter (fun m => !m.counts) = r) : r.length ≤ k := by
  rw [← h]
  have h1 := List.length_filter_le (fun m : Mem => !m.counts) (l.take k)
  have h2 := List.length_take_le k l
  omega
theorem idle_all {l r : List Mem} {k : Nat} (h : (l.take k).filter (fun m => !m.counts) = r) : ∀ m ∈ r, m.counts = false ∧ m ∈ l := by
  intro m hm
  rw [← h] at hm
  have := List.mem_filter.1 hm
  exact ⟨by simpa using this.2, List.mem_of_mem_take this.1⟩

set_option maxRecDepth 100000 in
set_option maxHeartbeats 2000000 in
theorem wide_yes (p : Par) (t : Tly) (l : List Mem) (A : Option Addr) (c : Nat) (w : World) (h : 4611686018427387904 < t.yes) :
    Calls Try.prog 4 #[.agg p.vals, .agg (Rec.vals t), .slice A l.length c] w fun e w' => e = .returned (.bool true) ∧ Below w.heap.size w w' := by
  have d1 : decide ((4611686018427387904 : Int) < (t.yes : Int)) = true := decide_eq_true (by omega)
  go_enter Try.func4, Try.ntmps4
  go_upto_region 1 with fail
  generalize hw0 : World.alloc (World.alloc _ _) _ = w0
  have hP : ParAt w0 w.heap.size p 46 := by rw [← hw0]; exact (ParAt.new w p 46).up ((Below.refl _ _).alloc (Nat.le_refl _) _)
  have hT : RecAt w0 (w.heap.size + 1) (Rec.vals t) 39 := by
    rw [← hw0]
    have := RecAt.new (w.alloc (.cells p.vals 46)) (Rec.vals t) 39
    rw [World.size_alloc] at this
    exact this
  have hB : Below w.heap.size w w0 := by rw [← hw0]; exact ((Below.refl _ _).alloc (Nat.le_refl _) _).alloc (by simp) _
  have hz0 : w.heap.size + 2 ≤ w0.heap.size := by rw [← hw0]; simp
  clear hw0
  go_wp2_with (go_at_call 5; refine (ballot_awake w0).mono ?_; rintro e w1 ⟨rfl, hb⟩; have hP := hP.up hb; have hT := hT.up hb; have hB := Below.then hB hb; have hz0 := Nat.le_trans hz0 hb.size; clear hb; have c0 : w1.cell? ⟨w.heap.size + 1, 0, none⟩ = some (.int .u64 (t.yes : Int)) := hT.cell 0; have c1 : w1.cell? ⟨w.heap.size + 1, 1, none⟩ = some (.int .u64 (t.no : Int)) := hT.cell 1)
  go_ret
  exact ⟨by first | rfl | simp, hB⟩

set_option maxRecDepth 100000 in
set_option maxHeartbeats 2000000 in
theorem wide_no (p : Par) (t : Tly) (l : List Mem) (A : Option Addr) (c : Nat) (w : World) (h0 : t.yes ≤ 4611686018427387904) (h : 4611686018427387904 < t.no) :
    Calls Try.prog 4 #[.agg p.vals, .agg (Rec.vals t), .slice A l.length c] w fun e w' => e = .returned (.bool true) ∧ Below w.heap.size w w' := by
  have d1 : decide ((4611686018427387904 : Int) < (t.yes : Int)) = false := decide_eq_false (by omega)
  have d2 : decide ((4611686018427387904 : Int) < (t.no : Int)) = true := decide_eq_true (by omega)
  go_enter Try.func4, Try.ntmps4
  go_upto_region 1 with fail
  generalize hw0 : World.alloc (World.alloc _ _) _ = w0
  have hP : ParAt w0 w.heap.size p 46 := by rw [← hw0]; exact (ParAt.new w p 46).up ((Below.refl _ _).alloc (Nat.le_refl _) _)
  have hT : RecAt w0 (w.heap.size + 1) (Rec.vals t) 39 := by
    rw [← hw0]
    have := RecAt.new (w.alloc (.cells p.vals 46)) (Rec.vals t) 39
    rw [World.size_alloc] at this
    exact this
  have hB : Below w.heap.size w w0 := by rw [← hw0]; exact ((Below.refl _ _).alloc (Nat.le_refl _) _).alloc (by simp) _
  have hz0 : w.heap.size + 2 ≤ w0.heap.size := by rw [← hw0]; simp
  clear hw0
  go_wp2_with (go_at_call 5; refine (ballot_awake w0).mono ?_; rintro e w1 ⟨rfl, hb⟩; have hP := hP.up hb; have hT := hT.up hb; have hB := Below.then hB hb; have hz0 := Nat.le_trans hz0 hb.size; clear hb; have c0 : w1.cell? ⟨w.heap.size + 1, 0, none⟩ = some (.int .u64 (t.yes : Int)) := hT.cell 0; have c1 : w1.cell? ⟨w.heap.size + 1, 1, none⟩ = some (.int .u64 (t.no : Int)) := hT.cell 1)
  go_ret
  exact ⟨by first | rfl | simp, hB⟩

set_option maxRecDepth 100000 in
set_option maxHeartbeats 2000000 in
theorem wide_len (p : Par) (t : Tly) (l : List Mem) (A : Option Addr) (c : Nat) (w : World) (h0 : t.yes ≤ 4611686018427387904) (h1 : t.no ≤ 4611686018427387904) (h : 100 < l.length) :
    Calls Try.prog 4 #[.agg p.vals, .agg (Rec.vals t), .slice A l.length c] w fun e w' => e = .returned (.bool true) ∧ Below w.heap.size w w' := by
  have d1 : decide ((4611686018427387904 : Int) < (t.yes : Int)) = false := decide_eq_false (by omega)
  have d2 : decide ((4611686018427387904 : Int) < (t.no : Int)) = false := decide_eq_false (by omega)
  have d3 : decide ((100 : Int) < (l.length : Int)) = true := decide_eq_true (by omega)
  have d4 : decide (100 < l.length) = true := decide_eq_true h
  clear h0 h1 h
  go_enter Try.func4, Try.ntmps4
  go_upto_region 1 with fail
  generalize hw0 : World.alloc (World.alloc _ _) _ = w0
  have hP : ParAt w0 w.heap.size p 46 := by rw [← hw0]; exact (ParAt.new w p 46).up ((Below.refl _ _).alloc (Nat.le_refl _) _)
  have hT : RecAt w0 (w.heap.size + 1) (Rec.vals t) 39 := by
    rw [← hw0]
    have := RecAt.new (w.alloc (.cells p.vals 46)) (Rec.vals t) 39
    rw [World.size_alloc] at this
    exact this
  have hB : Below w.heap.size w w0 := by rw [← hw0]; exact ((Below.refl _ _).alloc (Nat.le_refl _) _).alloc (by simp) _
  have hz0 : w.heap.size + 2 ≤ w0.heap.size := by rw [← hw0]; simp
  clear hw0
  go_wp2_with (go_at_call 5; refine (ballot_awake w0).mono ?_; rintro e w1 ⟨rfl, hb⟩; have hP := hP.up hb; have hT := hT.up hb; have hB := Below.then hB hb; have hz0 := Nat.le_trans hz0 hb.size; clear hb; have c0 : w1.cell? ⟨w.heap.size + 1, 0, none⟩ = some (.int .u64 (t.yes : Int)) := hT.cell 0; have c1 : w1.cell? ⟨w.heap.size + 1, 1, none⟩ = some (.int .u64 (t.no : Int)) := hT.cell 1)
  go_ret
  exact ⟨by first | rfl | simp, hB⟩

set_option maxRecDepth 100000 in
set_option maxHeartbeats 2000000 in
theorem walk_near (p : Par) (t : Tly) (l : List Mem) (A : Option Addr) (c : Nat) (w : World) (hr : Row w w.heap.size A (rows l)) (hf : ∀ m ∈ l, m.s.Fits) (hp : p.Fits) (ht : t.Fits) (h0 : t.yes ≤ 4611686018427387904) (h1 : t.no ≤ 4611686018427387904) (h2 : l.length ≤ 100) :
    Calls Try.prog 4 #[.agg p.vals, .agg (Rec.vals t), .slice A l.length c] w fun e w' => e = .returned (.bool true) ∧ Below w.heap.size w w' := by
  have d1 : decide ((4611686018427387904 : Int) < (t.yes : Int)) = false := decide_eq_false (by omega)
  have d2 : decide ((4611686018427387904 : Int) < (t.no : Int)) = false := decide_eq_false (by omega)
  have d3 : decide ((100 : Int) < (l.length : Int)) = false := decide_eq_false (by omega)
  have d4 : decide (100 < l.length) = false := decide_eq_false (by omega)
  obtain ⟨i0, hi0, hzz0, hzz1, hzz2⟩ := info_parts info_amem
  have HR := Lib.hid hr
  have HF := Lib.hid hf
  have HP0 := Lib.hid hp
  have HT0 := Lib.hid ht
  have HY0 := Lib.hid h0
  have HN0 := Lib.hid h1
  have HL0 := Lib.hid h2
  clear hr hf hp ht h0 h1 h2
  go_enter Try.func4, Try.ntmps4
  go_upto_region 1 with fail
  generalize hw0 : World.alloc (World.alloc _ _) _ = w0
  have hP : ParAt w0 w.heap.size p 46 := by rw [← hw0]; exact (ParAt.new w p 46).up ((Below.refl _ _).alloc (Nat.le_refl _) _)
  have hT : RecAt w0 (w.heap.size + 1) (Rec.vals t) 39 := by
    rw [← hw0]
    have := RecAt.new (w.alloc (.cells p.vals 46)) (Rec.vals t) 39
    rw [World.size_alloc] at this
    exact this
  have hB : Below w.heap.size w w0 := by rw [← hw0]; exact ((Below.refl _ _).alloc (Nat.le_refl _) _).alloc (by simp) _
  have hz0 : w.heap.size + 2 ≤ w0.heap.size := by rw [← hw0]; simp
  clear hw0
  go_wp2_with (go_at_call 5; refine (ballot_awake w0).mono ?_; rintro e w1 ⟨rfl, hb⟩; have hP := hP.up hb; have hT := hT.up hb; have hB := Below.then hB hb; have hz0 := Nat.le_trans hz0 hb.size; clear hb; have c0 : w1.cell? ⟨w.heap.size + 1, 0, none⟩ = some (.int .u64 (t.yes : Int)) := hT.cell 0; have c1 : w1.cell? ⟨w.heap.size + 1, 1, none⟩ = some (.int .u64 (t.no : Int)) := hT.cell 1)
  clear c0 c1 d1 d2 d3 d4
  have HRW := Lib.hid (row_kept HR.out hB)
  go_loopw [7, 32] (fun v7 iv wr => ∃ (k : Nat) (r : List Mem), k ≤ l.length ∧ iv = .int .i64 (k : Int) ∧ Hid ((l.take k).filter (fun m => !m.counts) = r) ∧ Hid (wr.ownsRow w1.heap.size 50 (Rec.z Mem) v7 r.length (rows r)) ∧ Below w1.heap.size w1 wr) (fun _ iv _ => l.length - (intOf iv).toNat)
  case atStart => exact ⟨0, [], Nat.zero_le _, rfl, Lib.hid rfl, Lib.hid (World.ownsRow_nil _ _ _ _), Below.refl _ _⟩
  case round =>
    obtain ⟨k, r, hk, rfl, HP, HO, hQ⟩ := hrel
    by_cases hlt : k < l.length
    · obtain ⟨m, hs⟩ : ∃ m, l[k]? = some m := ⟨_, List.getElem?_eq_getElem hlt⟩
      obtain ⟨a, rfl, hab, hat0⟩ := rows_row (HRW.out.below hQ) hs
      have hat : LiesAt wr (a.add (k * 6)) (Rec.vals m) := hat0
      have hki : (k : Int) < (l.length : Int) := by omega
      have hk0 : (0 : Int) ≤ (k : Int) := by omega
      have HLN := Lib.hid (idle_len HP.out)
      have HL1 := HL0.out
      clear hat0
      cases hc : m.counts with
      | true =>
        have HP2 := Lib.hid (idle_no hs hc HP.out)
        have e2 : m.status = 2 ∨ m.status = 3 := by
          unfold Mem.counts at hc
          simpa using hc
        clear hs hc HP
        rcases e2 with e2 | e2
        · have e5 : (Rec.vals m)[5]? = some (Value.int IntKind.i64 2) := by show some (Value.int IntKind.i64 m.status) = _; rw [e2]
          go_wp2_with (first
            | (refine load_rec 50 _ rfl rfl _ (Rec.vals m) rfl hat Try.underlying50 size_mem ?_)
            | (refine store_rec 50 _ _ rfl rfl _ (Rec.vals m) (Rec.vals Mem.zero) 50 rfl rfl (RecAt.new _ (Rec.vals Mem.zero) _) size_mem rfl (Rec.one m) ?_; intro w2 hS2 hb2 hsz hkp; clear hsz hkp; have hb2 := rec_made (Below.refl _ _) hb2; have HO2 := Lib.hid (own_kept HO.out hb2); have hQ2 := Below.then hQ hb2; clear hb2 hat; have x5 : w2.cell? ⟨_, 5, none⟩ = some (Value.int IntKind.i64 (2 : Int)) := (hS2.cell 5).trans e5))
          go_roundw
          case rel => exact ⟨k + 1, r, by omega, by go_num, HP2, HO2, hQ2⟩
          case measure => simp [intOf]; omega
        · have e5 : (Rec.vals m)[5]? = some (Value.int IntKind.i64 3) := by show some (Value.int IntKind.i64 m.status) = _; rw [e2]
          go_wp2_with (first
            | (refine load_rec 50 _ rfl rfl _ (Rec.vals m) rfl hat Try.underlying50 size_mem ?_)
            | (refine store_rec 50 _ _ rfl rfl _ (Rec.vals m) (Rec.vals Mem.zero) 50 rfl rfl (RecAt.new _ (Rec.vals Mem.zero) _) size_mem rfl (Rec.one m) ?_; intro w2 hS2 hb2 hsz hkp; clear hsz hkp; have hb2 := rec_made (Below.refl _ _) hb2; have HO2 := Lib.hid (own_kept HO.out hb2); have hQ2 := Below.then hQ hb2; clear hb2 hat; have x5 : w2.cell? ⟨_, 5, none⟩ = some (Value.int IntKind.i64 (3 : Int)) := (hS2.cell 5).trans e5))
          go_roundw
          case rel => exact ⟨k + 1, r, by omega, by go_num, HP2, HO2, hQ2⟩
          case measure => simp [intOf]; omega
      | false =>
        have HP2 := Lib.hid (idle_yes hs hc HP.out)
        have e2 : ¬ m.status = 2 ∧ ¬ m.status = 3 := by
          unfold Mem.counts at hc
          simpa using hc
        obtain ⟨e2, e3⟩ := e2
        have f2 : (m.status == 2) = false := by simp [e2]
        have f3 : (m.status == 3) = false := by simp [e3]
        have f4 : (m.status != 2) = true := by simp [e2]
        have f5 : (m.status != 3) = true := by simp [e3]
        have f6 : decide (m.status = 2) = false := by simp [e2]
        have f7 : decide (m.status = 3) = false := by simp [e3]
        clear hs hc HP e2 e3
        go_wp2_with (first
          | (refine load_rec 50 _ rfl rfl _ (Rec.vals m) rfl hat Try.underlying50 size_mem ?_)
          | (refine store_rec 50 _ _ rfl rfl _ (Rec.vals m) (Rec.vals Mem.zero) 50 rfl rfl (RecAt.new _ (Rec.vals Mem.zero) _) size_mem rfl (Rec.one m) ?_; intro w2 hS2 hb2 hsz hkp; clear hsz hkp; have hb2 := rec_made (Below.refl _ _) hb2; have HO2 := Lib.hid (own_kept HO.out hb2); have hQ2 := Below.then hQ hb2; clear hb2 hat; have x5 : w2.cell? ⟨_, 5, none⟩ = some (Value.int IntKind.i64 m.status) := hS2.cell 5)
          | ((with_reducible refine slot_is 45 rfl ?_); refine load_rec 50 _ rfl rfl _ (Rec.vals m) rfl hS2.lies Try.underlying50 size_mem ?_)
          | (refine list_one_rec 22 50 rfl _ rfl Try.underlying22 (Rec.vals m) (Rec.vals Mem.zero) info_amem rfl (by decide) (by decide) (fill_mem m) rfl ?_)
          | (at_builtin; refine wpList_append_lies _ rfl _ _ 22 rfl w1.heap.size 50 i0 _ (Rec.z Mem) 48 Try.underlying22 hi0 hzz0 hzz1 hzz2 rfl (by decide) _ r.length (rows r) rfl (own_boxed HO2.out _) ⟨w2.heap.size, 0, none⟩ 1 1 (Rec.vals m).toList rfl rfl (RecAt.new w2 (Rec.vals m) 50).lies (rec_onecell m) (by decide) ?c1 ?c2 ?c3 _ rfl ?_))
        case c1 => have := HLN.out; simp only [maxLen]; omega
        case c2 => have := HLN.out; omega
        case c3 => exact Nat.le_trans hQ2.size (by first | exact Nat.le_succ _ | simp)
        intro g cap w7 hown7 hg7 hat7 hlt7
        have hQ7 : Below w1.heap.size w1 w7 := (hQ2.alloc hQ2.size _).grown hg7 (Nat.le_trans hQ2.size (by simp)) (fun b hb => (HO2.out.lt b hb).1)
        have HO7 : Hid (w7.ownsRow w1.heap.size 50 (Rec.z Mem) (.slice (some ⟨g, 0, none⟩) (r.length + 1) cap) (r ++ [m]).length (rows (r ++ [m]))) := Lib.hid (by rw [rows_snoc, List.length_append]; exact hown7)
        clear hown7 hg7 hat7 hlt7 HO HO2 x5
        go_wp2
        go_roundw
        case rel => exact ⟨k + 1, r ++ [m], by omega, by go_num, HP2, HO7, hQ7⟩
        case measure => simp [intOf]; omega
    · obtain rfl : k = l.length := by omega
      have hall := idle_all HP.out
      have hrl := idle_len HP.out
      obtain ⟨A1, c1, rfl, -, -, -, hr1⟩ := rows_of_own rfl HO.out
      have hPr := hP.up hQ
      have hTr := hT.up hQ
      have hBr := Below.then hB hQ
      have hzr := Nat.le_trans hz0 hQ.size
      have HR1 := Lib.hid hr1
      have kw := fun (W : World) (v : Row W W.heap.size (some ⟨wr.heap.size, 0, none⟩) (u8s [255, 255, 255, 255])) (h : Row W W.heap.size A1 (rows r)) => weigh_is r A1 c1 [255, 255, 255, 255] (some ⟨wr.heap.size, 0, none⟩) 4 0 W h v (by decide) (by have := HL0.out; omega) (fun m hm => HF.out m (hall m hm).2) (Lib.hid (presents_idle (fun m hm => (hall m hm).1) _ _))
      rw [tx_in (by omega), te_in (by omega), show ((0 : Nat) : Int) = 0 from rfl] at kw
      have KW := Lib.hid kw
      have k1 := fun (W : World) => passes_is p t W HP0.out HT0.out
      have HV0 := Lib.hid (yes_row wr)
      have hbv : Below wr.heap.size wr (wr.alloc (.cells #[.int .u8 255, .int .u8 255, .int .u8 255, .int .u8 255] 5)) := (Below.refl _ _).alloc (Nat.le_refl _) _
      have HQV := Lib.hid hbv
      clear kw hbv hall hrl hr1 HP HO hP hT hB hz0 HRW hQ hlt hk HR
      cases hpass : passes p.quorum t with
      | false =>
        rw [hpass] at k1
        have K1 := Lib.hid k1
        clear k1
        go_wp2_with (first
          | (go_at_call 7; refine (KW.out _ HV0.out (row_kept HR1.out HQV.out)).mono ?_; clear KW; rintro e w2 ⟨rfl, hb⟩; have hb := Below.then HQV.out hb; have hPr := hPr.up hb; have hTr := hTr.up hb; have hBr := Below.then hBr hb; clear hb HV0 HR1 HQV)
          | ((with_reducible refine slot_is 61 rfl ?_); refine load_par _ rfl rfl w.heap.size p 46 rfl hPr ?_)
          | ((with_reducible refine slot_is 62 rfl ?_); refine load_rec 39 _ rfl rfl _ (Rec.vals t) rfl hTr.lies Try.underlying39 size_tly ?_)
          | (go_at_call 14; refine (K1.out _).mono ?_; clear K1; rintro e w3 ⟨rfl, hb⟩; have hBr := Below.then hBr hb; clear hb))
        go_ret
        exact ⟨by first | rfl | simp, hBr⟩
      | true =>
        rw [hpass] at k1
        have K1 := Lib.hid k1
        have hs1 := passes_sure hpass
        have hy0 := HY0.out
        have hn0 := HN0.out
        have hac := HT0.out.act
        have kmore := fun (W : World) => passes_is p ⟨t.yes + 1, t.no, t.act⟩ W HP0.out ⟨by show t.yes + 1 ≤ _; omega, by show t.no ≤ _; omega, hac⟩
        rw [show passes p.quorum ⟨t.yes + 1, t.no, t.act⟩ = true from passes_one (by omega) hpass] at kmore
        obtain ⟨hf, hhf⟩ : ∃ h, t.act / 2 = h := ⟨_, rfl⟩
        obtain ⟨df, hdf⟩ : ∃ d, t.act - hf = d := ⟨_, rfl⟩
        have kless := fun (W : World) => passes_is p ⟨t.yes, t.no, df⟩ W HP0.out ⟨by show t.yes ≤ _; omega, by show t.no ≤ _; omega, by show df ≤ _; omega⟩
        rw [show passes p.quorum ⟨t.yes, t.no, df⟩ = true from passes_less (by omega) (by omega) hpass] at kless
        have KM := Lib.hid kmore
        have KL := Lib.hid kless
        have e1 : IntKind.u64.wrap ((t.yes : Int) + 1) = ((t.yes + 1 : Nat) : Int) := by rw [show (t.yes : Int) + 1 = ((t.yes + 1 : Nat) : Int) by omega]; exact IntWalk.u64_in _ (by omega)
        have e5 : (t.act : Int).tdiv 2 = (hf : Int) := by rw [← hhf]; exact (Int.ofNat_tdiv t.act 2).symm
        have e6 : IntKind.u64.wrap (hf : Int) = (hf : Int) := IntWalk.u64_in _ (by omega)
        have e7 : IntKind.u64.wrap ((t.act : Int) - (hf : Int)) = (df : Int) := by rw [show (t.act : Int) - (hf : Int) = (df : Int) by omega]; exact IntWalk.u64_in _ (by omega)
        have d1 : decide ((t.no : Int) < (t.yes : Int)) = true := decide_eq_true (by omega)
        have d2 : decide ((0 : Int) < (t.act : Int)) = true := decide_eq_true (by omega)
        have d3 : decide (t.no < t.yes) = true := decide_eq_true (by omega)
        have d4 : decide (0 < t.act) = true := decide_eq_true (by omega)
        clear k1 kmore kless hs1 hy0 hn0 hac hpass hhf hdf
        go_upto_region 18 with (first
          | (go_at_call 7; refine (KW.out _ HV0.out (row_kept HR1.out HQV.out)).mono ?_; clear KW; rintro e w2 ⟨rfl, hb⟩; have hb := Below.then HQV.out hb; have hPr := hPr.up hb; have hTr := hTr.up hb; have hBr := Below.then hBr hb; have hzr := Nat.le_trans hzr hb.size; clear hb HV0 HR1 HQV)
          | ((with_reducible refine slot_is 61 rfl ?_); refine load_par _ rfl rfl w.heap.size p 46 rfl hPr ?_)
          | ((with_reducible refine slot_is 62 rfl ?_); refine load_rec 39 _ rfl rfl _ (Rec.vals t) rfl hTr.lies Try.underlying39 size_tly ?_)
          | (go_at_call 14; refine (K1.out _).mono ?_; clear K1; rintro e w3 ⟨rfl, hb⟩; have hPr := hPr.up hb; have hTr := hTr.up hb; have hBr := Below.then hBr hb; have hzr := Nat.le_trans hzr hb.size; clear hb))
        obtain ⟨gT, hgT0⟩ : ∃ g, w.heap.size + 1 = g := ⟨_, rfl⟩
        rw [hgT0] at hTr
        have x0 : w3.cell? ⟨gT, 0, none⟩ = some (.int .u64 (t.yes : Int)) := hTr.cell 0
        have x1 : w3.cell? ⟨gT, 1, none⟩ = some (.int .u64 (t.no : Int)) := hTr.cell 1
        have x2 : w3.cell? ⟨gT, 2, none⟩ = some (.int .u64 (t.act : Int)) := hTr.cell 2
        rw [hgT0]
        have hlt : gT < w3.heap.size := hTr.lt
        have hne : ¬ gT = w3.heap.size := by omega
        have hne2 : ¬ gT = w3.heap.size + 1 := by omega
        have hlp : w.heap.size < w3.heap.size := hPr.lt
        have hA : RecAt ((w3.alloc (.cells #[.int .u64 (t.yes : Int), .int .u64 (t.no : Int), .int .u64 (t.act : Int)] 39)).alloc (.cells #[.int .u64 (t.yes : Int), .int .u64 (t.no : Int), .int .u64 (t.act : Int)] 39)).drew w3.heap.size (Rec.vals t) 39 := ((RecAt.new w3 (Rec.vals t) _).up ((Below.refl _ _).alloc (Nat.le_refl _) _)).drew
        have hA' : RecAt ((w3.alloc (.cells #[.int .u64 (t.yes : Int), .int .u64 (t.no : Int), .int .u64 (t.act : Int)] 39)).alloc (.cells #[.int .u64 (t.yes : Int), .int .u64 (t.no : Int), .int .u64 (t.act : Int)] 39)).drew (w3.heap.size + 1) (Rec.vals t) 39 := by
          have := RecAt.new (w3.alloc (.cells (Rec.vals t) 39)) (Rec.vals t) 39
          rw [World.size_alloc] at this
          exact this.drew
        have hb4 : Below w3.heap.size w3 ((w3.alloc (.cells #[.int .u64 (t.yes : Int), .int .u64 (t.no : Int), .int .u64 (t.act : Int)] 39)).alloc (.cells #[.int .u64 (t.yes : Int), .int .u64 (t.no : Int), .int .u64 (t.act : Int)] 39)).drew := (((Below.refl _ _).alloc (Nat.le_refl _) _).alloc (by simp) _).drew
        have HA := Lib.hid hA
        have HA' := Lib.hid hA'
        have HB4 := Lib.hid hb4
        have HLT := Lib.hid hlt
        have HLP := Lib.hid hlp
        clear hA hA' hb4 hzr hlp
        go_region
        all_goals
          have hA := HA.out
          have hA' := HA'.out
          have hb4 := HB4.out
          have hlt2 := HLT.out
          have hlp := HLP.out
          generalize ((w3.alloc (.cells #[.int .u64 (t.yes : Int), .int .u64 (t.no : Int), .int .u64 (t.act : Int)] 39)).alloc (.cells #[.int .u64 (t.yes : Int), .int .u64 (t.no : Int), .int .u64 (t.act : Int)] 39)).drew = w4 at hA hA' hb4 ⊢
          have hPr := hPr.up hb4
          have hTr := hTr.up hb4
          have hBr := Below.then hBr hb4
          clear x0 x1 x2 HA HA' HB4 HLT HLP hne hne2 hb4 hlt
          obtain ⟨gB, eB⟩ : ∃ g, w3.heap.size + 1 = g := ⟨_, rfl⟩
          have hAB : w3.heap.size < gB := by omega
          rw [eB] at hA' ⊢
          clear eB
          generalize w3.heap.size = gA at hA hAB hlt2 hlp ⊢
          have a0 : w4.cell? ⟨gA, 0, none⟩ = some (.int .u64 (t.yes : Int)) := hA.cell 0
          have b0 : w4.cell? ⟨gB, 0, none⟩ = some (.int .u64 (t.yes : Int)) := hA'.cell 0
          have k1 : gB ≠ gA := by omega
          have k2 : gA ≠ gB := by omega
          have k3 : gT ≠ gA := by omega
          have k4 : gT ≠ gB := by omega
          have k5 : w.heap.size ≠ gA := by omega
          have k6 : w.heap.size ≠ gB := by omega
          have k7 : w.heap.size ≤ gA := by omega
          have k8 : w.heap.size ≤ gB := by omega
          have HK := Lib.hid (And.intro (And.intro k1 k2) (And.intro (And.intro k3 k4) (And.intro (And.intro k5 k6) (And.intro k7 k8))))
          clear k1 k2 k3 k4 k5 k6 k7 k8 hAB hlt2 hlp
          go_wp2_with (first
            | (refine store_slot 26 _ _ rfl rfl gA 0 (Rec.vals t) (Rec.vals (⟨t.yes + 1, t.no, t.act⟩ : Tly)) 39 (.int .u64 ((t.yes + 1 : Nat) : Int)) rfl rfl hA (by show 0 < 3; decide) rfl rfl size_u64 rfl ?_; intro w5 hM hb hz hk; have hL : RecAt w5 gB (Rec.vals t) 39 := (hk _ HK.out.1.1).trans hA'; have hTr : RecAt w5 gT (Rec.vals t) 39 := (hk _ HK.out.2.1.1).trans hTr; have hPr : ParAt w5 w.heap.size p 46 := (hk _ HK.out.2.2.1.1).trans hPr; have hBr := hBr.trans (hb.mono HK.out.2.2.2.1); clear hb hz hk hA hA' a0 b0; have x2 : w5.cell? ⟨gT, 2, none⟩ = some (.int .u64 (t.act : Int)) := hTr.cell 2)
            | (refine store_slot 26 _ _ rfl rfl gB 0 (Rec.vals t) (Rec.vals (⟨t.yes + 1, t.no, t.act⟩ : Tly)) 39 (.int .u64 ((t.yes + 1 : Nat) : Int)) rfl rfl hA' (by show 0 < 3; decide) rfl rfl size_u64 rfl ?_; intro w5 hM hb hz hk; have hL : RecAt w5 gA (Rec.vals t) 39 := (hk _ HK.out.1.2).trans hA; have hTr : RecAt w5 gT (Rec.vals t) 39 := (hk _ HK.out.2.1.2).trans hTr; have hPr : ParAt w5 w.heap.size p 46 := (hk _ HK.out.2.2.1.2).trans hPr; have hBr := hBr.trans (hb.mono HK.out.2.2.2.2); clear hb hz hk hA' hA a0 b0; have x2 : w5.cell? ⟨gT, 2, none⟩ = some (.int .u64 (t.act : Int)) := hTr.cell 2)
            | (refine store_slot 26 _ _ rfl rfl gB 2 (Rec.vals t) (Rec.vals (⟨t.yes, t.no, df⟩ : Tly)) 39 (.int .u64 ((df : Nat) : Int)) rfl rfl hL (by show 2 < 3; decide) rfl rfl size_u64 rfl ?_; intro w6 hL2 hb hz hk; have hM : RecAt w6 gA (Rec.vals (⟨t.yes + 1, t.no, t.act⟩ : Tly)) 39 := (hk _ HK.out.1.2).trans hM; have hTr : RecAt w6 gT (Rec.vals t) 39 := (hk _ HK.out.2.1.2).trans hTr; have hPr : ParAt w6 w.heap.size p 46 := (hk _ HK.out.2.2.1.2).trans hPr; have hBr := hBr.trans (hb.mono HK.out.2.2.2.2); clear hb hz hk hL x2; have hL := hL2; have x0 : w6.cell? ⟨gT, 0, none⟩ = some (.int .u64 (t.yes : Int)) := hTr.cell 0; have x1 : w6.cell? ⟨gT, 1, none⟩ = some (.int .u64 (t.no : Int)) := hTr.cell 1; have x2 : w6.cell? ⟨gT, 2, none⟩ = some (.int .u64 (t.act : Int)) := hTr.cell 2)
            | (refine store_slot 26 _ _ rfl rfl gA 2 (Rec.vals t) (Rec.vals (⟨t.yes, t.no, df⟩ : Tly)) 39 (.int .u64 ((df : Nat) : Int)) rfl rfl hL (by show 2 < 3; decide) rfl rfl size_u64 rfl ?_; intro w6 hL2 hb hz hk; have hM : RecAt w6 gB (Rec.vals (⟨t.yes + 1, t.no, t.act⟩ : Tly)) 39 := (hk _ HK.out.1.1).trans hM; have hTr : RecAt w6 gT (Rec.vals t) 39 := (hk _ HK.out.2.1.1).trans hTr; have hPr : ParAt w6 w.heap.size p 46 := (hk _ HK.out.2.2.1.1).trans hPr; have hBr := hBr.trans (hb.mono HK.out.2.2.2.1); clear hb hz hk hL x2; have hL := hL2; have x0 : w6.cell? ⟨gT, 0, none⟩ = some (.int .u64 (t.yes : Int)) := hTr.cell 0; have x1 : w6.cell? ⟨gT, 1, none⟩ = some (.int .u64 (t.no : Int)) := hTr.cell 1; have x2 : w6.cell? ⟨gT, 2, none⟩ = some (.int .u64 (t.act : Int)) := hTr.cell 2)
            | ((with_reducible refine slot_is 90 rfl ?_); refine load_par _ rfl rfl w.heap.size p 46 rfl hPr ?_)
            | ((with_reducible refine slot_is 95 rfl ?_); refine load_par _ rfl rfl w.heap.size p 46 rfl hPr ?_)
            | ((with_reducible refine slot_is 91 rfl ?_); refine load_rec 39 _ rfl rfl _ _ rfl hM.lies Try.underlying39 size_tly ?_)
            | ((with_reducible refine slot_is 96 rfl ?_); refine load_rec 39 _ rfl rfl _ _ rfl hL.lies Try.underlying39 size_tly ?_)
            | (go_at_call 14; refine (KM.out _).mono ?_; clear KM; rintro e w7 ⟨rfl, hb⟩; have hPr := hPr.up hb; have hL := hL.up hb; have hBr := Below.then hBr hb; clear hb)
            | (go_at_call 14; refine (KL.out _).mono ?_; clear KL; rintro e w8 ⟨rfl, hb⟩; have hBr := Below.then hBr hb; clear hb))
          go_ret
          exact ⟨by first | rfl | simp, hBr⟩
theorem walk (p : Par) (n0 n1 n2 : Nat) (l : List Mem) (A : Option Addr) (c : Nat) (w : World) (hp : p.Fits) (h0 : n0 ≤ 18446744073709551615) (h1 : n1 ≤ 18446744073709551615) (h2 : n2 ≤ 18446744073709551615) (hr : Row w w.heap.size A (rows l)) (hf : ∀ m ∈ l, m.s.Fits) (hc : l.length ≤ c) (hm : c ≤ maxLen) (hz : A = none → c = 0) :
    Calls Try.prog 4 #[.agg p.vals, .agg #[.int .u64 (n0 : Int), .int .u64 (n1 : Int), .int .u64 (n2 : Int)], .slice A l.length c] w fun e w' => e = .returned (.bool true) ∧ Below w.heap.size w w' := by
  have ht : Tly.Fits ⟨n0, n1, n2⟩ := ⟨h0, h1, h2⟩
  by_cases g0 : n0 ≤ 4611686018427387904
  · by_cases g1 : n1 ≤ 4611686018427387904
    · by_cases g2 : l.length ≤ 100
      · exact walk_near p ⟨n0, n1, n2⟩ l A c w hr hf hp ht g0 g1 g2
      · exact wide_len p ⟨n0, n1, n2⟩ l A c w g0 g1 (by omega)
    · exact wide_no p ⟨n0, n1, n2⟩ l A c w g0 (by show 4611686018427387904 < n1; omega)
  · exact wide_yes p ⟨n0, n1, n2⟩ l A c w (by show 4611686018427387904 < n0; omega)

theorem own : ownKnob Try.prog.godebug = none := by kernel_rfl
theorem laidOut : laidOutB Try.prog = true := by kernel_rfl

set_option maxRecDepth 100000 in
theorem lifted (os : Os) (started : os.Started) (H : Type) (enc : TypeId × Value → H) :
    ReturnsInHanded {} Try.checked os 4 .any (Rows.ballotShrinksSpec.pre6 enc Try.prog Try.f4 Rows.ballotShrinksRow.domain false) (Rows.ballotShrinksSpec.post enc Try.prog Try.f4 false true false false) := by
  refine returnsInHanded_of_change (C := Try.checked) own started (by kernel_rfl) Try.func4
    (ChangeSpec.witness6 (enc := enc) (C := Try.checked) false ⟨#[], #[.agg #[.int .u64 0, .int .u64 0, .int .u64 0, .int .u64 0, .int .u64 0, .int .u64 0, .int .u64 0, .int .u64 0, .int .u64 0, .int .u64 0, .int .u64 0, .int .u64 0, .int .u64 0, .int .u64 0, .int .i64 0, .int .i64 0, .int .i64 0, .int .i64 0, .int .i64 0, .int .i64 0, .int .i64 0, .int .i64 0, .int .i64 0, .int .i64 0], .agg #[.int .u64 0, .int .u64 0, .int .u64 0], .slice none 0 0], []⟩ 8 (by kernel_rfl) (by kernel_rfl) (by kernel_rfl) (by kernel_rfl)) ?_
  intro W base args ds gs before hval0 hW hcnd _
  have hval : ∀ (j : Nat) t v, Try.f4.params[j]? = some t → args[j]? = some v → Value.okWide Try.prog W .any base t v := hval0
  have hW' := hW
  obtain ⟨p, q, hA0, hV, rfl, hfz, hnd⟩ := hW
  have hlt : ∀ x ∈ p ++ q, x.block < W.heap.size := fun x hx => hW'.lt x hx
  have hA : DataW.TrodAll enc Try.prog W 0 (fun _ => true) true Try.f4.params.toList args.toList ds p := hA0
  rw [Try.params4] at hA hval
  obtain ⟨v0, vs0, d0, ds0, p0, q0, hargs, rfl, rfl, h0, r0⟩ := trodAll_cons hA
  obtain ⟨v1, vs1, d1, ds1, p1, q1, rfl, rfl, rfl, h1, r1⟩ := trodAll_cons r0
  obtain ⟨v2, vs2, d2, ds2, p2, q2, rfl, rfl, rfl, h2, r2⟩ := trodAll_cons r1
  obtain ⟨rfl, rfl, rfl⟩ := trodAll_nil r2
  obtain rfl : args = #[v0, v1, v2] := by cases args; simp_all
  obtain ⟨rfl, rfl⟩ := trodVars_none hV
  obtain ⟨a0, rfl, f0⟩ := open_par (hval 0 46 v0 rfl rfl) h0
  obtain ⟨x10, x11, x12, y10, y11, y12, m1, rfl, rfl, rfl, hy10, hy11, hy12⟩ := Joins.open_agg3 Try.underlying39 (by kernel_rfl) (by kernel_rfl) (hval 1 39 v1 rfl rfl) h1
  obtain ⟨a10, e10, rfl, u10⟩ := DataW.trod_int Try.underlying26 hy10
  simp at e10
  subst e10
  have b10 := u64_fits u10
  obtain ⟨n10, rfl⟩ := Int.eq_ofNat_of_zero_le b10.1
  obtain ⟨a11, e11, rfl, u11⟩ := DataW.trod_int Try.underlying26 hy11
  simp at e11
  subst e11
  have b11 := u64_fits u11
  obtain ⟨n11, rfl⟩ := Int.eq_ofNat_of_zero_le b11.1
  obtain ⟨a12, e12, rfl, u12⟩ := DataW.trod_int Try.underlying26 hy12
  simp at e12
  subst e12
  have b12 := u64_fits u12
  obtain ⟨n12, rfl⟩ := Int.eq_ofNat_of_zero_le b12.1
  obtain ⟨A2, n2, c2, rfl⟩ := okWide_slice Try.underlying22 (hval 2 22 v2 rfl rfl)
  obtain ⟨l2, hl2, hf2, hc2, hm2, hz2, hr2⟩ := open_mems h2
  subst hl2
  clear hA0 hval0
  refine (walk a0 n10 n11 n12 l2 A2 c2 W f0 (by have := b10.2; omega) (by have := b11.2; omega) (by have := b12.2; omega) hr2 hf2 hc2 hm2 hz2).mono fun e W' ⟨he, hg⟩ => ?_
  subst he
  exact ⟨_, rfl, law_post laidOut (by kernel_rfl) rfl rfl Try.underlying4 rfl hW' hg⟩

theorem over : Rows.ballotShrinksRow.holds Try.pinned (OpenSpec.ofChange Rows.ballotShrinksSpec) :=
  OpenClaim.holds_of_wide 4 Try.f4 rfl rfl rfl rfl rfl rfl rfl ⟨rfl, rfl, rfl, rfl, rfl⟩ rfl rfl rfl rfl rfl (by kernel_rfl) Try.func4 (by kernel_rfl)
    (of_decide_eq_true (by kernel_rfl)) (by unfold Func.isWrapper; first | (rw [if_pos (by decide +kernel)]; kernel_rfl) | (rw [if_neg (by decide +kernel)]; exact ⟨rfl, rfl⟩))
    (fun os started H enc _ => lifted os started H enc)

/-- The statement. -/
theorem proved : Rows.BallotShrinksSaid := over
#print axioms proved
end Go.Proofs.Ytcggcnegagogkaa.BallotShrinks
