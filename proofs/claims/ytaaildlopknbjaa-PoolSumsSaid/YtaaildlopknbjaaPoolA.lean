/- Layer 18 (pool): one deposit more. By contracts. -/
import Derived.Test.YtaaildlopknbjaaRecS
import Derived.Laws.OwnMore
namespace Go.Proofs.Ytaaildlopknbjaa
open Go.RowKit
set_option linter.unusedVariables false
set_option linter.unusedSimpArgs false

theorem among_yes (x n : Int) (w : World) (h0 : 0 ≤ x) (h1 : x < n) :
    Calls Try.prog 17 #[.int .i64 x, .int .i64 n] w fun e w' => e = .returned (.bool true) ∧ w = w' := by
  go_enter Try.func17, Try.ntmps17
  go_wp2
  go_ret
  exact ⟨by first | rfl | simp, rfl⟩
theorem among_no (x n : Int) (w : World) (h : ¬ (0 ≤ x ∧ x < n)) :
    Calls Try.prog 17 #[.int .i64 x, .int .i64 n] w fun e w' => e = .returned (.bool false) ∧ w = w' := by
  by_cases h0 : 0 ≤ x
  · have h1 : ¬ x < n := fun h1 => h ⟨h0, h1⟩
    clear h
    go_enter Try.func17, Try.ntmps17
    go_wp2
    go_ret
    exact ⟨by first | rfl | simp, rfl⟩
  · clear h
    go_enter Try.func17, Try.ntmps17
    go_wp2
    go_ret
    exact ⟨by first | rfl | simp, rfl⟩

def Dep.credits (d : Dep) : Prop := (d.new = true ∧ d.mem = 0) ∨ (d.new = false ∧ 0 ≤ d.mem ∧ d.mem < 128)
instance (d : Dep) : Decidable d.credits := by unfold Dep.credits; exact inferInstance

set_option maxRecDepth 100000 in
theorem credits_is (d : Dep) (w : World) :
    Calls Try.prog 18 #[.agg (Rec.vals d)] w fun e w' => e = .returned (.bool (decide d.credits)) ∧ Below w.heap.size w w' := by
  obtain ⟨acc, mem, amt, new⟩ := d
  have hB : Below w.heap.size w (w.alloc (.cells (Rec.vals (⟨acc, mem, amt, new⟩ : Dep)) 25)) := (Below.refl _ _).alloc (Nat.le_refl _) _
  have c1 : (Rec.vals (⟨acc, mem, amt, new⟩ : Dep))[1]? = some (.int .i64 mem) := rfl
  cases new
  · have c3 : (Rec.vals (⟨acc, mem, amt, false⟩ : Dep))[3]? = some (.bool false) := rfl
    by_cases h : 0 ≤ mem ∧ mem < 128
    · rw [show decide (Dep.credits ⟨acc, mem, amt, false⟩) = true from decide_eq_true (.inr ⟨rfl, h.1, h.2⟩)]
      have k := fun w => among_yes mem 128 w h.1 h.2
      clear h
      go_enter Try.func18, Try.ntmps18
      go_wp2_with (go_at_call 17; refine (k _).mono ?_; clear k; rintro e w1 ⟨rfl, rfl⟩)
      go_ret
      exact ⟨rfl, hB⟩
    · rw [show decide (Dep.credits ⟨acc, mem, amt, false⟩) = false from decide_eq_false (by rintro (⟨h1, _⟩ | ⟨_, h1⟩); cases h1; exact h h1)]
      have k := fun w => among_no mem 128 w h
      clear h
      go_enter Try.func18, Try.ntmps18
      go_wp2_with (go_at_call 17; refine (k _).mono ?_; clear k; rintro e w1 ⟨rfl, rfl⟩)
      go_ret
      exact ⟨rfl, hB⟩
  · have c3 : (Rec.vals (⟨acc, mem, amt, true⟩ : Dep))[3]? = some (.bool true) := rfl
    by_cases h : mem = 0
    · rw [show decide (Dep.credits ⟨acc, mem, amt, true⟩) = true from decide_eq_true (.inl ⟨rfl, h⟩)]
      subst h
      go_enter Try.func18, Try.ntmps18
      go_wp2
      go_ret
      exact ⟨by first | rfl | simp, hB⟩
    · rw [show decide (Dep.credits ⟨acc, mem, amt, true⟩) = false from decide_eq_false (by rintro (⟨_, h1⟩ | ⟨h1, _⟩); exact h h1; cases h1)]
      have h1 : (mem == 0) = false := by simpa using h
      clear h
      go_enter Try.func18, Try.ntmps18
      go_wp2
      go_ret
      exact ⟨by first | rfl | simp, hB⟩

theorem fill_dep (d : Dep) : Instr.fill (fun i => some (i * (Rec.vals d).size, (Rec.vals d).size)) ((Array.range (1 * (Rec.vals d).size)).map ((Value.agg (Rec.vals Dep.zero)).cells[· % (Value.agg (Rec.vals Dep.zero)).cells.size]!)) [(0, .agg (Rec.vals d))] = some (Rec.vals d) := by kernel_rfl

set_option maxRecDepth 100000 in
set_option maxHeartbeats 2000000 in
theorem padd_is (l : List Dep) (d : Dep) (A : Option Addr) (c : Nat) (w : World) (hr : Row w w.heap.size A (rows l)) (hz : A = none → c = 0) (hl : l.length ≤ 1000000) :
    Calls Try.prog 7 #[.slice A l.length c, .agg (Rec.vals d)] w fun e w' => Recs w (padded l d) e w' := by
  have hS0 := RecAt.new w (Rec.vals d) 25
  have hB0 : Below w.heap.size w (w.alloc (.cells (Rec.vals d) 25)) := (Below.refl _ _).alloc (Nat.le_refl _) _
  have c0 : (Rec.vals d)[0]? = some (.int .i64 d.acc) := rfl
  by_cases ha : 0 ≤ d.acc ∧ d.acc < 64
  · have k1 := fun w => among_yes d.acc 64 w ha.1 ha.2
    have k2 := credits_is d
    by_cases hc : d.credits
    · rw [decide_eq_true hc] at k2
      by_cases h0 : d.amt = 0
      · rw [padded_no (fun h => h.2.1 h0)]
        have z1 : ((d.amt : Int) == 0) = true := by simp; omega
        have K1 := Lib.hid k1
        have K2 := Lib.hid k2
        clear k1 k2 ha hc h0 hr
        go_enter Try.func7, Try.ntmps7
        go_wp2_with (first
          | (refine load_rec 25 _ rfl rfl _ (Rec.vals d) rfl hS0.lies Try.underlying25 size_dep ?_)
          | (go_at_call 17; refine (K1.out _).mono ?_; clear K1; rintro e w1 ⟨rfl, rfl⟩)
          | (go_at_call 18; refine (K2.out _).mono ?_; clear K2; rintro e w1 ⟨rfl, hb1⟩; have hS1 := hS0.up hb1; have x2 : w1.cell? ⟨w.heap.size, 2, none⟩ = some (.int .u64 (d.amt : Int)) := hS1.cell 2; have hB1 := Below.then hB0 hb1; clear hb1))
        refine bodyPost_ret (v := .tuple #[.slice none 0 0, .int .i64 2]) (by simp [results, Try.results7, go_sem]) rfl (Recs.none 2 hB1)
      · have z1 : ((d.amt : Int) == 0) = false := by simp; omega
        by_cases hm : 4611686018427387904 < d.amt
        · rw [padded_no (fun h => by omega)]
          have z2 : decide ((4611686018427387904 : Int) < (d.amt : Int)) = true := decide_eq_true (by omega)
          have K1 := Lib.hid k1
          have K2 := Lib.hid k2
          clear k1 k2 ha hc h0 hr hm
          go_enter Try.func7, Try.ntmps7
          go_wp2_with (first
            | (refine load_rec 25 _ rfl rfl _ (Rec.vals d) rfl hS0.lies Try.underlying25 size_dep ?_)
            | (go_at_call 17; refine (K1.out _).mono ?_; clear K1; rintro e w1 ⟨rfl, rfl⟩)
            | (go_at_call 18; refine (K2.out _).mono ?_; clear K2; rintro e w1 ⟨rfl, hb1⟩; have hS1 := hS0.up hb1; have x2 : w1.cell? ⟨w.heap.size, 2, none⟩ = some (.int .u64 (d.amt : Int)) := hS1.cell 2; have hB1 := Below.then hB0 hb1; clear hb1))
          refine bodyPost_ret (v := .tuple #[.slice none 0 0, .int .i64 2]) (by simp [results, Try.results7, go_sem]) rfl (Recs.none 2 hB1)
        · have hp : d.placed ∧ d.amt ≠ 0 ∧ d.amt ≤ 4611686018427387904 := ⟨⟨ha, hc⟩, h0, by omega⟩
          have z2 : decide ((4611686018427387904 : Int) < (d.amt : Int)) = false := decide_eq_false (by omega)
          by_cases hf : 256 ≤ l.length
          · rw [padded_full hp hf]
            have z3 : (256 : Int) ≤ (l.length : Int) := by omega
            have K1 := Lib.hid k1
            have K2 := Lib.hid k2
            clear k1 k2 ha hc h0 hr hm hp hf
            go_enter Try.func7, Try.ntmps7
            go_wp2_with (first
              | (refine load_rec 25 _ rfl rfl _ (Rec.vals d) rfl hS0.lies Try.underlying25 size_dep ?_)
              | (go_at_call 17; refine (K1.out _).mono ?_; clear K1; rintro e w1 ⟨rfl, rfl⟩)
              | (go_at_call 18; refine (K2.out _).mono ?_; clear K2; rintro e w1 ⟨rfl, hb1⟩; have hS1 := hS0.up hb1; have x2 : w1.cell? ⟨w.heap.size, 2, none⟩ = some (.int .u64 (d.amt : Int)) := hS1.cell 2; have hB1 := Below.then hB0 hb1; clear hb1))
            refine bodyPost_ret (v := .tuple #[.slice none 0 0, .int .i64 161]) (by simp [results, Try.results7, go_sem]) rfl (Recs.none 161 hB1)
          · rw [padded_ok hp hf]
            have z3 : ¬ (256 : Int) ≤ (l.length : Int) := by omega
            have kj : ∀ w1 W : World, Row w1 w1.heap.size A (rows l) → W = (w1.alloc (.cells (Rec.vals d) 25)).alloc (.cells #[.slice A l.length c, .slice (some ⟨w1.heap.size, 0, none⟩) 1 1] 22) →
                Calls Try.prog 19 #[.slice (some ⟨w1.heap.size + 1, 0, none⟩) 2 2] W fun e w' => ∃ v, e = .returned v ∧ w'.ownsRow w1.heap.size 25 (Rec.z Dep) v (l ++ [d]).length (rows (l ++ [d])) ∧ Below w1.heap.size w1 w' := by
              rintro w1 W h rfl
              have e1 : Below w1.heap.size w1 (w1.alloc (.cells (Rec.vals d) 25)) := (Below.refl _ _).alloc (Nat.le_refl _) _
              have e2 : Below (w1.alloc (.cells (Rec.vals d) 25)).heap.size (w1.alloc (.cells (Rec.vals d) 25)) ((w1.alloc (.cells (Rec.vals d) 25)).alloc (.cells #[.slice A l.length c, .slice (some ⟨w1.heap.size, 0, none⟩) 1 1] 22)) := (Below.refl _ _).alloc (Nat.le_refl _) _
              have hd := rows_made w1 [d] 25
              rw [rows_one, Array.toArray_toList] at hd
              have hd2 := (hd.up (by simp)).below e2
              have hg : ((w1.alloc (.cells (Rec.vals d) 25)).alloc (.cells #[.slice A l.length c, .slice (some ⟨w1.heap.size, 0, none⟩) 1 1] 22)).heap[w1.heap.size + 1]? = some (.cells #[.slice A l.length c, .slice (some ⟨w1.heap.size, 0, none⟩) 1 1] 22 (0, 0)) := by
                have := heap_alloc_new (w1.alloc (.cells (Rec.vals d) 25)) (.cells #[.slice A l.length c, .slice (some ⟨w1.heap.size, 0, none⟩) 1 1] 22)
                rwa [World.size_alloc] at this
              rw [← rows_one d] at hd2
              refine (join2_dep l [d] A (some ⟨w1.heap.size, 0, none⟩) l.length 1 c 1 _ _ (w1.heap.size + 1) _ hg rfl rfl ((h.below e1).below (e2.mono e1.size)) hd2 hz (by simp) (by omega)).mono ?_
              rintro e w' ⟨v, rfl, h1, h2⟩
              exact ⟨v, rfl, own_base h1 (Nat.le_trans e1.size e2.size), (Below.then e1 e2).trans (h2.mono (Nat.le_trans e1.size e2.size))⟩
            have K1 := Lib.hid k1
            have K2 := Lib.hid k2
            have KJ := Lib.hid kj
            have HR := Lib.hid hr
            clear k1 k2 kj ha hc h0 hr hm hp hf hz
            go_enter Try.func7, Try.ntmps7
            go_wp2_with (first
              | (refine load_rec 25 _ rfl rfl _ (Rec.vals d) rfl hS0.lies Try.underlying25 size_dep ?_)
              | (refine load_rec 25 _ rfl rfl _ (Rec.vals d) rfl hS1.lies Try.underlying25 size_dep ?_)
              | (refine list_one_rec 22 25 rfl _ rfl Try.underlying22 (Rec.vals d) (Rec.vals Dep.zero) info_dep rfl (by decide) (by decide) (fill_dep d) rfl ?_)
              | (go_at_call 17; refine (K1.out _).mono ?_; clear K1; rintro e w1 ⟨rfl, rfl⟩)
              | (go_at_call 18; refine (K2.out _).mono ?_; clear K2; rintro e w1 ⟨rfl, hb1⟩; have hS1 := hS0.up hb1; have x2 : w1.cell? ⟨w.heap.size, 2, none⟩ = some (.int .u64 (d.amt : Int)) := hS1.cell 2; have hB1 := Below.then hB0 hb1; have hr1 := HR.out.kept hB1; clear hb1)
              | (go_at_call 19; refine (KJ.out w1 _ hr1 rfl).mono ?_; clear KJ; rintro e w2 ⟨v, rfl, hown, hb2⟩))
            refine bodyPost_ret (v := .tuple #[v, .int .i64 0]) (by simp [results, Try.results7, go_sem]) rfl (Recs.own hown rfl (Below.then hB1 hb2))
    · rw [decide_eq_false hc] at k2
      rw [padded_no (fun h => hc h.1.2)]
      have K1 := Lib.hid k1
      have K2 := Lib.hid k2
      clear k1 k2 ha hc hr
      go_enter Try.func7, Try.ntmps7
      go_wp2_with (first
        | (refine load_rec 25 _ rfl rfl _ (Rec.vals d) rfl hS0.lies Try.underlying25 size_dep ?_)
        | (go_at_call 17; refine (K1.out _).mono ?_; clear K1; rintro e w1 ⟨rfl, rfl⟩)
        | (go_at_call 18; refine (K2.out _).mono ?_; clear K2; rintro e w1 ⟨rfl, hb1⟩; have hB1 := Below.then hB0 hb1; clear hb1))
      refine bodyPost_ret (v := .tuple #[.slice none 0 0, .int .i64 2]) (by simp [results, Try.results7, go_sem]) rfl (Recs.none 2 hB1)
  · rw [padded_no (fun h => ha h.1.1)]
    have k1 := fun w => among_no d.acc 64 w ha
    have K1 := Lib.hid k1
    clear k1 ha hr
    go_enter Try.func7, Try.ntmps7
    go_wp2_with (go_at_call 17; refine (K1.out _).mono ?_; clear K1; rintro e w1 ⟨rfl, rfl⟩)
    refine bodyPost_ret (v := .tuple #[.slice none 0 0, .int .i64 2]) (by simp [results, Try.results7, go_sem]) rfl (Recs.none 2 hB0)
end Go.Proofs.Ytaaildlopknbjaa
