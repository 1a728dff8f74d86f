/- Layer 18 (pool): a due with more, one due more, what is ripe. By contracts. -/
import Derived.Test.YtaaildlopknbjaaPoolA
import Derived.Test.YtaaildlopknbjaaPoolD
namespace Go.Proofs.Ytaaildlopknbjaa
open Go.RowKit Go.Shelf
set_option linter.unusedVariables false
set_option linter.unusedSimpArgs false

theorem fill_due (d : Due) : Instr.fill (fun i => some (i * (Rec.vals d).size, (Rec.vals d).size)) ((Array.range (1 * (Rec.vals d).size)).map ((Value.agg (Rec.vals Due.zero)).cells[· % (Value.agg (Rec.vals Due.zero)).cells.size]!)) [(0, .agg (Rec.vals d))] = some (Rec.vals d) := by kernel_rfl

set_option maxRecDepth 100000 in
set_option maxHeartbeats 1000000 in
theorem more_is (l : List Due) (k n : Nat) (A : Option Addr) (c : Nat) (w : World) (hr : Row w w.heap.size A (rows l)) (hl : l.length ≤ 1000000) (hk : k < l.length) (hx : l[k].amt ≤ 18446744073709551615) (hn : n ≤ 4611686018427387904) :
    Calls Try.prog 31 #[.slice A l.length c, .int .i64 (k : Int), .int .u64 (n : Int)] w fun e w' => Recs w (pmore l k n) e w' := by
  have hs : l[k]? = some l[k] := List.getElem?_eq_getElem hk
  have kc := clone_due l w.heap.size A c w hr (by omega)
  obtain ⟨a, rfl, hab, hat0⟩ := rows_row hr hs
  have hat : LiesAt w (a.add (k * 3)) (Rec.vals l[k]) := hat0
  have eg : l.getD k Due.zero = l[k] := by simp [List.getD, hk]
  unfold pmore
  rw [eg]
  obtain ⟨s, es⟩ : ∃ s, l[k] = s := ⟨_, rfl⟩
  rw [es] at hat hs hx ⊢
  have x1 : w.cell? ⟨(a.add (k * 3)).block, (a.add (k * 3)).off + 2, none⟩ = some (.int .u64 (s.amt : Int)) := hat.fld 1 rfl
  have hkI : (k : Int) < (l.length : Int) := by omega
  have hk0 : (0 : Int) ≤ (k : Int) := by omega
  clear hat hat0 es eg
  by_cases hlt : 4611686018427387904 < s.amt + n
  · rw [if_pos hlt]
    by_cases ho : s.amt + n ≤ 18446744073709551615
    · have k2 := money_add_ok (s.amt : Int) (n : Int) w (by omega) (by omega) (by omega)
      obtain ⟨m, hm⟩ : ∃ m, s.amt + n = m := ⟨_, rfl⟩
      rw [show (s.amt : Int) + (n : Int) = (m : Int) by omega] at k2
      have hd : decide ((4611686018427387904 : Int) < (m : Int)) = true := decide_eq_true (by omega)
      clear hlt hm ho kc hr hs hx hn hl hk
      go_enter Try.func31, Try.ntmps31
      go_wp2_with (go_at_call 24; refine k2.mono ?_; clear k2; rintro e w1 ⟨rfl, rfl⟩)
      refine bodyPost_ret (v := .tuple #[.slice none 0 0, .int .i64 10]) (by simp [results, Try.results31, go_sem]) rfl (Recs.none 10 (Below.refl _ _))
    · have k2 := money_add_over (s.amt : Int) (n : Int) w (by omega) (by omega) (by omega) (by omega) (by omega)
      clear hlt ho kc hr hs hx hn hl hk
      go_enter Try.func31, Try.ntmps31
      go_wp2_with (go_at_call 24; refine k2.mono ?_; clear k2; rintro e w1 ⟨rfl, rfl⟩)
      refine bodyPost_ret (v := .tuple #[.slice none 0 0, .int .i64 10]) (by simp [results, Try.results31, go_sem]) rfl (Recs.none 10 (Below.refl _ _))
  · rw [if_neg hlt]
    have k2 := money_add_ok (s.amt : Int) (n : Int) w (by omega) (by omega) (by omega)
    obtain ⟨m, hm⟩ : ∃ m, s.amt + n = m := ⟨_, rfl⟩
    rw [show (s.amt : Int) + (n : Int) = (m : Int) by omega] at k2
    have hset : ∀ v, (Rec.vals s).toList.set 2 v = #[.int .i64 s.acc, .int .i64 s.tick, v].toList := fun v => rfl
    have hrs := rows_set (x := s) (y := s.more n) (j := 2) (v := .int .u64 (m : Int)) hs (by decide) (by rw [hset, ← hm]; rfl)
    have hold : (rows l)[k * 3 + 2]? = some (.int .u64 (s.amt : Int)) := rows_at (j := 2) hs rfl
    have hd : decide ((4611686018427387904 : Int) < (m : Int)) = false := decide_eq_false (by omega)
    have hpos : 0 < l.length := by omega
    have HRS := Lib.hid hrs
    have HOLD := Lib.hid hold
    have HP := Lib.hid hpos
    clear hlt hm hr hs hx hn hl hk hrs hset hold hpos
    go_enter Try.func31, Try.ntmps31
    go_wp2_with (first
      | (go_at_call 24; refine k2.mono ?_; clear k2; rintro e w1 ⟨rfl, rfl⟩)
      | (go_at_call 28; refine kc.mono ?_; clear kc; rintro e w2 ⟨v, rfl, hown, hb2⟩; obtain ⟨g, cap, rfl, hbg, hg2⟩ := hown.form HP.out; have hcD : w2.cell? ⟨g, k * 3 + 2, none⟩ = some (.int .u64 (s.amt : Int)) := (by have := hown.cells (g := g) rfl _ _ HOLD.out; rwa [Addr.add_mid, Nat.zero_add] at this); have hfD : w2.frozen? ⟨g, k * 3 + 2, none⟩ = false := hown.frozenAt _; have HO := Lib.hid hown; clear hown))
    have ho2 := (World.ownsRow.stored HO.out (k * 3 + 2) (.int .u64 (m : Int))).1
    have e3 : (rows l).set (k * 3 + 2) (.int .u64 (m : Int)) = rows (l.set k (s.more n)) := HRS.out
    rw [e3] at ho2
    refine bodyPost_ret (v := .tuple #[.slice (some ⟨g, 0, none⟩) l.length cap, .int .i64 0]) (by simp [results, Try.results31, go_sem]) rfl (Recs.own ho2 (by simp) (hb2.setCell hbg _))

set_option maxRecDepth 100000 in
set_option maxHeartbeats 2000000 in
/-- Refused, or nothing is owed. -/
theorem powe_not (l : List Due) (d : Due) (A : Option Addr) (c : Nat) (w : World) (hr : Row w w.heap.size A (rows l)) (hl : l.length ≤ 1000000)
    (h : ¬ (((0 ≤ d.acc ∧ d.acc < 64) ∧ 0 ≤ d.tick) ∧ ¬ 4611686018427387904 < d.amt ∧ d.amt ≠ 0)) :
    Calls Try.prog 15 #[.slice A l.length c, .agg (Rec.vals d)] w fun e w' => Recs w (powed l d) e w' := by
  have hB0 : Below w.heap.size w (w.alloc (.cells (Rec.vals d) 50)) := (Below.refl _ _).alloc (Nat.le_refl _) _
  have c0 : (Rec.vals d)[0]? = some (.int .i64 d.acc) := rfl
  have c1 : (Rec.vals d)[1]? = some (.int .i64 d.tick) := rfl
  have c2 : (Rec.vals d)[2]? = some (.int .u64 (d.amt : Int)) := rfl
  by_cases ha : 0 ≤ d.acc ∧ d.acc < 64
  · have k1 := fun w => among_yes d.acc 64 w ha.1 ha.2
    by_cases ht : 0 ≤ d.tick
    · by_cases hm : 4611686018427387904 < d.amt
      · rw [powed_over ⟨ha, ht⟩ hm]
        have z2 : decide ((4611686018427387904 : Int) < (d.amt : Int)) = true := decide_eq_true (by omega)
        have K1 := Lib.hid k1
        clear k1 ha hm hr h
        go_enter Try.func15, Try.ntmps15
        go_wp2_with (go_at_call 17; refine (K1.out _).mono ?_; clear K1; rintro e w1 ⟨rfl, rfl⟩)
        refine bodyPost_ret (v := .tuple #[.slice none 0 0, .int .i64 10]) (by simp [results, Try.results15, go_sem]) rfl (Recs.none 10 hB0)
      · have h0 : d.amt = 0 := Classical.not_not.1 fun h0 => h ⟨⟨ha, ht⟩, hm, h0⟩
        rw [powed_none ⟨ha, ht⟩ h0]
        have z2 : decide ((4611686018427387904 : Int) < (d.amt : Int)) = false := decide_eq_false (by omega)
        have z1 : ((d.amt : Int) == 0) = true := by simp; omega
        have kc := clone_due l w.heap.size A c _ (hr.below hB0) (by omega)
        have K1 := Lib.hid k1
        clear k1 ha hm hr h h0
        go_enter Try.func15, Try.ntmps15
        go_wp2_with (first
          | (go_at_call 17; refine (K1.out _).mono ?_; clear K1; rintro e w1 ⟨rfl, rfl⟩)
          | (go_at_call 28; refine kc.mono ?_; clear kc; rintro e w2 ⟨v, rfl, hown, hb2⟩))
        refine bodyPost_ret (v := .tuple #[v, .int .i64 0]) (by simp [results, Try.results15, go_sem]) rfl (Recs.own hown rfl (Below.then hB0 hb2))
    · rw [powed_no (fun h => ht h.2)]
      have z1 : decide (d.tick < 0) = true := decide_eq_true (by omega)
      have ht' : d.tick < 0 := by omega
      have K1 := Lib.hid k1
      clear k1 ha hr h ht
      go_enter Try.func15, Try.ntmps15
      go_wp2_with (go_at_call 17; refine (K1.out _).mono ?_; clear K1; rintro e w1 ⟨rfl, rfl⟩)
      refine bodyPost_ret (v := .tuple #[.slice none 0 0, .int .i64 2]) (by simp [results, Try.results15, go_sem]) rfl (Recs.none 2 hB0)
  · rw [powed_no (fun h => ha h.1)]
    have k1 := fun w => among_no d.acc 64 w ha
    have K1 := Lib.hid k1
    clear k1 ha hr h
    go_enter Try.func15, Try.ntmps15
    go_wp2_with (go_at_call 17; refine (K1.out _).mono ?_; clear K1; rintro e w1 ⟨rfl, rfl⟩)
    refine bodyPost_ret (v := .tuple #[.slice none 0 0, .int .i64 2]) (by simp [results, Try.results15, go_sem]) rfl (Recs.none 2 hB0)

set_option maxRecDepth 100000 in
set_option maxHeartbeats 2000000 in
/-- More of one. -/
theorem powe_more (l : List Due) (d : Due) (k : Nat) (A : Option Addr) (c : Nat) (w : World) (hr : Row w w.heap.size A (rows l)) (hl : l.length ≤ 1000000) (hx : ∀ x ∈ l, x.amt ≤ 18446744073709551615)
    (ha : (0 ≤ d.acc ∧ d.acc < 64) ∧ 0 ≤ d.tick) (hm : ¬ 4611686018427387904 < d.amt) (h0 : d.amt ≠ 0) (hk : l.findIdx? d.same = some k) :
    Calls Try.prog 15 #[.slice A l.length c, .agg (Rec.vals d)] w fun e w' => Recs w (powed l d) e w' := by
  rw [powed_more ha hm h0 hk]
  obtain ⟨hkl, -⟩ := findIdx_some hk
  have hB0 : Below w.heap.size w (w.alloc (.cells (Rec.vals d) 50)) := (Below.refl _ _).alloc (Nat.le_refl _) _
  have hS0 := RecAt.new w (Rec.vals d) 50
  have c0 : (Rec.vals d)[0]? = some (.int .i64 d.acc) := rfl
  have c1 : (Rec.vals d)[1]? = some (.int .i64 d.tick) := rfl
  have c2 : (Rec.vals d)[2]? = some (.int .u64 (d.amt : Int)) := rfl
  have k1 := fun w => among_yes d.acc 64 w ha.1.1 ha.1.2
  have ki := index_same d l w.heap.size A c _ hS0 (hr.kept hB0) hl
  rw [hk] at ki
  have km := fun w' (h : Below w.heap.size w w') => more_is l k d.amt A c w' (hr.kept h) hl hkl (hx _ (List.getElem_mem hkl)) (by omega)
  have z2 : decide ((4611686018427387904 : Int) < (d.amt : Int)) = false := decide_eq_false (by omega)
  have z1 : ((d.amt : Int) == 0) = false := by simp; omega
  have ht := ha.2
  have hki : (0 : Int) ≤ (k : Int) := by omega
  obtain ⟨r, hrr⟩ : ∃ r, pmore l k d.amt = r := ⟨_, rfl⟩
  rw [hrr] at km ⊢
  have K1 := Lib.hid k1
  have KI := Lib.hid ki
  have KM := Lib.hid km
  simp only [show placeOf (some k) = (k : Int) from rfl] at KI
  clear k1 ki km ha hm h0 hk hkl hr hx hrr
  go_enter Try.func15, Try.ntmps15
  go_wp2_with (first
    | (go_at_call 17; refine (K1.out _).mono ?_; clear K1; rintro e w1 ⟨rfl, rfl⟩)
    | (go_at_call 30; refine KI.out.mono ?_; clear KI; rintro e w1 ⟨rfl, hb1⟩; have hS1 := hS0.up hb1; have x2 : w1.cell? ⟨w.heap.size, 2, none⟩ = some (.int .u64 (d.amt : Int)) := hS1.cell 2; have hB1 := Below.then hB0 hb1; clear hb1)
    | (go_at_call 31; refine (KM.out w1 hB1).mono ?_; clear KM; rintro e w2 ⟨A2, c2', rfl, hc2, hm2, hz2, hr2, hb2⟩))
  refine bodyPost_ret (v := .tuple #[.slice A2 r.1.length c2', .int .i64 (r.2 : Int)]) (by simp [results, Try.results15, go_sem]) rfl ⟨A2, c2', rfl, hc2, hm2, hz2, hr2, Below.then hB1 hb2⟩

set_option maxRecDepth 100000 in
set_option maxHeartbeats 4000000 in
/-- Behind those that are due no later. -/
theorem powe_behind (l : List Due) (d : Due) (A : Option Addr) (c : Nat) (w : World) (hr : Row w w.heap.size A (rows l)) (hl : l.length ≤ 1000000) (hc : l.length ≤ c) (hz : A = none → c = 0)
    (ha : (0 ≤ d.acc ∧ d.acc < 64) ∧ 0 ≤ d.tick) (hm : ¬ 4611686018427387904 < d.amt) (h0 : d.amt ≠ 0) (hk : l.findIdx? d.same = none) :
    Calls Try.prog 15 #[.slice A l.length c, .agg (Rec.vals d)] w fun e w' => Recs w (powed l d) e w' := by
  rw [powed_behind ha hm h0 hk]
  have hB0 : Below w.heap.size w (w.alloc (.cells (Rec.vals d) 50)) := (Below.refl _ _).alloc (Nat.le_refl _) _
  have hS0 := RecAt.new w (Rec.vals d) 50
  have c0 : (Rec.vals d)[0]? = some (.int .i64 d.acc) := rfl
  have c1 : (Rec.vals d)[1]? = some (.int .i64 d.tick) := rfl
  have c2 : (Rec.vals d)[2]? = some (.int .u64 (d.amt : Int)) := rfl
  have k1 := fun w => among_yes d.acc 64 w ha.1.1 ha.1.2
  have ki := index_same d l w.heap.size A c _ hS0 (hr.kept hB0) hl
  rw [hk] at ki
  have kb := fun w' (h : Below w.heap.size w w') => behind_is l d.tick A c w' (hr.kept h) hl
  have hble := behindOf_le l d.tick l.length
  unfold pbehind
  obtain ⟨b, hb⟩ : ∃ b, behindOf l d.tick l.length = b := ⟨_, rfl⟩
  rw [hb] at kb hble ⊢
  have z2 : decide ((4611686018427387904 : Int) < (d.amt : Int)) = false := decide_eq_false (by omega)
  have z1 : ((d.amt : Int) == 0) = false := by simp; omega
  have ht := ha.2
  have hbc : b ≤ c := by omega
  have hpl : (l.take b ++ d :: l.drop b).length = l.length + 1 := by rw [List.length_append, List.length_cons, List.length_take, List.length_drop]; omega
  obtain ⟨r, hrr⟩ : ∃ r, l.take b ++ d :: l.drop b = r := ⟨_, rfl⟩
  have kj : ∀ (g g4 : Nat) (W : World), Below w.heap.size w W → W.heap[g]? = some (.cells #[.slice A b c, .slice (some ⟨g4, 0, none⟩) 1 1, .slice (partz 3 A b c) (l.length - b) (c - b)] 37 (0, 0)) → W.heap[g4]? = some (.cells (Rec.vals d) 50 (0, 0)) →
      Calls Try.prog 33 #[.slice (some ⟨g, 0, none⟩) 3 3] W fun e w' => ∃ v, e = .returned v ∧ w'.ownsRow W.heap.size 50 (Rec.z Due) v r.length (rows r) ∧ Below W.heap.size W w' := by
    intro g g4 W hB hg hg4
    have hrW := hr.kept hB
    have h1 := rows_front hrW b
    have h3 := rows_part (c := c) hrW hble hc
    have h2 : Row W W.heap.size (some ⟨g4, 0, none⟩) (rows [d]) := by
      rw [rows_one]
      intro j v hv
      exact ⟨_, rfl, (Array.getElem?_eq_some_iff.1 hg4).1, RecAt.lies hg4 j v hv⟩
    have kk := join3_due (l.take b) [d] (l.drop b) A (some ⟨g4, 0, none⟩) (partz 3 A b c) b 1 (l.length - b) c 1 (c - b) _ _ _ g W hg (by rw [List.length_take]; omega) rfl (by rw [List.length_drop]) h1 h2 h3 hz (by simp) (fun h => by have := hz (partz_none h); omega) (by omega)
    rw [List.singleton_append, hrr] at kk
    exact kk
  rw [hrr] at hpl ⊢
  have K1 := Lib.hid k1
  have KI := Lib.hid ki
  have KB := Lib.hid kb
  have KJ := Lib.hid kj
  have HPL := Lib.hid hpl
  simp only [show placeOf none = (-1 : Int) from rfl] at KI
  clear k1 ki kb kj ha hm h0 hk hr hz hrr hb hpl
  go_enter Try.func15, Try.ntmps15
  go_wp2_with (first
    | (go_at_call 17; refine (K1.out _).mono ?_; clear K1; rintro e w1 ⟨rfl, rfl⟩)
    | (go_at_call 30; refine KI.out.mono ?_; clear KI; rintro e w1 ⟨rfl, hb1⟩; have hS1 := hS0.up hb1; have x1 : w1.cell? ⟨w.heap.size, 1, none⟩ = some (.int .i64 d.tick) := hS1.cell 1; have hB1 := Below.then hB0 hb1; clear hb1)
    | (go_at_call 32; refine (KB.out w1 hB1).mono ?_; clear KB; rintro e w2 ⟨rfl, rfl⟩))
  have cells : ∀ w', Below w1.heap.size w1 w' → LiesAt w' ⟨w.heap.size, 0, none⟩ (Rec.vals d) := fun w' h => (hS1.up h).lies
  clear hS0 hS1 x1
  refine region_vary [] 10 (fun w' => Below w1.heap.size w1 w') (by kernel_rfl) (by kernel_rfl) (Below.refl _ _).drew ?_
  simp only [List.take_succ_cons, List.take_zero, List.drop_succ_cons, List.drop_zero]
  iterate 2 ((refine' SeqV.calm0 _ (by rfl) (by rfl) (fun w => ?_) ?_; rotate_left; · (go_simp <;> with_reducible rfl)); simp only [Act.put, List.setIfInBounds_toArray, List.set_cons_zero, List.set_cons_succ])
  refine SeqV.take0 _ (by rfl) (by rfl) (fun w' hS => exec_to_z _ _ rfl Try.underlying37 Try.sizeOf50 rfl rfl hbc) ?_
  simp only [Act.put, List.setIfInBounds_toArray, List.set_cons_zero, List.set_cons_succ]
  refine SeqV.take0 _ (by rfl) (by rfl) (fun w' hS => exec_load_rec 50 _ rfl _ (Rec.vals d) rfl (cells w' hS) Try.underlying50 size_due) ?_
  simp only [Act.put, List.setIfInBounds_toArray, List.set_cons_zero, List.set_cons_succ]
  refine SeqV.rows 1 w1.heap.size (.cells (Rec.vals d) 50) (fun _ => by rfl) (by rfl) (fun w hS => hS.size) (fun w hS => hS.alloc hS.size _) (fun val w => exec_list_one 37 50 w _ rfl Try.underlying37 (Rec.vals d) (Rec.vals Due.zero) info_due rfl (by decide) (by decide) (fill_due d) rfl) ?_
  simp only [Act.put, List.setIfInBounds_toArray, List.set_cons_zero, List.set_cons_succ]
  refine SeqV.take (fun _ => .slice A l.length c) (fun _ => by rfl) (by rfl) (fun _ _ _ => rfl) (fun val w' hS hR => ?_) ?_; · (go_simp <;> with_reducible rfl)
  simp only [Act.put, List.setIfInBounds_toArray, List.set_cons_zero, List.set_cons_succ]
  refine SeqV.take (fun _ => .int .i64 (b : Int)) (fun _ => by rfl) (by rfl) (fun _ _ _ => rfl) (fun val w' hS hR => ?_) ?_; · (go_simp <;> with_reducible rfl)
  simp only [Act.put, List.setIfInBounds_toArray, List.set_cons_zero, List.set_cons_succ]
  refine SeqV.take (fun _ => .slice (partz 3 A b c) (l.length - b) (c - b)) (fun _ => by rfl) (by rfl) (fun _ _ _ => rfl) (fun val w' hS hR => exec_from_z _ _ rfl Try.underlying37 Try.sizeOf50 rfl rfl hble) ?_
  simp only [Act.put, List.setIfInBounds_toArray, List.set_cons_zero, List.set_cons_succ]
  refine SeqV.rowsV 3 w1.heap.size (fun val => .cells #[.slice A b c, val 4, .slice (partz 3 A b c) (l.length - b) (c - b)] 37) (fun val w => ∃ g4, val 4 = .slice (some ⟨g4, 0, none⟩) 1 1 ∧ w.heap[g4]? = some (.cells (Rec.vals d) 50 (0, 0))) (fun _ => by rfl) (by rfl) (fun w hS => hS.size) (fun val w hS => hS.alloc hS.size _) ?n1 ?n2 ?n3 ?n4 ?_
  case n1 =>
    intro val val' hv
    have e4 : val 4 = val' 4 := hv 4 (by kernel_rfl)
    exact ⟨by rw [e4], fun w ⟨g4, h1, h2⟩ => ⟨g4, by rw [← e4]; exact h1, h2⟩⟩
  case n2 =>
    intro val w hS hR
    obtain ⟨g4, h1, -, h2⟩ := hR 4 (by kernel_rfl)
    exact ⟨g4, h1, h2⟩
  case n3 =>
    rintro val w w' ⟨g4, h1, h2⟩ hb
    exact ⟨g4, h1, by rw [hb.block g4 (Array.getElem?_eq_some_iff.1 h2).1]; exact h2⟩
  case n4 =>
    intro val w hR
    obtain ⟨g4, h1, -, h2⟩ := hR 4 (by kernel_rfl)
    simp only [h1]
    go_simp
  simp only [Act.put, List.setIfInBounds_toArray, List.set_cons_zero, List.set_cons_succ]
  refine SeqV.make (f := 33) (args := fun val => #[val 8]) (fun _ v w' => w'.ownsRow w1.heap.size 50 (Rec.z Due) v r.length (rows r)) (fun val w' hS hR => ?_) (fun _ => by rfl) (by rfl) (fun _ _ _ v w h => h) (fun _ v w w' h hb => own_kept h hb) (fun val w => ?_) ?_
  · obtain ⟨⟨g8, e8, hB8, h8⟩, g4, e4, h4⟩ := hR 8 (by kernel_rfl)
    rw [e4] at h8
    rw [e8]
    refine (KJ.out g8 g4 w' (Below.then hB1 hS) h8 h4).mono ?_
    rintro e w2 ⟨v, rfl, hown, hb⟩
    exact ⟨v, rfl, own_base hown hS.size, hS.trans (hb.mono hS.size), hb⟩
  · go_simp
  simp only [Act.put, List.setIfInBounds_toArray, List.set_cons_zero, List.set_cons_succ]
  intro val w3 hS3 hR3 hD3
  have hown3 : w3.ownsRow w1.heap.size 50 (Rec.z Due) (val 9) r.length (rows r) := hR3 9 (by decide)
  obtain ⟨A', c', e9, hc9, hm9, hz9, hr9⟩ := rows_of_own rfl hown3
  simp only [e9]
  clear hR3 hD3 cells KJ hown3
  go_wp2
  refine bodyPost_ret (v := .tuple #[.slice A' r.length c', .int .i64 0]) (by simp [results, Try.results15, go_sem]) rfl ⟨A', c', rfl, hc9, hm9, hz9, hr9, Below.then hB1 hS3⟩

theorem powe_is (l : List Due) (d : Due) (A : Option Addr) (c : Nat) (w : World) (hr : Row w w.heap.size A (rows l)) (hl : l.length ≤ 1000000) (hc : l.length ≤ c) (hz : A = none → c = 0) (hx : ∀ x ∈ l, x.amt ≤ 18446744073709551615) :
    Calls Try.prog 15 #[.slice A l.length c, .agg (Rec.vals d)] w fun e w' => Recs w (powed l d) e w' := by
  by_cases h : ((0 ≤ d.acc ∧ d.acc < 64) ∧ 0 ≤ d.tick) ∧ ¬ 4611686018427387904 < d.amt ∧ d.amt ≠ 0
  · rcases hf : l.findIdx? d.same with _ | k
    · exact powe_behind l d A c w hr hl hc hz h.1 h.2.1 h.2.2 hf
    · exact powe_more l d k A c w hr hl hx h.1 h.2.1 h.2.2 hf
  · exact powe_not l d A c w hr hl h
end Go.Proofs.Ytaaildlopknbjaa
