/- Layer 23 (moot): whether enough are for a motion; motions counted. By contracts. -/
import Derived.Test.YtcaejanfhchacaaMooB
import Derived.Test.YtcaejanfhchacaaMooC
import Derived.Test.YtcaejanfhchacaaBalP
import Derived.Test.YtcaejanfhchacaaSeqV
namespace Go.Proofs.Ytcaejanfhchacaa
open Go.RowKit Go.Shelf
set_option linter.unusedVariables false
set_option linter.unusedSimpArgs false

set_option maxRecDepth 100000 in
set_option maxHeartbeats 2000000 in
theorem carried_in (p : Par) (l : List Mem) (A : Option Addr) (c : Nat) (m : Mot) (w : World) (hp : p.Fits) (hr : Row w w.heap.size A (rows l)) (hl : l.length ≤ 100000) (hf : ∀ m ∈ l, m.s.Fits) (hm : MotAt w m) (ha : actives l l.length ≤ 18446744073709551615) :
    Calls Try.prog 56 #[.agg p.vals, .slice A l.length c, .agg (Rec.vals m)] w fun e w' => e = .returned (.bool (passes p.quorum ⟨presents l m.yes.bs l.length, presents l m.no.bs l.length, actives l l.length⟩)) ∧ Below w.heap.size w w' := by
  obtain ⟨y, hy⟩ : ∃ y, presents l m.yes.bs l.length = y := ⟨_, rfl⟩
  obtain ⟨n, hn⟩ : ∃ n, presents l m.no.bs l.length = n := ⟨_, rfl⟩
  obtain ⟨t, ht⟩ : ∃ t, actives l l.length = t := ⟨_, rfl⟩
  have hyt : y ≤ t := by rw [← hy, ← ht]; exact presents_le _ _ _
  have hnt : n ≤ t := by rw [← hn, ← ht]; exact presents_le _ _ _
  have KC := Lib.hid (fun (W : World) (hB : Below w.heap.size w W) => count_in l A c m.yes.bs m.yes.row m.yes.cap m.no.bs m.no.row m.no.cap y n t W (row_kept hr hB) (hm.yes.up hB).sl.row hm.yes.all (hm.no.up hB).sl.row hm.no.all hl hf hy hn ht (by omega))
  have KP := Lib.hid (fun (W : World) => passes_is p ⟨y, n, t⟩ W hp ⟨by show y ≤ _; omega, by show n ≤ _; omega, by show t ≤ _; omega⟩)
  rw [hy, hn, ht]
  obtain ⟨r, hr2⟩ : ∃ r, passes p.quorum ⟨y, n, t⟩ = r := ⟨_, rfl⟩
  rw [hr2] at KP ⊢
  clear hr hf hm ha hy hn ht hyt hnt hr2 hp
  go_enter Try.func56, Try.ntmps56
  go_upto_region 1 with fail
  generalize hw0 : World.alloc (World.alloc _ _) _ = w0
  have hB : Below w.heap.size w w0 := by rw [← hw0]; exact ((Below.refl _ _).alloc (Nat.le_refl _) _).alloc (by simp) _
  have hP : ParAt w0 w.heap.size p 37 := by rw [← hw0]; exact (ParAt.new w p 37).up ((Below.refl _ _).alloc (Nat.le_refl _) _)
  have hM : RecAt w0 (w.heap.size + 1) (Rec.vals m) 40 := by
    rw [← hw0]
    have := RecAt.new (w.alloc (.cells p.vals 37)) (Rec.vals m) 40
    rw [World.size_alloc] at this
    exact this
  clear hw0
  have c31 : w0.cell? ⟨w.heap.size + 1, 31, none⟩ = some (.slice m.yes.row m.yes.bs.length m.yes.cap) := hM.cell 31
  have c32 : w0.cell? ⟨w.heap.size + 1, 32, none⟩ = some (.slice m.no.row m.no.bs.length m.no.cap) := hM.cell 32
  go_wp2_with (first
    | (go_at_call 94; refine (KC.out w0 hB).mono ?_; clear KC; rintro e w1 ⟨rfl, hb⟩; have hP := hP.up hb; have hB := Below.then hB hb; clear hb c31 c32)
    | (refine store_rec 148 _ _ rfl rfl _ (Rec.vals (⟨y, n, t⟩ : Tly)) (Rec.vals Tly.zero) 148 rfl rfl (RecAt.new _ (Rec.vals Tly.zero) _) size_tly rfl (Rec.one (⟨y, n, t⟩ : Tly)) ?_; intro w2 hT hb hz5 hk5; clear hz5 hk5; have hb := rec_made (Below.refl _ _) hb; have hP := hP.up hb; have hB := Below.then hB hb; clear hb)
    | ((with_reducible refine slot_is 21 rfl ?_); refine load_par _ rfl rfl _ p _ rfl hP ?_)
    | ((with_reducible refine slot_is 22 rfl ?_); refine load_rec 148 _ rfl rfl _ (Rec.vals (⟨y, n, t⟩ : Tly)) rfl hT.lies Try.underlying148 size_tly ?_)
    | (go_at_call 95; refine (KP.out _).mono ?_; clear KP; rintro e w3 ⟨rfl, hb⟩; have hB := Below.then hB hb; clear hb))
  go_ret
  exact ⟨by first | rfl | simp, hB⟩

set_option maxRecDepth 100000 in
set_option maxHeartbeats 2000000 in
theorem carried_out (p : Par) (l : List Mem) (A : Option Addr) (c : Nat) (m : Mot) (w : World) (hr : Row w w.heap.size A (rows l)) (hl : l.length ≤ 100000) (hf : ∀ m ∈ l, m.s.Fits) (ha : 18446744073709551615 < actives l l.length) :
    Calls Try.prog 56 #[.agg p.vals, .slice A l.length c, .agg (Rec.vals m)] w fun e w' => e = .returned (.bool false) ∧ Below w.heap.size w w' := by
  have KC := Lib.hid (fun (W : World) (hB : Below w.heap.size w W) => count_out l A c (.slice m.yes.row m.yes.bs.length m.yes.cap) (.slice m.no.row m.no.bs.length m.no.cap) W (row_kept hr hB) hl hf ha)
  clear hr hf ha
  go_enter Try.func56, Try.ntmps56
  go_upto_region 1 with fail
  generalize hw0 : World.alloc (World.alloc _ _) _ = w0
  have hB : Below w.heap.size w w0 := by rw [← hw0]; exact ((Below.refl _ _).alloc (Nat.le_refl _) _).alloc (by simp) _
  have hM : RecAt w0 (w.heap.size + 1) (Rec.vals m) 40 := by
    rw [← hw0]
    have := RecAt.new (w.alloc (.cells p.vals 37)) (Rec.vals m) 40
    rw [World.size_alloc] at this
    exact this
  clear hw0
  have c31 : w0.cell? ⟨w.heap.size + 1, 31, none⟩ = some (.slice m.yes.row m.yes.bs.length m.yes.cap) := hM.cell 31
  have c32 : w0.cell? ⟨w.heap.size + 1, 32, none⟩ = some (.slice m.no.row m.no.bs.length m.no.cap) := hM.cell 32
  go_wp2_with (first
    | (go_at_call 94; refine (KC.out w0 hB).mono ?_; clear KC; rintro e w1 ⟨rfl, hb⟩; have hB := Below.then hB hb; clear hb c31 c32)
    | (refine store_rec 148 _ _ rfl rfl _ (Rec.vals Tly.zero) (Rec.vals Tly.zero) 148 rfl rfl (RecAt.new _ (Rec.vals Tly.zero) _) size_tly rfl (Rec.one Tly.zero) ?_; intro w2 hT hb hz5 hk5; clear hz5 hk5; have hb := rec_made (Below.refl _ _) hb; have hB := Below.then hB hb; clear hb))
  go_ret
  exact ⟨by first | rfl | simp, hB⟩

theorem carried_is (p : Par) (l : List Mem) (A : Option Addr) (c : Nat) (m : Mot) (w : World) (hp : p.Fits) (hr : Row w w.heap.size A (rows l)) (hl : l.length ≤ 100000) (hf : ∀ m ∈ l, m.s.Fits) (hm : MotAt w m) :
    Calls Try.prog 56 #[.agg p.vals, .slice A l.length c, .agg (Rec.vals m)] w fun e w' => e = .returned (.bool (m.pure.carried p.quorum l)) ∧ Below w.heap.size w w' := by
  unfold PMot.carried
  by_cases ha : actives l l.length ≤ 18446744073709551615
  · rw [decide_eq_true ha, Bool.true_and]
    exact carried_in p l A c m w hp hr hl hf hm ha
  · rw [decide_eq_false ha, Bool.false_and]
    exact carried_out p l A c m w hr hl hf (by omega)
/-! ### Close -/
set_option maxRecDepth 100000 in
set_option maxHeartbeats 4000000 in
theorem close1_other (p : Par) (mems : List Mem) (AM : Option Addr) (cM : Nat) (ep : Int) (bE bP bM : Nat) (w : World) (h1 : w.cell? ⟨bE, 0, none⟩ = some (.int .i64 ep)) (h2 : ParAt w bP p 37) (h3 : w.cell? ⟨bM, 0, none⟩ = some (.slice AM mems.length cM)) (hp : p.Fits) (hr : Row w w.heap.size AM (rows mems)) (hl : mems.length ≤ 100000) (hf : ∀ m ∈ mems, m.s.Fits) (hep : 0 ≤ ep ∧ ep ≤ 1073741824) (L g n c k : Nat) (cur : List Mot) (m : Mot) (u : World) (hu : Below w.heap.size w u) (hL : w.heap.size ≤ L) (hM : MAt u L g n c cur k m) (hs : ¬ m.st = 1) :
    Calls Try.prog 55 #[.int .i64 (k : Int), .pointer (some ⟨g, k * 33, none⟩), .pointer (some ⟨bE, 0, none⟩), .pointer (some ⟨bP, 0, none⟩), .pointer (some ⟨bM, 0, none⟩)] u fun e u' => e = .returned (.tuple #[]) ∧ Put u u' L g n c cur k (m.pure) := by
  have hbE := World.block_lt_of_cell? w _ h1
  have hbM := World.block_lt_of_cell? w _ h3
  have d1 : u.cell? ⟨bE, 0, none⟩ = some (.int .i64 ep) := (hu.cell hbE).trans h1
  have hat := own_lies (α := Mot) hM.row hM.hit
  have hgL : L ≤ g := (hM.row.lt g rfl).1
  have hgu : g < u.heap.size := (hM.row.lt g rfl).2
  have c30 : u.cell? ⟨g, k * 33 + 30, none⟩ = some (.int .i64 m.st) := hat.fld 29 rfl
  have b1 : (m.st == 1) = false := by simp [hs]
  have b2 : (m.st != 1) = true := by simp [hs]
  clear hs
  have hs := fun q => hM.same (below_drewN (Below.refl u.heap.size u) q)
  clear hM hat h1 h2 h3 hr hf
  go_enter Try.func55, Try.ntmps55
  go_wp2_with fail
  go_quiet (fail)
  go_wp2
  refine bodyPost_ret (v := .tuple #[]) (by simp [results, Try.results55, go_sem]) rfl ⟨rfl, hs _⟩

set_option maxRecDepth 100000 in
set_option maxHeartbeats 4000000 in
theorem close1_early (p : Par) (mems : List Mem) (AM : Option Addr) (cM : Nat) (ep : Int) (bE bP bM : Nat) (w : World) (h1 : w.cell? ⟨bE, 0, none⟩ = some (.int .i64 ep)) (h2 : ParAt w bP p 37) (h3 : w.cell? ⟨bM, 0, none⟩ = some (.slice AM mems.length cM)) (hp : p.Fits) (hr : Row w w.heap.size AM (rows mems)) (hl : mems.length ≤ 100000) (hf : ∀ m ∈ mems, m.s.Fits) (hep : 0 ≤ ep ∧ ep ≤ 1073741824) (L g n c k : Nat) (cur : List Mot) (m : Mot) (u : World) (hu : Below w.heap.size w u) (hL : w.heap.size ≤ L) (hM : MAt u L g n c cur k m) (hs : m.st = 1) (he : ep < m.ends) :
    Calls Try.prog 55 #[.int .i64 (k : Int), .pointer (some ⟨g, k * 33, none⟩), .pointer (some ⟨bE, 0, none⟩), .pointer (some ⟨bP, 0, none⟩), .pointer (some ⟨bM, 0, none⟩)] u fun e u' => e = .returned (.tuple #[]) ∧ Put u u' L g n c cur k (m.pure) := by
  have hbE := World.block_lt_of_cell? w _ h1
  have hbM := World.block_lt_of_cell? w _ h3
  have d1 : u.cell? ⟨bE, 0, none⟩ = some (.int .i64 ep) := (hu.cell hbE).trans h1
  have hat := own_lies (α := Mot) hM.row hM.hit
  have hgL : L ≤ g := (hM.row.lt g rfl).1
  have hgu : g < u.heap.size := (hM.row.lt g rfl).2
  have c30 : u.cell? ⟨g, k * 33 + 30, none⟩ = some (.int .i64 1) := (hat.fld 29 rfl).trans (by show some (Value.int .i64 m.st) = _; rw [hs])
  have c28 : u.cell? ⟨g, k * 33 + 28, none⟩ = some (.int .i64 m.ends) := hat.fld 27 rfl
  have e1 : decide (ep < m.ends) = true := decide_eq_true he
  clear hs he
  have hs := fun q => hM.same (below_drewN (Below.refl u.heap.size u) q)
  clear hM hat h1 h2 h3 hr hf
  go_enter Try.func55, Try.ntmps55
  go_wp2_with fail
  go_quiet (fail)
  go_wp2
  refine bodyPost_ret (v := .tuple #[]) (by simp [results, Try.results55, go_sem]) rfl ⟨rfl, hs _⟩

set_option maxRecDepth 100000 in
set_option maxHeartbeats 4000000 in
theorem close1_failed (p : Par) (mems : List Mem) (AM : Option Addr) (cM : Nat) (ep : Int) (bE bP bM : Nat) (w : World) (h1 : w.cell? ⟨bE, 0, none⟩ = some (.int .i64 ep)) (h2 : ParAt w bP p 37) (h3 : w.cell? ⟨bM, 0, none⟩ = some (.slice AM mems.length cM)) (hp : p.Fits) (hr : Row w w.heap.size AM (rows mems)) (hl : mems.length ≤ 100000) (hf : ∀ m ∈ mems, m.s.Fits) (hep : 0 ≤ ep ∧ ep ≤ 1073741824) (L g n c k : Nat) (cur : List Mot) (m : Mot) (u : World) (hu : Below w.heap.size w u) (hL : w.heap.size ≤ L) (hM : MAt u L g n c cur k m) (hs : m.st = 1) (he : m.ends ≤ ep) (hc : m.pure.carried p.quorum mems = false) :
    Calls Try.prog 55 #[.int .i64 (k : Int), .pointer (some ⟨g, k * 33, none⟩), .pointer (some ⟨bE, 0, none⟩), .pointer (some ⟨bP, 0, none⟩), .pointer (some ⟨bM, 0, none⟩)] u fun e u' => e = .returned (.tuple #[]) ∧ Put u u' L g n c cur k ({ m.pure with st := 4 }) := by
  have hbE := World.block_lt_of_cell? w _ h1
  have hbM := World.block_lt_of_cell? w _ h3
  have d1 : u.cell? ⟨bE, 0, none⟩ = some (.int .i64 ep) := (hu.cell hbE).trans h1
  have hat := own_lies (α := Mot) hM.row hM.hit
  have hgL : L ≤ g := (hM.row.lt g rfl).1
  have hgu : g < u.heap.size := (hM.row.lt g rfl).2
  have c30 : u.cell? ⟨g, k * 33 + 30, none⟩ = some (.int .i64 1) := (hat.fld 29 rfl).trans (by show some (Value.int .i64 m.st) = _; rw [hs])
  have c28 : u.cell? ⟨g, k * 33 + 28, none⟩ = some (.int .i64 m.ends) := hat.fld 27 rfl
  have e1 : decide (ep < m.ends) = false := decide_eq_false (by omega)
  have KK := Lib.hid (fun (W : World) (hB : Below w.heap.size w W) (hm : MotAt W (⟨m.acct, m.what, m.p, m.dest, m.amt, m.ends, m.due, 4, m.yes, m.no⟩ : Mot)) => carried_is p mems AM cM (⟨m.acct, m.what, m.p, m.dest, m.amt, m.ends, m.due, 4, m.yes, m.no⟩ : Mot) W hp (row_kept hr hB) hl hf hm)
  have hcr : PMot.carried p.quorum mems (Mot.pure (⟨m.acct, m.what, m.p, m.dest, m.amt, m.ends, m.due, 4, m.yes, m.no⟩ : Mot)) = false := hc
  rw [hcr] at KK
  have H2 := Lib.hid h2
  have H3 := Lib.hid h3
  have H1 := Lib.hid h1
  have HM := Lib.hid hM
  have HF := Lib.hid hp
  clear hs he hM hat h1 h2 h3 hr hf hc hcr hp
  go_enter Try.func55, Try.ntmps55
  go_wp2_with fail
  go_quiet (fail)
  generalize hq : World.drewN u _ = u0
  have hb0 : Below u.heap.size u u0 := by rw [← hq]; exact below_drewN (Below.refl _ _) _
  have hM0 := HM.out.up hb0
  clear hq c30 c28
  have c30 : u0.cell? ⟨g, k * 33 + 30, none⟩ = some (.int .i64 m.st) := (own_lies (α := Mot) hM0.row hM0.hit).fld 29 rfl
  have f30 : u0.frozen? ⟨g, k * 33 + 30, none⟩ = false := hM0.row.frozenAt _
  have hset := mot_set (w := u0) hM0.row hM0.hit (⟨m.acct, m.what, m.p, m.dest, m.amt, m.ends, m.due, 4, m.yes, m.no⟩ : Mot) 30 (.int .i64 4) (by decide) rfl
  have hown := hM0.own.apart hM0.row hset.2
  have HSET := Lib.hid hset
  have HOWN := Lib.hid hown
  have HM0 := Lib.hid hM0
  clear hset hown hM0
  go_upto_region 2 with fail
  have hset := HSET.out
  have hown := HOWN.out
  generalize u0.setCell ⟨g, k * 33 + 30, none⟩ (.int .i64 4) = u1 at *
  have hu1 : u.grownBy u1 (some g) := grown_trans (grown_any hb0 _) hset.2
  have hM1 : MAt u1 L g n c (cur.set k (⟨m.acct, m.what, m.p, m.dest, m.amt, m.ends, m.due, 4, m.yes, m.no⟩ : Mot)) k (⟨m.acct, m.what, m.p, m.dest, m.amt, m.ends, m.due, 4, m.yes, m.no⟩ : Mot) := ⟨List.getElem?_set_self (List.getElem?_eq_some_iff.1 HM.out.hit).1, hset.1, ⟨hown.yes, hown.no, ⟨hown.fine.yes, hown.fine.no, hown.fine.yesLen, hown.fine.noLen, hown.fine.amt, hown.fine.par⟩⟩⟩
  have hB1 : Below w.heap.size w u1 := hu.trans (grown_to hu1 (Nat.le_trans hL hgL) hu.size)
  have L1 : ∀ w', Below u1.heap.size u1 w' → LiesAt w' ⟨g, k * 33, none⟩ (Rec.vals (⟨m.acct, m.what, m.p, m.dest, m.amt, m.ends, m.due, 4, m.yes, m.no⟩ : Mot)) := fun w' h => (own_lies (α := Mot) hM1.row hM1.hit).up h
  have L2 : ∀ w', Below u1.heap.size u1 w' → ParAt w' bP p 37 := fun w' h => (H2.out.below hB1 H2.out.lt).up h
  have L3 : ∀ w', Below u1.heap.size u1 w' → w'.cell? ⟨bM, 0, none⟩ = some (.slice AM mems.length cM) := fun w' h => (h.cell (Nat.lt_of_lt_of_le hbM hB1.size)).trans ((hB1.cell hbM).trans H3.out)
  have ks : ∀ w', Below u1.heap.size u1 w' → Calls Try.prog 56 #[.agg p.vals, .slice AM mems.length cM, .agg (Rec.vals (⟨m.acct, m.what, m.p, m.dest, m.amt, m.ends, m.due, 4, m.yes, m.no⟩ : Mot))] w' fun e w2 => e = .returned (.bool false) ∧ Below u1.heap.size u1 w2 ∧ Below w'.heap.size w' w2 :=
    fun w' h => (KK.out w' (Below.then hB1 h) (hM1.up h).own.at).mono (by rintro e w2 ⟨rfl, hb⟩; exact ⟨rfl, Below.then h hb, hb⟩)
  have HM1 := Lib.hid hM1
  have HU1 := Lib.hid hu1
  clear hset hown HSET HOWN c30 f30 e1 hM1 hu1 d1
  refine region_vary [] 6 (fun w' => Below u1.heap.size u1 w') (by kernel_rfl) (by kernel_rfl) (Below.refl _ _).drew ?_
  simp only [List.take_succ_cons, List.take_zero, List.drop_succ_cons, List.drop_zero]
  refine SeqV.take (fun _ => .agg p.vals) (fun _ => by rfl) (by rfl) (fun _ _ _ => rfl) (fun val w1 hS hR => exec_load_par _ rfl _ _ _ rfl (L2 w1 hS)) ?_
  simp only [Act.put, List.setIfInBounds_toArray, List.set_cons_zero, List.set_cons_succ]
  refine SeqV.take (fun _ => .slice AM mems.length cM) (fun _ => by rfl) (by rfl) (fun _ _ _ => rfl) (fun val w1 hS hR => ?_) ?_; · (have x := L3 w1 hS; go_simp <;> with_reducible rfl)
  simp only [Act.put, List.setIfInBounds_toArray, List.set_cons_zero, List.set_cons_succ]
  refine SeqV.take (fun _ => .pointer (some ⟨g, k * 33, none⟩)) (fun _ => by rfl) (by rfl) (fun _ _ _ => rfl) (fun val w1 hS hR => ?_) ?_; · (go_simp <;> with_reducible rfl)
  simp only [Act.put, List.setIfInBounds_toArray, List.set_cons_zero, List.set_cons_succ]
  refine SeqV.take (fun _ => .pointer (some ⟨g, k * 33, none⟩)) (fun _ => by rfl) (by rfl) (fun _ _ _ => rfl) (fun val w1 hS hR => ?_) ?_; · (go_simp <;> with_reducible rfl)
  simp only [Act.put, List.setIfInBounds_toArray, List.set_cons_zero, List.set_cons_succ]
  refine SeqV.take (fun _ => .agg (Rec.vals (⟨m.acct, m.what, m.p, m.dest, m.amt, m.ends, m.due, 4, m.yes, m.no⟩ : Mot))) (fun _ => by rfl) (by rfl) (fun _ _ _ => rfl) (fun val w1 hS hR => exec_load_rec 40 _ rfl _ (Rec.vals (⟨m.acct, m.what, m.p, m.dest, m.amt, m.ends, m.due, 4, m.yes, m.no⟩ : Mot)) rfl (L1 w1 hS) Try.underlying40 size_mot) ?_
  simp only [Act.put, List.setIfInBounds_toArray, List.set_cons_zero, List.set_cons_succ]
  refine SeqV.call (f := 56) (args := fun val => #[.agg p.vals, .slice AM mems.length cM, .agg (Rec.vals (⟨m.acct, m.what, m.p, m.dest, m.amt, m.ends, m.due, 4, m.yes, m.no⟩ : Mot))]) (fun _ => .bool false) (fun val w1 hS hR => ks w1 hS) (fun _ => by rfl) (by rfl) (fun _ _ _ => rfl) (fun val w1 => ?_) ?_
  · go_simp
  simp only [Act.put, List.setIfInBounds_toArray, List.set_cons_zero, List.set_cons_succ]
  intro val u2 hS1 hR1 hD1
  have hM2 := HM1.out.up hS1
  have hU2 := grown_trans HU1.out (grown_any hS1 (some g))
  clear hR1 hD1 ks L1 L2 L3
  refine wpList_nil ?_
  go_wp2
  go_end0
  exact ⟨rfl, (⟨m.acct, m.what, m.p, m.dest, m.amt, m.ends, m.due, 4, m.yes, m.no⟩ : Mot), rfl, hM2.own, hM2.row, hU2⟩

set_option maxRecDepth 100000 in
set_option maxHeartbeats 4000000 in
theorem close1_passed (p : Par) (mems : List Mem) (AM : Option Addr) (cM : Nat) (ep : Int) (bE bP bM : Nat) (w : World) (h1 : w.cell? ⟨bE, 0, none⟩ = some (.int .i64 ep)) (h2 : ParAt w bP p 37) (h3 : w.cell? ⟨bM, 0, none⟩ = some (.slice AM mems.length cM)) (hp : p.Fits) (hr : Row w w.heap.size AM (rows mems)) (hl : mems.length ≤ 100000) (hf : ∀ m ∈ mems, m.s.Fits) (hep : 0 ≤ ep ∧ ep ≤ 1073741824) (L g n c k : Nat) (cur : List Mot) (m : Mot) (u : World) (hu : Below w.heap.size w u) (hL : w.heap.size ≤ L) (hM : MAt u L g n c cur k m) (hs : m.st = 1) (he : m.ends ≤ ep) (hc : m.pure.carried p.quorum mems = true) :
    Calls Try.prog 55 #[.int .i64 (k : Int), .pointer (some ⟨g, k * 33, none⟩), .pointer (some ⟨bE, 0, none⟩), .pointer (some ⟨bP, 0, none⟩), .pointer (some ⟨bM, 0, none⟩)] u fun e u' => e = .returned (.tuple #[]) ∧ Put u u' L g n c cur k ({ m.pure with due := dueOf ep p.enact, st := 2 }) := by
  have hbE := World.block_lt_of_cell? w _ h1
  have hbM := World.block_lt_of_cell? w _ h3
  have d1 : u.cell? ⟨bE, 0, none⟩ = some (.int .i64 ep) := (hu.cell hbE).trans h1
  have hat := own_lies (α := Mot) hM.row hM.hit
  have hgL : L ≤ g := (hM.row.lt g rfl).1
  have hgu : g < u.heap.size := (hM.row.lt g rfl).2
  have c30 : u.cell? ⟨g, k * 33 + 30, none⟩ = some (.int .i64 1) := (hat.fld 29 rfl).trans (by show some (Value.int .i64 m.st) = _; rw [hs])
  have c28 : u.cell? ⟨g, k * 33 + 28, none⟩ = some (.int .i64 m.ends) := hat.fld 27 rfl
  have e1 : decide (ep < m.ends) = false := decide_eq_false (by omega)
  have KK := Lib.hid (fun (W : World) (hB : Below w.heap.size w W) (hm : MotAt W (⟨m.acct, m.what, m.p, m.dest, m.amt, m.ends, m.due, 4, m.yes, m.no⟩ : Mot)) => carried_is p mems AM cM (⟨m.acct, m.what, m.p, m.dest, m.amt, m.ends, m.due, 4, m.yes, m.no⟩ : Mot) W hp (row_kept hr hB) hl hf hm)
  have hcr : PMot.carried p.quorum mems (Mot.pure (⟨m.acct, m.what, m.p, m.dest, m.amt, m.ends, m.due, 4, m.yes, m.no⟩ : Mot)) = true := hc
  rw [hcr] at KK
  have H2 := Lib.hid h2
  have H3 := Lib.hid h3
  have H1 := Lib.hid h1
  have HM := Lib.hid hM
  have HF := Lib.hid hp
  clear hs he hM hat h1 h2 h3 hr hf hc hcr hp
  go_enter Try.func55, Try.ntmps55
  go_wp2_with fail
  go_quiet (fail)
  generalize hq : World.drewN u _ = u0
  have hb0 : Below u.heap.size u u0 := by rw [← hq]; exact below_drewN (Below.refl _ _) _
  have hM0 := HM.out.up hb0
  clear hq c30 c28
  have c30 : u0.cell? ⟨g, k * 33 + 30, none⟩ = some (.int .i64 m.st) := (own_lies (α := Mot) hM0.row hM0.hit).fld 29 rfl
  have f30 : u0.frozen? ⟨g, k * 33 + 30, none⟩ = false := hM0.row.frozenAt _
  have hset := mot_set (w := u0) hM0.row hM0.hit (⟨m.acct, m.what, m.p, m.dest, m.amt, m.ends, m.due, 4, m.yes, m.no⟩ : Mot) 30 (.int .i64 4) (by decide) rfl
  have hown := hM0.own.apart hM0.row hset.2
  have HSET := Lib.hid hset
  have HOWN := Lib.hid hown
  have HM0 := Lib.hid hM0
  clear hset hown hM0
  go_upto_region 2 with fail
  have hset := HSET.out
  have hown := HOWN.out
  generalize u0.setCell ⟨g, k * 33 + 30, none⟩ (.int .i64 4) = u1 at *
  have hu1 : u.grownBy u1 (some g) := grown_trans (grown_any hb0 _) hset.2
  have hM1 : MAt u1 L g n c (cur.set k (⟨m.acct, m.what, m.p, m.dest, m.amt, m.ends, m.due, 4, m.yes, m.no⟩ : Mot)) k (⟨m.acct, m.what, m.p, m.dest, m.amt, m.ends, m.due, 4, m.yes, m.no⟩ : Mot) := ⟨List.getElem?_set_self (List.getElem?_eq_some_iff.1 HM.out.hit).1, hset.1, ⟨hown.yes, hown.no, ⟨hown.fine.yes, hown.fine.no, hown.fine.yesLen, hown.fine.noLen, hown.fine.amt, hown.fine.par⟩⟩⟩
  have hB1 : Below w.heap.size w u1 := hu.trans (grown_to hu1 (Nat.le_trans hL hgL) hu.size)
  have L1 : ∀ w', Below u1.heap.size u1 w' → LiesAt w' ⟨g, k * 33, none⟩ (Rec.vals (⟨m.acct, m.what, m.p, m.dest, m.amt, m.ends, m.due, 4, m.yes, m.no⟩ : Mot)) := fun w' h => (own_lies (α := Mot) hM1.row hM1.hit).up h
  have L2 : ∀ w', Below u1.heap.size u1 w' → ParAt w' bP p 37 := fun w' h => (H2.out.below hB1 H2.out.lt).up h
  have L3 : ∀ w', Below u1.heap.size u1 w' → w'.cell? ⟨bM, 0, none⟩ = some (.slice AM mems.length cM) := fun w' h => (h.cell (Nat.lt_of_lt_of_le hbM hB1.size)).trans ((hB1.cell hbM).trans H3.out)
  have ks : ∀ w', Below u1.heap.size u1 w' → Calls Try.prog 56 #[.agg p.vals, .slice AM mems.length cM, .agg (Rec.vals (⟨m.acct, m.what, m.p, m.dest, m.amt, m.ends, m.due, 4, m.yes, m.no⟩ : Mot))] w' fun e w2 => e = .returned (.bool true) ∧ Below u1.heap.size u1 w2 ∧ Below w'.heap.size w' w2 :=
    fun w' h => (KK.out w' (Below.then hB1 h) (hM1.up h).own.at).mono (by rintro e w2 ⟨rfl, hb⟩; exact ⟨rfl, Below.then h hb, hb⟩)
  have HM1 := Lib.hid hM1
  have HU1 := Lib.hid hu1
  clear hset hown HSET HOWN c30 f30 e1 hM1 hu1 d1
  refine region_vary [] 6 (fun w' => Below u1.heap.size u1 w') (by kernel_rfl) (by kernel_rfl) (Below.refl _ _).drew ?_
  simp only [List.take_succ_cons, List.take_zero, List.drop_succ_cons, List.drop_zero]
  refine SeqV.take (fun _ => .agg p.vals) (fun _ => by rfl) (by rfl) (fun _ _ _ => rfl) (fun val w1 hS hR => exec_load_par _ rfl _ _ _ rfl (L2 w1 hS)) ?_
  simp only [Act.put, List.setIfInBounds_toArray, List.set_cons_zero, List.set_cons_succ]
  refine SeqV.take (fun _ => .slice AM mems.length cM) (fun _ => by rfl) (by rfl) (fun _ _ _ => rfl) (fun val w1 hS hR => ?_) ?_; · (have x := L3 w1 hS; go_simp <;> with_reducible rfl)
  simp only [Act.put, List.setIfInBounds_toArray, List.set_cons_zero, List.set_cons_succ]
  refine SeqV.take (fun _ => .pointer (some ⟨g, k * 33, none⟩)) (fun _ => by rfl) (by rfl) (fun _ _ _ => rfl) (fun val w1 hS hR => ?_) ?_; · (go_simp <;> with_reducible rfl)
  simp only [Act.put, List.setIfInBounds_toArray, List.set_cons_zero, List.set_cons_succ]
  refine SeqV.take (fun _ => .pointer (some ⟨g, k * 33, none⟩)) (fun _ => by rfl) (by rfl) (fun _ _ _ => rfl) (fun val w1 hS hR => ?_) ?_; · (go_simp <;> with_reducible rfl)
  simp only [Act.put, List.setIfInBounds_toArray, List.set_cons_zero, List.set_cons_succ]
  refine SeqV.take (fun _ => .agg (Rec.vals (⟨m.acct, m.what, m.p, m.dest, m.amt, m.ends, m.due, 4, m.yes, m.no⟩ : Mot))) (fun _ => by rfl) (by rfl) (fun _ _ _ => rfl) (fun val w1 hS hR => exec_load_rec 40 _ rfl _ (Rec.vals (⟨m.acct, m.what, m.p, m.dest, m.amt, m.ends, m.due, 4, m.yes, m.no⟩ : Mot)) rfl (L1 w1 hS) Try.underlying40 size_mot) ?_
  simp only [Act.put, List.setIfInBounds_toArray, List.set_cons_zero, List.set_cons_succ]
  refine SeqV.call (f := 56) (args := fun val => #[.agg p.vals, .slice AM mems.length cM, .agg (Rec.vals (⟨m.acct, m.what, m.p, m.dest, m.amt, m.ends, m.due, 4, m.yes, m.no⟩ : Mot))]) (fun _ => .bool true) (fun val w1 hS hR => ks w1 hS) (fun _ => by rfl) (by rfl) (fun _ _ _ => rfl) (fun val w1 => ?_) ?_
  · go_simp
  simp only [Act.put, List.setIfInBounds_toArray, List.set_cons_zero, List.set_cons_succ]
  intro val u2 hS1 hR1 hD1
  have hM2 := HM1.out.up hS1
  have hU2 := grown_trans HU1.out (grown_any hS1 (some g))
  clear hR1 hD1 ks L1 L2 L3
  refine wpList_nil ?_
  have hB2 := Below.then hB1 hS1
  have x1 : u2.cell? ⟨bE, 0, none⟩ = some (.int .i64 ep) := (hB2.cell hbE).trans H1.out
  have x2 : u2.cell? ⟨bP, 22, none⟩ = some (.int .i64 p.enact) := (H2.out.below hB2 H2.out.lt).cell 22
  have hat2 := own_lies (α := Mot) hM2.row hM2.hit
  have x3 : u2.cell? ⟨g, k * 33 + 30, none⟩ = some (.int .i64 4) := hat2.fld 29 rfl
  have f3 : u2.frozen? ⟨g, k * 33 + 30, none⟩ = false := hM2.row.frozenAt _
  have x4 : u2.cell? ⟨g, k * 33 + 29, none⟩ = some (.int .i64 m.due) := hat2.fld 28 rfl
  have f4 : u2.frozen? ⟨g, k * 33 + 29, none⟩ = false := hM2.row.frozenAt _
  have x5 : (u2.setCell ⟨g, k * 33 + 30, none⟩ (.int .i64 2)).cell? ⟨g, k * 33 + 29, none⟩ = some (.int .i64 m.due) := (World.cell?_setCell_other _ _ _ _ (fun e => by have := congrArg Addr.off e; simp at this)).trans x4
  have f5 : (u2.setCell ⟨g, k * 33 + 30, none⟩ (.int .i64 2)).frozen? ⟨g, k * 33 + 29, none⟩ = false := (World.frozen?_setCell _ _ _ _).trans f4
  have hs2 := mot_set hM2.row hM2.hit (⟨m.acct, m.what, m.p, m.dest, m.amt, m.ends, m.due, 2, m.yes, m.no⟩ : Mot) 30 (.int .i64 2) (by decide) rfl
  have hs3 := mot_set hs2.1 (x := (⟨m.acct, m.what, m.p, m.dest, m.amt, m.ends, m.due, 2, m.yes, m.no⟩ : Mot)) (List.getElem?_set_self (List.getElem?_eq_some_iff.1 hM2.hit).1) (⟨m.acct, m.what, m.p, m.dest, m.amt, m.ends, dueOf ep p.enact, 2, m.yes, m.no⟩ : Mot) 29 (.int .i64 (dueOf ep p.enact)) (by decide) rfl
  rw [List.set_set, List.set_set] at hs3
  have ho2 := (hM2.own.apart hM2.row hs2.2).apart hs2.1 hs3.2
  have HS3 := Lib.hid hs3
  have HO2 := Lib.hid ho2
  have HU2 := Lib.hid (grown_trans hU2 (grown_trans hs2.2 hs3.2))
  have kd := fun W => due_is ep p.enact W hep (HF.out.is p.enact (by simp [Par.is]))
  obtain ⟨dd, hdd⟩ : ∃ dd, dueOf ep p.enact = dd := ⟨_, rfl⟩
  rw [hdd] at kd
  have HDD := Lib.hid hdd
  rw [hdd] at HS3 HO2 HU2
  clear hs2 hs3 ho2 hU2 hM2 hat2 x4 f4 hdd HM1 HU1 HM
  go_wp2_with (go_at_call 57; refine (kd _).mono ?_; clear kd; rintro e w' ⟨rfl, rfl⟩)
  go_end0
  rw [HDD.out]
  refine ⟨rfl, (⟨m.acct, m.what, m.p, m.dest, m.amt, m.ends, dd, 2, m.yes, m.no⟩ : Mot), rfl, ⟨HO2.out.yes, HO2.out.no, ⟨HO2.out.fine.yes, HO2.out.fine.no, HO2.out.fine.yesLen, HO2.out.fine.noLen, HO2.out.fine.amt, HO2.out.fine.par⟩⟩, HS3.out.1, HU2.out⟩

/-- What a count makes of one. -/
theorem close1_is (p : Par) (mems : List Mem) (AM : Option Addr) (cM : Nat) (ep : Int) (bE bP bM : Nat) (w : World) (h1 : w.cell? ⟨bE, 0, none⟩ = some (.int .i64 ep)) (h2 : ParAt w bP p 37) (h3 : w.cell? ⟨bM, 0, none⟩ = some (.slice AM mems.length cM)) (hp : p.Fits) (hr : Row w w.heap.size AM (rows mems)) (hl : mems.length ≤ 100000) (hf : ∀ m ∈ mems, m.s.Fits) (hep : 0 ≤ ep ∧ ep ≤ 1073741824) (Ls : List PMot) : TurnsAll w 55 #[.pointer (some ⟨bE, 0, none⟩), .pointer (some ⟨bP, 0, none⟩), .pointer (some ⟨bM, 0, none⟩)] Ls (fun _ q => q.closed p.quorum p.enact mems ep) := by
  intro L g n c k cur m u hu hL hM hLs
  show Calls Try.prog 55 #[.int .i64 (k : Int), .pointer (some ⟨g, k * 33, none⟩), .pointer (some ⟨bE, 0, none⟩), .pointer (some ⟨bP, 0, none⟩), .pointer (some ⟨bM, 0, none⟩)] u _
  show Calls _ _ _ _ fun e u' => e = .returned (.tuple #[]) ∧ Put u u' L g n c cur k (PMot.closed p.quorum p.enact mems ep m.pure)
  unfold PMot.closed
  by_cases hs : m.st = 1
  · by_cases he : m.ends ≤ ep
    · rw [if_pos ⟨hs, he⟩]
      cases hc : m.pure.carried p.quorum mems with
      | true => exact close1_passed p mems AM cM ep bE bP bM w h1 h2 h3 hp hr hl hf hep L g n c k cur m u hu hL hM hs he hc
      | false => exact close1_failed p mems AM cM ep bE bP bM w h1 h2 h3 hp hr hl hf hep L g n c k cur m u hu hL hM hs he hc
    · rw [if_neg (fun h => he h.2)]
      exact close1_early p mems AM cM ep bE bP bM w h1 h2 h3 hp hr hl hf hep L g n c k cur m u hu hL hM hs (by omega)
  · rw [if_neg (fun h => hs h.1)]
    exact close1_other p mems AM cM ep bE bP bM w h1 h2 h3 hp hr hl hf hep L g n c k cur m u hu hL hM hs

set_option maxRecDepth 100000 in
set_option maxHeartbeats 2000000 in
/-- Motions counted. -/
theorem close_is (p : Par) (l : List Mot) (A : Option Addr) (c : Nat) (mems : List Mem) (AM : Option Addr) (cM : Nat) (ep : Int) (w : World) (hm : Mots w A c l) (hl : l.length ≤ 100000) (hp : p.Fits) (hr : Row w w.heap.size AM (rows mems)) (hlm : mems.length ≤ 100000) (hf : ∀ m ∈ mems, m.s.Fits) (hep : 0 ≤ ep ∧ ep ≤ 1073741824) :
    Calls Try.prog 20 #[.agg p.vals, .slice A l.length c, .slice AM mems.length cM, .int .i64 ep] w fun e w' => JustMots w ((l.map Mot.pure).map (PMot.closed p.quorum p.enact mems ep)) e w' := by
  have e55 := enters_of (P := Try.prog) Try.func55 (by kernel_rfl) rfl
  have kk : ∀ (bE bP bM : Nat) (W : World), Below w.heap.size w W → W.cell? ⟨bE, 0, none⟩ = some (.int .i64 ep) → ParAt W bP p 37 → W.cell? ⟨bM, 0, none⟩ = some (.slice AM mems.length cM) → Calls Try.prog 54 #[.slice A l.length c, .func (.func 55) #[] #[.pointer (some ⟨bE, 0, none⟩), .pointer (some ⟨bP, 0, none⟩), .pointer (some ⟨bM, 0, none⟩)]] W fun e w' => JustMots W ((l.map Mot.pure).map (PMot.closed p.quorum p.enact mems ep)) e w' := by
    intro bE bP bM W hB g1 g2 g3
    have := changed_is _ _ e55 _ l A c W (hm.up hB) hl (close1_is p mems AM cM ep bE bP bM W g1 g2 g3 hp (row_kept hr hB) hlm hf hep (l.map Mot.pure))
    rw [mapIdx_same] at this
    exact this
  have KK := Lib.hid kk
  clear kk e55 hm hr hf hp
  go_enter Try.func20, Try.ntmps20
  go_upto_region 1 with fail
  generalize hw0 : World.alloc (World.alloc (World.alloc _ _) _) _ = w0
  have hB : Below w.heap.size w w0 := by rw [← hw0]; exact (((Below.refl _ _).alloc (Nat.le_refl _) _).alloc (by simp) _).alloc (by simp; omega) _
  have h1 : ParAt w0 w.heap.size p 37 := by rw [← hw0]; exact ((ParAt.new w p 37).up ((Below.refl _ _).alloc (Nat.le_refl _) _)).up ((Below.refl _ _).alloc (Nat.le_refl _) _)
  have h2 : w0.cell? ⟨w.heap.size + 1, 0, none⟩ = some (.slice AM mems.length cM) := by
    rw [← hw0]
    have := RecAt.new (w.alloc (.cells p.vals 37)) #[.slice AM mems.length cM] 60
    rw [World.size_alloc] at this
    exact (this.up ((Below.refl _ _).alloc (Nat.le_refl _) (.cells #[.int .i64 ep] 3))).cell 0
  have h3 : w0.cell? ⟨w.heap.size + 1 + 1, 0, none⟩ = some (.int .i64 ep) := by
    rw [← hw0]
    have := RecAt.new ((w.alloc (.cells p.vals 37)).alloc (.cells #[.slice AM mems.length cM] 60)) #[.int .i64 ep] 3
    rw [World.size_alloc, World.size_alloc] at this
    exact this.cell 0
  clear hw0
  go_wp2_with (go_at_call 54; refine (KK.out _ _ _ _ hB h3 h1 h2).mono ?_; clear KK; rintro e w1 ⟨l2, A2, c2, rfl, hl2, hm2, hb2⟩)
  go_ret
  exact ⟨l2, A2, c2, by first | rfl | simp, hl2, hm2, Below.then hB hb2⟩
end Go.Proofs.Ytcaejanfhchacaa
