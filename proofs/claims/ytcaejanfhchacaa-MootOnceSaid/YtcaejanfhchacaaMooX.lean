/- Layer 23 (moot): a motion that is moved. By contracts. -/
import Derived.Test.YtcaejanfhchacaaMooB
import Derived.Test.YtcaejanfhchacaaMooC
import Derived.Test.YtcaejanfhchacaaMooP
import Derived.Test.YtcaejanfhchacaaMooS
import Derived.Test.YtcaejanfhchacaaParE
import Derived.Test.YtcaejanfhchacaaDeedE
import Derived.Test.YtcaejanfhchacaaSeqR
import Derived.ArgAppend
import Derived.OwnWalk
namespace Go.Proofs.Ytcaejanfhchacaa
open Go.RowKit Go.Shelf
set_option linter.unusedVariables false
set_option linter.unusedSimpArgs false

/-- An answer: motions, a place, and an error's number. -/
def OpenOf (w0 : World) (r : List PMot × Nat × Nat) (e : Ending) (w : World) : Prop :=
  ∃ l A c, e = .returned (.tuple #[.slice A l.length c, .int .i64 (r.2.1 : Int), .int .i64 (r.2.2 : Int)]) ∧ l.map Mot.pure = r.1 ∧ Mots w A c l ∧ Below w0.heap.size w0 w

section
variable {P : Program}
theorem exec_clip {T e : TypeId} {A : Option Addr} {n c z : Nat} {w : World} {o : Oper} {a : Act} (x hi mx : Operand) (ho : o.op = .slice T x none (some hi) (some mx)) (hu : P.underlying T = some (.slice e)) (hs : ∀ w, (sizeOf e).run P w = .ok z w) (hx : a.eval x = .slice A n c) (hhi : a.eval hi = .int .i64 (n : Int)) (hmx : a.eval mx = .int .i64 (n : Int)) (hk : n ≤ c) :
    (execOp a.eval o).run P w = .ok (.value (.slice A n n)) w := by
  have h1 : (0 : Int) ≤ (n : Int) ∧ (n : Int) ≤ (c : Int) := by omega
  have hp := partz_zero z A n
  unfold partz at hp
  unfold execOp
  simp [ho, hx, hhi, hmx, Instr.sliceAt, Instr.slice, Instr.sliceBounds, Instr.sliceBound, run_underlying hu, asIntOf, h1, hs, hk]
  simpa using hp
theorem clip_arm {ops : Array Oper} {rest : List Oper} {Q : Exit → Act → World → Prop} {T e : TypeId} {A : Option Addr} {n c z : Nat} {w : World} {o : Oper} {a : Act} (x hi mx : Operand) (ho : o.op = .slice T x none (some hi) (some mx)) (hgd : Region.wanted o (yielded ops a.tmps) = true) (hu : P.underlying T = some (.slice e)) (hs : ∀ w, (sizeOf e).run P w = .ok z w) (hx : a.eval x = .slice A n c) (hhi : a.eval hi = .int .i64 (n : Int)) (hmx : a.eval mx = .int .i64 (n : Int)) (hk : n ≤ c)
    (h : wpList P ops Q rest (a.put o.dst (.slice A n n)) w) : wpList P ops Q (o :: rest) a w :=
  wpList_step fun K hK => by
    rw [if_pos hgd]
    unfold Oper.wp
    rw [exec_clip x hi mx ho hu hs hx hhi hmx hk]
    exact hK _ _ h
theorem exec_build_rec {o : Oper} {a : Act} (T : TypeId) (parts : Array (Nat × Operand)) (ho : o.op = .build T parts) (cs : Array Value) (hb : P.built T (parts.map fun (i, x) => (i, a.eval x)).toList = some cs) (w : World) :
    (execOp a.eval o).run P w = .ok (.value (.agg cs)) w := by
  unfold execOp
  simp only [ho, Sem.run_bind, run_build w _ _ _ hb, Result.andThen_ok]
  rfl
end
theorem mot_sizeOf (w : World) : (sizeOf 40).run Try.prog w = .ok 33 w := by kernel_rfl
set_option maxRecDepth 100000 in
theorem clip_is (A : Option Addr) (n c : Nat) (w : World) (hc : n ≤ c) : Calls Try.prog 47 #[.slice A n c] w fun e w' => e = .returned (.slice A n n) ∧ w = w' := by
  go_enter Try.func47, Try.ntmps47
  go_wp2_with ((with_reducible refine slot_is 8 rfl ?_); refine clip_arm (A := A) (n := n) (c := c) _ _ _ rfl rfl Try.underlying22 mot_sizeOf rfl rfl rfl hc ?_)
  go_ret
  exact ⟨rfl, rfl⟩

set_option maxRecDepth 100000 in
/-- Nobody's votes. -/
theorem mnone_is (w : World) : Calls Try.prog 87 #[] w fun e w' => ∃ v, e = .returned v ∧ w'.ownsRow w.heap.size 5 1 v 16 (u8s (List.replicate 16 0)) ∧ Below w.heap.size w w' := by
  obtain ⟨i0, hi0, hz0, hz1, hz2⟩ := info_parts u8_info
  have ks := size_ok 128 w (by omega)
  have hmk : ∀ W : World, (Instr.makeSlice 38 (.int .i64 16) (.int .i64 16)).run Try.prog W =
      .ok (.slice (some ⟨W.heap.size, 0, none⟩) 16 16) (W.alloc (.cells (madeCells #[.int .u8 0] 16) 5)) := by
    intro W
    have h := run_make (P := Try.prog) W 38 5 i0 (.int .u8 0) Try.underlying38 hi0 hz0 .i64 .i64 16 16 (by omega) (by omega) (by rw [hz2]; omega) (by omega)
    rw [hz1] at h
    exact h
  clear hi0 hz0 hz1 hz2
  go_enter Try.func87, Try.ntmps87
  go_wp2_with (go_at_call 65; refine ks.mono ?_; clear ks; rintro e w' ⟨rfl, rfl⟩)
  clear hmk
  refine bodyPost_ret (v := .slice (some ⟨w.heap.size, 0, none⟩) 16 16) (by simp [results, Try.results87, go_sem]) rfl ⟨_, rfl, own_zeros w (Nat.le_refl _) 16 (by unfold maxLen; omega), (Below.refl _ w).alloc (Nat.le_refl _) _⟩

theorem deed_par {w : World} {b : Nat} {d : Dd} {A : Option Addr} {c : Nat} {T : TypeId} (h : DeedAt w b d A c T) : LiesAt w ⟨b, 8, none⟩ d.par.vals := fun j v hv => by
  have := h.pars j v hv
  rw [Addr.add_mid]
  exact this

set_option maxRecDepth 100000 in
set_option maxHeartbeats 4000000 in
/-- The motion of a deed. -/
theorem moved_mot (d : Dd) (AD : Option Addr) (cD : Nat) (ends : Int) (w : World) (hd : d.amount < 18446744073709551616) (hp : d.par.Fits) :
    Calls Try.prog 49 #[.agg (d.vals AD cD), .int .i64 ends] w fun e w' => ∃ m : Mot, e = .returned (.agg (Rec.vals m)) ∧ m.pure = movedOf d ends ∧ MotOwn w' w.heap.size m ∧ Below w.heap.size w w' := by
  go_enter Try.func49, Try.ntmps49
  go_upto_region 1 with fail
  generalize hw0 : World.alloc (World.alloc _ _) _ = w0
  have hB : Below w.heap.size w w0 := by rw [← hw0]; exact ((Below.refl _ _).alloc (Nat.le_refl _) _).alloc (by simp) _
  have hD : DeedAt w0 w.heap.size d AD cD 48 := by rw [← hw0]; exact (DeedAt.new w d AD cD 48).next ((Below.refl _ _).alloc (Nat.le_refl _) _)
  have hN : RecAt w0 (w.heap.size + 1) (Rec.vals Mot.zero) 40 := by
    rw [← hw0]
    have := RecAt.new (w.alloc (.cells (d.vals AD cD) 48)) (Rec.vals Mot.zero) 40
    rw [World.size_alloc] at this
    exact this
  have hz0 : w.heap.size ≤ w0.heap.size := hB.size
  clear hw0
  have C1 : ∀ w1, Below w0.heap.size w0 w1 → w1.cell? ⟨w.heap.size, 1, none⟩ = some (.int .i64 d.account) := fun w1 hb => (hD.next hb).k1
  have C3 : ∀ w1, Below w0.heap.size w0 w1 → w1.cell? ⟨w.heap.size, 3, none⟩ = some (.int .i64 d.dest) := fun w1 hb => (hD.next hb).k3
  have C4 : ∀ w1, Below w0.heap.size w0 w1 → w1.cell? ⟨w.heap.size, 4, none⟩ = some (.int .u64 (d.amount : Int)) := fun w1 hb => (hD.next hb).k4
  have C7 : ∀ w1, Below w0.heap.size w0 w1 → w1.cell? ⟨w.heap.size, 7, none⟩ = some (.int .i64 d.what) := fun w1 hb => (hD.next hb).k7
  have CP : ∀ w1, Below w0.heap.size w0 w1 → LiesAt w1 ⟨w.heap.size, 8, none⟩ d.par.vals := fun w1 hb => deed_par (hD.next hb)
  refine region_vary [] 14 (fun w' => Below w0.heap.size w0 w') (by kernel_rfl) (by kernel_rfl) (Below.refl _ _).drew ?_
  simp only [List.take_succ_cons, List.take_zero, List.drop_succ_cons, List.drop_zero]
  refine SeqV.take (fun _ => .pointer (some ⟨w.heap.size, 1, none⟩)) (fun _ => by rfl) (by rfl) (fun _ _ _ => rfl) (fun val w1 hS hR => ?_) ?_; · (go_simp <;> with_reducible rfl)
  simp only [Act.put, List.setIfInBounds_toArray, List.set_cons_zero, List.set_cons_succ]
  refine SeqV.take (fun _ => .int .i64 d.account) (fun _ => by rfl) (by rfl) (fun _ _ _ => rfl) (fun val w1 hS hR => ?_) ?_; · (have x := C1 w1 hS; go_simp <;> with_reducible rfl)
  simp only [Act.put, List.setIfInBounds_toArray, List.set_cons_zero, List.set_cons_succ]
  refine SeqV.take (fun _ => .pointer (some ⟨w.heap.size, 7, none⟩)) (fun _ => by rfl) (by rfl) (fun _ _ _ => rfl) (fun val w1 hS hR => ?_) ?_; · (go_simp <;> with_reducible rfl)
  simp only [Act.put, List.setIfInBounds_toArray, List.set_cons_zero, List.set_cons_succ]
  refine SeqV.take (fun _ => .int .i64 d.what) (fun _ => by rfl) (by rfl) (fun _ _ _ => rfl) (fun val w1 hS hR => ?_) ?_; · (have x := C7 w1 hS; go_simp <;> with_reducible rfl)
  simp only [Act.put, List.setIfInBounds_toArray, List.set_cons_zero, List.set_cons_succ]
  refine SeqV.take (fun _ => .pointer (some ⟨w.heap.size, 8, none⟩)) (fun _ => by rfl) (by rfl) (fun _ _ _ => rfl) (fun val w1 hS hR => ?_) ?_; · (go_simp <;> with_reducible rfl)
  simp only [Act.put, List.setIfInBounds_toArray, List.set_cons_zero, List.set_cons_succ]
  refine SeqV.take (fun _ => .agg d.par.vals) (fun _ => by rfl) (by rfl) (fun _ _ _ => rfl) (fun val w1 hS hR => exec_load_rec 37 _ rfl _ d.par.vals rfl (CP w1 hS) Try.underlying37 apar_size) ?_
  simp only [Act.put, List.setIfInBounds_toArray, List.set_cons_zero, List.set_cons_succ]
  refine SeqV.take (fun _ => .pointer (some ⟨w.heap.size, 3, none⟩)) (fun _ => by rfl) (by rfl) (fun _ _ _ => rfl) (fun val w1 hS hR => ?_) ?_; · (go_simp <;> with_reducible rfl)
  simp only [Act.put, List.setIfInBounds_toArray, List.set_cons_zero, List.set_cons_succ]
  refine SeqV.take (fun _ => .int .i64 d.dest) (fun _ => by rfl) (by rfl) (fun _ _ _ => rfl) (fun val w1 hS hR => ?_) ?_; · (have x := C3 w1 hS; go_simp <;> with_reducible rfl)
  simp only [Act.put, List.setIfInBounds_toArray, List.set_cons_zero, List.set_cons_succ]
  refine SeqV.take (fun _ => .pointer (some ⟨w.heap.size, 4, none⟩)) (fun _ => by rfl) (by rfl) (fun _ _ _ => rfl) (fun val w1 hS hR => ?_) ?_; · (go_simp <;> with_reducible rfl)
  simp only [Act.put, List.setIfInBounds_toArray, List.set_cons_zero, List.set_cons_succ]
  refine SeqV.take (fun _ => .int .u64 (d.amount : Int)) (fun _ => by rfl) (by rfl) (fun _ _ _ => rfl) (fun val w1 hS hR => ?_) ?_; · (have x := C4 w1 hS; go_simp <;> with_reducible rfl)
  simp only [Act.put, List.setIfInBounds_toArray, List.set_cons_zero, List.set_cons_succ]
  refine SeqV.take (fun _ => .int .i64 ends) (fun _ => by rfl) (by rfl) (fun _ _ _ => rfl) (fun val w1 hS hR => ?_) ?_; · (go_simp <;> with_reducible rfl)
  simp only [Act.put, List.setIfInBounds_toArray, List.set_cons_zero, List.set_cons_succ]
  refine SeqV.make (f := 87) (args := fun val => #[]) (fun _ v w1 => w1.ownsRow w0.heap.size 5 1 v 16 (u8s (List.replicate 16 0))) (fun val w1 hS hR => ?_) (fun _ => by rfl) (by rfl) (fun _ _ _ v w1 h => h) (fun _ v w1 w2 h hb => own_kept h hb) (fun val w1 => ?_) ?_
  · exact own_of hS (mnone_is w1)
  · go_simp
  simp only [Act.put, List.setIfInBounds_toArray, List.set_cons_zero, List.set_cons_succ]
  refine SeqV.make (f := 87) (args := fun val => #[]) (fun _ v w1 => w1.ownsRow w0.heap.size 5 1 v 16 (u8s (List.replicate 16 0))) (fun val w1 hS hR => ?_) (fun _ => by rfl) (by rfl) (fun _ _ _ v w1 h => h) (fun _ v w1 w2 h hb => own_kept h hb) (fun val w1 => ?_) ?_
  · exact own_of hS (mnone_is w1)
  · go_simp
  simp only [Act.put, List.setIfInBounds_toArray, List.set_cons_zero, List.set_cons_succ]
  refine SeqV.some (fun _ v w1 => ∃ A1 c1 A2 c2, v = .agg (Rec.vals ((⟨d.account, d.what, d.par, d.dest, d.amount, ends, 0, 1, ⟨A1, List.replicate 16 0, c1⟩, ⟨A2, List.replicate 16 0, c2⟩⟩) : Mot)) ∧ w1.ownsRow w0.heap.size 5 1 (.slice A1 16 c1) 16 (u8s (List.replicate 16 0)) ∧ w1.ownsRow w0.heap.size 5 1 (.slice A2 16 c2) 16 (u8s (List.replicate 16 0))) (fun _ => by rfl) (by rfl) (fun _ _ _ v w h => h) (fun _ v w1 w2 ⟨A1, c1, A2, c2, h1, h2, h3⟩ hb => ⟨A1, c1, A2, c2, h1, own_kept h2 hb, own_kept h3 hb⟩) (fun val w1 hS hR => ?_) ?_
  · have o1 : w1.ownsRow w0.heap.size 5 1 (val 11) 16 (u8s (List.replicate 16 0)) := hR 11 (by kernel_rfl)
    have o2 : w1.ownsRow w0.heap.size 5 1 (val 12) 16 (u8s (List.replicate 16 0)) := hR 12 (by kernel_rfl)
    obtain ⟨A1, c1, e1⟩ := own_slice o1
    obtain ⟨A2, c2, e2⟩ := own_slice o2
    rw [e1] at o1
    rw [e2] at o2
    refine ⟨_, exec_build_rec 40 _ rfl (Rec.vals ((⟨d.account, d.what, d.par, d.dest, d.amount, ends, 0, 1, ⟨A1, List.replicate 16 0, c1⟩, ⟨A2, List.replicate 16 0, c2⟩⟩) : Mot)) (by simp only [e1, e2]; kernel_rfl) w1, A1, c1, A2, c2, rfl, o1, o2⟩
  simp only [Act.put, List.setIfInBounds_toArray, List.set_cons_zero, List.set_cons_succ]
  intro val w5 hS1 hR1 hD1
  obtain ⟨A1, c1, A2, c2, e13, o1, o2⟩ : ∃ A1 c1 A2 c2, val 13 = .agg (Rec.vals ((⟨d.account, d.what, d.par, d.dest, d.amount, ends, 0, 1, ⟨A1, List.replicate 16 0, c1⟩, ⟨A2, List.replicate 16 0, c2⟩⟩) : Mot)) ∧ w5.ownsRow w0.heap.size 5 1 (.slice A1 16 c1) 16 (u8s (List.replicate 16 0)) ∧ w5.ownsRow w0.heap.size 5 1 (.slice A2 16 c2) 16 (u8s (List.replicate 16 0)) := hR1 13 (by decide)
  simp only [e13]
  have hN5 := hN.up hS1
  have hB5 := Below.then hB hS1
  have H1 := Lib.hid (own_base o1 hz0)
  have H2 := Lib.hid (own_base o2 hz0)
  have hgw : w.heap.size + 1 < w0.heap.size := hN.lt
  have O1 := Lib.hid o1
  have O2 := Lib.hid o2
  clear hR1 hD1 C1 C3 C4 C7 CP hD hN hS1 o1 o2 e13 hB
  go_wp2_with (refine store_rec 40 _ _ rfl rfl _ (Rec.vals ((⟨d.account, d.what, d.par, d.dest, d.amount, ends, 0, 1, ⟨A1, List.replicate 16 0, c1⟩, ⟨A2, List.replicate 16 0, c2⟩⟩) : Mot)) (Rec.vals Mot.zero) 40 rfl rfl hN5 size_mot rfl (Rec.one ((⟨d.account, d.what, d.par, d.dest, d.amount, ends, 0, 1, ⟨A1, List.replicate 16 0, c1⟩, ⟨A2, List.replicate 16 0, c2⟩⟩) : Mot)) ?_; intro w6 hR hb6 hz6 hk6; have hB6 := hB5.trans (hb6.mono (Nat.le_succ _)); have G1 := Lib.hid (own_apart O1.out (grown_but hb6 hk6) (fun q e => by have := (O1.out.lt q e).1; simp; omega)); have G2 := Lib.hid (own_apart O2.out (grown_but hb6 hk6) (fun q e => by have := (O2.out.lt q e).1; simp; omega)); clear hz6 hk6 hb6 H1 H2)
  have hfin : (movedOf d ends).Fine := ⟨fun x hx => by have := List.eq_of_mem_replicate hx; omega, fun x hx => by have := List.eq_of_mem_replicate hx; omega, by show (List.replicate 16 0).length ≤ _; simp, by show (List.replicate 16 0).length ≤ _; simp, hd, hp⟩
  refine bodyPost_ret (res_rec1 _ Try.results49 rfl hR Try.underlying40 size_mot) rfl ⟨⟨d.account, d.what, d.par, d.dest, d.amount, ends, 0, 1, ⟨A1, List.replicate 16 0, c1⟩, ⟨A2, List.replicate 16 0, c2⟩⟩, rfl, rfl, ⟨own_base G1.out hz0, own_base G2.out hz0, hfin⟩, hB6⟩


set_option maxRecDepth 100000 in
set_option maxHeartbeats 2000000 in
/-- A motion laid where one was, as a function that took the deed, the epoch and the parameters with it. -/
theorem mopen1_is (d : Dd) (AD : Option Addr) (cD : Nat) (p : Par) (ep : Int) (bD bE bP : Nat) (q : PMot) (w : World) (h1 : DeedAt w bD d AD cD 48) (h2 : w.cell? ⟨bE, 0, none⟩ = some (.int .i64 ep)) (h3 : ParAt w bP p 37) (hd : d.amount < 18446744073709551616) (hp : d.par.Fits) (hep : 0 ≤ ep ∧ ep ≤ 1073741824) (hpo : 0 ≤ p.poll ∧ p.poll ≤ 2147483647) :
    Turns w 48 #[.pointer (some ⟨bD, 0, none⟩), .pointer (some ⟨bE, 0, none⟩), .pointer (some ⟨bP, 0, none⟩)] q (movedOf d (ep + p.poll)) := by
  intro L g n c k cur m u hu hL hM hmq
  have hbE := World.block_lt_of_cell? w _ h2
  have dD : DeedAt u bD d AD cD 48 := h1.below hu h1.lt
  have d2 : u.cell? ⟨bE, 0, none⟩ = some (.int .i64 ep) := (hu.cell hbE).trans h2
  have d3 : u.cell? ⟨bP, 21, none⟩ = some (.int .i64 p.poll) := (h3.below hu h3.lt).cell 21
  have hgL : L ≤ g := (hM.row.lt g rfl).1
  have hgu : g < u.heap.size := (hM.row.lt g rfl).2
  have km := fun W => moved_mot d AD cD (ep + p.poll) W hd hp
  obtain ⟨s, hs⟩ : ∃ s, ep + p.poll = s := ⟨_, rfl⟩
  have we : IntKind.i64.wrap (ep + p.poll) = s := by rw [IntWalk.i64_in _ (by omega)]; exact hs
  rw [hs] at km ⊢
  have KM := Lib.hid km
  have HM := Lib.hid hM
  clear hM h1 h2 h3 km hmq hs hpo hep
  show Calls Try.prog 48 #[.pointer (some ⟨g, k * 33, none⟩), .pointer (some ⟨bD, 0, none⟩), .pointer (some ⟨bE, 0, none⟩), .pointer (some ⟨bP, 0, none⟩)] u _
  go_enter Try.func48, Try.ntmps48
  go_wp2_with (first
    | ((with_reducible refine slot_is 6 rfl ?_); refine load_deed _ rfl rfl _ d AD cD _ rfl dD ?_)
    | (go_at_call 49; refine (KM.out _).mono ?_; clear KM; rintro e w1 ⟨y, rfl, hy, hyo, hb⟩; have HY := Lib.hid hyo; have HR := Lib.hid (own_kept HM.out.row hb); have HB := Lib.hid hb; clear hyo hb)
    | (refine store_row_rec 40 _ _ rfl rfl g k _ _ _ _ cur m y rfl rfl HR.out HM.out.hit size_mot ?_; intro w2 ho2 hg2 hz2))
  go_end0
  have hyo := HY.out.apart HR.out hg2
  exact ⟨rfl, y, hy, ⟨own_base hyo.yes (Nat.le_trans hgL (Nat.le_of_lt hgu)), own_base hyo.no (Nat.le_trans hgL (Nat.le_of_lt hgu)), hyo.fine⟩, ho2, grown_trans (grown_any HB.out _) hg2⟩

/-- One of a list laid anew: the deed's motion. -/
theorem mopen_one (d : Dd) (AD : Option Addr) (cD : Nat) (p : Par) (ep : Int) (hd : d.amount < 18446744073709551616) (hp : d.par.Fits) (hep : 0 ≤ ep ∧ ep ≤ 1073741824) (hpo : 0 ≤ p.poll ∧ p.poll ≤ 2147483647) (l : List Mot) (A : Option Addr) (n c j : Nat) (bD bE bP : Nat) (q : PMot) (W : World) (hn : n = l.length) (hm : Mots W A c l) (hl : l.length ≤ 100000) (hj : (l.map Mot.pure)[j]? = some q)
    (h1 : DeedAt W bD d AD cD 48) (h2 : W.cell? ⟨bE, 0, none⟩ = some (.int .i64 ep)) (h3 : ParAt W bP p 37) :
    Calls Try.prog 33 #[.slice A n c, .int .i64 (j : Int), .func (.func 48) #[] #[.pointer (some ⟨bD, 0, none⟩), .pointer (some ⟨bE, 0, none⟩), .pointer (some ⟨bP, 0, none⟩)]] W fun e w' => JustMots W ((l.map Mot.pure).set j (movedOf d (ep + p.poll))) e w' := by
  subst hn
  have e48 := enters_of (P := Try.prog) Try.func48 (by kernel_rfl) rfl
  have := one_is _ #[.pointer (some ⟨bD, 0, none⟩), .pointer (some ⟨bE, 0, none⟩), .pointer (some ⟨bP, 0, none⟩)] e48 (fun _ => movedOf d (ep + p.poll)) (j : Int) l A c W hm hl (fun j' q' hj' hq => mopen1_is d AD cD p ep bD bE bP q' W h1 h2 h3 hd hp hep hpo)
  rw [mapIdx_one hj] at this
  exact this
theorem mot_zero_at (w : World) : MotAt w Mot.zero := ⟨BvAt.nil w, BvAt.nil w, by decide, dnone_fits⟩

set_option maxRecDepth 100000 in
set_option maxHeartbeats 2000000 in
theorem mopen_param (p : Par) (l : List Mot) (A : Option Addr) (c : Nat) (d : Dd) (AD : Option Addr) (cD : Nat) (ep : Int) (w : World) (hf : p.Fits) (h : ¬ ∃ T, Par.Right p T) :
    Calls Try.prog 15 #[.agg p.vals, .slice A l.length c, .agg (d.vals AD cD), .int .i64 ep] w fun e w' => OpenOf w ([], 0, 70) e w' := by
  have KC := fun W => check_no p W hf h
  clear h hf
  go_enter Try.func15, Try.ntmps15
  go_upto_region 1 with fail
  generalize hw0 : World.alloc (World.alloc (World.alloc _ _) _) _ = w0
  have hB : Below w.heap.size w w0 := by rw [← hw0]; exact (((Below.refl _ _).alloc (Nat.le_refl _) _).alloc (by simp) _).alloc (by simp; omega) _
  have hP : ParAt w0 w.heap.size p 37 := by rw [← hw0]; exact ((ParAt.new w p 37).up ((Below.refl _ _).alloc (Nat.le_refl _) _)).up ((Below.refl _ _).alloc (Nat.le_refl _) _)
  have hD : DeedAt w0 (w.heap.size + 1) d AD cD 48 := by
    rw [← hw0]
    have := DeedAt.new (w.alloc (.cells p.vals 37)) d AD cD 48
    rw [World.size_alloc] at this
    exact this.next ((Below.refl _ _).alloc (Nat.le_refl _) (.cells #[.int .i64 ep] 3))
  have hE : RecAt w0 (w.heap.size + 1 + 1) #[.int .i64 ep] 3 := by
    rw [← hw0]
    have := RecAt.new ((w.alloc (.cells p.vals 37)).alloc (.cells (d.vals AD cD) 48)) #[.int .i64 ep] 3
    rw [World.size_alloc, World.size_alloc] at this
    exact this
  clear hw0
  go_wp2_with (first
    | ((with_reducible refine slot_is 12 rfl ?_); refine load_par _ rfl rfl _ p _ rfl hP ?_)
    | (go_at_call 44; refine (KC _).mono ?_; clear KC; rintro e w1 ⟨rfl, hb⟩; have hP := hP.up hb; have hD := hD.next hb; have hE := hE.up hb; have hB := Below.then hB hb; clear hb; have ke : w1.cell? ⟨w.heap.size + 1 + 1, 0, none⟩ = some (.int .i64 ep) := hE.cell 0))
  go_ret3
  exact ⟨[], _, _, by first | rfl | simp, rfl, Mots.nil _, hB⟩

set_option maxRecDepth 100000 in
set_option maxHeartbeats 2000000 in
theorem mopen_kind (p : Par) (l : List Mot) (A : Option Addr) (c : Nat) (d : Dd) (AD : Option Addr) (cD : Nat) (ep : Int) (w : World) (T : Nat) (h : Par.Right p T) (hk : ¬ d.kind = 6) :
    Calls Try.prog 15 #[.agg p.vals, .slice A l.length c, .agg (d.vals AD cD), .int .i64 ep] w fun e w' => OpenOf w ([], 0, 80) e w' := by
  have KC := fun W => check_ok p T W h
  have b1 : (d.kind == 6) = false := by simp [hk]
  have b2 : (d.kind != 6) = true := by simp [hk]
  clear h hk
  go_enter Try.func15, Try.ntmps15
  go_upto_region 1 with fail
  generalize hw0 : World.alloc (World.alloc (World.alloc _ _) _) _ = w0
  have hB : Below w.heap.size w w0 := by rw [← hw0]; exact (((Below.refl _ _).alloc (Nat.le_refl _) _).alloc (by simp) _).alloc (by simp; omega) _
  have hP : ParAt w0 w.heap.size p 37 := by rw [← hw0]; exact ((ParAt.new w p 37).up ((Below.refl _ _).alloc (Nat.le_refl _) _)).up ((Below.refl _ _).alloc (Nat.le_refl _) _)
  have hD : DeedAt w0 (w.heap.size + 1) d AD cD 48 := by
    rw [← hw0]
    have := DeedAt.new (w.alloc (.cells p.vals 37)) d AD cD 48
    rw [World.size_alloc] at this
    exact this.next ((Below.refl _ _).alloc (Nat.le_refl _) (.cells #[.int .i64 ep] 3))
  have hE : RecAt w0 (w.heap.size + 1 + 1) #[.int .i64 ep] 3 := by
    rw [← hw0]
    have := RecAt.new ((w.alloc (.cells p.vals 37)).alloc (.cells (d.vals AD cD) 48)) #[.int .i64 ep] 3
    rw [World.size_alloc, World.size_alloc] at this
    exact this
  clear hw0
  go_wp2_with (first
    | ((with_reducible refine slot_is 12 rfl ?_); refine load_par _ rfl rfl _ p _ rfl hP ?_)
    | (go_at_call 44; refine (KC _).mono ?_; clear KC; rintro e w1 ⟨rfl, hb⟩; have hP := hP.up hb; have hD := hD.next hb; have hE := hE.up hb; have hB := Below.then hB hb; clear hb; have ke : w1.cell? ⟨w.heap.size + 1 + 1, 0, none⟩ = some (.int .i64 ep) := hE.cell 0; have k0 : w1.cell? ⟨w.heap.size + 1, 0, none⟩ = some (.int .i64 d.kind) := hD.k0))
  go_ret3
  exact ⟨[], _, _, by first | rfl | simp, rfl, Mots.nil _, hB⟩

set_option maxRecDepth 100000 in
set_option maxHeartbeats 2000000 in
theorem mopen_deed (p : Par) (l : List Mot) (A : Option Addr) (c : Nat) (d : Dd) (AD : Option Addr) (cD : Nat) (ep : Int) (w : World) (T : Nat) (h : Par.Right p T) (hk : d.kind = 6) (hf : d.Fits) (hd : ¬ d.Right) :
    Calls Try.prog 15 #[.agg p.vals, .slice A l.length c, .agg (d.vals AD cD), .int .i64 ep] w fun e w' => OpenOf w ([], 0, 80) e w' := by
  have KC := fun W => check_ok p T W h
  have KR := fun W => right_no d AD cD W hf hd
  clear h hf hd
  go_enter Try.func15, Try.ntmps15
  go_upto_region 1 with fail
  generalize hw0 : World.alloc (World.alloc (World.alloc _ _) _) _ = w0
  have hB : Below w.heap.size w w0 := by rw [← hw0]; exact (((Below.refl _ _).alloc (Nat.le_refl _) _).alloc (by simp) _).alloc (by simp; omega) _
  have hP : ParAt w0 w.heap.size p 37 := by rw [← hw0]; exact ((ParAt.new w p 37).up ((Below.refl _ _).alloc (Nat.le_refl _) _)).up ((Below.refl _ _).alloc (Nat.le_refl _) _)
  have hD : DeedAt w0 (w.heap.size + 1) d AD cD 48 := by
    rw [← hw0]
    have := DeedAt.new (w.alloc (.cells p.vals 37)) d AD cD 48
    rw [World.size_alloc] at this
    exact this.next ((Below.refl _ _).alloc (Nat.le_refl _) (.cells #[.int .i64 ep] 3))
  have hE : RecAt w0 (w.heap.size + 1 + 1) #[.int .i64 ep] 3 := by
    rw [← hw0]
    have := RecAt.new ((w.alloc (.cells p.vals 37)).alloc (.cells (d.vals AD cD) 48)) #[.int .i64 ep] 3
    rw [World.size_alloc, World.size_alloc] at this
    exact this
  clear hw0
  go_wp2_with (first
    | ((with_reducible refine slot_is 12 rfl ?_); refine load_par _ rfl rfl _ p _ rfl hP ?_)
    | (go_at_call 44; refine (KC _).mono ?_; clear KC; rintro e w1 ⟨rfl, hb⟩; have hP := hP.up hb; have hD := hD.next hb; have hE := hE.up hb; have hB := Below.then hB hb; clear hb; have ke : w1.cell? ⟨w.heap.size + 1 + 1, 0, none⟩ = some (.int .i64 ep) := hE.cell 0; have k0 : w1.cell? ⟨w.heap.size + 1, 0, none⟩ = some (.int .i64 6) := hD.k0.trans (by rw [hk]))
    | ((with_reducible refine slot_is 21 rfl ?_); refine load_deed _ rfl rfl _ d AD cD _ rfl hD ?_)
    | (go_at_call 45; refine (KR _).mono ?_; clear KR; rintro e w2 ⟨rfl, hb⟩; have hP := hP.up hb; have hD := hD.next hb; have hE := hE.up hb; have hB := Below.then hB hb; clear hb; clear k0 ke; have ke : w2.cell? ⟨w.heap.size + 1 + 1, 0, none⟩ = some (.int .i64 ep) := hE.cell 0))
  go_ret3
  exact ⟨[], _, _, by first | rfl | simp, rfl, Mots.nil _, hB⟩

set_option maxRecDepth 100000 in
set_option maxHeartbeats 2000000 in
theorem mopen_arg (p : Par) (l : List Mot) (A : Option Addr) (c : Nat) (d : Dd) (AD : Option Addr) (cD : Nat) (ep : Int) (w : World) (T : Nat) (h : Par.Right p T) (hk : d.kind = 6) (hd : d.Right) (he : ¬ (0 ≤ ep ∧ ep ≤ 1073741824)) :
    Calls Try.prog 15 #[.agg p.vals, .slice A l.length c, .agg (d.vals AD cD), .int .i64 ep] w fun e w' => OpenOf w ([], 0, 2) e w' := by
  have KC := fun W => check_ok p T W h
  have KR := fun W => right_ok d AD cD W hd
  have KI := fun W => mwithin_is ep 0 1073741824 W
  rw [inB_no he] at KI
  clear h hd he
  go_enter Try.func15, Try.ntmps15
  go_upto_region 1 with fail
  generalize hw0 : World.alloc (World.alloc (World.alloc _ _) _) _ = w0
  have hB : Below w.heap.size w w0 := by rw [← hw0]; exact (((Below.refl _ _).alloc (Nat.le_refl _) _).alloc (by simp) _).alloc (by simp; omega) _
  have hP : ParAt w0 w.heap.size p 37 := by rw [← hw0]; exact ((ParAt.new w p 37).up ((Below.refl _ _).alloc (Nat.le_refl _) _)).up ((Below.refl _ _).alloc (Nat.le_refl _) _)
  have hD : DeedAt w0 (w.heap.size + 1) d AD cD 48 := by
    rw [← hw0]
    have := DeedAt.new (w.alloc (.cells p.vals 37)) d AD cD 48
    rw [World.size_alloc] at this
    exact this.next ((Below.refl _ _).alloc (Nat.le_refl _) (.cells #[.int .i64 ep] 3))
  have hE : RecAt w0 (w.heap.size + 1 + 1) #[.int .i64 ep] 3 := by
    rw [← hw0]
    have := RecAt.new ((w.alloc (.cells p.vals 37)).alloc (.cells (d.vals AD cD) 48)) #[.int .i64 ep] 3
    rw [World.size_alloc, World.size_alloc] at this
    exact this
  clear hw0
  go_wp2_with (first
    | ((with_reducible refine slot_is 12 rfl ?_); refine load_par _ rfl rfl _ p _ rfl hP ?_)
    | (go_at_call 44; refine (KC _).mono ?_; clear KC; rintro e w1 ⟨rfl, hb⟩; have hP := hP.up hb; have hD := hD.next hb; have hE := hE.up hb; have hB := Below.then hB hb; clear hb; have ke : w1.cell? ⟨w.heap.size + 1 + 1, 0, none⟩ = some (.int .i64 ep) := hE.cell 0; have k0 : w1.cell? ⟨w.heap.size + 1, 0, none⟩ = some (.int .i64 6) := hD.k0.trans (by rw [hk]))
    | ((with_reducible refine slot_is 21 rfl ?_); refine load_deed _ rfl rfl _ d AD cD _ rfl hD ?_)
    | (go_at_call 45; refine (KR _).mono ?_; clear KR; rintro e w2 ⟨rfl, hb⟩; have hP := hP.up hb; have hD := hD.next hb; have hE := hE.up hb; have hB := Below.then hB hb; clear hb; clear k0 ke; have ke : w2.cell? ⟨w.heap.size + 1 + 1, 0, none⟩ = some (.int .i64 ep) := hE.cell 0)
    | (go_at_call 30; refine (KI _).mono ?_; clear KI; rintro e w' ⟨rfl, rfl⟩))
  go_ret3
  exact ⟨[], _, _, by first | rfl | simp, rfl, Mots.nil _, hB⟩

set_option maxRecDepth 100000 in
set_option maxHeartbeats 2000000 in
theorem mopen_full (p : Par) (l : List Mot) (A : Option Addr) (c : Nat) (d : Dd) (AD : Option Addr) (cD : Nat) (ep : Int) (w : World) (T : Nat) (h : Par.Right p T) (hk : d.kind = 6) (hd : d.Right) (he : 0 ≤ ep ∧ ep ≤ 1073741824) (hm : Mots w A c l) (hl : l.length ≤ 100000) (h5 : ¬ freeOf (l.map Mot.pure) < 32) :
    Calls Try.prog 15 #[.agg p.vals, .slice A l.length c, .agg (d.vals AD cD), .int .i64 ep] w fun e w' => OpenOf w ([], 0, 161) e w' := by
  have KC := fun W => check_ok p T W h
  have KR := fun W => right_ok d AD cD W hd
  have KI := fun W => mwithin_is ep 0 1073741824 W
  rw [inB_yes he] at KI
  have KF := Lib.hid (fun (W : World) (hB : Below w.heap.size w W) => free_is l A c W (hm.up hB) hl)
  obtain ⟨fr, hfr⟩ : ∃ fr, freeOf (l.map Mot.pure) = fr := ⟨_, rfl⟩
  rw [hfr] at KF h5
  have n1 : decide ((32 : Int) ≤ (fr : Int)) = true := decide_eq_true (by omega)
  have n2 : decide (32 ≤ fr) = true := decide_eq_true (by omega)
  clear h hd he hm h5
  go_enter Try.func15, Try.ntmps15
  go_upto_region 1 with fail
  generalize hw0 : World.alloc (World.alloc (World.alloc _ _) _) _ = w0
  have hB : Below w.heap.size w w0 := by rw [← hw0]; exact (((Below.refl _ _).alloc (Nat.le_refl _) _).alloc (by simp) _).alloc (by simp; omega) _
  have hP : ParAt w0 w.heap.size p 37 := by rw [← hw0]; exact ((ParAt.new w p 37).up ((Below.refl _ _).alloc (Nat.le_refl _) _)).up ((Below.refl _ _).alloc (Nat.le_refl _) _)
  have hD : DeedAt w0 (w.heap.size + 1) d AD cD 48 := by
    rw [← hw0]
    have := DeedAt.new (w.alloc (.cells p.vals 37)) d AD cD 48
    rw [World.size_alloc] at this
    exact this.next ((Below.refl _ _).alloc (Nat.le_refl _) (.cells #[.int .i64 ep] 3))
  have hE : RecAt w0 (w.heap.size + 1 + 1) #[.int .i64 ep] 3 := by
    rw [← hw0]
    have := RecAt.new ((w.alloc (.cells p.vals 37)).alloc (.cells (d.vals AD cD) 48)) #[.int .i64 ep] 3
    rw [World.size_alloc, World.size_alloc] at this
    exact this
  clear hw0
  go_wp2_with (first
    | ((with_reducible refine slot_is 12 rfl ?_); refine load_par _ rfl rfl _ p _ rfl hP ?_)
    | (go_at_call 44; refine (KC _).mono ?_; clear KC; rintro e w1 ⟨rfl, hb⟩; have hP := hP.up hb; have hD := hD.next hb; have hE := hE.up hb; have hB := Below.then hB hb; clear hb; have ke : w1.cell? ⟨w.heap.size + 1 + 1, 0, none⟩ = some (.int .i64 ep) := hE.cell 0; have k0 : w1.cell? ⟨w.heap.size + 1, 0, none⟩ = some (.int .i64 6) := hD.k0.trans (by rw [hk]))
    | ((with_reducible refine slot_is 21 rfl ?_); refine load_deed _ rfl rfl _ d AD cD _ rfl hD ?_)
    | (go_at_call 45; refine (KR _).mono ?_; clear KR; rintro e w2 ⟨rfl, hb⟩; have hP := hP.up hb; have hD := hD.next hb; have hE := hE.up hb; have hB := Below.then hB hb; clear hb; clear k0 ke; have ke : w2.cell? ⟨w.heap.size + 1 + 1, 0, none⟩ = some (.int .i64 ep) := hE.cell 0)
    | (go_at_call 30; refine (KI _).mono ?_; clear KI; rintro e w' ⟨rfl, rfl⟩)
    | (go_at_call 46; refine (KF.out _ hB).mono ?_; clear KF; rintro e w3 ⟨rfl, hb⟩; have hP := hP.up hb; have hD := hD.next hb; have hE := hE.up hb; have hB := Below.then hB hb; clear hb; clear ke; have ke : w3.cell? ⟨w.heap.size + 1 + 1, 0, none⟩ = some (.int .i64 ep) := hE.cell 0))
  go_ret3
  exact ⟨[], _, _, by first | rfl | simp, rfl, Mots.nil _, hB⟩

set_option maxRecDepth 100000 in
set_option maxHeartbeats 2000000 in
theorem mopen_set (p : Par) (l : List Mot) (A : Option Addr) (c : Nat) (d : Dd) (AD : Option Addr) (cD : Nat) (ep : Int) (w : World) (T : Nat) (h : Par.Right p T) (hk : d.kind = 6) (hd : d.Right) (he : 0 ≤ ep ∧ ep ≤ 1073741824) (hm : Mots w A c l) (hl : l.length ≤ 100000) (h5 : freeOf (l.map Mot.pure) < 32) (h6 : freeOf (l.map Mot.pure) < l.length) :
    Calls Try.prog 15 #[.agg p.vals, .slice A l.length c, .agg (d.vals AD cD), .int .i64 ep] w fun e w' => OpenOf w ((l.map Mot.pure).set (freeOf (l.map Mot.pure)) (movedOf d (ep + p.poll)), freeOf (l.map Mot.pure), 0) e w' := by
  have KC := fun W => check_ok p T W h
  have KR := fun W => right_ok d AD cD W hd
  have KI := fun W => mwithin_is ep 0 1073741824 W
  rw [inB_yes he] at KI
  have KF := Lib.hid (fun (W : World) (hB : Below w.heap.size w W) => free_is l A c W (hm.up hB) hl)
  obtain ⟨fr, hfr⟩ : ∃ fr, freeOf (l.map Mot.pure) = fr := ⟨_, rfl⟩
  rw [hfr] at KF h5 h6
  have hda : d.amount < 18446744073709551616 := by cases hd <;> simp_all <;> omega
  have hdp : d.par.Fits := by cases hd <;> first | exact dnone_fits | assumption
  have hpo : 0 ≤ p.poll ∧ p.poll ≤ 2147483647 := by have h0 := h.spans.poll0; have h1 := h.spans.poll1; omega
  have KO := Lib.hid (mopen_one d AD cD p ep hda hdp he hpo)
  have n1 : decide ((32 : Int) ≤ (fr : Int)) = false := decide_eq_false (by omega)
  have n2 : decide (32 ≤ fr) = false := decide_eq_false (by omega)
  obtain ⟨q0, hq0⟩ : ∃ q0, (l.map Mot.pure)[fr]? = some q0 := ⟨_, List.getElem?_eq_getElem (by simpa using h6)⟩
  rw [hfr]
  have HQ := Lib.hid hq0
  have HMS := Lib.hid hm
  have HL := Lib.hid hl
  have z1 : ((fr : Int) == (l.length : Int)) = false := by simp; omega
  have z2 : (fr == l.length) = false := by simp; omega
  clear h hd he hm h5 h6 hda hdp hpo hfr hq0
  go_enter Try.func15, Try.ntmps15
  go_upto_region 1 with fail
  generalize hw0 : World.alloc (World.alloc (World.alloc _ _) _) _ = w0
  have hB : Below w.heap.size w w0 := by rw [← hw0]; exact (((Below.refl _ _).alloc (Nat.le_refl _) _).alloc (by simp) _).alloc (by simp; omega) _
  have hP : ParAt w0 w.heap.size p 37 := by rw [← hw0]; exact ((ParAt.new w p 37).up ((Below.refl _ _).alloc (Nat.le_refl _) _)).up ((Below.refl _ _).alloc (Nat.le_refl _) _)
  have hD : DeedAt w0 (w.heap.size + 1) d AD cD 48 := by
    rw [← hw0]
    have := DeedAt.new (w.alloc (.cells p.vals 37)) d AD cD 48
    rw [World.size_alloc] at this
    exact this.next ((Below.refl _ _).alloc (Nat.le_refl _) (.cells #[.int .i64 ep] 3))
  have hE : RecAt w0 (w.heap.size + 1 + 1) #[.int .i64 ep] 3 := by
    rw [← hw0]
    have := RecAt.new ((w.alloc (.cells p.vals 37)).alloc (.cells (d.vals AD cD) 48)) #[.int .i64 ep] 3
    rw [World.size_alloc, World.size_alloc] at this
    exact this
  clear hw0
  go_wp2_with (first
    | ((with_reducible refine slot_is 12 rfl ?_); refine load_par _ rfl rfl _ p _ rfl hP ?_)
    | (go_at_call 44; refine (KC _).mono ?_; clear KC; rintro e w1 ⟨rfl, hb⟩; have hP := hP.up hb; have hD := hD.next hb; have hE := hE.up hb; have hB := Below.then hB hb; clear hb; have ke : w1.cell? ⟨w.heap.size + 1 + 1, 0, none⟩ = some (.int .i64 ep) := hE.cell 0; have k0 : w1.cell? ⟨w.heap.size + 1, 0, none⟩ = some (.int .i64 6) := hD.k0.trans (by rw [hk]))
    | ((with_reducible refine slot_is 21 rfl ?_); refine load_deed _ rfl rfl _ d AD cD _ rfl hD ?_)
    | (go_at_call 45; refine (KR _).mono ?_; clear KR; rintro e w2 ⟨rfl, hb⟩; have hP := hP.up hb; have hD := hD.next hb; have hE := hE.up hb; have hB := Below.then hB hb; clear hb; clear k0 ke; have ke : w2.cell? ⟨w.heap.size + 1 + 1, 0, none⟩ = some (.int .i64 ep) := hE.cell 0)
    | (go_at_call 30; refine (KI _).mono ?_; clear KI; rintro e w' ⟨rfl, rfl⟩)
    | (go_at_call 46; refine (KF.out _ hB).mono ?_; clear KF; rintro e w3 ⟨rfl, hb⟩; have hP := hP.up hb; have hD := hD.next hb; have hE := hE.up hb; have hB := Below.then hB hb; clear hb; clear ke; have ke : w3.cell? ⟨w.heap.size + 1 + 1, 0, none⟩ = some (.int .i64 ep) := hE.cell 0)
    | (go_at_call 33; refine (KO.out l A l.length c fr (w.heap.size + 1) (w.heap.size + 1 + 1) w.heap.size q0 w3 rfl (HMS.out.up hB) HL.out HQ.out hD ke hP).mono ?_; clear KO; rintro e w6 ⟨l3, A3, c3, rfl, hl3, hm3, hb3⟩; have hB := Below.then hB hb3; have HL3 := Lib.hid hl3; have HM3 := Lib.hid hm3; clear hl3 hm3 hb3))
  go_ret3
  refine ⟨l3, A3, c3, by first | rfl | simp, ?_, HM3.out, hB⟩
  rw [HL3.out]

set_option maxRecDepth 100000 in
set_option maxHeartbeats 2000000 in
theorem mopen_app (p : Par) (l : List Mot) (A : Option Addr) (c : Nat) (d : Dd) (AD : Option Addr) (cD : Nat) (ep : Int) (w : World) (T : Nat) (h : Par.Right p T) (hk : d.kind = 6) (hd : d.Right) (he : 0 ≤ ep ∧ ep ≤ 1073741824) (hm : Mots w A c l) (hl : l.length ≤ 100000) (h5 : freeOf (l.map Mot.pure) < 32) (h6 : freeOf (l.map Mot.pure) = l.length) :
    Calls Try.prog 15 #[.agg p.vals, .slice A l.length c, .agg (d.vals AD cD), .int .i64 ep] w fun e w' => OpenOf w (l.map Mot.pure ++ [movedOf d (ep + p.poll)], freeOf (l.map Mot.pure), 0) e w' := by
  have KC := fun W => check_ok p T W h
  have KR := fun W => right_ok d AD cD W hd
  have KI := fun W => mwithin_is ep 0 1073741824 W
  rw [inB_yes he] at KI
  have KF := Lib.hid (fun (W : World) (hB : Below w.heap.size w W) => free_is l A c W (hm.up hB) hl)
  obtain ⟨fr, hfr⟩ : ∃ fr, freeOf (l.map Mot.pure) = fr := ⟨_, rfl⟩
  rw [hfr] at KF h5 h6
  have hda : d.amount < 18446744073709551616 := by cases hd <;> simp_all <;> omega
  have hdp : d.par.Fits := by cases hd <;> first | exact dnone_fits | assumption
  have hpo : 0 ≤ p.poll ∧ p.poll ≤ 2147483647 := by have h0 := h.spans.poll0; have h1 := h.spans.poll1; omega
  have KO := Lib.hid (mopen_one d AD cD p ep hda hdp he hpo)
  have n1 : decide ((32 : Int) ≤ (fr : Int)) = false := decide_eq_false (by omega)
  have n2 : decide (32 ≤ fr) = false := decide_eq_false (by omega)
  rw [hfr]
  subst h6
  obtain ⟨i0, hi0, hz0, hz1, hz2⟩ := info_parts info_mot
  have hq0 : ((l ++ [Mot.zero]).map Mot.pure)[l.length]? = some Mot.zero.pure := by simp
  have HQ := Lib.hid hq0
  have HMS := Lib.hid hm
  have HL := Lib.hid hl
  have HLE := Lib.hid hm.le
  have hl32 : l.length ≤ 31 := by omega
  have KCL := Lib.hid (fun (W : World) => clip_is A l.length c W hm.le)
  clear h hd he hm h5 hda hdp hpo hfr hq0
  go_enter Try.func15, Try.ntmps15
  go_upto_region 1 with fail
  generalize hw0 : World.alloc (World.alloc (World.alloc _ _) _) _ = w0
  have hB : Below w.heap.size w w0 := by rw [← hw0]; exact (((Below.refl _ _).alloc (Nat.le_refl _) _).alloc (by simp) _).alloc (by simp; omega) _
  have hP : ParAt w0 w.heap.size p 37 := by rw [← hw0]; exact ((ParAt.new w p 37).up ((Below.refl _ _).alloc (Nat.le_refl _) _)).up ((Below.refl _ _).alloc (Nat.le_refl _) _)
  have hD : DeedAt w0 (w.heap.size + 1) d AD cD 48 := by
    rw [← hw0]
    have := DeedAt.new (w.alloc (.cells p.vals 37)) d AD cD 48
    rw [World.size_alloc] at this
    exact this.next ((Below.refl _ _).alloc (Nat.le_refl _) (.cells #[.int .i64 ep] 3))
  have hE : RecAt w0 (w.heap.size + 1 + 1) #[.int .i64 ep] 3 := by
    rw [← hw0]
    have := RecAt.new ((w.alloc (.cells p.vals 37)).alloc (.cells (d.vals AD cD) 48)) #[.int .i64 ep] 3
    rw [World.size_alloc, World.size_alloc] at this
    exact this
  clear hw0
  go_wp2_with (first
    | ((with_reducible refine slot_is 12 rfl ?_); refine load_par _ rfl rfl _ p _ rfl hP ?_)
    | (go_at_call 44; refine (KC _).mono ?_; clear KC; rintro e w1 ⟨rfl, hb⟩; have hP := hP.up hb; have hD := hD.next hb; have hE := hE.up hb; have hB := Below.then hB hb; clear hb; have ke : w1.cell? ⟨w.heap.size + 1 + 1, 0, none⟩ = some (.int .i64 ep) := hE.cell 0; have k0 : w1.cell? ⟨w.heap.size + 1, 0, none⟩ = some (.int .i64 6) := hD.k0.trans (by rw [hk]))
    | ((with_reducible refine slot_is 21 rfl ?_); refine load_deed _ rfl rfl _ d AD cD _ rfl hD ?_)
    | (go_at_call 45; refine (KR _).mono ?_; clear KR; rintro e w2 ⟨rfl, hb⟩; have hP := hP.up hb; have hD := hD.next hb; have hE := hE.up hb; have hB := Below.then hB hb; clear hb; clear k0 ke; have ke : w2.cell? ⟨w.heap.size + 1 + 1, 0, none⟩ = some (.int .i64 ep) := hE.cell 0)
    | (go_at_call 30; refine (KI _).mono ?_; clear KI; rintro e w' ⟨rfl, rfl⟩)
    | (go_at_call 46; refine (KF.out _ hB).mono ?_; clear KF; rintro e w3 ⟨rfl, hb⟩; have hP := hP.up hb; have hD := hD.next hb; have hE := hE.up hb; have hB := Below.then hB hb; clear hb; clear ke; have ke : w3.cell? ⟨w.heap.size + 1 + 1, 0, none⟩ = some (.int .i64 ep) := hE.cell 0)
    | (go_at_call 47; refine (KCL.out _).mono ?_; clear KCL; rintro e w' ⟨rfl, rfl⟩; have HM3 := Lib.hid (HMS.out.up hB))
    | ((with_reducible refine slot_is 38 rfl ?_); refine build_rec 40 _ rfl rfl (Rec.vals Mot.zero) ?_ ?_; · kernel_rfl)
    | (refine list_one_rec 22 40 rfl _ rfl Try.underlying22 (Rec.vals Mot.zero) (Rec.vals Mot.zero) info_mot rfl (by decide) (by decide) (fill_mot Mot.zero) rfl ?_)
    | (at_builtin; refine wpList_append_grows _ rfl _ _ 22 rfl 40 i0 _ (Rec.z Mot) 296 Try.underlying22 hi0 hz0 hz1 hz2 rfl (by decide) A l.length l.length (rows l) rfl ?c1 (rows_len _) ?c2 ⟨w3.heap.size, 0, none⟩ 1 1 (Rec.vals Mot.zero).toList rfl rfl (RecAt.new w3 (Rec.vals Mot.zero) 40).lies (rec_onecell Mot.zero) ?c3 ?c4 ?c5 ?_))
  case c1 =>
    intro e
    have h0 : l = [] := by
      have := HMS.out.row
      rw [e] at this
      exact rows_none this
    rw [h0]
    exact ⟨rfl, rfl⟩
  case c2 =>
    intro b hb j u hu
    obtain ⟨a', ha', hlt, hc⟩ := HM3.out.row j u hu
    rw [hb] at ha'
    cases ha'
    rw [World.cell?_alloc_lt _ _ _ (by rw [addr_block]; exact hlt)]
    exact hc
  case c3 => exact Nat.lt_succ_self _
  case c4 => simp only [maxLen]; omega
  case c5 => omega
  intro v4 w4 ho4 hg4
  rw [← rows_snoc] at ho4
  obtain ⟨A4, c4, rfl⟩ := own_slice ho4
  have hb4 : Below w3.heap.size w3 w4 := (((Below.refl w3.heap.size w3).alloc (Nat.le_refl _) _).grown hg4 (by simp) (fun k hk => by cases hk))
  have hS := own_sl (b := 296) ho4 (by omega)
  have hMS2 : Mots w4 A4 c4 (l ++ [Mot.zero]) := ⟨by rw [List.length_append]; exact hS.le, hS.most, hS.none, hS.row, fun m hm => by
    rcases List.mem_append.1 hm with h | h
    · exact (HM3.out.each m h).up hb4
    · simp only [List.mem_cons, List.not_mem_nil, or_false] at h
      rw [h]; exact mot_zero_at w4⟩
  have HMS2 := Lib.hid hMS2
  have hP := hP.up hb4
  have hD := hD.next hb4
  have hE := hE.up hb4
  have hB := Below.then hB hb4
  have ke4 : w4.cell? ⟨w.heap.size + 1 + 1, 0, none⟩ = some (.int .i64 ep) := hE.cell 0
  have HLN2 := Lib.hid (show l.length + 1 = (l ++ [Mot.zero]).length by simp)
  have HLL2 := Lib.hid (show (l ++ [Mot.zero]).length ≤ 100000 by rw [List.length_append]; simp; omega)
  clear ho4 hg4 hb4 hS hMS2 ke
  go_wp2_with (go_at_call 33; refine (KO.out (l ++ [Mot.zero]) A4 (l.length + 1) c4 l.length (w.heap.size + 1) (w.heap.size + 1 + 1) w.heap.size Mot.zero.pure w4 HLN2.out HMS2.out HLL2.out HQ.out hD ke4 hP).mono ?_; clear KO; rintro e w6 ⟨l3, A3, c3, rfl, hl3, hm3, hb3⟩; have hB := Below.then hB hb3; have HL3 := Lib.hid hl3; have HM3 := Lib.hid hm3; clear hl3 hm3 hb3)
  go_ret3
  refine ⟨l3, A3, c3, by first | rfl | simp, ?_, HM3.out, hB⟩
  rw [HL3.out]
  show (List.map Mot.pure (l ++ [Mot.zero])).set l.length _ = _
  rw [List.map_append, List.set_append_right _ _ (by simp)]
  simp

/-- What comes of a motion that is moved. -/
theorem mopen_is (p : Par) (l : List Mot) (A : Option Addr) (c : Nat) (d : Dd) (AD : Option Addr) (cD : Nat) (ep : Int) (w : World) (hp : p.Fits) (hd : d.Fits) (hm : Mots w A c l) (hl : l.length ≤ 100000) :
    Calls Try.prog 15 #[.agg p.vals, .slice A l.length c, .agg (d.vals AD cD), .int .i64 ep] w fun e w' => OpenOf w (popen p (l.map Mot.pure) d ep) e w' := by
  unfold popen
  by_cases h1 : ∃ T, Par.Right p T
  · rw [if_pos h1]
    obtain ⟨T, hT⟩ := h1
    by_cases h2 : d.kind = 6 ∧ d.Right
    · rw [if_pos h2]
      by_cases h3 : 0 ≤ ep ∧ ep ≤ 1073741824
      · rw [if_pos h3]
        by_cases h5 : freeOf (l.map Mot.pure) < 32
        · rw [if_pos h5]
          by_cases h6 : freeOf (l.map Mot.pure) = (l.map Mot.pure).length
          · rw [if_pos h6]
            exact mopen_app p l A c d AD cD ep w T hT h2.1 h2.2 h3 hm hl h5 (by rw [h6, List.length_map])
          · rw [if_neg h6]
            have := freeOf_le (l.map Mot.pure)
            rw [List.length_map] at this h6
            exact mopen_set p l A c d AD cD ep w T hT h2.1 h2.2 h3 hm hl h5 (by omega)
        · rw [if_neg h5]
          exact mopen_full p l A c d AD cD ep w T hT h2.1 h2.2 h3 hm hl h5
      · rw [if_neg h3]
        exact mopen_arg p l A c d AD cD ep w T hT h2.1 h2.2 h3
    · rw [if_neg h2]
      by_cases hk : d.kind = 6
      · exact mopen_deed p l A c d AD cD ep w T hT hk hd (fun h => h2 ⟨hk, h⟩)
      · exact mopen_kind p l A c d AD cD ep w T hT hk
  · rw [if_neg h1]
    exact mopen_param p l A c d AD cD ep w hp h1
end Go.Proofs.Ytcaejanfhchacaa
