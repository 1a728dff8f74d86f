/- Layer 23 (moot): motions held against the same ones; a law's motions as the document has them; whether they are few. By contracts. -/
import Derived.Test.YtcaejanfhchacaaMooC
import Derived.Test.YtcaejanfhchacaaMooW
import Derived.Test.YtcaejanfhchacaaParL
import Derived.Test.YtcaejanfhchacaaSeqV
namespace Go.Proofs.Ytcaejanfhchacaa
open Go.RowKit
set_option linter.unusedVariables false
set_option linter.unusedSimpArgs false

/-- Some of what lies in a block. -/
theorem RecAt.sub {w : World} {b : Nat} {cs sub : Array Value} {T : TypeId} (h : RecAt w b cs T) (off : Nat) (hs : ∀ j v, sub.toList[j]? = some v → cs[off + j]? = some v) : LiesAt w ⟨b, off, none⟩ sub := fun j v hv => by
  rw [Addr.add_mid, h.cell]
  exact hs j v hv
theorem mot_par (m : Mot) : ∀ j v, m.p.vals.toList[j]? = some v → (Rec.vals m)[2 + j]? = some v := fun j v hv => by
  have e : ((Rec.vals m).toList.drop 2).take 24 = m.p.vals.toList := rfl
  have hj : j < 24 := by
    have h1 := (List.getElem?_eq_some_iff.1 hv).1
    exact h1
  rw [← e, List.getElem?_take, if_pos hj, List.getElem?_drop, Array.getElem?_toList] at hv
  exact hv
theorem rpar_size : (Try.prog.info? 43).map (·.size) = some 24 := by kernel_rfl
theorem apar_size : (Try.prog.info? 37).map (·.size) = some 24 := by kernel_rfl

set_option maxRecDepth 100000 in
set_option maxHeartbeats 4000000 in
theorem rsame23_is (m m' : Mot) (w : World) (h : MotAt w m) (h' : MotAt w m') (e : m'.pure = m.pure) :
    Calls Try.prog 40 #[.agg (Rec.vals m), .agg (Rec.vals m')] w fun e w' => e = .returned (.bool true) ∧ Below w.heap.size w w' := by
  have e_acct : m'.acct = m.acct := congrArg PMot.acct e
  have e_what : m'.what = m.what := congrArg PMot.what e
  have e_dest : m'.dest = m.dest := congrArg PMot.dest e
  have e_amt : m'.amt = m.amt := congrArg PMot.amt e
  have e_ends : m'.ends = m.ends := congrArg PMot.ends e
  have e_due : m'.due = m.due := congrArg PMot.due e
  have e_st : m'.st = m.st := congrArg PMot.st e
  have e_p : m'.p = m.p := congrArg PMot.p e
  have e_y : m'.yes.bs = m.yes.bs := congrArg PMot.yes e
  have e_n : m'.no.bs = m.no.bs := congrArg PMot.no e
  obtain ⟨w2, hw2⟩ : ∃ w2, (w.alloc (.cells (Rec.vals m) 45)).alloc (.cells (Rec.vals m') 45) = w2 := ⟨_, rfl⟩
  have hB : Below w.heap.size w ((w.alloc (.cells (Rec.vals m) 45)).alloc (.cells (Rec.vals m') 45)) := ((Below.refl _ _).alloc (Nat.le_refl _) _).alloc (by simp) _
  have hD : RecAt ((w.alloc (.cells (Rec.vals m) 45)).alloc (.cells (Rec.vals m') 45)) w.heap.size (Rec.vals m) 45 := (RecAt.new w (Rec.vals m) 45).up ((Below.refl _ _).alloc (Nat.le_refl _) _)
  have hN : RecAt ((w.alloc (.cells (Rec.vals m) 45)).alloc (.cells (Rec.vals m') 45)) (w.heap.size + 1) (Rec.vals m') 45 := by
    have := RecAt.new (w.alloc (.cells (Rec.vals m) 45)) (Rec.vals m') 45
    rw [World.size_alloc] at this
    exact this
  have ks := fun (b b' : BV) (W : World) (eb : b'.bs = b.bs) (hb : BvAt W b) (hb' : BvAt W b') => same_true b.bs _ _ b.row b'.row b.cap b'.cap W (Lies.ofRow hb.sl.row) (by rw [← eb]; exact Lies.ofRow hb'.sl.row) (by have := hb.sl.le; have := hb.sl.most; omega)
  have KY := Lib.hid (fun (W : World) (hB : Below w.heap.size w W) => ks m.yes m'.yes W e_y (h.yes.up hB) (h'.yes.up hB))
  have KN := Lib.hid (fun (W : World) (hB : Below w.heap.size w W) => ks m.no m'.no W e_n (h.no.up hB) (h'.no.up hB))
  have hP := hD.sub 2 (mot_par m)
  have hQ : LiesAt ((w.alloc (.cells (Rec.vals m) 45)).alloc (.cells (Rec.vals m') 45)) ⟨w.heap.size + 1, 2, none⟩ m.p.vals := by have := hN.sub 2 (mot_par m'); rw [e_p] at this; exact this
  have c_acct : ((w.alloc (.cells (Rec.vals m) 45)).alloc (.cells (Rec.vals m') 45)).cell? ⟨w.heap.size, 0, none⟩ = some (.int .i64 m.acct) := hD.cell 0
  have d_acct : ((w.alloc (.cells (Rec.vals m) 45)).alloc (.cells (Rec.vals m') 45)).cell? ⟨w.heap.size + 1, 0, none⟩ = some (.int .i64 m.acct) := (hN.cell 0).trans (by show some (Value.int .i64 m'.acct) = _; rw [e_acct])
  have c_what : ((w.alloc (.cells (Rec.vals m) 45)).alloc (.cells (Rec.vals m') 45)).cell? ⟨w.heap.size, 1, none⟩ = some (.int .i64 m.what) := hD.cell 1
  have d_what : ((w.alloc (.cells (Rec.vals m) 45)).alloc (.cells (Rec.vals m') 45)).cell? ⟨w.heap.size + 1, 1, none⟩ = some (.int .i64 m.what) := (hN.cell 1).trans (by show some (Value.int .i64 m'.what) = _; rw [e_what])
  have c_dest : ((w.alloc (.cells (Rec.vals m) 45)).alloc (.cells (Rec.vals m') 45)).cell? ⟨w.heap.size, 26, none⟩ = some (.int .i64 m.dest) := hD.cell 26
  have d_dest : ((w.alloc (.cells (Rec.vals m) 45)).alloc (.cells (Rec.vals m') 45)).cell? ⟨w.heap.size + 1, 26, none⟩ = some (.int .i64 m.dest) := (hN.cell 26).trans (by show some (Value.int .i64 m'.dest) = _; rw [e_dest])
  have c_amt : ((w.alloc (.cells (Rec.vals m) 45)).alloc (.cells (Rec.vals m') 45)).cell? ⟨w.heap.size, 27, none⟩ = some (.int .u64 (m.amt : Int)) := hD.cell 27
  have d_amt : ((w.alloc (.cells (Rec.vals m) 45)).alloc (.cells (Rec.vals m') 45)).cell? ⟨w.heap.size + 1, 27, none⟩ = some (.int .u64 (m.amt : Int)) := (hN.cell 27).trans (by show some (Value.int .u64 (m'.amt : Int)) = _; rw [e_amt])
  have c_ends : ((w.alloc (.cells (Rec.vals m) 45)).alloc (.cells (Rec.vals m') 45)).cell? ⟨w.heap.size, 28, none⟩ = some (.int .i64 m.ends) := hD.cell 28
  have d_ends : ((w.alloc (.cells (Rec.vals m) 45)).alloc (.cells (Rec.vals m') 45)).cell? ⟨w.heap.size + 1, 28, none⟩ = some (.int .i64 m.ends) := (hN.cell 28).trans (by show some (Value.int .i64 m'.ends) = _; rw [e_ends])
  have c_due : ((w.alloc (.cells (Rec.vals m) 45)).alloc (.cells (Rec.vals m') 45)).cell? ⟨w.heap.size, 29, none⟩ = some (.int .i64 m.due) := hD.cell 29
  have d_due : ((w.alloc (.cells (Rec.vals m) 45)).alloc (.cells (Rec.vals m') 45)).cell? ⟨w.heap.size + 1, 29, none⟩ = some (.int .i64 m.due) := (hN.cell 29).trans (by show some (Value.int .i64 m'.due) = _; rw [e_due])
  have c_st : ((w.alloc (.cells (Rec.vals m) 45)).alloc (.cells (Rec.vals m') 45)).cell? ⟨w.heap.size, 30, none⟩ = some (.int .i64 m.st) := hD.cell 30
  have d_st : ((w.alloc (.cells (Rec.vals m) 45)).alloc (.cells (Rec.vals m') 45)).cell? ⟨w.heap.size + 1, 30, none⟩ = some (.int .i64 m.st) := (hN.cell 30).trans (by show some (Value.int .i64 m'.st) = _; rw [e_st])
  have c_y : ((w.alloc (.cells (Rec.vals m) 45)).alloc (.cells (Rec.vals m') 45)).cell? ⟨w.heap.size, 31, none⟩ = some (.slice m.yes.row m.yes.bs.length m.yes.cap) := hD.cell 31; have d_y : ((w.alloc (.cells (Rec.vals m) 45)).alloc (.cells (Rec.vals m') 45)).cell? ⟨w.heap.size + 1, 31, none⟩ = some (.slice m'.yes.row m.yes.bs.length m'.yes.cap) := (hN.cell 31).trans (by show some (Value.slice m'.yes.row m'.yes.bs.length m'.yes.cap) = _; rw [e_y])
  have EY := Lib.hid e_y
  have EN := Lib.hid e_n
  clear h h' e ks hw2 e_y e_n e_p e_acct e_what e_dest e_amt e_ends e_due e_st
  go_enter Try.func40, Try.ntmps40
  dsimp only [List.append_eq, List.cons_append, List.nil_append]
  go_wp2_with (first
    | (refine load_rec 43 _ rfl rfl ⟨w.heap.size, 2, none⟩ m.p.vals rfl hP Try.underlying43 rpar_size ?_)
    | (refine load_rec 43 _ rfl rfl ⟨w.heap.size + 1, 2, none⟩ m.p.vals rfl hQ Try.underlying43 rpar_size ?_)
    | (refine op_eqr _ _ _ rfl rfl m.p rfl rfl ?_)
    | (go_at_call 71; refine (KY.out _ hB).mono ?_; clear KY; rintro e w3 ⟨rfl, hb⟩; have hD := hD.up hb; have hN := hN.up hb; have hB := Below.then hB hb; clear hb c_y d_y hP hQ c_acct d_acct c_what d_what c_dest d_dest c_amt d_amt c_ends d_ends c_due d_due c_st d_st; have e_n := EN.out; have c_n : w3.cell? ⟨w.heap.size, 32, none⟩ = some (.slice m.no.row m.no.bs.length m.no.cap) := hD.cell 32; have d_n : w3.cell? ⟨w.heap.size + 1, 32, none⟩ = some (.slice m'.no.row m.no.bs.length m'.no.cap) := (hN.cell 32).trans (by show some (Value.slice m'.no.row m'.no.bs.length m'.no.cap) = _; rw [e_n]); clear e_n)
    | (go_at_call 71; refine (KN.out _ hB).mono ?_; clear KN; rintro e w4 ⟨rfl, hb⟩; have hB := Below.then hB hb; clear hb))
  go_ret
  exact ⟨by first | rfl | simp, hB⟩

set_option maxRecDepth 100000 in
set_option maxHeartbeats 4000000 in
theorem rsamelist_is (l l' : List Mot) (A A' : Option Addr) (c c' : Nat) (w : World) (hm : Mots w A c l) (hm' : Mots w A' c' l') (e : l'.map Mot.pure = l.map Mot.pure) (hl : l.length ≤ 100000) :
    Calls Try.prog 12 #[.slice A l.length c, .slice A' l'.length c'] w fun e w' => e = .returned (.bool true) ∧ Below w.heap.size w w' := by
  have hlen : l'.length = l.length := by have := congrArg List.length e; simpa using this
  have hpp : ∀ (k : Nat) (x x' : Mot), l[k]? = some x → l'[k]? = some x' → x'.pure = x.pure := fun k x x' hx hx' => by
    have h := congrArg (fun L : List PMot => L[k]?) e
    simp only [List.getElem?_map, hx, hx', Option.map_some, Option.some.injEq] at h
    exact h
  rw [hlen]
  have HM := Lib.hid hm
  have HM2 := Lib.hid hm'
  have HLN := Lib.hid hlen
  have HPP := Lib.hid hpp
  clear hm hm' e hlen hpp
  go_enter Try.func12, Try.ntmps12
  go_wp2
  go_loopw [5] (fun iv wr => ∃ (k : Nat), k ≤ l.length ∧ iv = .int .i64 (k : Int) ∧ Below w.heap.size w wr) (fun iv _ => l.length - (intOf iv).toNat)
  case atStart => exact ⟨0, Nat.zero_le _, rfl, Below.refl _ _⟩
  case round =>
    obtain ⟨k, hk, rfl, hB⟩ := hrel
    by_cases hlt : k < l.length
    · obtain ⟨x, hx⟩ : ∃ x, l[k]? = some x := ⟨_, List.getElem?_eq_getElem hlt⟩
      obtain ⟨x', hx'⟩ : ∃ x', l'[k]? = some x' := ⟨_, List.getElem?_eq_getElem (by rw [HLN.out]; exact hlt)⟩
      obtain ⟨a, rfl, hab, hat, hM⟩ := (HM.out.up hB).at hx
      obtain ⟨a', rfl, hab', hat', hM'⟩ := (HM2.out.up hB).at hx'
      have hki : (k : Int) < (l.length : Int) := by omega
      have hk0 : (0 : Int) ≤ (k : Int) := by omega
      have L1 : ∀ w', Below wr.heap.size wr w' → LiesAt w' (a.add (k * 33)) (Rec.vals x) := fun w' h => hat.up h
      have L2 : ∀ w', Below wr.heap.size wr w' → LiesAt w' (a'.add (k * 33)) (Rec.vals x') := fun w' h => hat'.up h
      have ks : ∀ w', Below wr.heap.size wr w' → Calls Try.prog 40 #[.agg (Rec.vals x), .agg (Rec.vals x')] w' fun e w2 => e = .returned (.bool true) ∧ Below wr.heap.size wr w2 ∧ Below w'.heap.size w' w2 :=
        fun w' h => (rsame23_is x x' w' (hM.up h) (hM'.up h) (HPP.out k x x' hx hx')).mono (by rintro e w2 ⟨rfl, hb⟩; exact ⟨rfl, Below.then h hb, hb⟩)
      clear hx hx' hab hab' hat hat' hM hM'
      go_upto_region 6 with fail
      refine region_vary [] 10 (fun w' => Below wr.heap.size wr w') (by kernel_rfl) (by kernel_rfl) (Below.refl _ _).drew ?_
      simp only [List.take_succ_cons, List.take_zero, List.drop_succ_cons, List.drop_zero]
      refine SeqV.take (fun _ => .slice (some a) l.length c) (fun _ => by rfl) (by rfl) (fun _ _ _ => rfl) (fun val w1 hS hR => ?_) ?_; · (go_simp <;> with_reducible rfl)
      simp only [Act.put, List.setIfInBounds_toArray, List.set_cons_zero, List.set_cons_succ]
      refine SeqV.take (fun _ => .int .i64 (k : Int)) (fun _ => by rfl) (by rfl) (fun _ _ _ => rfl) (fun val w1 hS hR => ?_) ?_; · (go_simp <;> with_reducible rfl)
      simp only [Act.put, List.setIfInBounds_toArray, List.set_cons_zero, List.set_cons_succ]
      refine SeqV.take (fun _ => .pointer (some (a.add (k * 33)))) (fun _ => by rfl) (by rfl) (fun _ _ _ => rfl) (fun val w1 hS hR => ?_) ?_; · (go_simp <;> with_reducible rfl)
      simp only [Act.put, List.setIfInBounds_toArray, List.set_cons_zero, List.set_cons_succ]
      refine SeqV.take (fun _ => .agg (Rec.vals x)) (fun _ => by rfl) (by rfl) (fun _ _ _ => rfl) (fun val w1 hS hR => exec_load_rec 45 _ rfl _ (Rec.vals x) rfl (L1 w1 hS) Try.underlying45 size_rmot) ?_
      simp only [Act.put, List.setIfInBounds_toArray, List.set_cons_zero, List.set_cons_succ]
      refine SeqV.take (fun _ => .slice (some a') l.length c') (fun _ => by rfl) (by rfl) (fun _ _ _ => rfl) (fun val w1 hS hR => ?_) ?_; · (go_simp <;> with_reducible rfl)
      simp only [Act.put, List.setIfInBounds_toArray, List.set_cons_zero, List.set_cons_succ]
      refine SeqV.take (fun _ => .int .i64 (k : Int)) (fun _ => by rfl) (by rfl) (fun _ _ _ => rfl) (fun val w1 hS hR => ?_) ?_; · (go_simp <;> with_reducible rfl)
      simp only [Act.put, List.setIfInBounds_toArray, List.set_cons_zero, List.set_cons_succ]
      refine SeqV.take (fun _ => .pointer (some (a'.add (k * 33)))) (fun _ => by rfl) (by rfl) (fun _ _ _ => rfl) (fun val w1 hS hR => ?_) ?_; · (go_simp <;> with_reducible rfl)
      simp only [Act.put, List.setIfInBounds_toArray, List.set_cons_zero, List.set_cons_succ]
      refine SeqV.take (fun _ => .agg (Rec.vals x')) (fun _ => by rfl) (by rfl) (fun _ _ _ => rfl) (fun val w1 hS hR => exec_load_rec 45 _ rfl _ (Rec.vals x') rfl (L2 w1 hS) Try.underlying45 size_rmot) ?_
      simp only [Act.put, List.setIfInBounds_toArray, List.set_cons_zero, List.set_cons_succ]
      refine SeqV.call (f := 40) (args := fun val => #[.agg (Rec.vals x), .agg (Rec.vals x')]) (fun _ => .bool true) (fun val w1 hS hR => ks w1 hS) (fun _ => by rfl) (by rfl) (fun _ _ _ => rfl) (fun val w1 => ?_) ?_
      · go_simp
      simp only [Act.put, List.setIfInBounds_toArray, List.set_cons_zero, List.set_cons_succ]
      refine SeqV.take (fun _ => .bool false) (fun _ => by rfl) (by rfl) (fun _ _ _ => rfl) (fun val w1 hS hR => ?_) ?_; · (go_simp <;> with_reducible rfl)
      simp only [Act.put, List.setIfInBounds_toArray, List.set_cons_zero, List.set_cons_succ]
      intro val w5 hS1 hR1 hD1
      have hB5 := Below.then hB hS1
      clear hR1 hD1 hS1 ks L1 L2
      refine wpList_nil ?_
      go_wp2
      go_roundw
      case rel => exact ⟨k + 1, by omega, by go_num, hB5⟩
      case measure => simp [intOf]; omega
    · obtain rfl : k = l.length := by omega
      go_wp2
      go_ret
      exact ⟨by first | rfl | simp, hB⟩

theorem fill_mot (m : Mot) : Instr.fill (fun i => some (i * (Rec.vals m).size, (Rec.vals m).size)) ((Array.range (1 * (Rec.vals m).size)).map ((Value.agg (Rec.vals Mot.zero)).cells[· % (Value.agg (Rec.vals Mot.zero)).cells.size]!)) [(0, .agg (Rec.vals m))] = some (Rec.vals m) := by kernel_rfl
set_option maxRecDepth 100000 in
set_option maxHeartbeats 4000000 in
/-- A law's motions, as the document has them. -/
theorem lplain23_is (l : List Mot) (A : Option Addr) (c : Nat) (w : World) (hm : Mots w A c l) (hl : l.length ≤ 100000) :
    Calls Try.prog 11 #[.slice A l.length c] w fun e w' => ∃ A' c', e = .returned (.slice A' l.length c') ∧ Mots w' A' c' l ∧ Below w.heap.size w w' := by
  obtain ⟨i0, hi0, hz0, hz1, hz2⟩ := info_parts info_rmot
  have HM := Lib.hid hm
  clear hm
  go_enter Try.func11, Try.ntmps11
  go_wp2
  go_loopw [3, 8] (fun v3 iv wr => ∃ (k : Nat), k ≤ l.length ∧ iv = .int .i64 (k : Int) ∧ Hid (wr.ownsRow w.heap.size 45 (Rec.z Mot) v3 k (rows (l.take k))) ∧ Below w.heap.size w wr) (fun _ iv _ => l.length - (intOf iv).toNat)
  case atStart => exact ⟨0, Nat.zero_le _, rfl, Lib.hid (World.ownsRow_nil _ _ _ _), Below.refl _ _⟩
  case round =>
    obtain ⟨k, hk, rfl, HO4, hB⟩ := hrel
    by_cases hlt : k < l.length
    · obtain ⟨m, hs⟩ : ∃ m, l[k]? = some m := ⟨_, List.getElem?_eq_getElem hlt⟩
      obtain ⟨a, rfl, hab, hat, hM⟩ := (HM.out.up hB).at hs
      have HN := Lib.hid (rows_next hs)
      have hki : (k : Int) < (l.length : Int) := by omega
      have hk0 : (0 : Int) ≤ (k : Int) := by omega
      clear hs hab hM
      go_wp2_with (first
        | ((with_reducible refine slot_is 11 rfl ?_); refine load_rec 40 _ rfl rfl _ (Rec.vals m) rfl hat Try.underlying40 size_mot ?_)
        | (refine store_rec 40 _ _ rfl rfl _ (Rec.vals m) (Rec.vals Mot.zero) 40 rfl rfl (RecAt.new _ (Rec.vals Mot.zero) _) size_mot rfl (Rec.one m) ?_; intro w2 hS2 hb2 hsz hkp; clear hsz hkp; have hb2 := rec_made (Below.refl _ _) hb2; have HO42 := Lib.hid (own_kept HO4.out hb2); have hB2 := Below.then hB hb2; clear hb2 hat; have hP := hS2.sub 2 (mot_par m); have k_acct : w2.cell? ⟨_, 0, none⟩ = some (.int .i64 m.acct) := hS2.cell 0; have k_what : w2.cell? ⟨_, 1, none⟩ = some (.int .i64 m.what) := hS2.cell 1; have k_dest : w2.cell? ⟨_, 26, none⟩ = some (.int .i64 m.dest) := hS2.cell 26; have k_amt : w2.cell? ⟨_, 27, none⟩ = some (.int .u64 (m.amt : Int)) := hS2.cell 27; have k_ends : w2.cell? ⟨_, 28, none⟩ = some (.int .i64 m.ends) := hS2.cell 28; have k_due : w2.cell? ⟨_, 29, none⟩ = some (.int .i64 m.due) := hS2.cell 29; have k_st : w2.cell? ⟨_, 30, none⟩ = some (.int .i64 m.st) := hS2.cell 30; have c31 : w2.cell? ⟨_, 31, none⟩ = some (.slice m.yes.row m.yes.bs.length m.yes.cap) := hS2.cell 31; have c32 : w2.cell? ⟨_, 32, none⟩ = some (.slice m.no.row m.no.bs.length m.no.cap) := hS2.cell 32)
        | ((with_reducible refine slot_is 18 rfl ?_); refine load_rec 37 _ rfl rfl ⟨_, 2, none⟩ m.p.vals rfl hP Try.underlying37 apar_size ?_)
        | ((with_reducible refine slot_is 33 rfl ?_); refine build_rec 45 _ rfl rfl (Rec.vals m) ?_ ?_; · kernel_rfl)
        | (refine list_one_rec 30 45 rfl _ rfl Try.underlying30 (Rec.vals m) (Rec.vals Mot.zero) info_rmot rfl (by decide) (by decide) (fill_mot m) rfl ?_)
        | (at_builtin; refine wpList_append_lies _ rfl _ _ 30 rfl w.heap.size 45 i0 _ (Rec.z Mot) 296 Try.underlying30 hi0 hz0 hz1 hz2 rfl (by decide) _ k (rows (l.take k)) rfl (own_kept HO42.out ((Below.refl _ _).alloc (Nat.le_refl _) _)) ⟨w2.heap.size, 0, none⟩ 1 1 (Rec.vals m).toList rfl rfl (RecAt.new w2 (Rec.vals m) 45).lies (rec_onecell m) (by decide) ?c1 ?c2 ?c3 _ rfl ?_))
      case c1 => simp only [maxLen]; omega
      case c2 => omega
      case c3 => exact Nat.le_trans hB2.size (by first | exact Nat.le_succ _ | simp)
      intro g cap w7 hown7 hg7 hat7 hlt7
      have hB7 : Below w.heap.size w w7 := (hB2.alloc hB2.size _).grown hg7 (Nat.le_trans hB2.size (by simp)) (fun b hb => (HO42.out.lt b hb).1)
      rw [← HN.out] at hown7
      have HO47 := Lib.hid hown7
      clear hown7 hg7 hat7 hlt7 HO4 HO42
      go_wp2
      go_roundw
      case rel => exact ⟨k + 1, by omega, by go_num, HO47, hB7⟩
      case measure => simp [intOf]; omega
    · obtain rfl : k = l.length := by omega
      have h4 := HO4.out
      rw [List.take_length] at h4
      obtain ⟨A1, c1, rfl, h1, h2, h3, hr1⟩ := rows_of_own rfl h4
      have hR : Mots wr A1 c1 l := ⟨h1, h2, h3, hr1, fun m hm => (HM.out.each m hm).up hB⟩
      have HR1 := Lib.hid hR
      clear HO4 h4 hr1 hR h1 h2 h3
      go_wp2
      go_ret
      exact ⟨A1, c1, by first | rfl | simp, HR1.out, hB⟩

/-- Whether they are few, of the first k. -/
def shorts (l : List Mot) : Prop := ∀ m ∈ l, m.yes.bs.length ≤ 50 ∧ m.no.bs.length ≤ 50
set_option maxRecDepth 100000 in
set_option maxHeartbeats 4000000 in
/-- Whether they are few. -/
theorem few23_is (l : List Mot) (A : Option Addr) (c : Nat) (b : Bool) (w : World) (hm : Mots w A c l) (hl : l.length ≤ 140737488355328) (hb : b = true ↔ shorts l ∧ l.length ≤ 60) :
    Calls Try.prog 8 #[.slice A l.length c] w fun e w' => e = .returned (.bool b) ∧ Below w.heap.size w w' := by
  have HM := Lib.hid hm
  have HB := Lib.hid hb
  clear hm hb
  go_enter Try.func8, Try.ntmps8
  go_wp2
  go_loopw [7] (fun iv wr => ∃ (k : Nat), k ≤ l.length ∧ iv = .int .i64 (k : Int) ∧ Hid (shorts (l.take k)) ∧ Below w.heap.size w wr) (fun iv _ => l.length - (intOf iv).toNat)
  case atStart => exact ⟨0, Nat.zero_le _, rfl, Lib.hid (fun m h => by cases h), Below.refl _ _⟩
  case round =>
    obtain ⟨k, hk, rfl, HS, hB⟩ := hrel
    by_cases hlt : k < l.length
    · obtain ⟨m, hs⟩ : ∃ m, l[k]? = some m := ⟨_, List.getElem?_eq_getElem hlt⟩
      obtain ⟨a, rfl, hab, hat, hM⟩ := (HM.out.up hB).at hs
      have hki : (k : Int) < (l.length : Int) := by omega
      have hk0 : (0 : Int) ≤ (k : Int) := by omega
      have HH := Lib.hid hs
      clear hs hab hM
      by_cases h1 : m.yes.bs.length ≤ 50
      · have d1 : decide ((50 : Int) < (m.yes.bs.length : Int)) = false := decide_eq_false (by omega)
        have n1 : decide (50 < m.yes.bs.length) = false := decide_eq_false (by omega)
        by_cases h2 : m.no.bs.length ≤ 50
        · have d2 : decide ((50 : Int) < (m.no.bs.length : Int)) = false := decide_eq_false (by omega)
          have n2 : decide (50 < m.no.bs.length) = false := decide_eq_false (by omega)
          have HS2 : Hid (shorts (l.take (k + 1))) := Lib.hid (fun x hx => by
            rw [List.take_add_one, HH.out] at hx
            rcases List.mem_append.1 hx with h | h
            · exact HS.out x h
            · simp at h
              rw [h]; exact ⟨h1, h2⟩)
          clear h1 h2 HS
          go_wp2_with (first
            | (refine load_rec 40 _ rfl rfl _ (Rec.vals m) rfl hat Try.underlying40 size_mot ?_)
            | (refine store_rec 40 _ _ rfl rfl _ (Rec.vals m) (Rec.vals Mot.zero) 40 rfl rfl (RecAt.new _ (Rec.vals Mot.zero) _) size_mot rfl (Rec.one m) ?_; intro w2 hS2 hb2 hsz hkp; clear hsz hkp; have hb2 := rec_made (Below.refl _ _) hb2; have hB2 := Below.then hB hb2; clear hb2 hat; have c31 : w2.cell? ⟨_, 31, none⟩ = some (.slice m.yes.row m.yes.bs.length m.yes.cap) := hS2.cell 31; have c32 : w2.cell? ⟨_, 32, none⟩ = some (.slice m.no.row m.no.bs.length m.no.cap) := hS2.cell 32))
          go_roundw
          case rel => exact ⟨k + 1, by omega, by go_num, HS2, hB2⟩
          case measure => simp [intOf]; omega
        · have d2 : decide ((50 : Int) < (m.no.bs.length : Int)) = true := decide_eq_true (by omega)
          have n2 : decide (50 < m.no.bs.length) = true := decide_eq_true (by omega)
          have hf : b = false := by
            cases hb : b with
            | false => rfl
            | true => exact absurd ((HB.out.1 hb).1 m (List.mem_of_getElem? HH.out)).2 h2
          subst hf
          clear h1 h2 HS HB
          go_wp2_with (first
            | (refine load_rec 40 _ rfl rfl _ (Rec.vals m) rfl hat Try.underlying40 size_mot ?_)
            | (refine store_rec 40 _ _ rfl rfl _ (Rec.vals m) (Rec.vals Mot.zero) 40 rfl rfl (RecAt.new _ (Rec.vals Mot.zero) _) size_mot rfl (Rec.one m) ?_; intro w2 hS2 hb2 hsz hkp; clear hsz hkp; have hb2 := rec_made (Below.refl _ _) hb2; have hB2 := Below.then hB hb2; clear hb2 hat; have c31 : w2.cell? ⟨_, 31, none⟩ = some (.slice m.yes.row m.yes.bs.length m.yes.cap) := hS2.cell 31; have c32 : w2.cell? ⟨_, 32, none⟩ = some (.slice m.no.row m.no.bs.length m.no.cap) := hS2.cell 32))
          go_ret
          exact ⟨by first | rfl | simp, hB2⟩
      · have d1 : decide ((50 : Int) < (m.yes.bs.length : Int)) = true := decide_eq_true (by omega)
        have n1 : decide (50 < m.yes.bs.length) = true := decide_eq_true (by omega)
        have hf : b = false := by
          cases hb : b with
          | false => rfl
          | true => exact absurd ((HB.out.1 hb).1 m (List.mem_of_getElem? HH.out)).1 h1
        subst hf
        clear h1 HS HB
        go_wp2_with (first
          | (refine load_rec 40 _ rfl rfl _ (Rec.vals m) rfl hat Try.underlying40 size_mot ?_)
          | (refine store_rec 40 _ _ rfl rfl _ (Rec.vals m) (Rec.vals Mot.zero) 40 rfl rfl (RecAt.new _ (Rec.vals Mot.zero) _) size_mot rfl (Rec.one m) ?_; intro w2 hS2 hb2 hsz hkp; clear hsz hkp; have hb2 := rec_made (Below.refl _ _) hb2; have hB2 := Below.then hB hb2; clear hb2 hat; have c31 : w2.cell? ⟨_, 31, none⟩ = some (.slice m.yes.row m.yes.bs.length m.yes.cap) := hS2.cell 31; have c32 : w2.cell? ⟨_, 32, none⟩ = some (.slice m.no.row m.no.bs.length m.no.cap) := hS2.cell 32))
        go_ret
        exact ⟨by first | rfl | simp, hB2⟩
    · obtain rfl : k = l.length := by omega
      have hs := HS.out
      rw [List.take_length] at hs
      by_cases h60 : l.length ≤ 60
      · have d1 : decide ((l.length : Int) ≤ 60) = true := decide_eq_true (by omega)
        have n1 : decide (l.length ≤ 60) = true := decide_eq_true h60
        obtain rfl : b = true := HB.out.2 ⟨hs, h60⟩
        clear hs h60 HS HB
        go_wp2
        go_ret
        exact ⟨by first | rfl | simp, hB⟩
      · have d1 : decide ((l.length : Int) ≤ 60) = false := decide_eq_false (by omega)
        have n1 : decide (l.length ≤ 60) = false := decide_eq_false h60
        have hf : b = false := by
          cases hb : b with
          | false => rfl
          | true => exact absurd (HB.out.1 hb).2 h60
        subst hf
        clear hs h60 HS HB
        go_wp2
        go_ret
        exact ⟨by first | rfl | simp, hB⟩
end Go.Proofs.Ytcaejanfhchacaa
