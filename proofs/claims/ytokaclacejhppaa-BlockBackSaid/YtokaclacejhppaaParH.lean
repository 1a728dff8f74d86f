/- Layer 7 (param): parameters are read. By contracts. -/
import Derived.Test.YtokaclacejhppaaParD
import Derived.Test.YtokaclacejhppaaParF
import Derived.Test.YtokaclacejhppaaParL
import Derived.Test.YtokaclacejhppaaParN
import Derived.Test.YtokaclacejhppaaCoderT
namespace Go.Proofs.Ytokaclacejhppaa
open Go.RowKit
set_option linter.unusedVariables false
set_option linter.unusedSimpArgs false

/-- The cells of parameters of which so many have been read. -/
def PVals (vs : List Value) : Array Value := (vs ++ Par.none.vals.toList.drop vs.length).toArray
theorem pv_nil : PVals [] = Par.none.vals := rfl
theorem none_len : Par.none.vals.toList.length = 24 := rfl
theorem pv_set (vs : List Value) (v : Value) (h : vs.length < 24) : (PVals vs).setIfInBounds vs.length v = PVals (vs ++ [v]) := by
  unfold PVals
  apply Array.ext'
  rw [Array.toList_setIfInBounds]
  have hd : Par.none.vals.toList.drop vs.length = Par.none.vals.toList[vs.length]'(by rw [none_len]; exact h) :: Par.none.vals.toList.drop (vs.length + 1) := List.drop_eq_getElem_cons _
  simp only [hd]
  rw [List.set_append_right _ _ (Nat.le_refl _), Nat.sub_self, List.set_cons_zero, List.length_append]
  simp
theorem pv_has (vs : List Value) (h : vs.length < 24) : ∃ v, (PVals vs)[vs.length]? = some v := by
  unfold PVals
  have hd : Par.none.vals.toList.drop vs.length = Par.none.vals.toList[vs.length]'(by rw [none_len]; exact h) :: Par.none.vals.toList.drop (vs.length + 1) := List.drop_eq_getElem_cons _
  rw [hd]
  exact ⟨_, by simp; rfl⟩
def uvals (xs : List Nat) : List Value := xs.map fun (x : Nat) => Value.int .u64 (x : Int)
def ivals (ys : List Nat) : List Value := ys.map fun (y : Nat) => Value.int .i64 (y : Int)
theorem uvals_snoc (xs : List Nat) (x : Nat) : uvals (xs ++ [x]) = uvals xs ++ [.int .u64 (x : Int)] := by simp [uvals]
theorem ivals_snoc (xs : List Nat) (x : Nat) : ivals (xs ++ [x]) = ivals xs ++ [.int .i64 (x : Int)] := by simp [ivals]
theorem uvals_len (xs : List Nat) : (uvals xs).length = xs.length := by simp [uvals]
theorem ivals_len (xs : List Nat) : (ivals xs).length = xs.length := by simp [ivals]
theorem pv_full {p : Par} {xs ys : List Nat} (hx : p.us = xs) (hy : p.is = ys.map fun (y : Nat) => (y : Int)) (hl : ys.length = 10) : PVals (uvals xs ++ ivals ys) = p.vals := by
  subst hx
  have e : ivals ys = p.is.map fun y => Value.int .i64 y := by rw [hy]; simp [ivals]
  unfold PVals
  rw [List.drop_eq_nil_of_le (by rw [none_len, List.length_append, uvals_len, ivals_len, hl]; simp [Par.us]), List.append_nil, e]
  rfl
theorem pv_half {xs : List Nat} (hx : xs.length = 14) : ∃ q : Par, PVals (uvals xs) = q.vals := by
  obtain ⟨q, h1, h2⟩ := par_of xs (List.replicate 10 0) hx (by simp)
  refine ⟨q, ?_⟩
  rw [← pv_full h1 h2 (by simp)]
  unfold PVals
  apply Array.ext'
  simp only [List.length_append, uvals_len, ivals_len, hx, List.length_replicate]
  rw [List.append_assoc]
  rfl

theorem rdInt_cast {bs : List Nat} {s : Nat × Nat} {mo : Nat} : rdInt bs s (mo : Int) = rdNum bs s mo := by
  unfold rdInt rdNum
  by_cases h1 : s.2 ≠ 0
  · rw [if_pos h1, if_pos h1]
  · rw [if_neg h1, if_neg h1]
    by_cases h2 : (scan 0 0 (bs.drop s.1)).2.2 ≠ 0
    · rw [if_pos h2, if_pos h2]
    · rw [if_neg h2, if_neg h2]
      by_cases h3 : mo < (scan 0 0 (bs.drop s.1)).1
      · rw [if_pos h3, if_pos (.inr (by omega))]
      · rw [if_neg h3, if_neg (by omega)]

/-- A cell of a new block written over. -/
theorem grown_new {w wr : World} {b g k : Nat} {v : Value} (h : w.grownBy wr (some b)) (hg : w.heap.size ≤ g) : w.grownBy (wr.setCell ⟨g, k, none⟩ v) (some b) :=
  ⟨h.os, h.tape, h.output, by simpa [World.setCell] using h.size, fun i hi hn => (Below.heap_setCell wr _ _ i (by show i ≠ g; omega)).trans (h.block i hi hn)⟩
theorem block_grown {w w' : World} {b g : Nat} {o : Obj} (hg : w.grownBy w' (some b)) (hn : g ≠ b) (h : w.heap[g]? = some o) : w'.heap[g]? = some o :=
  (hg.block g (Array.getElem?_eq_some_iff.1 h).1 (fun e => by injection e with e; exact hn e)).trans h
theorem set_row {w : World} {g : Nat} {vs : List Value} {v : Value} {T : TypeId} (h : w.heap[g]? = some (.cells (PVals vs) T (0, 0))) (hl : vs.length < 24) : (w.setCell ⟨g, vs.length, none⟩ v).heap[g]? = some (.cells (PVals (vs ++ [v])) T (0, 0)) := by
  rw [heap_setCell_same w g vs.length _ _ _ h, pv_set vs v hl]

/-- What Read comes to. -/
def PRes (bs : List Nat) (s : Nat × Nat) (q : Par) (ee : Nat) (st : Nat × Nat) : Prop :=
  st = (rdSeq bs 2147483647 10 (rdSeq bs 18446744073709551615 14 s).2).2 ∧
  ((st.2 ≠ 0 ∧ q = Par.none ∧ ee = st.2) ∨
    (st.2 = 0 ∧ ∃ p : Par, p.us = (rdSeq bs 18446744073709551615 14 s).1 ∧ p.is = ((rdSeq bs 2147483647 10 (rdSeq bs 18446744073709551615 14 s).2).1.map fun (y : Nat) => (y : Int)) ∧
      (((∃ N, Par.Right p N) ∧ q = p ∧ ee = 0) ∨ ((¬ ∃ N, Par.Right p N) ∧ q = Par.none ∧ ee = 70))))
theorem read_fits {bs : List Nat} {s s' : Nat × Nat} {p : Par} (h1 : p.us = (rdSeq bs 18446744073709551615 14 s).1) (h2 : p.is = ((rdSeq bs 2147483647 10 s').1.map fun (y : Nat) => (y : Int))) : p.Fits := by
  refine ⟨fun x hx => ?_, fun x hx => ?_⟩
  · rw [h1] at hx
    have := rdSeq_le _ _ _ _ x hx
    omega
  · rw [h2] at hx
    obtain ⟨y, hy, rfl⟩ := List.mem_map.1 hx
    have := rdSeq_le _ _ _ _ y hy
    omega
theorem pres_is (bs : List Nat) (s : Nat × Nat) : ∃ q ee st, PRes bs s q ee st := by
  by_cases h : (rdSeq bs 2147483647 10 (rdSeq bs 18446744073709551615 14 s).2).2.2 ≠ 0
  · exact ⟨_, _, _, rfl, .inl ⟨h, rfl, rfl⟩⟩
  · obtain ⟨p, h1, h2⟩ := par_of _ _ (rdSeq_len bs 18446744073709551615 14 s) (rdSeq_len bs 2147483647 10 (rdSeq bs 18446744073709551615 14 s).2)
    by_cases hR : ∃ N, Par.Right p N
    · exact ⟨_, _, _, rfl, .inr ⟨by omega, p, h1, h2, .inl ⟨hR, rfl, rfl⟩⟩⟩
    · exact ⟨_, _, _, rfl, .inr ⟨by omega, p, h1, h2, .inr ⟨hR, rfl, rfl⟩⟩⟩

set_option maxRecDepth 100000 in
set_option maxHeartbeats 4000000 in
theorem pread_is (b : Nat) (F : Nat → Prop) (bs : List Nat) (s : Nat × Nat) (A : Option Addr) (cp : Nat) (q : Par) (ee : Nat) (st : Nat × Nat) (w : World) (hR : ReaderAt w b F bs s A cp) (hF : ∀ k, F k → k < w.heap.size) (hres : Hid (PRes bs s q ee st)) :
    Calls Try.prog 63 #[.pointer (some ⟨b, 0, none⟩)] w fun e w' => e = .returned (.tuple #[.agg q.vals, .int .i64 (ee : Int)]) ∧ Rd w b F bs st A cp w' := by
  have hP0 := ParAt.new w Par.none 37
  have hbl := hR.lt
  have hR0 := hR.grown (grown_alloc w (.cells Par.none.vals 37) none) (by simp) (by simp)
  have hg0 := grown_alloc w (.cells Par.none.vals 37) (some b)
  have HF := Lib.hid hF
  clear hF
  go_enter Try.func63, Try.ntmps63
  go_wp2_with (go_at_call 68; refine (words_is _ Par.none _ _ hP0).mono ?_; rintro e w2 ⟨g1, rfl, hF1, hg1, hb2⟩)
  have hP2 := hP0.up hb2
  have hR2 := hR0.grown (grown_below hb2 none) (by simp) (by simp)
  have hg2 := grown_trans hg0 (grown_below hb2 (some b))
  have hgb : w.heap.size ≠ b := by omega
  have hg1' : w.heap.size < g1 := by have := hg1; simp at this; omega
  have hB2 : Hid (w2.heap[w.heap.size]? = some (.cells (PVals (uvals [])) 37 (0, 0))) := hP2
  have HR2 := Lib.hid hR2
  have HG2 := Lib.hid hg2
  have HF1 := Lib.hid hF1
  clear hP0 hP2 hR hR0 hR2 hg0 hg1 hg2 hb2 hF1
  go_loopw [12] (fun iv wr => ∃ (k : Nat), k ≤ 14 ∧ iv = .int .i64 (k : Int) ∧ Hid (ReaderAt wr b F bs (rdSeq bs 18446744073709551615 k s).2 A cp) ∧ Hid (wr.heap[w.heap.size]? = some (.cells (PVals (uvals (rdSeq bs 18446744073709551615 k s).1)) 37 (0, 0))) ∧ Hid (FieldsW wr g1 w.heap.size Par.none.wspan) ∧ Hid (w.grownBy wr (some b))) (fun iv _ => 14 - (intOf iv).toNat)
  case atStart => exact ⟨0, by omega, rfl, HR2.out, hB2.out, HF1.out, HG2.out⟩
  case round =>
    obtain ⟨k, hk, rfl, HRr, HBr, HFr, HGr⟩ := hrel
    have hlen := rdSeq_len bs 18446744073709551615 k s
    by_cases hlt : k < 14
    · obtain ⟨x, hx⟩ : ∃ x, Hid (Par.none.wspan[k]? = some x) := ⟨Par.none.wspan[k]'(by simpa [Par.wspan] using hlt), List.getElem?_eq_getElem _⟩
      obtain ⟨c0, c1, c2⟩ := HFr.out k x hx.out
      obtain ⟨y, lo, hi⟩ := x
      simp only at c1 c2
      obtain ⟨xs, st1, hs1⟩ : ∃ xs st1, Hid (rdSeq bs 18446744073709551615 k s = (xs, st1)) := ⟨_, _, Lib.hid rfl⟩
      obtain ⟨z, st2, hs2⟩ : ∃ z st2, Hid (rdNum bs st1 18446744073709551615 = (z, st2)) := ⟨_, _, Lib.hid rfl⟩
      have hs3 : Hid (rdSeq bs 18446744073709551615 (k + 1) s = (xs ++ [z], st2)) := by show _ = _; simp only [rdSeq, hs1.out, hs2.out]
      have hRr := HRr.out
      have hBr := HBr.out
      rw [hs1.out] at hRr hBr hlen
      simp only at hRr hBr hlen
      have hszr := HGr.out.size
      have hRa := (hRr.grown (grown_alloc wr (.cells #[.pointer (some ⟨w.heap.size, k, none⟩), .int .u64 (lo : Int), .int .u64 (hi : Int)] 120) none) (by simp) (by simp)).drewN 1
      have hGa := grown_trans HGr.out (grown_alloc wr (.cells #[.pointer (some ⟨w.heap.size, k, none⟩), .int .u64 (lo : Int), .int .u64 (hi : Int)] 120) (some b))
      have hBa : (wr.alloc (.cells #[.pointer (some ⟨w.heap.size, k, none⟩), .int .u64 (lo : Int), .int .u64 (hi : Int)] 120)).heap[w.heap.size]? = some (.cells (PVals (uvals xs)) 37 (0, 0)) := block_grown (grown_alloc wr _ (some b)) hgb hBr
      have hFa := HFr.out.grown (grown_alloc wr (.cells #[.pointer (some ⟨w.heap.size, k, none⟩), .int .u64 (lo : Int), .int .u64 (hi : Int)] 120) (some b)) (by omega)
      have hn0 := new_row wr #[.pointer (some ⟨w.heap.size, k, none⟩), .int .u64 (lo : Int), .int .u64 (hi : Int)] 120 0 _ rfl
      have hwl : wr.heap.size ≠ b := by have := hRr.lt; omega
      obtain ⟨wa, hwa⟩ : ∃ wa, Hid (wr.alloc (.cells #[.pointer (some ⟨w.heap.size, k, none⟩), .int .u64 (lo : Int), .int .u64 (hi : Int)] 120) = wa) := ⟨_, rfl⟩
      have hwz : wr.heap.size < wa.heap.size := by rw [← hwa.out]; simp
      rw [hwa.out] at hRa hGa hBa hFa hn0
      have hul : (uvals xs).length < 24 := by rw [uvals_len, hlen]; omega
      obtain ⟨u, hu⟩ := pv_has (uvals xs) hul
      rw [uvals_len, hlen] at hu
      have HBA := Lib.hid hBa
      have HFA := Lib.hid hFa
      have HGA := Lib.hid hGa
      have HU := Lib.hid hu
      have HLEN := Lib.hid hlen
      have kn := rnum_is b F bs st1 A cp 18446744073709551615 _ hRa (by omega)
      rw [hs2.out] at kn
      simp only at kn
      clear hBa hFa hGa hu hRa HRr HBr HFr HGr hRr hBr hlen hx
      go_wp2
      rw [hwa.out]
      go_region_with (go_at_call 64; refine kn.mono ?_; rintro e w3 ⟨rfl, hR3, hg3⟩; have d0 := cell_grown_at hg3 hwl hn0; have dB := block_grown hg3 hgb HBA.out; have dg : w3.cell? ⟨w.heap.size, k, none⟩ = some u := ((cell_of_row w3 _ k _ _ _ dB).trans HU.out); have df := frozen_of_row w3 w.heap.size k _ _ dB)
      all_goals
        have hrow := set_row (v := .int .u64 (z : Int)) dB hul
        rw [uvals_len, HLEN.out, ← uvals_snoc] at hrow
        have hR4 := hR3.grown (grown_set w3 w.heap.size k (.int .u64 (z : Int))) (by simp; omega) (fun q hq e => by injection e with e; have := HF.out q hq; omega)
        have hF4 := (HFA.out.grown (b := b) (w' := w3) ⟨hg3.os, hg3.tape, hg3.output, hg3.size, hg3.block⟩ (by omega)).grown (grown_set w3 w.heap.size k (.int .u64 (z : Int))) (by omega)
        have hG4 := grown_new (k := k) (v := .int .u64 (z : Int)) (grown_trans HGA.out (grown_trans (grown_drew wa 1 (some b)) hg3)) (Nat.le_refl _)
        go_wp2
        go_roundw
        case rel => exact ⟨k + 1, by omega, by go_num, by rw [hs3.out]; exact hR4, by rw [hs3.out]; exact hrow, hF4, hG4⟩
        case measure => simp [intOf]; omega
    · obtain rfl : k = 14 := by omega
      obtain ⟨xs, st1, hs1⟩ : ∃ xs st1, Hid (rdSeq bs 18446744073709551615 14 s = (xs, st1)) := ⟨_, _, Lib.hid rfl⟩
      have hRr := HRr.out
      have hBr := HBr.out
      rw [hs1.out] at hRr hBr hlen
      simp only at hRr hBr hlen
      obtain ⟨qh, hqh⟩ := pv_half hlen
      have hPq : ParAt wr w.heap.size qh 37 := by unfold ParAt; rw [← hqh]; exact hBr
      have ki := ints_is w.heap.size qh _ wr hPq
      have HBr := Lib.hid hBr
      have HRr := Lib.hid hRr
      have HLEN := Lib.hid hlen
      clear hPq hqh hBr hRr hlen hlt hk HFr HF1 HR2 hB2 HG2
      go_wp2_with (go_at_call 69; refine ki.mono ?_; clear ki; rintro e w4 ⟨g2, rfl, hF2, hg2, hb4⟩)
      have hg2b : g2 ≠ b := by have := HGr.out.size; omega
      have hg2w : w.heap.size < g2 := by
        have h1 := (Array.getElem?_eq_some_iff.1 HBr.out).1
        omega
      have hR4 := HRr.out.grown (grown_below hb4 none) (by simp) (by simp)
      have hG4 := grown_trans HGr.out (grown_below hb4 (some b))
      have hB4 : w4.heap[w.heap.size]? = some (.cells (PVals (uvals xs)) 37 (0, 0)) := block_grown (grown_below hb4 (some b)) hgb HBr.out
      have HR4 := Lib.hid hR4
      have HG4 := Lib.hid hG4
      have HB4 := Lib.hid hB4
      have HF2 := Lib.hid hF2
      clear HGr HBr HRr hR4 hG4 hB4 hF2 hb4 hg2
      go_loopw [24] (fun iv wr => ∃ (k : Nat), k ≤ 10 ∧ iv = .int .i64 (k : Int) ∧ Hid (ReaderAt wr b F bs (rdSeq bs 2147483647 k st1).2 A cp) ∧ Hid (wr.heap[w.heap.size]? = some (.cells (PVals (uvals xs ++ ivals (rdSeq bs 2147483647 k st1).1)) 37 (0, 0))) ∧ Hid (FieldsI wr g2 w.heap.size qh.ispan) ∧ Hid (w.grownBy wr (some b))) (fun iv _ => 10 - (intOf iv).toNat)
      case atStart => exact ⟨0, by omega, rfl, HR4.out, by show _ = _; rw [show (rdSeq bs 2147483647 0 st1).1 = [] from rfl, show ivals [] = [] from rfl, List.append_nil]; exact HB4.out, HF2.out, HG4.out⟩
      case round =>
        obtain ⟨k, hk, rfl, HRr, HBr, HFr, HGr⟩ := hrel
        have hlen := rdSeq_len bs 2147483647 k st1
        by_cases hlt : k < 10
        · obtain ⟨x, hx⟩ : ∃ x, Hid (qh.ispan[k]? = some x) := ⟨qh.ispan[k]'(by simpa [Par.ispan] using hlt), List.getElem?_eq_getElem _⟩
          obtain ⟨c0, c1, c2⟩ := HFr.out k x hx.out
          obtain ⟨y, lo, hi⟩ := x
          simp only at c1 c2
          obtain ⟨ys, st3, hs4⟩ : ∃ ys st3, Hid (rdSeq bs 2147483647 k st1 = (ys, st3)) := ⟨_, _, Lib.hid rfl⟩
          obtain ⟨z, st2, hs2⟩ : ∃ z st2, Hid (rdNum bs st3 2147483647 = (z, st2)) := ⟨_, _, Lib.hid rfl⟩
          have hs3 : Hid (rdSeq bs 2147483647 (k + 1) st1 = (ys ++ [z], st2)) := by show _ = _; simp only [rdSeq, hs4.out, hs2.out]
          have hRr := HRr.out
          have hBr := HBr.out
          rw [hs4.out] at hRr hBr hlen
          simp only at hRr hBr hlen
          have hszr := HGr.out.size
          have hRa := (hRr.grown (grown_alloc wr (.cells #[.pointer (some ⟨w.heap.size, 14 + k, none⟩), .int .i64 lo, .int .i64 hi] 125) none) (by simp) (by simp)).drewN 1
          have hGa := grown_trans HGr.out (grown_alloc wr (.cells #[.pointer (some ⟨w.heap.size, 14 + k, none⟩), .int .i64 lo, .int .i64 hi] 125) (some b))
          have hBa : (wr.alloc (.cells #[.pointer (some ⟨w.heap.size, 14 + k, none⟩), .int .i64 lo, .int .i64 hi] 125)).heap[w.heap.size]? = some (.cells (PVals (uvals xs ++ ivals ys)) 37 (0, 0)) := block_grown (grown_alloc wr _ (some b)) hgb hBr
          have hFa := HFr.out.grown (grown_alloc wr (.cells #[.pointer (some ⟨w.heap.size, 14 + k, none⟩), .int .i64 lo, .int .i64 hi] 125) (some b)) hg2b
          have hn0 := new_row wr #[.pointer (some ⟨w.heap.size, 14 + k, none⟩), .int .i64 lo, .int .i64 hi] 125 0 _ rfl
          have hwl : wr.heap.size ≠ b := by have := hRr.lt; omega
          obtain ⟨wa, hwa⟩ : ∃ wa, Hid (wr.alloc (.cells #[.pointer (some ⟨w.heap.size, 14 + k, none⟩), .int .i64 lo, .int .i64 hi] 125) = wa) := ⟨_, rfl⟩
          have hwz : wr.heap.size < wa.heap.size := by rw [← hwa.out]; simp
          rw [hwa.out] at hRa hGa hBa hFa hn0
          have hvl : (uvals xs ++ ivals ys).length = 14 + k := by rw [List.length_append, uvals_len, ivals_len, HLEN.out, hlen]
          have hul : (uvals xs ++ ivals ys).length < 24 := by omega
          obtain ⟨u, hu⟩ := pv_has (uvals xs ++ ivals ys) hul
          rw [hvl] at hu
          have HBA := Lib.hid hBa
          have HFA := Lib.hid hFa
          have HGA := Lib.hid hGa
          have HU := Lib.hid hu
          have HVL := Lib.hid hvl
          have kn := rint_is b F bs st3 A cp ((2147483647 : Nat) : Int) _ hRa (by omega) (by omega)
          rw [rdInt_cast, hs2.out, show ((2147483647 : Nat) : Int) = 2147483647 from rfl] at kn
          simp only at kn
          clear hBa hFa hGa hu hRa HRr HBr HFr HGr hRr hBr hlen hx hvl
          go_wp2
          rw [hwa.out]
          go_region_with (go_at_call 22; refine kn.mono ?_; rintro e w3 ⟨rfl, hR3, hg3⟩; have d0 := cell_grown_at hg3 hwl hn0; have dB := block_grown hg3 hgb HBA.out; have dg : w3.cell? ⟨w.heap.size, 14 + k, none⟩ = some u := ((cell_of_row w3 _ (14 + k) _ _ _ dB).trans HU.out); have df := frozen_of_row w3 w.heap.size (14 + k) _ _ dB)
          all_goals
            have hrow := set_row (v := .int .i64 (z : Int)) dB hul
            rw [HVL.out, List.append_assoc, ← ivals_snoc] at hrow
            have hR5 := hR3.grown (grown_set w3 w.heap.size (14 + k) (.int .i64 (z : Int))) (by simp; omega) (fun q hq e => by injection e with e; have := HF.out q hq; omega)
            have hF5 := (HFA.out.grown (b := b) (w' := w3) ⟨hg3.os, hg3.tape, hg3.output, hg3.size, hg3.block⟩ hg2b).grown (grown_set w3 w.heap.size (14 + k) (.int .i64 (z : Int))) (by omega)
            have hG5 := grown_new (k := 14 + k) (v := .int .i64 (z : Int)) (grown_trans HGA.out (grown_trans (grown_drew wa 1 (some b)) hg3)) (Nat.le_refl _)
            go_wp2
            go_roundw
            case rel => exact ⟨k + 1, by omega, by go_num, by rw [hs3.out]; exact hR5, by rw [hs3.out]; exact hrow, hF5, hG5⟩
            case measure => simp [intOf]; omega
        · obtain rfl : k = 10 := by omega
          obtain ⟨ys, st3, hs4⟩ : ∃ ys st3, Hid (rdSeq bs 2147483647 10 st1 = (ys, st3)) := ⟨_, _, Lib.hid rfl⟩
          have hRr := HRr.out
          have hBr := HBr.out
          rw [hs4.out] at hRr hBr hlen
          simp only at hRr hBr hlen
          have hpr := hres.out
          unfold PRes at hpr
          rw [hs1.out] at hpr
          simp only at hpr
          rw [hs4.out] at hpr
          simp only at hpr
          obtain ⟨rfl, hcase⟩ := hpr
          have ke := rerr_is b F bs st A cp wr hRr
          have HG := HGr
          have HRr' := Lib.hid hRr
          have hgw : w.heap.size ≤ w.heap.size := Nat.le_refl _
          have hsetR : ∀ (o p' : Par) (W : World), ReaderAt W b F bs st A cp → ReaderAt (W.setRow w.heap.size p'.vals) b F bs st A cp := fun o p' W h => h.grown (grown_setRow W w.heap.size p'.vals) (by simp; omega) (fun q hq e => by injection e with e; have := HF.out q hq; omega)
          have hsetG : ∀ (p' : Par) (W : World), w.grownBy W (some b) → w.grownBy (W.setRow w.heap.size p'.vals) (some b) := fun p' W h => ⟨h.os, h.tape, h.output, by simpa using h.size, fun i hi hn => (setRow_other W w.heap.size i _ (by omega)).trans (h.block i hi hn)⟩
          rcases hcase with ⟨hne, rfl, rfl⟩ | ⟨h0, p, hp1, hp2, ⟨⟨N, hN⟩, rfl, rfl⟩ | ⟨hN, rfl, rfl⟩⟩
          · obtain ⟨qf, hq1, hq2⟩ := par_of xs ys HLEN.out hlen
            have hPq : ParAt wr w.heap.size qf 37 := by unfold ParAt; rw [← pv_full hq1 hq2 hlen]; exact hBr
            have HP := Lib.hid hPq
            have d1 : ((st.2 : Int) != 0) = true := by simp; omega
            clear hBr hRr hlen hlt hk HRr HBr HFr HB4 HF2 HR4 hne hq1 hq2 hPq
            go_wp2_with (first
              | (go_at_call 23; refine ke.mono ?_; clear ke; rintro e w5 ⟨rfl, rfl⟩)
              | (refine build_par _ rfl rfl Par.none (by kernel_rfl) ?_)
              | (refine store_par _ _ rfl rfl w.heap.size Par.none qf 37 rfl rfl HP.out ?_))
            exact bodyPost_ret (res_par2 Try.results63 rfl (ParAt.set HP.out)) rfl ⟨rfl, hsetR qf Par.none wr HRr'.out, hsetG Par.none wr HG.out⟩
          · have hPq : ParAt wr w.heap.size q 37 := by unfold ParAt; rw [← pv_full hp1 hp2 hlen]; exact hBr
            have kc := fun w => check_ok q N w hN
            rw [h0] at ke
            clear hBr hRr hlen hlt hk HRr HBr HFr HB4 HF2 HR4 hp1 hp2 hN h0
            have HSETR := Lib.hid hsetR
            have HSETG := Lib.hid hsetG
            clear hsetR hsetG
            go_wp2_with (first
              | (go_at_call 23; refine ke.mono ?_; clear ke; rintro e w5 ⟨rfl, rfl⟩)
              | (refine load_par _ rfl rfl _ q _ rfl (by assumption) ?_)
              | (refine store_par _ _ rfl rfl w.heap.size q q 37 rfl rfl (by assumption) ?_)
              | (go_at_call 67; refine (kc _).mono ?_; clear kc; rintro e w6 ⟨rfl, hb6⟩; have hPq := hPq.up hb6))
            exact bodyPost_ret (res_par2 Try.results63 rfl (ParAt.set hPq)) rfl ⟨rfl, HSETR.out q q w6 (HRr'.out.grown (grown_below hb6 none) (by simp) (by simp)), HSETG.out q w6 (grown_trans HG.out (grown_below hb6 _))⟩
          · have hPq : ParAt wr w.heap.size p 37 := by unfold ParAt; rw [← pv_full hp1 hp2 hlen]; exact hBr
            have hf : p.Fits := ⟨fun x hx => by
              rw [hp1] at hx
              have h9 := rdSeq_le bs 18446744073709551615 14 s x (by rw [hs1.out]; exact hx)
              omega, fun x hx => by
              rw [hp2] at hx
              obtain ⟨y, hy, rfl⟩ := List.mem_map.1 hx
              have h9 := rdSeq_le bs 2147483647 10 st1 y (by rw [hs4.out]; exact hy)
              omega⟩
            have kc := fun w => check_no p w hf hN
            rw [h0] at ke
            clear hBr hRr hlen hlt hk HRr HBr HFr HB4 HF2 HR4 hp1 hp2 hN h0 hf
            have HSETR := Lib.hid hsetR
            have HSETG := Lib.hid hsetG
            clear hsetR hsetG
            go_wp2_with (first
              | (go_at_call 23; refine ke.mono ?_; clear ke; rintro e w5 ⟨rfl, rfl⟩)
              | (refine load_par _ rfl rfl _ p _ rfl (by assumption) ?_)
              | (refine build_par _ rfl rfl Par.none (by kernel_rfl) ?_)
              | (refine store_par _ _ rfl rfl w.heap.size Par.none p 37 rfl rfl (by assumption) ?_)
              | (go_at_call 67; refine (kc _).mono ?_; clear kc; rintro e w6 ⟨rfl, hb6⟩; have hPq := hPq.up hb6))
            exact bodyPost_ret (res_par2 Try.results63 rfl (ParAt.set hPq)) rfl ⟨rfl, HSETR.out p Par.none w6 (HRr'.out.grown (grown_below hb6 none) (by simp) (by simp)), HSETG.out Par.none w6 (grown_trans HG.out (grown_below hb6 _))⟩
end Go.Proofs.Ytokaclacejhppaa
