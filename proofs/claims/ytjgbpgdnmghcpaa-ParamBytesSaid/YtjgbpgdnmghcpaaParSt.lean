/- Layer 7 (param), the document's: parameters read, right or not; bytes as parameters. By contracts. · Layer 7 (param), the document's: bytes as parameters. By contracts. · Layer 7 (param): parameters written by a writer that is none, read by a reader that is none. By contracts. · Numbers read behind one byte more: plain. · Layer 7 (param), the law's own: parameters written behind others, read in the midst of bytes. By contracts. -/
import Derived.Test.YtjgbpgdnmghcpaaParH
import Derived.Test.YtjgbpgdnmghcpaaCoderZ
import Derived.Test.YtjgbpgdnmghcpaaParV
import Derived.Test.YtjgbpgdnmghcpaaParK
import Derived.Test.YtjgbpgdnmghcpaaSeq
import Derived.Test.YtjgbpgdnmghcpaaParG
import Derived.Test.YtjgbpgdnmghcpaaParJ
import Derived.Test.YtjgbpgdnmghcpaaAwake7
import Derived.Test.YtjgbpgdnmghcpaaParQ
import Derived.Laws.AppendOwnNone
namespace Go.Proofs.Ytjgbpgdnmghcpaa
open Go.RowKit
set_option linter.unusedVariables false
set_option linter.unusedSimpArgs false

/-- The cells of an array whose first values are known, the others nothing. -/
def AV (n : Nat) (z : Value) (vs : List Value) : Array Value := (vs ++ List.replicate (n - vs.length) z).toArray
theorem av_set (n : Nat) (z : Value) (vs : List Value) (v : Value) (h : vs.length < n) : (AV n z vs).setIfInBounds vs.length v = AV n z (vs ++ [v]) := by
  obtain ⟨m, hm⟩ : ∃ m, n - vs.length = m + 1 := ⟨n - vs.length - 1, by omega⟩
  have hm2 : n - (vs ++ [v]).length = m := by simp; omega
  unfold AV
  rw [hm, hm2, List.replicate_succ, List.setIfInBounds_toArray, List.set_append_right _ _ (Nat.le_refl _), Nat.sub_self, List.set_cons_zero, List.append_assoc]
  rfl
theorem av_has (n : Nat) (z : Value) (vs : List Value) (h : vs.length < n) : ∃ u, (AV n z vs)[vs.length]? = some u :=
  ⟨_, Array.getElem?_eq_getElem (by unfold AV; simp; omega)⟩
theorem av_full (n : Nat) (z : Value) (vs : List Value) (h : vs.length = n) : AV n z vs = vs.toArray := by
  unfold AV
  rw [h, Nat.sub_self]
  simp

theorem zero_w14 (V : World) : (zeroValue 127).run Try.prog V = .ok (.agg (AV 14 (.int .u64 0) [])) V := by
  have h : (Try.prog.info? 127).map (fun i => i.zero) = some (some (.agg (AV 14 (.int .u64 0) []))) := by kernel_rfl
  cases hq : Try.prog.info? 127 with
  | none => simp [hq] at h
  | some i =>
    simp [hq] at h
    simp [zeroValue, typeInfo, Sem.run_bind, hq, h]
theorem zero_i10 (V : World) : (zeroValue 128).run Try.prog V = .ok (.agg (AV 10 (.int .i64 0) [])) V := by
  have h : (Try.prog.info? 128).map (fun i => i.zero) = some (some (.agg (AV 10 (.int .i64 0) []))) := by kernel_rfl
  cases hq : Try.prog.info? 128 with
  | none => simp [hq] at h
  | some i =>
    simp [hq] at h
    simp [zeroValue, typeInfo, Sem.run_bind, hq, h]

theorem store_rpar2 {ops : Array Oper} {rest : List Oper} {o : Oper} {a : Act} {w : World} {Q : Exit → Act → World → Prop} (x y : Operand) (ho : o.op = .store 30 x y) (hgd : Region.wanted o (yielded ops a.tmps) = true) (g : Nat) (p old : Par) (T : TypeId) (hx : a.eval x = .pointer (some ⟨g, 0, none⟩)) (hy : a.eval y = .agg p.vals) (hP : ParAt w g old T)
    (h : wpList Try.prog ops Q rest (a.put o.dst undef) (w.setRow g p.vals)) : wpList Try.prog ops Q (o :: rest) a w :=
  wpList_step fun K hK => by
    rw [if_pos hgd]
    exact wp_store_row 30 x y ho g p.vals hx hy T old.vals hP (by kernel_rfl) rfl (vals_one p) (hK _ _ h)
theorem build_rpar2 {ops : Array Oper} {rest : List Oper} {o : Oper} {a : Act} {w : World} {Q : Exit → Act → World → Prop} (parts : Array (Nat × Operand)) (ho : o.op = .build 30 parts) (hgd : Region.wanted o (yielded ops a.tmps) = true) (p : Par) (hb : Try.prog.built 30 (parts.map fun (i, x) => (i, a.eval x)).toList = some p.vals)
    (h : wpList Try.prog ops Q rest (a.put o.dst (.agg p.vals)) w) : wpList Try.prog ops Q (o :: rest) a w :=
  wpList_step fun K hK => by
    rw [if_pos hgd]
    refine wp_build 30 parts ho (by rw [hb]; rfl) ?_
    rw [hb]
    exact hK _ _ h
theorem res_rpar {fn : Func} {s : Nat} {T : TypeId} {p : Par} {g : Nat} {tmps : Array Value} {w : World} (h : fn.results = #[.cell s 30]) (hp : tmps.getD s undef = .pointer (some ⟨g, 0, none⟩)) (hP : ParAt w g p T) : (results fn tmps).run Try.prog w = .ok (.agg p.vals) w :=
  results_cell_row h tmps w g T p.vals (0, 0) _ hp hP Try.underlying30 rfl (by kernel_rfl)

set_option maxRecDepth 100000 in
set_option maxHeartbeats 4000000 in
theorem rparread_is (d B : Nat) (bs : List Nat) (s : Nat × Nat) (A : Option Addr) (cp : Nat) (p : Par) (w : World) (hR : RefR w d B bs s A cp) (h1 : p.us = (rdSeq bs 18446744073709551615 14 s).1) (h2 : p.is = ((rdSeq bs 2147483647 10 (rdSeq bs 18446744073709551615 14 s).2).1.map fun (y : Nat) => (y : Int))) :
    Calls Try.prog 49 #[.pointer (some ⟨d, 0, none⟩)] w fun e w' => e = .returned (.agg p.vals) ∧ RR w d B bs (rdSeq bs 2147483647 10 (rdSeq bs 18446744073709551615 14 s).2).2 A cp w' := by
  have hz1 := zero_w14
  have hz2 := zero_i10
  have hdl := hR.lt
  have hap := hR.apart
  have H1 := Lib.hid h1
  have H2 := Lib.hid h2
  obtain ⟨W, hW⟩ : ∃ W, Hid ((w.alloc (.cells Par.none.vals 30)).alloc (.cells (AV 14 (.int .u64 0) []) 127) = W) := ⟨_, rfl⟩
  have hB0 : Below w.heap.size w W := by rw [← hW.out]; exact ((Below.refl _ _).alloc (Nat.le_refl _) _).alloc (by simp) _
  have HP0 : Hid (ParAt W w.heap.size Par.none 30) := by
    show ParAt _ _ _ _
    rw [← hW.out]
    exact (ParAt.new w Par.none 30).up ((Below.refl _ _).alloc (Nat.le_refl _) _)
  have HA0 : Hid (W.heap[w.heap.size + 1]? = some (.cells (AV 14 (.int .u64 0) (uvals [])) 127 (0, 0))) := by
    show _ = _
    have h := heap_alloc_new (w.alloc (.cells Par.none.vals 30)) (.cells (AV 14 (.int .u64 0) []) 127)
    rw [show (w.alloc (.cells Par.none.vals 30)).heap.size = w.heap.size + 1 by simp, hW.out] at h
    exact h
  have HR0 := Lib.hid (hR.grown (grown_below hB0 none) (by simp) (by simp))
  have HG0 := Lib.hid (grown_below hB0 (some d))
  clear hR h1 h2 hB0
  go_enter Try.func49, Try.ntmps49
  go_upto_region 2 with fail
  generalize hX : World.alloc (World.alloc _ _) _ = X
  obtain rfl : W = X := hW.out.symm.trans hX
  clear hX
  have hWs : W.heap.size = w.heap.size + 2 := by rw [← hW.out]; simp
  clear hW
  go_wp2
  go_loopw [4] (fun iv wr => ∃ (k : Nat), k ≤ 14 ∧ iv = .int .i64 (k : Int) ∧ Hid (RefR wr d B bs (rdSeq bs 18446744073709551615 k s).2 A cp) ∧ Hid (wr.heap[w.heap.size + 1]? = some (.cells (AV 14 (.int .u64 0) (uvals (rdSeq bs 18446744073709551615 k s).1)) 127 (0, 0))) ∧ Hid (ParAt wr w.heap.size Par.none 30) ∧ Hid (w.grownBy wr (some d))) (fun iv _ => 14 - (intOf iv).toNat)
  case atStart => exact ⟨0, by omega, rfl, HR0.out, HA0.out, HP0.out, HG0.out⟩
  case round =>
    obtain ⟨k, hk, rfl, HRr, HAr, HPr, HGr⟩ := hrel
    have hlen := rdSeq_len bs 18446744073709551615 k s
    obtain ⟨xs, st1, hs1⟩ : ∃ xs st1, Hid (rdSeq bs 18446744073709551615 k s = (xs, st1)) := ⟨_, _, Lib.hid rfl⟩
    have hRr := HRr.out
    have hAr := HAr.out
    rw [hs1.out] at hRr hAr hlen
    simp only at hRr hAr hlen
    by_cases hlt : k < 14
    · obtain ⟨z, st2, hs2⟩ : ∃ z st2, Hid (rdNum bs st1 18446744073709551615 = (z, st2)) := ⟨_, _, Lib.hid rfl⟩
      have hs3 : Hid (rdSeq bs 18446744073709551615 (k + 1) s = (xs ++ [z], st2)) := by show _ = _; simp only [rdSeq, hs1.out, hs2.out]
      have hul : (uvals xs).length < 14 := by rw [uvals_len, hlen]; omega
      obtain ⟨u, hu⟩ := av_has 14 (.int .u64 0) (uvals xs) hul
      rw [uvals_len, hlen] at hu
      have kn := refnum_is d B bs st1 A cp 18446744073709551615 wr hRr (by omega)
      rw [hs2.out] at kn
      simp only at kn
      have HU := Lib.hid hu
      have HA := Lib.hid hAr
      have HLEN := Lib.hid hlen
      have hkI : decide ((k : Int) < 14) = true := by simp; omega
      have hk1 : (k : Int) < 14 := by omega
      have hk0 : k < 14 := hlt
      clear hu hAr hRr HRr HAr hlen
      go_wp2_with (go_at_call 70; refine kn.mono ?_; clear kn; rintro e w3 ⟨rfl, hR3, hg3⟩; have dA := block_grown hg3 (show w.heap.size + 1 ≠ d by omega) HA.out; have dg : w3.cell? ⟨w.heap.size + 1, k, none⟩ = some u := (cell_of_row w3 _ k _ _ _ dA).trans HU.out; have df := frozen_of_row w3 (w.heap.size + 1) k _ _ dA)
      have hrow : (w3.setCell ⟨w.heap.size + 1, k, none⟩ (.int .u64 (z : Int))).heap[w.heap.size + 1]? = some (.cells (AV 14 (.int .u64 0) (uvals (xs ++ [z]))) 127 (0, 0)) := by
        have h := heap_setCell_same w3 (w.heap.size + 1) k _ _ (.int .u64 (z : Int)) dA
        have h2 := av_set 14 (.int .u64 0) (uvals xs) (.int .u64 (z : Int)) hul
        rw [uvals_len, HLEN.out] at h2
        rw [h2, ← uvals_snoc] at h
        exact h
      have hR4 := hR3.grown (grown_set w3 (w.heap.size + 1) k (.int .u64 (z : Int))) (by simp; omega) (fun q hq e => by injection e with e; omega)
      have hP4 : ParAt (w3.setCell ⟨w.heap.size + 1, k, none⟩ (.int .u64 (z : Int))) w.heap.size Par.none 30 := (HPr.out.grown hg3 (by omega)).grown (grown_set w3 (w.heap.size + 1) k (.int .u64 (z : Int))) (by omega)
      have hG4 := grown_new (k := k) (v := .int .u64 (z : Int)) (grown_trans HGr.out hg3) (Nat.le_succ w.heap.size)
      go_wp2
      go_roundw
      case rel => exact ⟨k + 1, by omega, by go_num, by rw [hs3.out]; exact hR4, by rw [hs3.out]; exact hrow, hP4, hG4⟩
      case measure => simp [intOf]; omega
    · obtain rfl : k = 14 := by omega
      have hul : (uvals xs).length = 14 := by rw [uvals_len, hlen]
      rw [av_full 14 _ _ hul] at hAr
      have hxs : p.us = xs := by rw [H1.out, hs1.out]
      have hgl : w.heap.size + 1 < wr.heap.size := (Array.getElem?_eq_some_iff.1 hAr).1
      obtain ⟨wx, rfl⟩ : ∃ wx : World, wx = wr := ⟨_, rfl⟩
      obtain ⟨g2, hg2⟩ : ∃ g2, Hid (wx.heap.size = g2) := ⟨_, rfl⟩
      have hg2l : w.heap.size + 1 < g2 := by rw [← hg2.out]; exact hgl
      have hb : Below wx.heap.size wx (wx.alloc (.cells (AV 10 (.int .i64 0) []) 128)) := (Below.refl _ _).alloc (Nat.le_refl _) _
      have hI0 : (wx.alloc (.cells (AV 10 (.int .i64 0) []) 128)).heap[g2]? = some (.cells (AV 10 (.int .i64 0) (ivals [])) 128 (0, 0)) := by
        have h := heap_alloc_new wx (.cells (AV 10 (.int .i64 0) []) 128)
        rw [hg2.out] at h
        exact h
      have HI0 := Lib.hid hI0
      have HR1 := Lib.hid (hRr.grown (grown_below hb none) (by simp) (by simp))
      have HA1 := Lib.hid ((hb.block _ hgl).trans hAr)
      have HP1 := Lib.hid (HPr.out.up hb)
      have HG1 := Lib.hid (grown_trans HGr.out (grown_below hb (some d)))
      clear hI0 hb hRr hAr HRr HAr HPr HGr hlen hul hlt hk HR0 HA0 HP0 HG0
      rw [show ((14 : Nat) : Int) = 14 from rfl]
      go_upto_region 7 with fail
      rw [hg2.out]
      go_wp2
      go_loopw [6] (fun iv wr => ∃ (k : Nat), k ≤ 10 ∧ iv = .int .i64 (k : Int) ∧ Hid (RefR wr d B bs (rdSeq bs 2147483647 k st1).2 A cp) ∧ Hid (wr.heap[g2]? = some (.cells (AV 10 (.int .i64 0) (ivals (rdSeq bs 2147483647 k st1).1)) 128 (0, 0))) ∧ Hid (wr.heap[w.heap.size + 1]? = some (.cells (uvals xs).toArray 127 (0, 0))) ∧ Hid (ParAt wr w.heap.size Par.none 30) ∧ Hid (w.grownBy wr (some d))) (fun iv _ => 10 - (intOf iv).toNat)
      case atStart => exact ⟨0, by omega, rfl, HR1.out, HI0.out, HA1.out, HP1.out, HG1.out⟩
      case round =>
        clear HR1 HI0 HA1 HP1 HG1
        obtain ⟨k, hk, rfl, HRr, HIr, HAr, HPr, HGr⟩ := hrel
        have hlen := rdSeq_len bs 2147483647 k st1
        obtain ⟨ys, st3, hs4⟩ : ∃ ys st3, Hid (rdSeq bs 2147483647 k st1 = (ys, st3)) := ⟨_, _, Lib.hid rfl⟩
        have hRr := HRr.out
        have hIr := HIr.out
        rw [hs4.out] at hRr hIr hlen
        simp only at hRr hIr hlen
        by_cases hlt : k < 10
        · obtain ⟨z, st2, hs2⟩ : ∃ z st2, Hid (rdNum bs st3 2147483647 = (z, st2)) := ⟨_, _, Lib.hid rfl⟩
          have hs3 : Hid (rdSeq bs 2147483647 (k + 1) st1 = (ys ++ [z], st2)) := by show _ = _; simp only [rdSeq, hs4.out, hs2.out]
          have hul : (ivals ys).length < 10 := by rw [ivals_len, hlen]; omega
          obtain ⟨u, hu⟩ := av_has 10 (.int .i64 0) (ivals ys) hul
          rw [ivals_len, hlen] at hu
          have kn := refrint_is d B bs st3 A cp ((2147483647 : Nat) : Int) wr hRr (by omega) (by omega)
          rw [rdInt_cast, hs2.out, show ((2147483647 : Nat) : Int) = 2147483647 from rfl] at kn
          simp only at kn
          have HU := Lib.hid hu
          have HI := Lib.hid hIr
          have HLEN := Lib.hid hlen
          have hkI : decide ((k : Int) < 10) = true := by simp; omega
          have hk1 : (k : Int) < 10 := by omega
          clear hu hIr hRr HRr HIr hlen
          go_wp2_with (go_at_call 71; refine kn.mono ?_; clear kn; rintro e w3 ⟨rfl, hR3, hg3⟩; have dI := block_grown hg3 (show g2 ≠ d by omega) HI.out; have dg : w3.cell? ⟨g2, k, none⟩ = some u := (cell_of_row w3 _ k _ _ _ dI).trans HU.out; have df := frozen_of_row w3 g2 k _ _ dI)
          have hrow : (w3.setCell ⟨g2, k, none⟩ (.int .i64 (z : Int))).heap[g2]? = some (.cells (AV 10 (.int .i64 0) (ivals (ys ++ [z]))) 128 (0, 0)) := by
            have h := heap_setCell_same w3 g2 k _ _ (.int .i64 (z : Int)) dI
            have h2 := av_set 10 (.int .i64 0) (ivals ys) (.int .i64 (z : Int)) hul
            rw [ivals_len, HLEN.out] at h2
            rw [h2, ← ivals_snoc] at h
            exact h
          have hR4 := hR3.grown (grown_set w3 g2 k (.int .i64 (z : Int))) (by simp; omega) (fun q hq e => by injection e with e; omega)
          have hA4 := block_grown (grown_set w3 g2 k (.int .i64 (z : Int))) (by omega) (block_grown hg3 (show w.heap.size + 1 ≠ d by omega) HAr.out)
          have hP4 : ParAt (w3.setCell ⟨g2, k, none⟩ (.int .i64 (z : Int))) w.heap.size Par.none 30 := (HPr.out.grown hg3 (by omega)).grown (grown_set w3 g2 k (.int .i64 (z : Int))) (by omega)
          have hG4 := grown_new (k := k) (v := .int .i64 (z : Int)) (grown_trans HGr.out hg3) (show w.heap.size ≤ g2 by omega)
          go_wp2
          go_roundw
          case rel => exact ⟨k + 1, by omega, by go_num, by rw [hs3.out]; exact hR4, by rw [hs3.out]; exact hrow, hA4, hP4, hG4⟩
          case measure => simp [intOf]; omega
        · obtain rfl : k = 10 := by omega
          have hul : (ivals ys).length = 10 := by rw [ivals_len, hlen]
          rw [av_full 10 _ _ hul] at hIr
          have hys : ivals ys = p.is.map (fun z => Value.int .i64 z) := by
            rw [H2.out, hs1.out]
            simp only
            rw [hs4.out]
            unfold ivals
            rw [List.map_map]
            rfl
          have hA1 : wr.heap[w.heap.size + 1]? = some (.cells (uvals p.us).toArray 127 (0, 0)) := by rw [hxs]; exact HAr.out
          have hA2 : wr.heap[g2]? = some (.cells (p.is.map (fun z => Value.int .i64 z)).toArray 128 (0, 0)) := by rw [← hys]; exact hIr
          have a0 : wr.cell? ⟨w.heap.size + 1, 0, none⟩ = some (.int .u64 (p.inc : Int)) := cell_arr hA1 rfl
          have a1 : wr.cell? ⟨w.heap.size + 1, 1, none⟩ = some (.int .u64 (p.maxEff : Int)) := cell_arr hA1 rfl
          have a2 : wr.cell? ⟨w.heap.size + 1, 2, none⟩ = some (.int .u64 (p.floor : Int)) := cell_arr hA1 rfl
          have a3 : wr.cell? ⟨w.heap.size + 1, 3, none⟩ = some (.int .u64 (p.cap : Int)) := cell_arr hA1 rfl
          have a4 : wr.cell? ⟨w.heap.size + 1, 4, none⟩ = some (.int .u64 (p.up : Int)) := cell_arr hA1 rfl
          have a5 : wr.cell? ⟨w.heap.size + 1, 5, none⟩ = some (.int .u64 (p.down : Int)) := cell_arr hA1 rfl
          have a6 : wr.cell? ⟨w.heap.size + 1, 6, none⟩ = some (.int .u64 (p.bias : Int)) := cell_arr hA1 rfl
          have a7 : wr.cell? ⟨w.heap.size + 1, 7, none⟩ = some (.int .u64 (p.quot : Int)) := cell_arr hA1 rfl
          have a8 : wr.cell? ⟨w.heap.size + 1, 8, none⟩ = some (.int .u64 (p.biasEm : Int)) := cell_arr hA1 rfl
          have a9 : wr.cell? ⟨w.heap.size + 1, 9, none⟩ = some (.int .u64 (p.quotEm : Int)) := cell_arr hA1 rfl
          have a10 : wr.cell? ⟨w.heap.size + 1, 10, none⟩ = some (.int .u64 (p.recover : Int)) := cell_arr hA1 rfl
          have a11 : wr.cell? ⟨w.heap.size + 1, 11, none⟩ = some (.int .u64 (p.scoreCap : Int)) := cell_arr hA1 rfl
          have a12 : wr.cell? ⟨w.heap.size + 1, 12, none⟩ = some (.int .u64 (p.rate : Int)) := cell_arr hA1 rfl
          have a13 : wr.cell? ⟨w.heap.size + 1, 13, none⟩ = some (.int .u64 (p.bond : Int)) := cell_arr hA1 rfl
          have b0 : wr.cell? ⟨g2, 0, none⟩ = some (.int .i64 p.delay) := cell_arr hA2 rfl
          have b1 : wr.cell? ⟨g2, 1, none⟩ = some (.int .i64 p.streak) := cell_arr hA2 rfl
          have b2 : wr.cell? ⟨g2, 2, none⟩ = some (.int .i64 p.boost) := cell_arr hA2 rfl
          have b3 : wr.cell? ⟨g2, 3, none⟩ = some (.int .i64 p.absent) := cell_arr hA2 rfl
          have b4 : wr.cell? ⟨g2, 4, none⟩ = some (.int .i64 p.burn) := cell_arr hA2 rfl
          have b5 : wr.cell? ⟨g2, 5, none⟩ = some (.int .i64 p.churn) := cell_arr hA2 rfl
          have b6 : wr.cell? ⟨g2, 6, none⟩ = some (.int .i64 p.wait) := cell_arr hA2 rfl
          have b7 : wr.cell? ⟨g2, 7, none⟩ = some (.int .i64 p.poll) := cell_arr hA2 rfl
          have b8 : wr.cell? ⟨g2, 8, none⟩ = some (.int .i64 p.enact) := cell_arr hA2 rfl
          have b9 : wr.cell? ⟨g2, 9, none⟩ = some (.int .i64 p.quorum) := cell_arr hA2 rfl
          have hPq := HPr.out
          have hst : Hid ((rdSeq bs 2147483647 10 (rdSeq bs 18446744073709551615 14 s).2).2 = st3) := by
            show _ = _
            rw [hs1.out]
            simp only
            rw [hs4.out]
          have HRR := Lib.hid hRr
          have HG := HGr
          clear hA1 hA2 hys hul hIr hRr HRr HIr HAr HPr HGr hlen hlt hk hxs H1 H2
          go_wp2_with (first
            | (refine build_rpar2 _ rfl rfl p (by kernel_rfl) ?_)
            | (refine store_rpar2 _ _ rfl rfl w.heap.size p Par.none 30 rfl rfl hPq ?_))
          refine bodyPost_ret (res_rpar Try.results49 rfl (ParAt.set hPq)) rfl ⟨rfl, ?_⟩
          rw [hst.out]
          exact ⟨HRR.out.grown (grown_setRow wr w.heap.size p.vals) (by simp; omega) (fun q hq e => by injection e with e; omega), ⟨HG.out.os, HG.out.tape, HG.out.output, by simpa using HG.out.size, fun i hi hn => (setRow_other wr w.heap.size i _ (by omega)).trans (HG.out.block i hi hn)⟩⟩
end Go.Proofs.Ytjgbpgdnmghcpaa
namespace Go.Proofs.Ytjgbpgdnmghcpaa
open Go.RowKit
set_option linter.unusedVariables false
set_option linter.unusedSimpArgs false

theorem exec_load_rpar2 {o : Oper} {a : Act} {w : World} (x : Operand) (ho : o.op = .load 30 x) (g : Nat) (p : Par) (T : TypeId) (hx : a.eval x = .pointer (some ⟨g, 0, none⟩)) (hP : ParAt w g p T) :
    (execOp a.eval o).run Try.prog w = .ok (.value (.agg p.vals)) w := by
  unfold execOp
  simp only [ho, hx, Instr.loadAt, Instr.sureAddr, Sem.run_bind, Sem.run_pure, Result.andThen_ok, run_loadVar_row w g T 30 p.vals (0, 0) _ hP Try.underlying30 rfl (by kernel_rfl)]
theorem exec_build_rpar {o : Oper} {a : Act} (parts : Array (Nat × Operand)) (ho : o.op = .build 30 parts) (p : Par) (hb : Try.prog.built 30 (parts.map fun (i, x) => (i, a.eval x)).toList = some p.vals) (w : World) :
    (execOp a.eval o).run Try.prog w = .ok (.value (.agg p.vals)) w := by
  unfold execOp
  simp only [ho, Sem.run_bind, run_build w _ _ _ hb, Result.andThen_ok]
  rfl
theorem res_rpar3 {fn : Func} {s k l : Nat} {T : TypeId} {p : Par} {g : Nat} {tmps : Array Value} {w : World} (h : fn.results = #[.cell s 30, .tmp k, .tmp l]) (hp : tmps.getD s undef = .pointer (some ⟨g, 0, none⟩)) (hP : ParAt w g p T) : (results fn tmps).run Try.prog w = .ok (.tuple #[.agg p.vals, tmps.getD k undef, tmps.getD l undef]) w := by
  have hp' : tmps[s]?.getD undef = .pointer (some ⟨g, 0, none⟩) := by simpa using hp
  simp [results, h, hp', asAddr, run_loadVar_row w g T 30 p.vals (0, 0) _ hP Try.underlying30 rfl (by kernel_rfl)]

set_option maxRecDepth 100000 in
set_option maxHeartbeats 4000000 in
theorem rpdec_bad (xs : List Nat) (A : Option Addr) (c : Nat) (p : Par) (st : Nat × Nat) (w : World) (hx : Lies w (· < w.heap.size) A xs) (hl : xs.length ≤ 3000) (hc : xs.length ≤ c) (hcm : c ≤ maxLen) (hb : ∀ x ∈ xs, x < 256) (h1 : p.us = (rdSeq xs 18446744073709551615 14 (0, 0)).1) (h2 : p.is = ((rdSeq xs 2147483647 10 (rdSeq xs 18446744073709551615 14 (0, 0)).2).1.map fun (y : Nat) => (y : Int))) (hst : (rdSeq xs 2147483647 10 (rdSeq xs 18446744073709551615 14 (0, 0)).2).2 = st) (he : st.2 ≠ 0) :
    Calls Try.prog 23 #[.slice A xs.length c] w fun e w' => e = .returned (.tuple #[.agg Par.none.vals, .int .i64 0, .int .i64 (st.2 : Int)]) ∧ Below w.heap.size w w' := by
  have hP0 := ParAt.new w Par.none 30
  have hB1 : Below w.heap.size w ((w.alloc (.cells Par.none.vals 30)).alloc (.cells #[.slice A xs.length c, .int .i64 0, .int .i64 0] 91)) := ((Below.refl _ _).alloc (Nat.le_refl _) _).alloc (by simp) _
  have hP1 := hP0.up ((Below.refl _ (w.alloc (.cells Par.none.vals 30))).alloc (Nat.le_refl _) (.cells #[.slice A xs.length c, .int .i64 0, .int .i64 0] 91))
  have hR1 : RefR ((w.alloc (.cells Par.none.vals 30)).alloc (.cells #[.slice A xs.length c, .int .i64 0, .int .i64 0] 91)) (w.heap.size + 1) w.heap.size xs (0, 0) A c := by
    have h := heap_alloc_new (w.alloc (.cells Par.none.vals 30)) (.cells #[.slice A xs.length c, .int .i64 0, .int .i64 0] 91)
    rw [show (w.alloc (.cells Par.none.vals 30)).heap.size = w.heap.size + 1 by simp] at h
    exact ⟨h, hx.hold fun a ha => hB1.cell ha, hc, hcm, Nat.zero_le _, Nat.zero_le _, Nat.le_succ _, hb, hl⟩
  have kr := rparread_is (w.heap.size + 1) w.heap.size xs (0, 0) A c p _ hR1 h1 h2
  rw [hst] at kr
  have d1 : ((st.2 : Int) != 0) = true := by simp; omega
  have hdl : w.heap.size < w.heap.size + 1 := Nat.lt_succ_self _
  clear he
  clear hx hl hc hcm hb h1 h2 hst hP0 hR1
  go_enter Try.func23, Try.ntmps23
  go_upto_region 3 with (first
    | (go_at_call 49; refine kr.mono ?_; clear kr; rintro e w2 ⟨rfl, hR2, hg2⟩)
    | (refine store_rpar2 _ _ rfl rfl w2.heap.size p Par.none 30 rfl rfl (ParAt.new w2 Par.none 30) ?_))
  have hP2 := hP1.grown hg2 (by omega)
  have hlt2 := hR2.lt
  have hB2 := hB1.trans (below_of_grown hg2 (Nat.le_succ _) hB1.size)
  generalize hW3 : World.setRow _ _ _ = w3
  have hQ3 : ParAt w3 w2.heap.size p 30 := by rw [← hW3]; exact (ParAt.new w2 Par.none 30).set
  have hb3 : Below w2.heap.size w2 w3 := by rw [← hW3]; exact below_setRow ((Below.refl _ _).alloc (Nat.le_refl _) _) (Nat.le_refl _) _
  have hP3 := hP2.up hb3
  have hR3 := hR2.grown (grown_below hb3 none) (by simp) (by simp)
  have hB3 := Below.then hB2 hb3
  obtain ⟨r0, r1, r2, -, -⟩ := hR3.cells
  clear hW3 hP1 hP2 hR2 hg2 hB1 hB2 hb3
  have hwl : w.heap.size + 1 < w2.heap.size := hlt2
  have HB := hB3
  go_upto_region 4 with fail
  have hPd : ParAt w3.drew w.heap.size Par.none 30 := hP3
  have EX : ∀ ph w', (w' = if ph = 0 then w3.drew else w3.drew.setRow w.heap.size Par.none.vals) → ParAt w' w2.heap.size p 30 ∧ w'.cell? ⟨w.heap.size + 1, 2, none⟩ = some (.int .i64 (st.2 : Int)) := fun ph w' h => by
    by_cases h0 : ph = 0
    · rw [if_pos h0] at h
      subst h
      exact ⟨hQ3, r2⟩
    · rw [if_neg h0] at h
      subst h
      have hg := grown_setRow w3.drew w.heap.size Par.none.vals
      refine ⟨(show ParAt w3.drew w2.heap.size p 30 from hQ3).grown hg (by omega), ?_⟩
      exact cell_grown_at hg (by omega) (show w3.drew.cell? _ = _ from r2)
  refine region_list [5] (fun k w' => Hid (w' = if k = 0 then w3.drew else w3.drew.setRow w.heap.size Par.none.vals)) (by kernel_rfl) (by kernel_rfl) (by show _ = _; rw [if_pos rfl]) ?_
  refine SeqS.calm (.agg Par.none.vals) (by rfl) (by rfl) (fun w => exec_build_rpar _ rfl Par.none (by kernel_rfl) w) ?_
  simp only [Act.put, List.setIfInBounds_toArray, List.set_cons_zero, List.set_cons_succ]
  refine' SeqS.calm _ (by rfl) (by rfl) (fun w => ?_) ?_; rotate_left; · (go_simp <;> with_reducible rfl)
  simp only [Act.put, List.setIfInBounds_toArray, List.set_cons_zero, List.set_cons_succ]
  refine' SeqS.calm _ (by rfl) (by rfl) (fun w => ?_) ?_; rotate_left; · (go_simp <;> with_reducible rfl)
  simp only [Act.put, List.setIfInBounds_toArray, List.set_cons_zero, List.set_cons_succ]
  refine' SeqS.calm _ (by rfl) (by rfl) (fun w => ?_) ?_; rotate_left; · (go_simp <;> with_reducible rfl)
  simp only [Act.put, List.setIfInBounds_toArray, List.set_cons_zero, List.set_cons_succ]
  refine' SeqS.take _ (by rfl) (by rfl) (fun ph w' hS => ?_) ?_; rotate_left; · (have r2 := (EX ph w' hS.out).2; go_simp <;> with_reducible rfl)
  simp only [Act.put, List.setIfInBounds_toArray, List.set_cons_zero, List.set_cons_succ]
  refine SeqS.turn 0 undef (by rfl) (by rfl) (by decide) (fun W' K Q hS hK => by have hS := hS.out; rw [if_pos rfl] at hS; subst hS; exact wp_store_row 30 _ _ rfl w.heap.size Par.none.vals rfl rfl 30 Par.none.vals hPd (by kernel_rfl) rfl (vals_one Par.none) (hK _ (by show _ = _; rw [if_neg (by decide)]))) ?_
  simp only [Act.put, List.setIfInBounds_toArray, List.set_cons_zero, List.set_cons_succ]
  refine' SeqS.calm _ (by rfl) (by rfl) (fun w => ?_) ?_; rotate_left; · (go_simp <;> with_reducible rfl)
  simp only [Act.put, List.setIfInBounds_toArray, List.set_cons_zero, List.set_cons_succ]
  refine' SeqS.calm _ (by rfl) (by rfl) (fun w => ?_) ?_; rotate_left; · (go_simp <;> with_reducible rfl)
  simp only [Act.put, List.setIfInBounds_toArray, List.set_cons_zero, List.set_cons_succ]
  intro w9 hw9
  have hw9 := hw9.out
  rw [if_neg (by decide)] at hw9
  subst hw9
  have hPz := ParAt.set (p := Par.none) hPd
  go_wp2
  refine bodyPost_ret (res_rpar3 Try.results23 rfl hPz) rfl ⟨rfl, below_setRow HB.drew (Nat.le_refl _) _⟩

set_option maxRecDepth 100000 in
set_option maxHeartbeats 4000000 in
theorem rpdec_no (xs : List Nat) (A : Option Addr) (c : Nat) (p : Par) (st : Nat × Nat) (w : World) (hx : Lies w (· < w.heap.size) A xs) (hl : xs.length ≤ 3000) (hc : xs.length ≤ c) (hcm : c ≤ maxLen) (hb : ∀ x ∈ xs, x < 256) (h1 : p.us = (rdSeq xs 18446744073709551615 14 (0, 0)).1) (h2 : p.is = ((rdSeq xs 2147483647 10 (rdSeq xs 18446744073709551615 14 (0, 0)).2).1.map fun (y : Nat) => (y : Int))) (hst : (rdSeq xs 2147483647 10 (rdSeq xs 18446744073709551615 14 (0, 0)).2).2 = st) (h0 : st.2 = 0) (hn : ¬ ∃ T, Par.Right p T) :
    Calls Try.prog 23 #[.slice A xs.length c] w fun e w' => e = .returned (.tuple #[.agg Par.none.vals, .int .i64 0, .int .i64 70]) ∧ Below w.heap.size w w' := by
  have hP0 := ParAt.new w Par.none 30
  have hB1 : Below w.heap.size w ((w.alloc (.cells Par.none.vals 30)).alloc (.cells #[.slice A xs.length c, .int .i64 0, .int .i64 0] 91)) := ((Below.refl _ _).alloc (Nat.le_refl _) _).alloc (by simp) _
  have hP1 := hP0.up ((Below.refl _ (w.alloc (.cells Par.none.vals 30))).alloc (Nat.le_refl _) (.cells #[.slice A xs.length c, .int .i64 0, .int .i64 0] 91))
  have hR1 : RefR ((w.alloc (.cells Par.none.vals 30)).alloc (.cells #[.slice A xs.length c, .int .i64 0, .int .i64 0] 91)) (w.heap.size + 1) w.heap.size xs (0, 0) A c := by
    have h := heap_alloc_new (w.alloc (.cells Par.none.vals 30)) (.cells #[.slice A xs.length c, .int .i64 0, .int .i64 0] 91)
    rw [show (w.alloc (.cells Par.none.vals 30)).heap.size = w.heap.size + 1 by simp] at h
    exact ⟨h, hx.hold fun a ha => hB1.cell ha, hc, hcm, Nat.zero_le _, Nat.zero_le _, Nat.le_succ _, hb, hl⟩
  have kr := rparread_is (w.heap.size + 1) w.heap.size xs (0, 0) A c p _ hR1 h1 h2
  rw [hst] at kr
  have hdl : w.heap.size < w.heap.size + 1 := Nat.lt_succ_self _
  have kq := fun w => refright_no p w hn
  clear hn
  clear hx hl hc hcm hb h1 h2 hst hP0 hR1
  go_enter Try.func23, Try.ntmps23
  go_upto_region 3 with (first
    | (go_at_call 49; refine kr.mono ?_; clear kr; rintro e w2 ⟨rfl, hR2, hg2⟩)
    | (refine store_rpar2 _ _ rfl rfl w2.heap.size p Par.none 30 rfl rfl (ParAt.new w2 Par.none 30) ?_))
  have hP2 := hP1.grown hg2 (by omega)
  have hlt2 := hR2.lt
  have hB2 := hB1.trans (below_of_grown hg2 (Nat.le_succ _) hB1.size)
  generalize hW3 : World.setRow _ _ _ = w3
  have hQ3 : ParAt w3 w2.heap.size p 30 := by rw [← hW3]; exact (ParAt.new w2 Par.none 30).set
  have hb3 : Below w2.heap.size w2 w3 := by rw [← hW3]; exact below_setRow ((Below.refl _ _).alloc (Nat.le_refl _) _) (Nat.le_refl _) _
  have hP3 := hP2.up hb3
  have hR3 := hR2.grown (grown_below hb3 none) (by simp) (by simp)
  have hB3 := Below.then hB2 hb3
  obtain ⟨r0, r1, r2, -, -⟩ := hR3.cells
  clear hW3 hP1 hP2 hR2 hg2 hB1 hB2 hb3
  have hwl : w.heap.size + 1 < w2.heap.size := hlt2
  have r2z : w3.cell? ⟨w.heap.size + 1, 2, none⟩ = some (.int .i64 0) := by rw [r2, h0]; rfl
  clear r2 h0
  go_upto_region 6 with (first
    | (refine load_ref _ rfl rfl w2.heap.size p _ rfl hQ3 ?_)
    | (go_at_call 10; refine (kq _).mono ?_; clear kq; rintro e w4 ⟨rfl, hb4⟩; have hP4 := hP3.up hb4; have hB4 := Below.then hB3 hb4))
  go_wp2_with (first
    | (refine build_rpar2 _ rfl rfl Par.none (by kernel_rfl) ?_)
    | (refine store_rpar2 _ _ rfl rfl w.heap.size Par.none Par.none 30 rfl rfl hP4 ?_))
  refine bodyPost_ret (res_rpar3 Try.results23 rfl (ParAt.set hP4)) rfl ⟨rfl, below_setRow hB4 (Nat.le_refl _) _⟩

set_option maxRecDepth 100000 in
set_option maxHeartbeats 4000000 in
theorem rpdec_ok (xs : List Nat) (A : Option Addr) (c : Nat) (p : Par) (st : Nat × Nat) (w : World) (hx : Lies w (· < w.heap.size) A xs) (hl : xs.length ≤ 3000) (hc : xs.length ≤ c) (hcm : c ≤ maxLen) (hb : ∀ x ∈ xs, x < 256) (h1 : p.us = (rdSeq xs 18446744073709551615 14 (0, 0)).1) (h2 : p.is = ((rdSeq xs 2147483647 10 (rdSeq xs 18446744073709551615 14 (0, 0)).2).1.map fun (y : Nat) => (y : Int))) (hst : (rdSeq xs 2147483647 10 (rdSeq xs 18446744073709551615 14 (0, 0)).2).2 = st) (h0 : st.2 = 0) (N : Nat) (hn : Par.Right p N) :
    Calls Try.prog 23 #[.slice A xs.length c] w fun e w' => e = .returned (.tuple #[.agg p.vals, .int .i64 (st.1 : Int), .int .i64 0]) ∧ Below w.heap.size w w' := by
  have hP0 := ParAt.new w Par.none 30
  have hB1 : Below w.heap.size w ((w.alloc (.cells Par.none.vals 30)).alloc (.cells #[.slice A xs.length c, .int .i64 0, .int .i64 0] 91)) := ((Below.refl _ _).alloc (Nat.le_refl _) _).alloc (by simp) _
  have hP1 := hP0.up ((Below.refl _ (w.alloc (.cells Par.none.vals 30))).alloc (Nat.le_refl _) (.cells #[.slice A xs.length c, .int .i64 0, .int .i64 0] 91))
  have hR1 : RefR ((w.alloc (.cells Par.none.vals 30)).alloc (.cells #[.slice A xs.length c, .int .i64 0, .int .i64 0] 91)) (w.heap.size + 1) w.heap.size xs (0, 0) A c := by
    have h := heap_alloc_new (w.alloc (.cells Par.none.vals 30)) (.cells #[.slice A xs.length c, .int .i64 0, .int .i64 0] 91)
    rw [show (w.alloc (.cells Par.none.vals 30)).heap.size = w.heap.size + 1 by simp] at h
    exact ⟨h, hx.hold fun a ha => hB1.cell ha, hc, hcm, Nat.zero_le _, Nat.zero_le _, Nat.le_succ _, hb, hl⟩
  have kr := rparread_is (w.heap.size + 1) w.heap.size xs (0, 0) A c p _ hR1 h1 h2
  rw [hst] at kr
  have hdl : w.heap.size < w.heap.size + 1 := Nat.lt_succ_self _
  have kq := fun w => refright_ok p N w hn
  clear hn
  clear hx hl hc hcm hb h1 h2 hst hP0 hR1
  go_enter Try.func23, Try.ntmps23
  go_upto_region 3 with (first
    | (go_at_call 49; refine kr.mono ?_; clear kr; rintro e w2 ⟨rfl, hR2, hg2⟩)
    | (refine store_rpar2 _ _ rfl rfl w2.heap.size p Par.none 30 rfl rfl (ParAt.new w2 Par.none 30) ?_))
  have hP2 := hP1.grown hg2 (by omega)
  have hlt2 := hR2.lt
  have hB2 := hB1.trans (below_of_grown hg2 (Nat.le_succ _) hB1.size)
  generalize hW3 : World.setRow _ _ _ = w3
  have hQ3 : ParAt w3 w2.heap.size p 30 := by rw [← hW3]; exact (ParAt.new w2 Par.none 30).set
  have hb3 : Below w2.heap.size w2 w3 := by rw [← hW3]; exact below_setRow ((Below.refl _ _).alloc (Nat.le_refl _) _) (Nat.le_refl _) _
  have hP3 := hP2.up hb3
  have hR3 := hR2.grown (grown_below hb3 none) (by simp) (by simp)
  have hB3 := Below.then hB2 hb3
  obtain ⟨r0, r1, r2, -, -⟩ := hR3.cells
  clear hW3 hP1 hP2 hR2 hg2 hB1 hB2 hb3
  have hwl : w.heap.size + 1 < w2.heap.size := hlt2
  have r2z : w3.cell? ⟨w.heap.size + 1, 2, none⟩ = some (.int .i64 0) := by rw [r2, h0]; rfl
  clear r2 h0
  go_upto_region 7 with (first
    | (refine load_ref _ rfl rfl w2.heap.size p _ rfl hQ3 ?_)
    | (go_at_call 10; refine (kq _).mono ?_; clear kq; rintro e w4 ⟨rfl, hb4⟩; have hP4 := hP3.up hb4; have hQ4 := hQ3.up hb4; have hB4 := Below.then hB3 hb4; have r14 := (hR3.grown (grown_below hb4 none) (by simp) (by simp)).cells.2.1))
  have HB := hB4
  have hPd : ParAt w4.drew w.heap.size Par.none 30 := hP4
  have EX : ∀ ph w', (w' = if ph = 0 then w4.drew else w4.drew.setRow w.heap.size p.vals) → ParAt w' w2.heap.size p 30 ∧ w'.cell? ⟨w.heap.size + 1, 1, none⟩ = some (.int .i64 (st.1 : Int)) := fun ph w' h => by
    by_cases h0 : ph = 0
    · rw [if_pos h0] at h
      subst h
      exact ⟨hQ4, r14⟩
    · rw [if_neg h0] at h
      subst h
      have hg := grown_setRow w4.drew w.heap.size p.vals
      refine ⟨(show ParAt w4.drew w2.heap.size p 30 from hQ4).grown hg (by omega), ?_⟩
      exact cell_grown_at hg (by omega) (show w4.drew.cell? _ = _ from r14)
  refine region_list [5] (fun k w' => Hid (w' = if k = 0 then w4.drew else w4.drew.setRow w.heap.size p.vals)) (by kernel_rfl) (by kernel_rfl) (by show _ = _; rw [if_pos rfl]) ?_
  refine SeqS.take (.agg p.vals) (by rfl) (by rfl) (fun ph w' hS => exec_load_rpar2 _ rfl w2.heap.size p 30 rfl (EX ph w' hS.out).1) ?_
  simp only [Act.put, List.setIfInBounds_toArray, List.set_cons_zero, List.set_cons_succ]
  refine' SeqS.calm _ (by rfl) (by rfl) (fun w => ?_) ?_; rotate_left; · (go_simp <;> with_reducible rfl)
  simp only [Act.put, List.setIfInBounds_toArray, List.set_cons_zero, List.set_cons_succ]
  refine' SeqS.calm _ (by rfl) (by rfl) (fun w => ?_) ?_; rotate_left; · (go_simp <;> with_reducible rfl)
  simp only [Act.put, List.setIfInBounds_toArray, List.set_cons_zero, List.set_cons_succ]
  refine' SeqS.calm _ (by rfl) (by rfl) (fun w => ?_) ?_; rotate_left; · (go_simp <;> with_reducible rfl)
  simp only [Act.put, List.setIfInBounds_toArray, List.set_cons_zero, List.set_cons_succ]
  refine' SeqS.take _ (by rfl) (by rfl) (fun ph w' hS => ?_) ?_; rotate_left; · (have r1z := (EX ph w' hS.out).2; go_simp <;> with_reducible rfl)
  simp only [Act.put, List.setIfInBounds_toArray, List.set_cons_zero, List.set_cons_succ]
  refine SeqS.turn 0 undef (by rfl) (by rfl) (by decide) (fun W' K Q hS hK => by have hS := hS.out; rw [if_pos rfl] at hS; subst hS; exact wp_store_row 30 _ _ rfl w.heap.size p.vals rfl rfl 30 Par.none.vals hPd (by kernel_rfl) rfl (vals_one p) (hK _ (by show _ = _; rw [if_neg (by decide)]))) ?_
  simp only [Act.put, List.setIfInBounds_toArray, List.set_cons_zero, List.set_cons_succ]
  refine' SeqS.calm _ (by rfl) (by rfl) (fun w => ?_) ?_; rotate_left; · (go_simp <;> with_reducible rfl)
  simp only [Act.put, List.setIfInBounds_toArray, List.set_cons_zero, List.set_cons_succ]
  refine' SeqS.calm _ (by rfl) (by rfl) (fun w => ?_) ?_; rotate_left; · (go_simp <;> with_reducible rfl)
  simp only [Act.put, List.setIfInBounds_toArray, List.set_cons_zero, List.set_cons_succ]
  intro w9 hw9
  have hw9 := hw9.out
  rw [if_neg (by decide)] at hw9
  subst hw9
  have hPz := ParAt.set (p := p) hPd
  go_wp2
  refine bodyPost_ret (res_rpar3 Try.results23 rfl hPz) rfl ⟨rfl, below_setRow HB.drew (Nat.le_refl _) _⟩
end Go.Proofs.Ytjgbpgdnmghcpaa
namespace Go.Proofs.Ytjgbpgdnmghcpaa
open Go.RowKit
set_option linter.unusedVariables false
set_option linter.unusedSimpArgs false

set_option maxRecDepth 100000 in
set_option maxHeartbeats 4000000 in
theorem pwrite_nil (p : Par) (N : Nat) (w : World) (h : Par.Right p N) :
    Calls Try.prog 43 #[.pointer none, .agg p.vals] w fun e w' => e = .returned (.int .i64 0) ∧ Below w.heap.size w w' := by
  have hP := ParAt.new w p 24
  have hB : Below w.heap.size w (w.alloc (.cells p.vals 24)) := (Below.refl _ _).alloc (Nat.le_refl _) _
  have kc := fun w => check_ok p N w h
  clear h
  go_enter Try.func43, Try.ntmps43
  go_wp2_with (first
    | (refine load_par _ rfl rfl _ p _ rfl (by assumption) ?_)
    | (go_at_call 12; refine (kc _).mono ?_; rintro e w1 ⟨rfl, hb1⟩; have hP := hP.up hb1; have hB := Below.then hB hb1)
    | (go_at_call 33; refine (words_is _ p _ _ hP).mono ?_; rintro e w2 ⟨g1, rfl, hF1, hg1, hb2⟩; have hP2 := hP.up hb2; have hB2 := Below.then hB hb2))
  have hgl := hP2.lt
  have hg1l := hF1.lt
  have HB2 := Lib.hid hB2
  clear hP hB hb1 hb2 hB2 hg1
  go_loopw [17] (fun iv wr => ∃ (k : Nat), k ≤ 14 ∧ iv = .int .i64 (k : Int) ∧ Hid (Below w2.heap.size w2 wr)) (fun iv _ => 14 - (intOf iv).toNat)
  case atStart => exact ⟨0, by omega, rfl, Below.refl _ _⟩
  case round =>
    obtain ⟨k, hk, rfl, HBr⟩ := hrel
    have hszr := HBr.out.size
    have hPr := hP2.up HBr.out
    have hFr1 := hF1.grown (grown_below HBr.out (some wr.heap.size)) (by omega)
    by_cases hlt : k < 14
    · obtain ⟨x, hx⟩ : ∃ x, Hid (p.wspan[k]? = some x) := ⟨p.wspan[k]'(by simpa [Par.wspan] using hlt), List.getElem?_eq_getElem _⟩
      obtain ⟨c0, c1, c2⟩ := hFr1 k x hx.out
      have cx := hPr.words k x hx.out
      obtain ⟨y, lo, hi⟩ := x
      simp only at c1 c2 cx
      have hgrl : w.heap.size < wr.heap.size := by omega
      have cx1 : (wr.alloc (.cells #[.pointer (some ⟨w.heap.size, k, none⟩), .int .u64 (lo : Int), .int .u64 (hi : Int)] 105)).cell? ⟨w.heap.size, k, none⟩ = some (.int .u64 (y : Int)) := (World.cell?_alloc_lt _ _ _ hgrl).trans cx
      have hBa := Lib.hid (HBr.out.alloc hszr (.cells #[.pointer (some ⟨w.heap.size, k, none⟩), .int .u64 (lo : Int), .int .u64 (hi : Int)] 105))
      clear HBr hx
      go_wp2_with (go_at_call 50; refine (num_nil _ _).mono ?_; rintro e w3 ⟨rfl, rfl⟩)
      go_roundw
      case rel => exact ⟨k + 1, by omega, by go_num, hBa.out⟩
      case measure => simp [intOf]; omega
    · obtain rfl : k = 14 := by omega
      have ki := ints_is w.heap.size p _ wr hPr
      clear hlt hk
      go_wp2_with (go_at_call 35; refine ki.mono ?_; clear ki; rintro e w4 ⟨g2, rfl, hF2, hg2, hb4⟩)
      have hPr4 := hPr.up hb4
      have hg2l := hF2.lt
      have hgl4 := hPr4.lt
      have HB4 := Lib.hid (Below.then HBr.out hb4)
      clear hPr hFr1 HBr hb4 hg2 hszr
      go_loopw [30] (fun iv wr => ∃ (k : Nat), k ≤ 10 ∧ iv = .int .i64 (k : Int) ∧ Hid (Below w4.heap.size w4 wr)) (fun iv _ => 10 - (intOf iv).toNat)
      case atStart => exact ⟨0, by omega, rfl, Below.refl _ _⟩
      case round =>
        obtain ⟨k, hk, rfl, HBr⟩ := hrel
        have hszr := HBr.out.size
        have hPq := hPr4.up HBr.out
        have hFq := hF2.grown (grown_below HBr.out (some wr.heap.size)) (by omega)
        by_cases hlt : k < 10
        · obtain ⟨x, hx⟩ : ∃ x, Hid (p.ispan[k]? = some x) := ⟨p.ispan[k]'(by simpa [Par.ispan] using hlt), List.getElem?_eq_getElem _⟩
          obtain ⟨c0, c1, c2⟩ := hFq k x hx.out
          have cx := hPq.ints k x hx.out
          obtain ⟨y, lo, hi⟩ := x
          simp only at c0 c1 c2 cx
          have hgrl : w.heap.size < wr.heap.size := hPq.lt
          have cx1 : (wr.alloc (.cells #[.pointer (some ⟨w.heap.size, 14 + k, none⟩), .int .i64 lo, .int .i64 hi] 110)).cell? ⟨w.heap.size, 14 + k, none⟩ = some (.int .i64 y) := (World.cell?_alloc_lt _ _ _ hgrl).trans cx
          have hBa := Lib.hid (HBr.out.alloc hszr (.cells #[.pointer (some ⟨w.heap.size, 14 + k, none⟩), .int .i64 lo, .int .i64 hi] 110))
          clear HBr hx
          go_wp2_with (go_at_call 65; refine (int_nil _ _).mono ?_; rintro e w5 ⟨rfl, rfl⟩)
          go_roundw
          case rel => exact ⟨k + 1, by omega, by go_num, hBa.out⟩
          case measure => simp [intOf]; omega
        · obtain rfl : k = 10 := by omega
          clear hlt hk
          go_wp2
          go_ret
          exact ⟨rfl, Below.then (Below.then HB2.out HB4.out) HBr.out⟩

theorem none_word (k : Nat) (hk : k < 14) : Par.none.vals.setIfInBounds k (.int .u64 0) = Par.none.vals := by
  match k, hk with
  | 0, _ | 1, _ | 2, _ | 3, _ | 4, _ | 5, _ | 6, _ | 7, _ | 8, _ | 9, _ | 10, _ | 11, _ | 12, _ | 13, _ => rfl
theorem none_int (k : Nat) (hk : k < 10) : Par.none.vals.setIfInBounds (14 + k) (.int .i64 0) = Par.none.vals := by
  match k, hk with
  | 0, _ | 1, _ | 2, _ | 3, _ | 4, _ | 5, _ | 6, _ | 7, _ | 8, _ | 9, _ => rfl
theorem none_has (k : Nat) (hk : k < 24) : ∃ u, Par.none.vals[k]? = some u := ⟨Par.none.vals[k]'(by rw [vals_size]; exact hk), Array.getElem?_eq_getElem _⟩

set_option maxRecDepth 100000 in
set_option maxHeartbeats 4000000 in
theorem pread_nil (w : World) :
    Calls Try.prog 47 #[.pointer none] w fun e w' => e = .returned (.tuple #[.agg Par.none.vals, .int .i64 1]) ∧ Below w.heap.size w w' := by
  have hP0 := ParAt.new w Par.none 24
  have hB0 : Below w.heap.size w (w.alloc (.cells Par.none.vals 24)) := (Below.refl _ _).alloc (Nat.le_refl _) _
  have kz : ∀ W, Calls Try.prog 51 #[.pointer none, .int .u64 18446744073709551615] W fun e w' => e = .returned (.int .u64 0) ∧ Below W.heap.size W w' := fun W => (rnum_nil _ W).mono (by rintro e w' ⟨rfl, rfl⟩; exact ⟨rfl, Below.refl _ _⟩)
  have ky : ∀ W, Calls Try.prog 68 #[.pointer none, .int .i64 2147483647] W fun e w' => e = .returned (.int .i64 0) ∧ Below W.heap.size W w' := fun W => (rint_nil _ W).mono (by rintro e w' ⟨rfl, rfl⟩; exact ⟨rfl, Below.refl _ _⟩)
  go_enter Try.func47, Try.ntmps47
  go_wp2_with (go_at_call 33; refine (words_is _ Par.none _ _ hP0).mono ?_; rintro e w2 ⟨g1, rfl, hF1, hg1, hb2⟩)
  have HP2 := Lib.hid (hP0.up hb2)
  have HB2 := Lib.hid (Below.then hB0 hb2)
  have hg1' : w.heap.size < g1 := by have := hg1; simp at this; omega
  have HF1 := Lib.hid hF1
  clear hP0 hB0 hg1 hb2 hF1
  go_loopw [12] (fun iv wr => ∃ (k : Nat), k ≤ 14 ∧ iv = .int .i64 (k : Int) ∧ Hid (ParAt wr w.heap.size Par.none 24) ∧ Hid (FieldsW wr g1 w.heap.size Par.none.wspan) ∧ Hid (Below w.heap.size w wr)) (fun iv _ => 14 - (intOf iv).toNat)
  case atStart => exact ⟨0, by omega, rfl, HP2.out, HF1.out, HB2.out⟩
  case round =>
    obtain ⟨k, hk, rfl, HPr, HFr, HBr⟩ := hrel
    by_cases hlt : k < 14
    · obtain ⟨x, hx⟩ : ∃ x, Hid (Par.none.wspan[k]? = some x) := ⟨Par.none.wspan[k]'(by simpa [Par.wspan] using hlt), List.getElem?_eq_getElem _⟩
      obtain ⟨c0, c1, c2⟩ := HFr.out k x hx.out
      obtain ⟨y, lo, hi⟩ := x
      simp only at c1 c2
      have hszr := HBr.out.size
      have hlr := HPr.out.lt
      have hfl := HFr.out.lt
      have hb0 : Below wr.heap.size wr (wr.alloc (.cells #[.pointer (some ⟨w.heap.size, k, none⟩), .int .u64 (lo : Int), .int .u64 (hi : Int)] 105)) := (Below.refl _ _).alloc (Nat.le_refl _) _
      have hPa := HPr.out.up hb0
      have hFa := HFr.out.grown (grown_below hb0 (some wr.heap.size)) (by omega)
      have hBa := Below.then HBr.out hb0
      have hn0 := new_row wr #[.pointer (some ⟨w.heap.size, k, none⟩), .int .u64 (lo : Int), .int .u64 (hi : Int)] 105 0 _ rfl
      obtain ⟨wa, hwa⟩ : ∃ wa, Hid (wr.alloc (.cells #[.pointer (some ⟨w.heap.size, k, none⟩), .int .u64 (lo : Int), .int .u64 (hi : Int)] 105) = wa) := ⟨_, rfl⟩
      have hwz : wr.heap.size < wa.heap.size := by rw [← hwa.out]; simp
      rw [hwa.out] at hPa hFa hBa hn0
      obtain ⟨u, hu⟩ := none_has k (by omega)
      have HPA := Lib.hid (show ParAt wa.drew w.heap.size Par.none 24 from hPa)
      have HFA := Lib.hid (show FieldsW wa.drew g1 w.heap.size Par.none.wspan from hFa)
      have HBA := Lib.hid hBa.drew
      have hn1 : wa.drew.cell? ⟨wr.heap.size, 0, none⟩ = some (.pointer (some ⟨w.heap.size, k, none⟩)) := hn0
      have hwy : wr.heap.size < wa.drew.heap.size := hwz
      have HU := Lib.hid hu
      clear hPa hFa hBa hu hb0 HPr HFr HBr hx
      go_wp2
      rw [hwa.out]
      go_region_with (go_at_call 51; refine (kz _).mono ?_; rintro e w3 ⟨rfl, hb3⟩; have d0 := (hb3.cell (p := ⟨wr.heap.size, 0, none⟩) hwy).trans hn1; have dP : ParAt w3 w.heap.size Par.none 24 := HPA.out.up hb3; have dg : w3.cell? ⟨w.heap.size, k, none⟩ = some u := (dP.cell k).trans HU.out; have df := frozen_of_row w3 w.heap.size k _ _ dP)
      all_goals
        have hP4 : ParAt (w3.setCell ⟨w.heap.size, k, none⟩ (.int .u64 0)) w.heap.size Par.none 24 := by
          have h := heap_setCell_same w3 w.heap.size k _ _ (.int .u64 0) dP
          rw [none_word k hlt] at h
          exact h
        have hF4 := (HFA.out.grown (w' := w3) (b := wa.heap.size) (grown_below hb3 (some wa.heap.size)) (by omega)).grown (grown_set w3 w.heap.size k (.int .u64 0)) (by omega)
        have hB4 : Below w.heap.size w (w3.setCell ⟨w.heap.size, k, none⟩ (.int .u64 0)) := below_of_grown (grown_trans (grown_below (Below.then HBA.out hb3) (some w.heap.size)) (grown_set w3 w.heap.size k (.int .u64 0))) (Nat.le_refl _) (Nat.le_refl _)
        go_wp2
        go_roundw
        case rel => exact ⟨k + 1, by omega, by go_num, hP4, hF4, hB4⟩
        case measure => simp [intOf]; omega
    · obtain rfl : k = 14 := by omega
      have ki := ints_is w.heap.size Par.none _ wr HPr.out
      clear hlt hk HFr HF1 HP2 HB2
      go_wp2_with (go_at_call 35; refine ki.mono ?_; clear ki; rintro e w4 ⟨g2, rfl, hF2, hg2, hb4⟩)
      have hg2w : w.heap.size < g2 := by
        have h1 := HPr.out.lt
        omega
      have HP4 := Lib.hid (HPr.out.up hb4)
      have HB4 := Lib.hid (Below.then HBr.out hb4)
      have HF2 := Lib.hid hF2
      clear HPr HBr hF2 hb4 hg2
      go_loopw [24] (fun iv wr => ∃ (k : Nat), k ≤ 10 ∧ iv = .int .i64 (k : Int) ∧ Hid (ParAt wr w.heap.size Par.none 24) ∧ Hid (FieldsI wr g2 w.heap.size Par.none.ispan) ∧ Hid (Below w.heap.size w wr)) (fun iv _ => 10 - (intOf iv).toNat)
      case atStart => exact ⟨0, by omega, rfl, HP4.out, HF2.out, HB4.out⟩
      case round =>
        obtain ⟨k, hk, rfl, HPr, HFr, HBr⟩ := hrel
        by_cases hlt : k < 10
        · obtain ⟨x, hx⟩ : ∃ x, Hid (Par.none.ispan[k]? = some x) := ⟨Par.none.ispan[k]'(by simpa [Par.ispan] using hlt), List.getElem?_eq_getElem _⟩
          obtain ⟨c0, c1, c2⟩ := HFr.out k x hx.out
          obtain ⟨y, lo, hi⟩ := x
          simp only at c1 c2
          have hszr := HBr.out.size
          have hlr := HPr.out.lt
          have hfl := HFr.out.lt
          have hb0 : Below wr.heap.size wr (wr.alloc (.cells #[.pointer (some ⟨w.heap.size, 14 + k, none⟩), .int .i64 lo, .int .i64 hi] 110)) := (Below.refl _ _).alloc (Nat.le_refl _) _
          have hPa := HPr.out.up hb0
          have hFa := HFr.out.grown (grown_below hb0 (some wr.heap.size)) (by omega)
          have hBa := Below.then HBr.out hb0
          have hn0 := new_row wr #[.pointer (some ⟨w.heap.size, 14 + k, none⟩), .int .i64 lo, .int .i64 hi] 110 0 _ rfl
          obtain ⟨wa, hwa⟩ : ∃ wa, Hid (wr.alloc (.cells #[.pointer (some ⟨w.heap.size, 14 + k, none⟩), .int .i64 lo, .int .i64 hi] 110) = wa) := ⟨_, rfl⟩
          have hwz : wr.heap.size < wa.heap.size := by rw [← hwa.out]; simp
          rw [hwa.out] at hPa hFa hBa hn0
          obtain ⟨u, hu⟩ := none_has (14 + k) (by omega)
          have HPA := Lib.hid (show ParAt wa.drew w.heap.size Par.none 24 from hPa)
          have HFA := Lib.hid (show FieldsI wa.drew g2 w.heap.size Par.none.ispan from hFa)
          have HBA := Lib.hid hBa.drew
          have hn1 : wa.drew.cell? ⟨wr.heap.size, 0, none⟩ = some (.pointer (some ⟨w.heap.size, 14 + k, none⟩)) := hn0
          have hwy : wr.heap.size < wa.drew.heap.size := hwz
          have HU := Lib.hid hu
          clear hPa hFa hBa hu hb0 HPr HFr HBr hx
          go_wp2
          rw [hwa.out]
          go_region_with (go_at_call 68; refine (ky _).mono ?_; rintro e w3 ⟨rfl, hb3⟩; have d0 := (hb3.cell (p := ⟨wr.heap.size, 0, none⟩) hwy).trans hn1; have dP : ParAt w3 w.heap.size Par.none 24 := HPA.out.up hb3; have dg : w3.cell? ⟨w.heap.size, 14 + k, none⟩ = some u := (dP.cell (14 + k)).trans HU.out; have df := frozen_of_row w3 w.heap.size (14 + k) _ _ dP)
          all_goals
            have hP4 : ParAt (w3.setCell ⟨w.heap.size, 14 + k, none⟩ (.int .i64 0)) w.heap.size Par.none 24 := by
              have h := heap_setCell_same w3 w.heap.size (14 + k) _ _ (.int .i64 0) dP
              rw [none_int k hlt] at h
              exact h
            have hF4 := (HFA.out.grown (w' := w3) (b := wa.heap.size) (grown_below hb3 (some wa.heap.size)) (by omega)).grown (grown_set w3 w.heap.size (14 + k) (.int .i64 0)) (by omega)
            have hB4 : Below w.heap.size w (w3.setCell ⟨w.heap.size, 14 + k, none⟩ (.int .i64 0)) := below_of_grown (grown_trans (grown_below (Below.then HBA.out hb3) (some w.heap.size)) (grown_set w3 w.heap.size (14 + k) (.int .i64 0))) (Nat.le_refl _) (Nat.le_refl _)
            go_wp2
            go_roundw
            case rel => exact ⟨k + 1, by omega, by go_num, hP4, hF4, hB4⟩
            case measure => simp [intOf]; omega
        · obtain rfl : k = 10 := by omega
          have hPq := HPr.out
          have HB := HBr
          clear hlt hk HPr HFr HF2 HP4 HB4
          go_wp2_with (first
            | (go_at_call 69; refine (rerr_nil _).mono ?_; rintro e w5 ⟨rfl, rfl⟩)
            | (refine build_par _ rfl rfl Par.none (by kernel_rfl) ?_)
            | (refine store_par _ _ rfl rfl w.heap.size Par.none Par.none 24 rfl rfl hPq ?_))
          exact bodyPost_ret (res_par2 Try.results47 rfl (ParAt.set hPq)) rfl ⟨rfl, below_setRow HB.out (Nat.le_refl _) _⟩
end Go.Proofs.Ytjgbpgdnmghcpaa
namespace Go.Proofs.Ytjgbpgdnmghcpaa
set_option linter.unusedVariables false

theorem rdNum_shift (x : Nat) (bs : List Nat) (s : Nat × Nat) (m : Nat) : rdNum (x :: bs) (s.1 + 1, s.2) m = ((rdNum bs s m).1, ((rdNum bs s m).2.1 + 1, (rdNum bs s m).2.2)) := by
  obtain ⟨p, e⟩ := s
  unfold rdNum
  simp only [List.drop_succ_cons]
  by_cases he : e ≠ 0
  · rw [if_pos he, if_pos he]
  · rw [if_neg he, if_neg he]
    generalize scan 0 0 (bs.drop p) = r
    obtain ⟨n, k, f⟩ := r
    simp only
    split
    · rfl
    · split
      · rfl
      · simp; omega
theorem rdSeq_shift (x : Nat) (bs : List Nat) (m : Nat) : ∀ (k : Nat) (s : Nat × Nat), rdSeq (x :: bs) m k (s.1 + 1, s.2) = ((rdSeq bs m k s).1, ((rdSeq bs m k s).2.1 + 1, (rdSeq bs m k s).2.2))
  | 0, s => rfl
  | k + 1, s => by
    simp only [rdSeq, rdSeq_shift x bs m k s, rdNum_shift x bs (rdSeq bs m k s).2 m]
theorem pres_shift (x : Nat) {bs : List Nat} {q : Par} {ee : Nat} {st : Nat × Nat} (h : PRes bs (0, 0) q ee st) : PRes (x :: bs) (1, 0) q ee (st.1 + 1, st.2) := by
  have e1 := rdSeq_shift x bs 18446744073709551615 14 (0, 0)
  have e2 := rdSeq_shift x bs 2147483647 10 (rdSeq bs 18446744073709551615 14 (0, 0)).2
  simp only [Nat.zero_add] at e1
  unfold PRes at *
  rw [e1]
  generalize rdSeq bs 18446744073709551615 14 (0, 0) = r1 at *
  obtain ⟨xs, s1⟩ := r1
  simp only at *
  rw [e2]
  generalize rdSeq bs 2147483647 10 s1 = r2 at *
  obtain ⟨ys, s2⟩ := r2
  simp only at *
  obtain ⟨rfl, h⟩ := h
  exact ⟨rfl, h⟩
end Go.Proofs.Ytjgbpgdnmghcpaa
namespace Go.Proofs.Ytjgbpgdnmghcpaa
open Go.RowKit
set_option linter.unusedVariables false
set_option linter.unusedSimpArgs false

/-- Bytes that lie somewhere, or none, behind bytes of one's own. -/
theorem app_any {ops : Array Oper} {rest : List Oper} {o : Oper} {a : Act} {w : World} {Q : Exit → Act → World → Prop} (s x : Operand) (hgd : o.guard = none) (ho : o.op = .call { callee := .builtin .append, args := #[s, x], argTypes := #[40, 40] })
    (base : Nat) (v : Value) (n : Nat) (xs : List Nat) (hs : a.eval s = v) (hown : w.ownsRow base 5 1 v n (u8s xs)) (A : Option Addr) (c m : Nat) (bs : List Nat) (hm : bs.length = m) (S : Nat → Prop) (hx : a.eval x = .slice A m c) (hL : Lies w S A bs) (hA : A = none → c = 0) (hl : n + m ≤ 3000) (hb : base ≤ w.heap.size)
    (hk : ∀ v' w', w'.ownsRow base 5 1 v' (n + m) (u8s (xs ++ bs)) → w.grownBy w' v.ownBlock → wpList Try.prog ops Q rest (a.put o.dst v') w') : wpList Try.prog ops Q (o :: rest) a w := by
  subst hm
  obtain ⟨i0, hi0, hz0, hz1, hz2⟩ := info_parts u8_info
  rcases A with _ | a1
  · have hbs : bs = [] := by
      cases bs with
      | nil => rfl
      | cons y r => obtain ⟨b, hb, _⟩ := hL 0 y rfl; cases hb
    subst hbs
    obtain rfl := hA rfl
    refine wpList_append_own_none hgd s x 40 ho base 5 i0 1 Try.underlying40 hi0 v n (u8s xs) hs hown hx ?_
    exact hk v w (by rw [List.append_nil]; exact hown) (grown_refl _ _)
  · have hsrc := hL.src bs.length
    rw [List.take_length] at hsrc
    refine wpList_append_own w hgd s x 40 ho base 5 i0 (.int .u8 0) 1 1 Try.underlying40 hi0 hz0 hz1 hz2 rfl (by decide) v n (u8s xs) hs hown a1 bs.length c (u8s bs) hx (by simp [u8s_len]) hsrc u8s_one (by simp only [maxLen]; omega) (by omega) hb fun v' w' h1 h2 _ => ?_
    rw [← u8s_append] at h1
    exact hk v' w' h1 h2
theorem par_pos2 (p : Par) : 0 < p.bytes.length := by
  have e : p.bytes = form p.inc ++ ((p.nums.drop 1).flatMap form) := by simp [Par.bytes, Par.nums, Par.us]
  rw [e, List.length_append]
  have := form_pos p.inc
  omega
theorem own_seven (w : World) : (w.alloc (.cells #[.int .u8 7] 5)).ownsRow w.heap.size 5 1 (.slice (some ⟨w.heap.size, 0, none⟩) 1 1) 1 (u8s [7]) :=
  ⟨rfl, .inr ⟨w.heap.size, 1, #[.int .u8 7], rfl, Nat.le_refl _, heap_alloc_new w _, Nat.le_refl _, by simp [maxLen], rfl, rfl⟩⟩

/-- The document's Decode, whatever it comes to. -/
theorem rpdec_is (xs : List Nat) (A : Option Addr) (c : Nat) (q : Par) (ee n : Nat) (st : Nat × Nat) (w : World) (hx : Lies w (· < w.heap.size) A xs) (hl : xs.length ≤ 3000) (hc : xs.length ≤ c) (hcm : c ≤ maxLen) (hb : ∀ x ∈ xs, x < 256) (h : PRes xs (0, 0) q ee st) (hn : n = if ee = 0 then st.1 else 0) :
    Calls Try.prog 23 #[.slice A xs.length c] w fun e w' => e = .returned (.tuple #[.agg q.vals, .int .i64 (n : Int), .int .i64 (ee : Int)]) ∧ Below w.heap.size w w' := by
  subst hn
  obtain ⟨h0, hcase⟩ := h
  rcases hcase with ⟨he, rfl, rfl⟩ | ⟨he, p, h1, h2, ⟨⟨N, hN⟩, rfl, rfl⟩ | ⟨hN, rfl, rfl⟩⟩
  · obtain ⟨p, h1, h2⟩ := par_of _ _ (rdSeq_len xs 18446744073709551615 14 (0, 0)) (rdSeq_len xs 2147483647 10 (rdSeq xs 18446744073709551615 14 (0, 0)).2)
    rw [if_neg he]
    exact rpdec_bad xs A c p st w hx hl hc hcm hb h1 h2 h0.symm he
  · rw [if_pos rfl]
    exact rpdec_ok xs A c q st w hx hl hc hcm hb h1 h2 h0.symm he N hN
  · rw [if_neg (by decide)]
    exact rpdec_no xs A c p st w hx hl hc hcm hb h1 h2 h0.symm he hN
theorem exec_eqr {o : Oper} {a : Act} {w : World} (x y : Operand) (t : TypeId) (ho : o.op = .binOp .eql 30 x y t) (p : Par) (hx : a.eval x = .agg p.vals) (hy : a.eval y = .agg p.vals) : (execOp a.eval o).run Try.prog w = .ok (.value (.bool true)) w := by
  unfold execOp
  simp only [ho, hx, hy, Sem.run_bind, run_eqGuard_agg w _ _ _ _ _ _ ref_guard, Result.andThen_ok, ref_eql p w]
  rfl
theorem exec_eql {o : Oper} {a : Act} {w : World} (x y : Operand) (t : TypeId) (ho : o.op = .binOp .eql 24 x y t) (p : Par) (hx : a.eval x = .agg p.vals) (hy : a.eval y = .agg p.vals) : (execOp a.eval o).run Try.prog w = .ok (.value (.bool true)) w := by
  unfold execOp
  simp only [ho, hx, hy, Sem.run_bind, run_eqGuard_agg w _ _ _ _ _ _ par_guard, Result.andThen_ok, par_eql p w]
  rfl
theorem exec_load_par {o : Oper} {a : Act} {w : World} (x : Operand) (ho : o.op = .load 24 x) (g : Nat) (p : Par) (T : TypeId) (hx : a.eval x = .pointer (some ⟨g, 0, none⟩)) (hP : ParAt w g p T) :
    (execOp a.eval o).run Try.prog w = .ok (.value (.agg p.vals)) w := by
  unfold execOp
  simp only [ho, hx, Instr.loadAt, Instr.sureAddr, Sem.run_bind, Sem.run_pure, Result.andThen_ok, run_loadVar_row w g T 24 p.vals (0, 0) _ hP Try.underlying24 rfl par_size]
theorem exec_build_par {o : Oper} {a : Act} (parts : Array (Nat × Operand)) (ho : o.op = .build 24 parts) (p : Par) (hb : Try.prog.built 24 (parts.map fun (i, x) => (i, a.eval x)).toList = some p.vals) (w : World) :
    (execOp a.eval o).run Try.prog w = .ok (.value (.agg p.vals)) w := by
  unfold execOp
  simp only [ho, Sem.run_bind, run_build w _ _ _ hb, Result.andThen_ok]
  rfl

set_option maxRecDepth 100000 in
set_option maxHeartbeats 4000000 in
theorem streams_nok (p : Par) (bs : List Nat) (A : Option Addr) (c n : Nat) (q : Par) (st : Nat × Nat) (w : World) (hf : p.Fits) (hR : ¬ ∃ N, Par.Right p N) (hx : Lies w (· < w.heap.size) A bs) (hl : bs.length ≤ 2000) (hc : bs.length ≤ c) (hcm : c ≤ maxLen) (hb : ∀ x ∈ bs, x < 256) (hA : A = none → c = 0) (h : PRes bs (0, 0) q 0 st) (hn : n = st.1) :
    Calls Try.prog 24 #[.agg p.vals, .slice A bs.length c] w fun e w' => e = .returned (.bool true) ∧ Below w.heap.size w w' := by
  have hz := run_zero
  have hP := ParAt.new w p 24
  have hb1 : Below w.heap.size w ((w.alloc (.cells p.vals 24)).alloc (.cells zeroWriter 78)) := ((Below.refl _ _).alloc (Nat.le_refl _) _).alloc (by simp) _
  have hP1 := hP.up ((Below.refl _ (w.alloc (.cells p.vals 24))).alloc (Nat.le_refl _) (.cells zeroWriter 78))
  have hW1 := writer_new (w.alloc (.cells p.vals 24))
  rw [show (w.alloc (.cells p.vals 24)).heap.size = w.heap.size + 1 by simp] at hW1
  have e7 : form 7 = [7] := form_small (by decide)
  have kn := num_is (w.heap.size + 1) _ ([], 0) 7 _ hW1 (by decide)
  rw [e7, show wput ([], 0) [7] = ([7], 0) by decide] at kn
  have kw := fun A w => pwrite_no A p w hf hR
  have kq := fun w => refright_no p w hR
  have ks : ∀ (W : World) (S S' : Nat → Prop) (A A' : Option Addr) (c c' n n' : Nat), n = ([7]).length → n' = ([7]).length → Lies W S A [7] → Lies W S' A' [7] → Calls Try.prog 20 #[.slice A n c, .slice A' n' c'] W fun e w' => e = .returned (.bool true) ∧ Below W.heap.size W w' := fun W S S' A A' c c' n n' hn hn' h h' => by
    subst hn; subst hn'
    exact same_true [7] S S' A A' c c' W h h' (by unfold maxLen; decide)
  obtain ⟨XS, hXS⟩ : ∃ XS, Hid ([7] ++ bs = XS) := ⟨[7] ++ bs, rfl⟩
  have hxl : XS.length = 1 + bs.length := by rw [← hXS.out, List.length_append]; rfl
  have hxb : ∀ x ∈ XS, x < 256 := by
    rw [← hXS.out]
    intro x hx
    rcases List.mem_append.1 hx with h | h
    · simp at h; omega
    · exact hb x h
  have hsh : PRes XS (1, 0) q 0 (st.1 + 1, st.2) := by rw [← hXS.out]; exact pres_shift 7 h
  have h7 : rdNum XS (0, 0) 18446744073709551615 = (7, (1, 0)) ∧ rdNum XS (0, 0) 7 = (7, (1, 0)) := by
    have hd : XS.drop 0 = form 7 ++ bs := by rw [List.drop_zero, ← hXS.out, e7]
    have g1 := rdNum_form (mo := 18446744073709551615) (show 7 < 18446744073709551616 by decide) (by decide) hd
    have g2 := rdNum_form (mo := 7) (show 7 < 18446744073709551616 by decide) (by decide) hd
    rw [e7] at g1 g2
    exact ⟨g1, g2⟩
  have kd := fun w hx => rpdec_is bs A c q 0 n st w hx (by omega) hc hcm hb h (by rw [hn]; rfl)
  have HX := Lib.hid hx
  have HSH := Lib.hid hsh
  have HXB := Lib.hid hxb
  have HXL := Lib.hid hxl
  have H7 := Lib.hid h7
  have HL := Lib.hid hl
  have HA := Lib.hid hA
  have HN1 : Hid (n = st.1) := hn
  clear hx hl hc hcm hb hA h hsh hxb hxl h7 hn hR hf hP hW1
  go_enter Try.func24, Try.ntmps24
  go_upto_region 5 with (first
    | (refine load_par _ rfl rfl w.heap.size p _ rfl (by assumption) ?_)
    | (go_at_call 50; refine kn.mono ?_; clear kn; rintro e w2 ⟨rfl, ⟨F2, hW2, -⟩, hg2⟩; have hP2 := hP1.grown hg2 (by omega); have hB2 := hb1.trans (below_of_grown hg2 (Nat.le_succ _) hb1.size))
    | (go_at_call 43; refine (kw _ _).mono ?_; rintro e w3 ⟨rfl, hb3⟩; have hP3 := hP2.up hb3; have hB3 := Below.then hB2 hb3; have hW3 := hW2.below hb3)
    | (go_at_call 44; refine (out_ok _ _ _ _ hW3).mono ?_; rintro e w4 ⟨v4, rfl, hown4, hb4⟩; obtain ⟨A4, c4, rfl, -, -, -, hL4⟩ := Lies.own hown4; have hP4 := hP3.up hb4; have hB4 := Below.then hB3 hb4))
  have hb5 : Below w4.heap.size w4 (w4.alloc (.cells #[.int .u8 7] 5)) := (Below.refl _ _).alloc (Nat.le_refl _) _
  have hO5 := own_seven w4
  have hP5 := hP4.up hb5
  have hB5 := Below.then hB4 hb5
  have hL5 := hL4.grown (grown_below hb5 none) (by simp)
  have hP4lt := hP4.lt
  clear hP1 hP2 hP3 hP4 hB2 hB3 hb1 hW2 hW3 hown4 hL4
  go_upto_region 9 with (first
    | (refine load_par _ rfl rfl w.heap.size p _ rfl (by assumption) ?_)
    | (go_at_call 10; refine (kq _).mono ?_; clear kq; rintro e w7 ⟨rfl, hb7⟩; have hP9 := hP6.up hb7; have hB9 := Below.then hB6 hb7; have hC9 := hL6.grown (grown_below hb7 none) (by simp); have hO7 := own_below0 hO6 hb7)
    | (go_at_call 11; refine (plain_is p _).mono ?_; rintro e w6 ⟨rfl, hb6⟩; have hP6 := hP5.up hb6; have hB6 := Below.then hB5 hb6; have hL6 := hL5.grown (grown_below hb6 none) (by simp); have hO6 := own_below0 hO5 hb6; clear hP5))
  obtain ⟨A9, c9, hA9, -, -, -, hD9⟩ := Lies.own hO7
  obtain ⟨rfl, rfl⟩ : A9 = some ⟨w4.heap.size, 0, none⟩ ∧ c9 = 1 := by injection hA9 with g1 _ g2; exact ⟨g1.symm, g2.symm⟩
  clear hA9
  have hPl9 := hP9.lt
  have NL : Hid (1 = ([7] : List Nat).length) := by show _ = _; rfl
  go_upto_region 11 with (first
    | (refine load_par _ rfl rfl w.heap.size p _ rfl (by assumption) ?_)
    | (go_at_call 20; refine (ks _ _ _ _ _ _ _ _ _ NL.out NL.out hC9 hD9).mono ?_; clear ks; rintro e w10 ⟨rfl, hb10⟩; have hP10 := hP9.up hb10; have hB10 := Below.then hB9 hb10)
    | (go_at_call 43; refine (kw none _).mono ?_; rintro e w11 ⟨rfl, hb11⟩; have hB11 := Below.then hB10 hb11))
  have hb12 : Below w11.heap.size w11 (w11.alloc (.cells #[.int .u8 7] 5)) := (Below.refl _ _).alloc (Nat.le_refl _) _
  have hO12 := own_seven w11
  have x12 := HX.out.hold fun a ha => (Below.then hB11 hb12).cell ha
  have hB12 := Below.then hB11 hb12
  have hl12 : 1 + bs.length ≤ 3000 := by have := HL.out; omega
  clear hP9 hP10 hB9 hB10 hC9 hD9 hPl9 NL
  go_upto_region 13 with (first
    | (refine app_any _ _ rfl rfl w11.heap.size _ 1 [7] rfl hO12 A c bs.length bs rfl _ rfl x12 HA.out hl12 hb12.size ?_; intro v13 w13 hown13 hgrow13; have hb13 : Below w11.heap.size w11 w13 := hb12.grown hgrow13 hb12.size (fun k hk => (hO12.lt k hk).1); rw [hXS.out] at hown13; obtain ⟨A13, c13, rfl, -, -, -, hL13⟩ := Lies.own hown13; have ko := open_is XS _ A13 c13 w13 hL13 (by rw [HXL.out]; omega) HXB.out; rw [HXL.out] at ko; clear hown13 hgrow13)
    | (go_at_call 46; refine ko.mono ?_; clear ko; rintro e w14 ⟨rb, A14, c14, rfl, hR14, hrb, hb14⟩; have HRB : Hid (w.heap.size ≤ rb) := Nat.le_trans (Nat.le_trans hB11.size hb13.size) hrb; have hb1114 := Below.then hb13 hb14)
    | (go_at_call 51; refine (rnum_is rb _ XS (0, 0) A14 c14 7 _ hR14 (by decide)).mono ?_; rintro e w15 ⟨rfl, hR15, hg15⟩; rw [H7.out.2] at hR15))
  have hB15 : Below w.heap.size w w15 := by
    have h1 := hB11.size
    have h2 := hrb
    have h3 := hb13.size
    have h0 := Below.then hB11 hb1114
    exact h0.trans (below_of_grown hg15 (by omega) h0.size)
  have hF15 : ∀ k, (w13.heap.size ≤ k ∧ k < rb) → k < w15.heap.size := fun k hk => Nat.lt_trans hk.2 hR15.lt
  have HF15 := Lib.hid hF15
  clear hF15 hb13 hb1114 hb14 hL13 hO12 x12 hb12 hB12 hR14 hg15
  go_upto_region 14 with (first
    | (go_at_call 47; refine (pread_is rb _ XS (1, 0) A14 c14 q 0 (st.1 + 1, st.2) _ hR15 HF15.out HSH).mono ?_; rintro e w16 ⟨rfl, hR16, hg16⟩)
    | (refine store_par _ _ rfl rfl w16.heap.size q Par.none 24 rfl rfl (ParAt.new w16 Par.none 24) ?_))
  have hrl := hR15.lt
  have hB16 : Below w.heap.size w w16 := hB15.trans (below_of_grown hg16 HRB.out hB15.size)
  generalize hW17 : World.setRow _ _ _ = w17
  have hQ17 : ParAt w17 w16.heap.size q 24 := by rw [← hW17]; exact (ParAt.new w16 Par.none 24).set
  have hb17 : Below w16.heap.size w16 w17 := by rw [← hW17]; exact below_setRow ((Below.refl _ _).alloc (Nat.le_refl _) _) (Nat.le_refl _) _
  have hR17 := hR16.grown (grown_below hb17 none) (by simp) (by simp)
  have hB17 := Below.then hB16 hb17
  have x17 := (HX.out.hold fun a ha => hB17.cell ha).imp (S' := (· < w17.heap.size)) (fun k h _ => h)
  clear hW17 hR15 hR16 hg16 hB15 hB16 hb17
  go_upto_region 15 with (first
    | (go_at_call 23; refine (kd _ x17).mono ?_; clear kd; rintro e w18 ⟨rfl, hb18⟩)
    | (refine store_rpar2 _ _ rfl rfl w18.heap.size q Par.none 30 rfl rfl (ParAt.new w18 Par.none 30) ?_))
  generalize hW19 : World.setRow _ _ _ = w19
  have hS19 : ParAt w19 w18.heap.size q 30 := by rw [← hW19]; exact (ParAt.new w18 Par.none 30).set
  have hb19 : Below w17.heap.size w17 w19 := by rw [← hW19]; exact below_setRow (hb18.alloc hb18.size _) hb18.size _
  have hQ19 := hQ17.up hb19
  have hR19 := hR17.grown (grown_below hb19 none) (by simp) (by simp)
  have hB19 := Below.then hB17 hb19
  clear hW19 hb18 hb19 hQ17 hR17 hB17 x17
  go_upto_region 16 with (first
    | (go_at_call 47; refine (pread_nil _).mono ?_; rintro e w20 ⟨rfl, hb20⟩)
    | (refine store_par _ _ rfl rfl w20.heap.size Par.none Par.none 24 rfl rfl (ParAt.new w20 Par.none 24) ?_))
  generalize hW21 : World.setRow _ _ _ = w21
  have hT21 : ParAt w21 w20.heap.size Par.none 24 := by rw [← hW21]; exact (ParAt.new w20 Par.none 24).set
  have hb21 : Below w19.heap.size w19 w21 := by rw [← hW21]; exact below_setRow (hb20.alloc hb20.size _) hb20.size _
  have hQ21 := hQ19.up hb21
  have hS21 := hS19.up hb21
  have hR21 := hR19.grown (grown_below hb21 none) (by simp) (by simp)
  have hB21 := Below.then hB19 hb21
  clear hW21 hb20 hb21 hQ19 hS19 hR19 hB19
  have kat : ∀ (p : Nat) w', Below w21.heap.size w21 w' → Calls Try.prog 48 #[.pointer (some ⟨rb, 0, none⟩)] w' fun e w'' => e = .returned (.int .i64 ((n : Int) + 1)) ∧ Below w21.heap.size w21 w'' := fun _ w' h => by
    have k := rat_is rb _ XS (st.1 + 1, st.2) A14 c14 w' (hR21.grown (grown_below h none) (by simp) (by simp))
    rw [← HN1.out] at k
    exact k.mono (by rintro e w'' ⟨rfl, rfl⟩; exact ⟨by rw [Int.natCast_add]; rfl, h⟩)
  have hnb : n ≤ 3000 := by have hn1 := HN1.out; have := hR21.place; simp only at this; rw [HXL.out] at this; have := HL.out; omega
  have e1 : IntKind.i64.wrap ((n : Int) + 1) = (n : Int) + 1 := IntWalk.i64_in _ (by omega)
  clear hnb
  refine region_list [] (fun _ w' => Below w21.heap.size w21 w') (by kernel_rfl) (by kernel_rfl) (Below.refl _ _).drew ?_
  refine SeqS.take _ (by rfl) (by rfl) (fun ph w' hS => exec_load_par _ rfl _ _ _ rfl (hQ21.up hS)) ?_
  simp only [Act.put, List.setIfInBounds_toArray, List.set_cons_zero, List.set_cons_succ]
  refine SeqS.call (below_call (Nat.le_refl _) (fun w _ => plain_is q w)) (by rfl) (by rfl) (fun w => ?_) ?_; · go_simp
  simp only [Act.put, List.setIfInBounds_toArray, List.set_cons_zero, List.set_cons_succ]
  refine SeqS.take _ (by rfl) (by rfl) (fun ph w' hS => exec_load_rpar2 _ rfl _ _ _ rfl (hS21.up hS)) ?_
  simp only [Act.put, List.setIfInBounds_toArray, List.set_cons_zero, List.set_cons_succ]
  refine SeqS.calm (.bool true) (by rfl) (by rfl) (fun w => exec_eqr _ _ _ rfl q rfl rfl) ?_
  simp only [Act.put, List.setIfInBounds_toArray, List.set_cons_zero, List.set_cons_succ]
  refine' SeqS.calm _ (by rfl) (by rfl) (fun w => ?_) ?_; rotate_left; · (go_simp <;> with_reducible rfl)
  simp only [Act.put, List.setIfInBounds_toArray, List.set_cons_zero, List.set_cons_succ]
  refine' SeqS.calm _ (by rfl) (by rfl) (fun w => ?_) ?_; rotate_left; · (go_simp <;> with_reducible rfl)
  simp only [Act.put, List.setIfInBounds_toArray, List.set_cons_zero, List.set_cons_succ]
  refine' SeqS.calm _ (by rfl) (by rfl) (fun w => ?_) ?_; rotate_left; · (go_simp <;> with_reducible rfl)
  simp only [Act.put, List.setIfInBounds_toArray, List.set_cons_zero, List.set_cons_succ]
  refine' SeqS.calm _ (by rfl) (by rfl) (fun w => ?_) ?_; rotate_left; · (go_simp <;> with_reducible rfl)
  simp only [Act.put, List.setIfInBounds_toArray, List.set_cons_zero, List.set_cons_succ]
  refine' SeqS.calm _ (by rfl) (by rfl) (fun w => ?_) ?_; rotate_left; · (go_simp <;> with_reducible rfl)
  simp only [Act.put, List.setIfInBounds_toArray, List.set_cons_zero, List.set_cons_succ]
  refine' SeqS.calm _ (by rfl) (by rfl) (fun w => ?_) ?_; rotate_left; · (go_simp <;> with_reducible rfl)
  simp only [Act.put, List.setIfInBounds_toArray, List.set_cons_zero, List.set_cons_succ]
  refine' SeqS.calm _ (by rfl) (by rfl) (fun w => ?_) ?_; rotate_left; · (go_simp <;> with_reducible rfl)
  simp only [Act.put, List.setIfInBounds_toArray, List.set_cons_zero, List.set_cons_succ]
  refine' SeqS.calm _ (by rfl) (by rfl) (fun w => ?_) ?_; rotate_left; · (go_simp <;> with_reducible rfl)
  simp only [Act.put, List.setIfInBounds_toArray, List.set_cons_zero, List.set_cons_succ]
  refine' SeqS.calm _ (by rfl) (by rfl) (fun w => ?_) ?_; rotate_left; · (go_simp <;> with_reducible rfl)
  simp only [Act.put, List.setIfInBounds_toArray, List.set_cons_zero, List.set_cons_succ]
  refine' SeqS.calm _ (by rfl) (by rfl) (fun w => ?_) ?_; rotate_left; · (go_simp <;> with_reducible rfl)
  simp only [Act.put, List.setIfInBounds_toArray, List.set_cons_zero, List.set_cons_succ]
  refine SeqS.call kat (by rfl) (by rfl) (fun w => ?_) ?_; · go_simp
  simp only [Act.put, List.setIfInBounds_toArray, List.set_cons_zero, List.set_cons_succ]
  refine' SeqS.calm _ (by rfl) (by rfl) (fun w => ?_) ?_; rotate_left; · (go_simp <;> with_reducible rfl)
  simp only [Act.put, List.setIfInBounds_toArray, List.set_cons_zero, List.set_cons_succ]
  refine' SeqS.calm _ (by rfl) (by rfl) (fun w => ?_) ?_; rotate_left; · (go_simp <;> with_reducible rfl)
  simp only [Act.put, List.setIfInBounds_toArray, List.set_cons_zero, List.set_cons_succ]
  refine' SeqS.calm _ (by rfl) (by rfl) (fun w => ?_) ?_; rotate_left; · (go_simp <;> with_reducible rfl)
  simp only [Act.put, List.setIfInBounds_toArray, List.set_cons_zero, List.set_cons_succ]
  refine' SeqS.calm _ (by rfl) (by rfl) (fun w => ?_) ?_; rotate_left; · (go_simp <;> with_reducible rfl)
  simp only [Act.put, List.setIfInBounds_toArray, List.set_cons_zero, List.set_cons_succ]
  refine' SeqS.calm _ (by rfl) (by rfl) (fun w => ?_) ?_; rotate_left; · (go_simp <;> with_reducible rfl)
  simp only [Act.put, List.setIfInBounds_toArray, List.set_cons_zero, List.set_cons_succ]
  refine' SeqS.calm _ (by rfl) (by rfl) (fun w => ?_) ?_; rotate_left; · (go_simp <;> with_reducible rfl)
  simp only [Act.put, List.setIfInBounds_toArray, List.set_cons_zero, List.set_cons_succ]
  refine SeqS.take _ (by rfl) (by rfl) (fun ph w' hS => exec_load_par _ rfl _ _ _ rfl (hT21.up hS)) ?_
  simp only [Act.put, List.setIfInBounds_toArray, List.set_cons_zero, List.set_cons_succ]
  refine SeqS.calm (.agg Par.none.vals) (by rfl) (by rfl) (fun w => exec_build_par _ rfl Par.none (by kernel_rfl) w) ?_
  simp only [Act.put, List.setIfInBounds_toArray, List.set_cons_zero, List.set_cons_succ]
  refine SeqS.calm (.bool true) (by rfl) (by rfl) (fun w => exec_eql _ _ _ rfl Par.none rfl rfl) ?_
  simp only [Act.put, List.setIfInBounds_toArray, List.set_cons_zero, List.set_cons_succ]
  refine' SeqS.calm _ (by rfl) (by rfl) (fun w => ?_) ?_; rotate_left; · (go_simp <;> with_reducible rfl)
  simp only [Act.put, List.setIfInBounds_toArray, List.set_cons_zero, List.set_cons_succ]
  refine' SeqS.calm _ (by rfl) (by rfl) (fun w => ?_) ?_; rotate_left; · (go_simp <;> with_reducible rfl)
  simp only [Act.put, List.setIfInBounds_toArray, List.set_cons_zero, List.set_cons_succ]
  refine' SeqS.calm _ (by rfl) (by rfl) (fun w => ?_) ?_; rotate_left; · (go_simp <;> with_reducible rfl)
  simp only [Act.put, List.setIfInBounds_toArray, List.set_cons_zero, List.set_cons_succ]
  refine' SeqS.calm _ (by rfl) (by rfl) (fun w => ?_) ?_; rotate_left; · (go_simp <;> with_reducible rfl)
  simp only [Act.put, List.setIfInBounds_toArray, List.set_cons_zero, List.set_cons_succ]
  refine' SeqS.calm _ (by rfl) (by rfl) (fun w => ?_) ?_; rotate_left; · (go_simp <;> with_reducible rfl)
  simp only [Act.put, List.setIfInBounds_toArray, List.set_cons_zero, List.set_cons_succ]
  refine' SeqS.calm _ (by rfl) (by rfl) (fun w => ?_) ?_; rotate_left; · (go_simp <;> with_reducible rfl)
  simp only [Act.put, List.setIfInBounds_toArray, List.set_cons_zero, List.set_cons_succ]
  intro w22 hw22
  have hB22 := Below.then hB21 hw22
  go_wp2
  go_ret
  exact ⟨rfl, hB22⟩

set_option maxRecDepth 100000 in
set_option maxHeartbeats 4000000 in
theorem streams_nno (p : Par) (bs : List Nat) (A : Option Addr) (c n ee : Nat) (q : Par) (st : Nat × Nat) (w : World) (hf : p.Fits) (hR : ¬ ∃ N, Par.Right p N) (hx : Lies w (· < w.heap.size) A bs) (hl : bs.length ≤ 2000) (hc : bs.length ≤ c) (hcm : c ≤ maxLen) (hb : ∀ x ∈ bs, x < 256) (hA : A = none → c = 0) (h : PRes bs (0, 0) q ee st) (hn : n = 0) (hee : ee ≠ 0) :
    Calls Try.prog 24 #[.agg p.vals, .slice A bs.length c] w fun e w' => e = .returned (.bool true) ∧ Below w.heap.size w w' := by
  have hz := run_zero
  have hP := ParAt.new w p 24
  have hb1 : Below w.heap.size w ((w.alloc (.cells p.vals 24)).alloc (.cells zeroWriter 78)) := ((Below.refl _ _).alloc (Nat.le_refl _) _).alloc (by simp) _
  have hP1 := hP.up ((Below.refl _ (w.alloc (.cells p.vals 24))).alloc (Nat.le_refl _) (.cells zeroWriter 78))
  have hW1 := writer_new (w.alloc (.cells p.vals 24))
  rw [show (w.alloc (.cells p.vals 24)).heap.size = w.heap.size + 1 by simp] at hW1
  have e7 : form 7 = [7] := form_small (by decide)
  have kn := num_is (w.heap.size + 1) _ ([], 0) 7 _ hW1 (by decide)
  rw [e7, show wput ([], 0) [7] = ([7], 0) by decide] at kn
  have kw := fun A w => pwrite_no A p w hf hR
  have kq := fun w => refright_no p w hR
  have ks : ∀ (W : World) (S S' : Nat → Prop) (A A' : Option Addr) (c c' n n' : Nat), n = ([7]).length → n' = ([7]).length → Lies W S A [7] → Lies W S' A' [7] → Calls Try.prog 20 #[.slice A n c, .slice A' n' c'] W fun e w' => e = .returned (.bool true) ∧ Below W.heap.size W w' := fun W S S' A A' c c' n n' hn hn' h h' => by
    subst hn; subst hn'
    exact same_true [7] S S' A A' c c' W h h' (by unfold maxLen; decide)
  obtain ⟨XS, hXS⟩ : ∃ XS, Hid ([7] ++ bs = XS) := ⟨[7] ++ bs, rfl⟩
  have hxl : XS.length = 1 + bs.length := by rw [← hXS.out, List.length_append]; rfl
  have hxb : ∀ x ∈ XS, x < 256 := by
    rw [← hXS.out]
    intro x hx
    rcases List.mem_append.1 hx with h | h
    · simp at h; omega
    · exact hb x h
  have hsh : PRes XS (1, 0) q ee (st.1 + 1, st.2) := by rw [← hXS.out]; exact pres_shift 7 h
  have h7 : rdNum XS (0, 0) 18446744073709551615 = (7, (1, 0)) ∧ rdNum XS (0, 0) 7 = (7, (1, 0)) := by
    have hd : XS.drop 0 = form 7 ++ bs := by rw [List.drop_zero, ← hXS.out, e7]
    have g1 := rdNum_form (mo := 18446744073709551615) (show 7 < 18446744073709551616 by decide) (by decide) hd
    have g2 := rdNum_form (mo := 7) (show 7 < 18446744073709551616 by decide) (by decide) hd
    rw [e7] at g1 g2
    exact ⟨g1, g2⟩
  have kd := fun w hx => rpdec_is bs A c q ee n st w hx (by omega) hc hcm hb h (by rw [hn]; rw [if_neg hee])
  have HX := Lib.hid hx
  have HSH := Lib.hid hsh
  have HXB := Lib.hid hxb
  have HXL := Lib.hid hxl
  have H7 := Lib.hid h7
  have HL := Lib.hid hl
  have HA := Lib.hid hA
  have d1 : ((ee : Int) != 0) = true := by simp; omega
  clear hx hl hc hcm hb hA h hsh hxb hxl h7 hn hR hf hP hW1 hee
  go_enter Try.func24, Try.ntmps24
  go_upto_region 5 with (first
    | (refine load_par _ rfl rfl w.heap.size p _ rfl (by assumption) ?_)
    | (go_at_call 50; refine kn.mono ?_; clear kn; rintro e w2 ⟨rfl, ⟨F2, hW2, -⟩, hg2⟩; have hP2 := hP1.grown hg2 (by omega); have hB2 := hb1.trans (below_of_grown hg2 (Nat.le_succ _) hb1.size))
    | (go_at_call 43; refine (kw _ _).mono ?_; rintro e w3 ⟨rfl, hb3⟩; have hP3 := hP2.up hb3; have hB3 := Below.then hB2 hb3; have hW3 := hW2.below hb3)
    | (go_at_call 44; refine (out_ok _ _ _ _ hW3).mono ?_; rintro e w4 ⟨v4, rfl, hown4, hb4⟩; obtain ⟨A4, c4, rfl, -, -, -, hL4⟩ := Lies.own hown4; have hP4 := hP3.up hb4; have hB4 := Below.then hB3 hb4))
  have hb5 : Below w4.heap.size w4 (w4.alloc (.cells #[.int .u8 7] 5)) := (Below.refl _ _).alloc (Nat.le_refl _) _
  have hO5 := own_seven w4
  have hP5 := hP4.up hb5
  have hB5 := Below.then hB4 hb5
  have hL5 := hL4.grown (grown_below hb5 none) (by simp)
  have hP4lt := hP4.lt
  clear hP1 hP2 hP3 hP4 hB2 hB3 hb1 hW2 hW3 hown4 hL4
  go_upto_region 9 with (first
    | (refine load_par _ rfl rfl w.heap.size p _ rfl (by assumption) ?_)
    | (go_at_call 10; refine (kq _).mono ?_; clear kq; rintro e w7 ⟨rfl, hb7⟩; have hP9 := hP6.up hb7; have hB9 := Below.then hB6 hb7; have hC9 := hL6.grown (grown_below hb7 none) (by simp); have hO7 := own_below0 hO6 hb7)
    | (go_at_call 11; refine (plain_is p _).mono ?_; rintro e w6 ⟨rfl, hb6⟩; have hP6 := hP5.up hb6; have hB6 := Below.then hB5 hb6; have hL6 := hL5.grown (grown_below hb6 none) (by simp); have hO6 := own_below0 hO5 hb6; clear hP5))
  obtain ⟨A9, c9, hA9, -, -, -, hD9⟩ := Lies.own hO7
  obtain ⟨rfl, rfl⟩ : A9 = some ⟨w4.heap.size, 0, none⟩ ∧ c9 = 1 := by injection hA9 with g1 _ g2; exact ⟨g1.symm, g2.symm⟩
  clear hA9
  have hPl9 := hP9.lt
  have NL : Hid (1 = ([7] : List Nat).length) := by show _ = _; rfl
  go_upto_region 11 with (first
    | (refine load_par _ rfl rfl w.heap.size p _ rfl (by assumption) ?_)
    | (go_at_call 20; refine (ks _ _ _ _ _ _ _ _ _ NL.out NL.out hC9 hD9).mono ?_; clear ks; rintro e w10 ⟨rfl, hb10⟩; have hP10 := hP9.up hb10; have hB10 := Below.then hB9 hb10)
    | (go_at_call 43; refine (kw none _).mono ?_; rintro e w11 ⟨rfl, hb11⟩; have hB11 := Below.then hB10 hb11))
  have hb12 : Below w11.heap.size w11 (w11.alloc (.cells #[.int .u8 7] 5)) := (Below.refl _ _).alloc (Nat.le_refl _) _
  have hO12 := own_seven w11
  have x12 := HX.out.hold fun a ha => (Below.then hB11 hb12).cell ha
  have hB12 := Below.then hB11 hb12
  have hl12 : 1 + bs.length ≤ 3000 := by have := HL.out; omega
  clear hP9 hP10 hB9 hB10 hC9 hD9 hPl9 NL
  go_upto_region 13 with (first
    | (refine app_any _ _ rfl rfl w11.heap.size _ 1 [7] rfl hO12 A c bs.length bs rfl _ rfl x12 HA.out hl12 hb12.size ?_; intro v13 w13 hown13 hgrow13; have hb13 : Below w11.heap.size w11 w13 := hb12.grown hgrow13 hb12.size (fun k hk => (hO12.lt k hk).1); rw [hXS.out] at hown13; obtain ⟨A13, c13, rfl, -, -, -, hL13⟩ := Lies.own hown13; have ko := open_is XS _ A13 c13 w13 hL13 (by rw [HXL.out]; omega) HXB.out; rw [HXL.out] at ko; clear hown13 hgrow13)
    | (go_at_call 46; refine ko.mono ?_; clear ko; rintro e w14 ⟨rb, A14, c14, rfl, hR14, hrb, hb14⟩; have HRB : Hid (w.heap.size ≤ rb) := Nat.le_trans (Nat.le_trans hB11.size hb13.size) hrb; have hb1114 := Below.then hb13 hb14)
    | (go_at_call 51; refine (rnum_is rb _ XS (0, 0) A14 c14 7 _ hR14 (by decide)).mono ?_; rintro e w15 ⟨rfl, hR15, hg15⟩; rw [H7.out.2] at hR15))
  have hB15 : Below w.heap.size w w15 := by
    have h1 := hB11.size
    have h2 := hrb
    have h3 := hb13.size
    have h0 := Below.then hB11 hb1114
    exact h0.trans (below_of_grown hg15 (by omega) h0.size)
  have hF15 : ∀ k, (w13.heap.size ≤ k ∧ k < rb) → k < w15.heap.size := fun k hk => Nat.lt_trans hk.2 hR15.lt
  have HF15 := Lib.hid hF15
  clear hF15 hb13 hb1114 hb14 hL13 hO12 x12 hb12 hB12 hR14 hg15
  go_upto_region 14 with (first
    | (go_at_call 47; refine (pread_is rb _ XS (1, 0) A14 c14 q ee (st.1 + 1, st.2) _ hR15 HF15.out HSH).mono ?_; rintro e w16 ⟨rfl, hR16, hg16⟩)
    | (refine store_par _ _ rfl rfl w16.heap.size q Par.none 24 rfl rfl (ParAt.new w16 Par.none 24) ?_))
  have hrl := hR15.lt
  have hB16 : Below w.heap.size w w16 := hB15.trans (below_of_grown hg16 HRB.out hB15.size)
  generalize hW17 : World.setRow _ _ _ = w17
  have hQ17 : ParAt w17 w16.heap.size q 24 := by rw [← hW17]; exact (ParAt.new w16 Par.none 24).set
  have hb17 : Below w16.heap.size w16 w17 := by rw [← hW17]; exact below_setRow ((Below.refl _ _).alloc (Nat.le_refl _) _) (Nat.le_refl _) _
  have hR17 := hR16.grown (grown_below hb17 none) (by simp) (by simp)
  have hB17 := Below.then hB16 hb17
  have x17 := (HX.out.hold fun a ha => hB17.cell ha).imp (S' := (· < w17.heap.size)) (fun k h _ => h)
  clear hW17 hR15 hR16 hg16 hB15 hB16 hb17
  go_upto_region 15 with (first
    | (go_at_call 23; refine (kd _ x17).mono ?_; clear kd; rintro e w18 ⟨rfl, hb18⟩)
    | (refine store_rpar2 _ _ rfl rfl w18.heap.size q Par.none 30 rfl rfl (ParAt.new w18 Par.none 30) ?_))
  generalize hW19 : World.setRow _ _ _ = w19
  have hS19 : ParAt w19 w18.heap.size q 30 := by rw [← hW19]; exact (ParAt.new w18 Par.none 30).set
  have hb19 : Below w17.heap.size w17 w19 := by rw [← hW19]; exact below_setRow (hb18.alloc hb18.size _) hb18.size _
  have hQ19 := hQ17.up hb19
  have hR19 := hR17.grown (grown_below hb19 none) (by simp) (by simp)
  have hB19 := Below.then hB17 hb19
  clear hW19 hb18 hb19 hQ17 hR17 hB17 x17
  go_upto_region 16 with (first
    | (go_at_call 47; refine (pread_nil _).mono ?_; rintro e w20 ⟨rfl, hb20⟩)
    | (refine store_par _ _ rfl rfl w20.heap.size Par.none Par.none 24 rfl rfl (ParAt.new w20 Par.none 24) ?_))
  generalize hW21 : World.setRow _ _ _ = w21
  have hT21 : ParAt w21 w20.heap.size Par.none 24 := by rw [← hW21]; exact (ParAt.new w20 Par.none 24).set
  have hb21 : Below w19.heap.size w19 w21 := by rw [← hW21]; exact below_setRow (hb20.alloc hb20.size _) hb20.size _
  have hQ21 := hQ19.up hb21
  have hS21 := hS19.up hb21
  have hR21 := hR19.grown (grown_below hb21 none) (by simp) (by simp)
  have hB21 := Below.then hB19 hb21
  clear hW21 hb20 hb21 hQ19 hS19 hR19 hB19
  refine region_list [] (fun _ w' => Below w21.heap.size w21 w') (by kernel_rfl) (by kernel_rfl) (Below.refl _ _).drew ?_
  refine SeqS.take _ (by rfl) (by rfl) (fun ph w' hS => exec_load_par _ rfl _ _ _ rfl (hQ21.up hS)) ?_
  simp only [Act.put, List.setIfInBounds_toArray, List.set_cons_zero, List.set_cons_succ]
  refine SeqS.call (below_call (Nat.le_refl _) (fun w _ => plain_is q w)) (by rfl) (by rfl) (fun w => ?_) ?_; · go_simp
  simp only [Act.put, List.setIfInBounds_toArray, List.set_cons_zero, List.set_cons_succ]
  refine SeqS.take _ (by rfl) (by rfl) (fun ph w' hS => exec_load_rpar2 _ rfl _ _ _ rfl (hS21.up hS)) ?_
  simp only [Act.put, List.setIfInBounds_toArray, List.set_cons_zero, List.set_cons_succ]
  refine SeqS.calm (.bool true) (by rfl) (by rfl) (fun w => exec_eqr _ _ _ rfl q rfl rfl) ?_
  simp only [Act.put, List.setIfInBounds_toArray, List.set_cons_zero, List.set_cons_succ]
  refine' SeqS.calm _ (by rfl) (by rfl) (fun w => ?_) ?_; rotate_left; · (go_simp <;> with_reducible rfl)
  simp only [Act.put, List.setIfInBounds_toArray, List.set_cons_zero, List.set_cons_succ]
  refine' SeqS.calm _ (by rfl) (by rfl) (fun w => ?_) ?_; rotate_left; · (go_simp <;> with_reducible rfl)
  simp only [Act.put, List.setIfInBounds_toArray, List.set_cons_zero, List.set_cons_succ]
  refine' SeqS.calm _ (by rfl) (by rfl) (fun w => ?_) ?_; rotate_left; · (go_simp <;> with_reducible rfl)
  simp only [Act.put, List.setIfInBounds_toArray, List.set_cons_zero, List.set_cons_succ]
  refine' SeqS.calm _ (by rfl) (by rfl) (fun w => ?_) ?_; rotate_left; · (go_simp <;> with_reducible rfl)
  simp only [Act.put, List.setIfInBounds_toArray, List.set_cons_zero, List.set_cons_succ]
  refine' SeqS.calm _ (by rfl) (by rfl) (fun w => ?_) ?_; rotate_left; · (go_simp <;> with_reducible rfl)
  simp only [Act.put, List.setIfInBounds_toArray, List.set_cons_zero, List.set_cons_succ]
  refine' SeqS.calm _ (by rfl) (by rfl) (fun w => ?_) ?_; rotate_left; · (go_simp <;> with_reducible rfl)
  simp only [Act.put, List.setIfInBounds_toArray, List.set_cons_zero, List.set_cons_succ]
  refine' SeqS.calm _ (by rfl) (by rfl) (fun w => ?_) ?_; rotate_left; · (go_simp <;> with_reducible rfl)
  simp only [Act.put, List.setIfInBounds_toArray, List.set_cons_zero, List.set_cons_succ]
  refine' SeqS.calm _ (by rfl) (by rfl) (fun w => ?_) ?_; rotate_left; · (go_simp <;> with_reducible rfl)
  simp only [Act.put, List.setIfInBounds_toArray, List.set_cons_zero, List.set_cons_succ]
  refine' SeqS.calm _ (by rfl) (by rfl) (fun w => ?_) ?_; rotate_left; · (go_simp <;> with_reducible rfl)
  simp only [Act.put, List.setIfInBounds_toArray, List.set_cons_zero, List.set_cons_succ]
  refine SeqS.skip (by rfl) (by rfl) ?_
  simp only [Act.put, List.setIfInBounds_toArray, List.set_cons_zero, List.set_cons_succ]
  refine SeqS.skip (by rfl) (by rfl) ?_
  simp only [Act.put, List.setIfInBounds_toArray, List.set_cons_zero, List.set_cons_succ]
  refine SeqS.skip (by rfl) (by rfl) ?_
  simp only [Act.put, List.setIfInBounds_toArray, List.set_cons_zero, List.set_cons_succ]
  refine SeqS.skip (by rfl) (by rfl) ?_
  simp only [Act.put, List.setIfInBounds_toArray, List.set_cons_zero, List.set_cons_succ]
  refine SeqS.skip (by rfl) (by rfl) ?_
  simp only [Act.put, List.setIfInBounds_toArray, List.set_cons_zero, List.set_cons_succ]
  refine' SeqS.calm _ (by rfl) (by rfl) (fun w => ?_) ?_; rotate_left; · (go_simp <;> with_reducible rfl)
  simp only [Act.put, List.setIfInBounds_toArray, List.set_cons_zero, List.set_cons_succ]
  refine' SeqS.calm _ (by rfl) (by rfl) (fun w => ?_) ?_; rotate_left; · (go_simp <;> with_reducible rfl)
  simp only [Act.put, List.setIfInBounds_toArray, List.set_cons_zero, List.set_cons_succ]
  refine' SeqS.calm _ (by rfl) (by rfl) (fun w => ?_) ?_; rotate_left; · (go_simp <;> with_reducible rfl)
  simp only [Act.put, List.setIfInBounds_toArray, List.set_cons_zero, List.set_cons_succ]
  refine SeqS.take _ (by rfl) (by rfl) (fun ph w' hS => exec_load_par _ rfl _ _ _ rfl (hT21.up hS)) ?_
  simp only [Act.put, List.setIfInBounds_toArray, List.set_cons_zero, List.set_cons_succ]
  refine SeqS.calm (.agg Par.none.vals) (by rfl) (by rfl) (fun w => exec_build_par _ rfl Par.none (by kernel_rfl) w) ?_
  simp only [Act.put, List.setIfInBounds_toArray, List.set_cons_zero, List.set_cons_succ]
  refine SeqS.calm (.bool true) (by rfl) (by rfl) (fun w => exec_eql _ _ _ rfl Par.none rfl rfl) ?_
  simp only [Act.put, List.setIfInBounds_toArray, List.set_cons_zero, List.set_cons_succ]
  refine' SeqS.calm _ (by rfl) (by rfl) (fun w => ?_) ?_; rotate_left; · (go_simp <;> with_reducible rfl)
  simp only [Act.put, List.setIfInBounds_toArray, List.set_cons_zero, List.set_cons_succ]
  refine' SeqS.calm _ (by rfl) (by rfl) (fun w => ?_) ?_; rotate_left; · (go_simp <;> with_reducible rfl)
  simp only [Act.put, List.setIfInBounds_toArray, List.set_cons_zero, List.set_cons_succ]
  refine' SeqS.calm _ (by rfl) (by rfl) (fun w => ?_) ?_; rotate_left; · (go_simp <;> with_reducible rfl)
  simp only [Act.put, List.setIfInBounds_toArray, List.set_cons_zero, List.set_cons_succ]
  refine' SeqS.calm _ (by rfl) (by rfl) (fun w => ?_) ?_; rotate_left; · (go_simp <;> with_reducible rfl)
  simp only [Act.put, List.setIfInBounds_toArray, List.set_cons_zero, List.set_cons_succ]
  refine' SeqS.calm _ (by rfl) (by rfl) (fun w => ?_) ?_; rotate_left; · (go_simp <;> with_reducible rfl)
  simp only [Act.put, List.setIfInBounds_toArray, List.set_cons_zero, List.set_cons_succ]
  refine' SeqS.calm _ (by rfl) (by rfl) (fun w => ?_) ?_; rotate_left; · (go_simp <;> with_reducible rfl)
  simp only [Act.put, List.setIfInBounds_toArray, List.set_cons_zero, List.set_cons_succ]
  intro w22 hw22
  have hB22 := Below.then hB21 hw22
  go_wp2
  go_ret
  exact ⟨rfl, hB22⟩

set_option maxRecDepth 100000 in
set_option maxHeartbeats 4000000 in
theorem streams_yok (p : Par) (bs : List Nat) (A : Option Addr) (c n : Nat) (q : Par) (st : Nat × Nat) (w : World) (N : Nat) (hR : Par.Right p N) (hx : Lies w (· < w.heap.size) A bs) (hl : bs.length ≤ 2000) (hc : bs.length ≤ c) (hcm : c ≤ maxLen) (hb : ∀ x ∈ bs, x < 256) (hA : A = none → c = 0) (h : PRes bs (0, 0) q 0 st) (hn : n = st.1) :
    Calls Try.prog 24 #[.agg p.vals, .slice A bs.length c] w fun e w' => e = .returned (.bool true) ∧ Below w.heap.size w w' := by
  have hz := run_zero
  have hP := ParAt.new w p 24
  have hb1 : Below w.heap.size w ((w.alloc (.cells p.vals 24)).alloc (.cells zeroWriter 78)) := ((Below.refl _ _).alloc (Nat.le_refl _) _).alloc (by simp) _
  have hP1 := hP.up ((Below.refl _ (w.alloc (.cells p.vals 24))).alloc (Nat.le_refl _) (.cells zeroWriter 78))
  have hW1 := writer_new (w.alloc (.cells p.vals 24))
  rw [show (w.alloc (.cells p.vals 24)).heap.size = w.heap.size + 1 by simp] at hW1
  have e7 : form 7 = [7] := form_small (by decide)
  have kn := num_is (w.heap.size + 1) _ ([], 0) 7 _ hW1 (by decide)
  rw [e7, show wput ([], 0) [7] = ([7], 0) by decide] at kn
  have hfit := right_fits hR
  have hpb := bytes_is hfit.1 [7] (by simp)
  have kw : ∀ (F : Nat → Prop) (W : World), Writes W (w.heap.size + 1) F ([7], 0) → Calls Try.prog 43 #[.pointer (some ⟨w.heap.size + 1, 0, none⟩), .agg p.vals] W fun e w' => e = .returned (.int .i64 0) ∧ Left W (w.heap.size + 1) F ([7] ++ p.bytes, 0) w' := fun F W hW => by
    have k := pwrite_is (w.heap.size + 1) F ([7], 0) p N W hR hfit.1 hW
    rwa [hpb.1] at k
  have kf := fun w => rparform_is p N w hR
  have hpl := hpb.2
  obtain ⟨PB, hPB⟩ : ∃ PB, Hid (p.bytes = PB) := ⟨_, rfl⟩
  have hpp : 0 < p.bytes.length := par_pos2 p
  rw [hPB.out] at kw kf hpl hpp
  obtain ⟨CS, hCS⟩ : ∃ CS, Hid ([7] ++ PB = CS) := ⟨[7] ++ PB, rfl⟩
  have hcl : CS.length = 1 + PB.length := by rw [← hCS.out, List.length_append]; rfl
  rw [hCS.out] at kw
  have HCL := Lib.hid hcl
  have kq := fun w => refright_ok p N w hR
  have kwn := fun w => pwrite_nil p N w hR
  have ks : ∀ (W : World) (S S' : Nat → Prop) (A A' : Option Addr) (c c' n n' : Nat), n = (CS).length → n' = (CS).length → Lies W S A CS → Lies W S' A' CS → Calls Try.prog 20 #[.slice A n c, .slice A' n' c'] W fun e w' => e = .returned (.bool true) ∧ Below W.heap.size W w' := fun W S S' A A' c c' n n' hn hn' h h' => by
    subst hn; subst hn'
    exact same_true CS S S' A A' c c' W h h' (by unfold maxLen; omega)
  obtain ⟨XS, hXS⟩ : ∃ XS, Hid ([7] ++ bs = XS) := ⟨[7] ++ bs, rfl⟩
  have hxl : XS.length = 1 + bs.length := by rw [← hXS.out, List.length_append]; rfl
  have hxb : ∀ x ∈ XS, x < 256 := by
    rw [← hXS.out]
    intro x hx
    rcases List.mem_append.1 hx with h | h
    · simp at h; omega
    · exact hb x h
  have hsh : PRes XS (1, 0) q 0 (st.1 + 1, st.2) := by rw [← hXS.out]; exact pres_shift 7 h
  have h7 : rdNum XS (0, 0) 18446744073709551615 = (7, (1, 0)) ∧ rdNum XS (0, 0) 7 = (7, (1, 0)) := by
    have hd : XS.drop 0 = form 7 ++ bs := by rw [List.drop_zero, ← hXS.out, e7]
    have g1 := rdNum_form (mo := 18446744073709551615) (show 7 < 18446744073709551616 by decide) (by decide) hd
    have g2 := rdNum_form (mo := 7) (show 7 < 18446744073709551616 by decide) (by decide) hd
    rw [e7] at g1 g2
    exact ⟨g1, g2⟩
  have kd := fun w hx => rpdec_is bs A c q 0 n st w hx (by omega) hc hcm hb h (by rw [hn]; rfl)
  have HX := Lib.hid hx
  have HSH := Lib.hid hsh
  have HXB := Lib.hid hxb
  have HXL := Lib.hid hxl
  have H7 := Lib.hid h7
  have HL := Lib.hid hl
  have HA := Lib.hid hA
  have HN1 : Hid (n = st.1) := hn
  clear hx hl hc hcm hb hA h hsh hxb hxl h7 hn hR hfit hpb hcl hP hW1
  go_enter Try.func24, Try.ntmps24
  go_upto_region 5 with (first
    | (refine load_par _ rfl rfl w.heap.size p _ rfl (by assumption) ?_)
    | (go_at_call 50; refine kn.mono ?_; clear kn; rintro e w2 ⟨rfl, ⟨F2, hW2, -⟩, hg2⟩; have hP2 := hP1.grown hg2 (by omega); have hB2 := hb1.trans (below_of_grown hg2 (Nat.le_succ _) hb1.size))
    | (go_at_call 43; refine (kw _ _ hW2).mono ?_; clear kw; rintro e w3 ⟨rfl, ⟨F3, hW3, -⟩, hg3⟩; have hP3 := hP2.grown hg3 (by omega); have hB3 := hB2.trans (below_of_grown hg3 (Nat.le_succ _) hB2.size))
    | (go_at_call 44; refine (out_ok _ _ _ _ hW3).mono ?_; rintro e w4 ⟨v4, rfl, hown4, hb4⟩; obtain ⟨A4, c4, rfl, -, -, -, hL4⟩ := Lies.own hown4; have hP4 := hP3.up hb4; have hB4 := Below.then hB3 hb4))
  have hb5 : Below w4.heap.size w4 (w4.alloc (.cells #[.int .u8 7] 5)) := (Below.refl _ _).alloc (Nat.le_refl _) _
  have hO5 := own_seven w4
  have hP5 := hP4.up hb5
  have hB5 := Below.then hB4 hb5
  have hL5 := hL4.grown (grown_below hb5 none) (by simp)
  have hP4lt := hP4.lt
  clear hP1 hP2 hP3 hP4 hB2 hB3 hb1 hW2 hW3 hown4 hL4
  go_upto_region 9 with (first
    | (refine load_par _ rfl rfl w.heap.size p _ rfl (by assumption) ?_)
    | (refine app_any _ _ rfl rfl w4.heap.size _ 1 [7] rfl hO8 A8 c8 PB.length PB rfl _ rfl hL8 (fun e => by subst e; exact absurd (lies_at hL8 hpp) (by simp)) (by omega) hB4le ?_; intro v9 w9 hown9 hgrow9)
    | (go_at_call 21; refine (kf _).mono ?_; clear kf; rintro e w8 ⟨v8, rfl, hown8, hb8⟩; obtain ⟨A8, c8, rfl, -, -, -, hL8⟩ := Lies.own hown8; have hP8 := hP7.up hb8; have hB8 := Below.then hB7 hb8; have hC8 := hL7.grown (grown_below hb8 none) (by simp); have hO8 := own_below0 hO7 hb8; have hB4le : w4.heap.size ≤ w8.heap.size := Nat.le_trans hB47 hb8.size)
    | (go_at_call 10; refine (kq _).mono ?_; clear kq; rintro e w66 ⟨rfl, hb66⟩; have hP66 := hP6.up hb66; have hB66 := Below.then hB6 hb66; have hL66 := hL6.grown (grown_below hb66 none) (by simp); have hO66 := own_below0 hO6 hb66; have hB466 := Nat.le_trans hB46 hb66.size; clear hP6)
    | (go_at_call 11; refine (plain_is p _).mono ?_; rintro e w7 ⟨rfl, hb7⟩; have hP7 := hP66.up hb7; have hB7 := Below.then hB66 hb7; have hL7 := hL66.grown (grown_below hb7 none) (by simp); have hO7 := own_below0 hO66 hb7; have hB47 := Nat.le_trans hB466 hb7.size; clear hP66)
    | (go_at_call 11; refine (plain_is p _).mono ?_; rintro e w6 ⟨rfl, hb6⟩; have hP6 := hP5.up hb6; have hB6 := Below.then hB5 hb6; have hL6 := hL5.grown (grown_below hb6 none) (by simp); have hO6 := own_below0 hO5 hb6; have hB46 := Nat.le_trans hb5.size hb6.size; clear hP5))
  have hb9 : Below w4.heap.size w8 w9 := (Below.refl _ _).grown hgrow9 hB4le (fun k hk => (hO8.lt k hk).1)
  rw [hCS.out] at hown9
  have hP9 := hP8.below hb9 hP4lt
  have hB9 := hB8.trans (hb9.mono hB4.size)
  have hC9 := hC8.hold (w' := w9) (fun a ha => hb9.cell ha.2.1)
  obtain ⟨A9, c9, rfl, -, -, -, hD9⟩ := Lies.own hown9
  have hPl9 := hP9.lt
  have NL : Hid (1 + PB.length = CS.length) := by show _ = _; exact HCL.out.symm
  go_upto_region 11 with (first
    | (refine load_par _ rfl rfl w.heap.size p _ rfl (by assumption) ?_)
    | (go_at_call 20; refine (ks _ _ _ _ _ _ _ CS.length (1 + PB.length) rfl NL.out hC9 hD9).mono ?_; clear ks; rintro e w10 ⟨rfl, hb10⟩; have hP10 := hP9.up hb10; have hB10 := Below.then hB9 hb10)
    | (go_at_call 43; refine (kwn _).mono ?_; rintro e w11 ⟨rfl, hb11⟩; have hB11 := Below.then hB10 hb11))
  have hb12 : Below w11.heap.size w11 (w11.alloc (.cells #[.int .u8 7] 5)) := (Below.refl _ _).alloc (Nat.le_refl _) _
  have hO12 := own_seven w11
  have x12 := HX.out.hold fun a ha => (Below.then hB11 hb12).cell ha
  have hB12 := Below.then hB11 hb12
  have hl12 : 1 + bs.length ≤ 3000 := by have := HL.out; omega
  clear hP9 hP10 hB9 hB10 hC9 hD9 hPl9 NL
  go_upto_region 13 with (first
    | (refine app_any _ _ rfl rfl w11.heap.size _ 1 [7] rfl hO12 A c bs.length bs rfl _ rfl x12 HA.out hl12 hb12.size ?_; intro v13 w13 hown13 hgrow13; have hb13 : Below w11.heap.size w11 w13 := hb12.grown hgrow13 hb12.size (fun k hk => (hO12.lt k hk).1); rw [hXS.out] at hown13; obtain ⟨A13, c13, rfl, -, -, -, hL13⟩ := Lies.own hown13; have ko := open_is XS _ A13 c13 w13 hL13 (by rw [HXL.out]; omega) HXB.out; rw [HXL.out] at ko; clear hown13 hgrow13)
    | (go_at_call 46; refine ko.mono ?_; clear ko; rintro e w14 ⟨rb, A14, c14, rfl, hR14, hrb, hb14⟩; have HRB : Hid (w.heap.size ≤ rb) := Nat.le_trans (Nat.le_trans hB11.size hb13.size) hrb; have hb1114 := Below.then hb13 hb14)
    | (go_at_call 51; refine (rnum_is rb _ XS (0, 0) A14 c14 7 _ hR14 (by decide)).mono ?_; rintro e w15 ⟨rfl, hR15, hg15⟩; rw [H7.out.2] at hR15))
  have hB15 : Below w.heap.size w w15 := by
    have h1 := hB11.size
    have h2 := hrb
    have h3 := hb13.size
    have h0 := Below.then hB11 hb1114
    exact h0.trans (below_of_grown hg15 (by omega) h0.size)
  have hF15 : ∀ k, (w13.heap.size ≤ k ∧ k < rb) → k < w15.heap.size := fun k hk => Nat.lt_trans hk.2 hR15.lt
  have HF15 := Lib.hid hF15
  clear hF15 hb13 hb1114 hb14 hL13 hO12 x12 hb12 hB12 hR14 hg15
  go_upto_region 14 with (first
    | (go_at_call 47; refine (pread_is rb _ XS (1, 0) A14 c14 q 0 (st.1 + 1, st.2) _ hR15 HF15.out HSH).mono ?_; rintro e w16 ⟨rfl, hR16, hg16⟩)
    | (refine store_par _ _ rfl rfl w16.heap.size q Par.none 24 rfl rfl (ParAt.new w16 Par.none 24) ?_))
  have hrl := hR15.lt
  have hB16 : Below w.heap.size w w16 := hB15.trans (below_of_grown hg16 HRB.out hB15.size)
  generalize hW17 : World.setRow _ _ _ = w17
  have hQ17 : ParAt w17 w16.heap.size q 24 := by rw [← hW17]; exact (ParAt.new w16 Par.none 24).set
  have hb17 : Below w16.heap.size w16 w17 := by rw [← hW17]; exact below_setRow ((Below.refl _ _).alloc (Nat.le_refl _) _) (Nat.le_refl _) _
  have hR17 := hR16.grown (grown_below hb17 none) (by simp) (by simp)
  have hB17 := Below.then hB16 hb17
  have x17 := (HX.out.hold fun a ha => hB17.cell ha).imp (S' := (· < w17.heap.size)) (fun k h _ => h)
  clear hW17 hR15 hR16 hg16 hB15 hB16 hb17
  go_upto_region 15 with (first
    | (go_at_call 23; refine (kd _ x17).mono ?_; clear kd; rintro e w18 ⟨rfl, hb18⟩)
    | (refine store_rpar2 _ _ rfl rfl w18.heap.size q Par.none 30 rfl rfl (ParAt.new w18 Par.none 30) ?_))
  generalize hW19 : World.setRow _ _ _ = w19
  have hS19 : ParAt w19 w18.heap.size q 30 := by rw [← hW19]; exact (ParAt.new w18 Par.none 30).set
  have hb19 : Below w17.heap.size w17 w19 := by rw [← hW19]; exact below_setRow (hb18.alloc hb18.size _) hb18.size _
  have hQ19 := hQ17.up hb19
  have hR19 := hR17.grown (grown_below hb19 none) (by simp) (by simp)
  have hB19 := Below.then hB17 hb19
  clear hW19 hb18 hb19 hQ17 hR17 hB17 x17
  go_upto_region 16 with (first
    | (go_at_call 47; refine (pread_nil _).mono ?_; rintro e w20 ⟨rfl, hb20⟩)
    | (refine store_par _ _ rfl rfl w20.heap.size Par.none Par.none 24 rfl rfl (ParAt.new w20 Par.none 24) ?_))
  generalize hW21 : World.setRow _ _ _ = w21
  have hT21 : ParAt w21 w20.heap.size Par.none 24 := by rw [← hW21]; exact (ParAt.new w20 Par.none 24).set
  have hb21 : Below w19.heap.size w19 w21 := by rw [← hW21]; exact below_setRow (hb20.alloc hb20.size _) hb20.size _
  have hQ21 := hQ19.up hb21
  have hS21 := hS19.up hb21
  have hR21 := hR19.grown (grown_below hb21 none) (by simp) (by simp)
  have hB21 := Below.then hB19 hb21
  clear hW21 hb20 hb21 hQ19 hS19 hR19 hB19
  have kat : ∀ (p : Nat) w', Below w21.heap.size w21 w' → Calls Try.prog 48 #[.pointer (some ⟨rb, 0, none⟩)] w' fun e w'' => e = .returned (.int .i64 ((n : Int) + 1)) ∧ Below w21.heap.size w21 w'' := fun _ w' h => by
    have k := rat_is rb _ XS (st.1 + 1, st.2) A14 c14 w' (hR21.grown (grown_below h none) (by simp) (by simp))
    rw [← HN1.out] at k
    exact k.mono (by rintro e w'' ⟨rfl, rfl⟩; exact ⟨by rw [Int.natCast_add]; rfl, h⟩)
  have hnb : n ≤ 3000 := by have hn1 := HN1.out; have := hR21.place; simp only at this; rw [HXL.out] at this; have := HL.out; omega
  have e1 : IntKind.i64.wrap ((n : Int) + 1) = (n : Int) + 1 := IntWalk.i64_in _ (by omega)
  clear hnb
  refine region_list [] (fun _ w' => Below w21.heap.size w21 w') (by kernel_rfl) (by kernel_rfl) (Below.refl _ _).drew ?_
  refine SeqS.take _ (by rfl) (by rfl) (fun ph w' hS => exec_load_par _ rfl _ _ _ rfl (hQ21.up hS)) ?_
  simp only [Act.put, List.setIfInBounds_toArray, List.set_cons_zero, List.set_cons_succ]
  refine SeqS.call (below_call (Nat.le_refl _) (fun w _ => plain_is q w)) (by rfl) (by rfl) (fun w => ?_) ?_; · go_simp
  simp only [Act.put, List.setIfInBounds_toArray, List.set_cons_zero, List.set_cons_succ]
  refine SeqS.take _ (by rfl) (by rfl) (fun ph w' hS => exec_load_rpar2 _ rfl _ _ _ rfl (hS21.up hS)) ?_
  simp only [Act.put, List.setIfInBounds_toArray, List.set_cons_zero, List.set_cons_succ]
  refine SeqS.calm (.bool true) (by rfl) (by rfl) (fun w => exec_eqr _ _ _ rfl q rfl rfl) ?_
  simp only [Act.put, List.setIfInBounds_toArray, List.set_cons_zero, List.set_cons_succ]
  refine' SeqS.calm _ (by rfl) (by rfl) (fun w => ?_) ?_; rotate_left; · (go_simp <;> with_reducible rfl)
  simp only [Act.put, List.setIfInBounds_toArray, List.set_cons_zero, List.set_cons_succ]
  refine' SeqS.calm _ (by rfl) (by rfl) (fun w => ?_) ?_; rotate_left; · (go_simp <;> with_reducible rfl)
  simp only [Act.put, List.setIfInBounds_toArray, List.set_cons_zero, List.set_cons_succ]
  refine' SeqS.calm _ (by rfl) (by rfl) (fun w => ?_) ?_; rotate_left; · (go_simp <;> with_reducible rfl)
  simp only [Act.put, List.setIfInBounds_toArray, List.set_cons_zero, List.set_cons_succ]
  refine' SeqS.calm _ (by rfl) (by rfl) (fun w => ?_) ?_; rotate_left; · (go_simp <;> with_reducible rfl)
  simp only [Act.put, List.setIfInBounds_toArray, List.set_cons_zero, List.set_cons_succ]
  refine' SeqS.calm _ (by rfl) (by rfl) (fun w => ?_) ?_; rotate_left; · (go_simp <;> with_reducible rfl)
  simp only [Act.put, List.setIfInBounds_toArray, List.set_cons_zero, List.set_cons_succ]
  refine' SeqS.calm _ (by rfl) (by rfl) (fun w => ?_) ?_; rotate_left; · (go_simp <;> with_reducible rfl)
  simp only [Act.put, List.setIfInBounds_toArray, List.set_cons_zero, List.set_cons_succ]
  refine' SeqS.calm _ (by rfl) (by rfl) (fun w => ?_) ?_; rotate_left; · (go_simp <;> with_reducible rfl)
  simp only [Act.put, List.setIfInBounds_toArray, List.set_cons_zero, List.set_cons_succ]
  refine' SeqS.calm _ (by rfl) (by rfl) (fun w => ?_) ?_; rotate_left; · (go_simp <;> with_reducible rfl)
  simp only [Act.put, List.setIfInBounds_toArray, List.set_cons_zero, List.set_cons_succ]
  refine' SeqS.calm _ (by rfl) (by rfl) (fun w => ?_) ?_; rotate_left; · (go_simp <;> with_reducible rfl)
  simp only [Act.put, List.setIfInBounds_toArray, List.set_cons_zero, List.set_cons_succ]
  refine' SeqS.calm _ (by rfl) (by rfl) (fun w => ?_) ?_; rotate_left; · (go_simp <;> with_reducible rfl)
  simp only [Act.put, List.setIfInBounds_toArray, List.set_cons_zero, List.set_cons_succ]
  refine SeqS.call kat (by rfl) (by rfl) (fun w => ?_) ?_; · go_simp
  simp only [Act.put, List.setIfInBounds_toArray, List.set_cons_zero, List.set_cons_succ]
  refine' SeqS.calm _ (by rfl) (by rfl) (fun w => ?_) ?_; rotate_left; · (go_simp <;> with_reducible rfl)
  simp only [Act.put, List.setIfInBounds_toArray, List.set_cons_zero, List.set_cons_succ]
  refine' SeqS.calm _ (by rfl) (by rfl) (fun w => ?_) ?_; rotate_left; · (go_simp <;> with_reducible rfl)
  simp only [Act.put, List.setIfInBounds_toArray, List.set_cons_zero, List.set_cons_succ]
  refine' SeqS.calm _ (by rfl) (by rfl) (fun w => ?_) ?_; rotate_left; · (go_simp <;> with_reducible rfl)
  simp only [Act.put, List.setIfInBounds_toArray, List.set_cons_zero, List.set_cons_succ]
  refine' SeqS.calm _ (by rfl) (by rfl) (fun w => ?_) ?_; rotate_left; · (go_simp <;> with_reducible rfl)
  simp only [Act.put, List.setIfInBounds_toArray, List.set_cons_zero, List.set_cons_succ]
  refine' SeqS.calm _ (by rfl) (by rfl) (fun w => ?_) ?_; rotate_left; · (go_simp <;> with_reducible rfl)
  simp only [Act.put, List.setIfInBounds_toArray, List.set_cons_zero, List.set_cons_succ]
  refine' SeqS.calm _ (by rfl) (by rfl) (fun w => ?_) ?_; rotate_left; · (go_simp <;> with_reducible rfl)
  simp only [Act.put, List.setIfInBounds_toArray, List.set_cons_zero, List.set_cons_succ]
  refine SeqS.take _ (by rfl) (by rfl) (fun ph w' hS => exec_load_par _ rfl _ _ _ rfl (hT21.up hS)) ?_
  simp only [Act.put, List.setIfInBounds_toArray, List.set_cons_zero, List.set_cons_succ]
  refine SeqS.calm (.agg Par.none.vals) (by rfl) (by rfl) (fun w => exec_build_par _ rfl Par.none (by kernel_rfl) w) ?_
  simp only [Act.put, List.setIfInBounds_toArray, List.set_cons_zero, List.set_cons_succ]
  refine SeqS.calm (.bool true) (by rfl) (by rfl) (fun w => exec_eql _ _ _ rfl Par.none rfl rfl) ?_
  simp only [Act.put, List.setIfInBounds_toArray, List.set_cons_zero, List.set_cons_succ]
  refine' SeqS.calm _ (by rfl) (by rfl) (fun w => ?_) ?_; rotate_left; · (go_simp <;> with_reducible rfl)
  simp only [Act.put, List.setIfInBounds_toArray, List.set_cons_zero, List.set_cons_succ]
  refine' SeqS.calm _ (by rfl) (by rfl) (fun w => ?_) ?_; rotate_left; · (go_simp <;> with_reducible rfl)
  simp only [Act.put, List.setIfInBounds_toArray, List.set_cons_zero, List.set_cons_succ]
  refine' SeqS.calm _ (by rfl) (by rfl) (fun w => ?_) ?_; rotate_left; · (go_simp <;> with_reducible rfl)
  simp only [Act.put, List.setIfInBounds_toArray, List.set_cons_zero, List.set_cons_succ]
  refine' SeqS.calm _ (by rfl) (by rfl) (fun w => ?_) ?_; rotate_left; · (go_simp <;> with_reducible rfl)
  simp only [Act.put, List.setIfInBounds_toArray, List.set_cons_zero, List.set_cons_succ]
  refine' SeqS.calm _ (by rfl) (by rfl) (fun w => ?_) ?_; rotate_left; · (go_simp <;> with_reducible rfl)
  simp only [Act.put, List.setIfInBounds_toArray, List.set_cons_zero, List.set_cons_succ]
  refine' SeqS.calm _ (by rfl) (by rfl) (fun w => ?_) ?_; rotate_left; · (go_simp <;> with_reducible rfl)
  simp only [Act.put, List.setIfInBounds_toArray, List.set_cons_zero, List.set_cons_succ]
  intro w22 hw22
  have hB22 := Below.then hB21 hw22
  go_wp2
  go_ret
  exact ⟨rfl, hB22⟩

set_option maxRecDepth 100000 in
set_option maxHeartbeats 4000000 in
theorem streams_yno (p : Par) (bs : List Nat) (A : Option Addr) (c n ee : Nat) (q : Par) (st : Nat × Nat) (w : World) (N : Nat) (hR : Par.Right p N) (hx : Lies w (· < w.heap.size) A bs) (hl : bs.length ≤ 2000) (hc : bs.length ≤ c) (hcm : c ≤ maxLen) (hb : ∀ x ∈ bs, x < 256) (hA : A = none → c = 0) (h : PRes bs (0, 0) q ee st) (hn : n = 0) (hee : ee ≠ 0) :
    Calls Try.prog 24 #[.agg p.vals, .slice A bs.length c] w fun e w' => e = .returned (.bool true) ∧ Below w.heap.size w w' := by
  have hz := run_zero
  have hP := ParAt.new w p 24
  have hb1 : Below w.heap.size w ((w.alloc (.cells p.vals 24)).alloc (.cells zeroWriter 78)) := ((Below.refl _ _).alloc (Nat.le_refl _) _).alloc (by simp) _
  have hP1 := hP.up ((Below.refl _ (w.alloc (.cells p.vals 24))).alloc (Nat.le_refl _) (.cells zeroWriter 78))
  have hW1 := writer_new (w.alloc (.cells p.vals 24))
  rw [show (w.alloc (.cells p.vals 24)).heap.size = w.heap.size + 1 by simp] at hW1
  have e7 : form 7 = [7] := form_small (by decide)
  have kn := num_is (w.heap.size + 1) _ ([], 0) 7 _ hW1 (by decide)
  rw [e7, show wput ([], 0) [7] = ([7], 0) by decide] at kn
  have hfit := right_fits hR
  have hpb := bytes_is hfit.1 [7] (by simp)
  have kw : ∀ (F : Nat → Prop) (W : World), Writes W (w.heap.size + 1) F ([7], 0) → Calls Try.prog 43 #[.pointer (some ⟨w.heap.size + 1, 0, none⟩), .agg p.vals] W fun e w' => e = .returned (.int .i64 0) ∧ Left W (w.heap.size + 1) F ([7] ++ p.bytes, 0) w' := fun F W hW => by
    have k := pwrite_is (w.heap.size + 1) F ([7], 0) p N W hR hfit.1 hW
    rwa [hpb.1] at k
  have kf := fun w => rparform_is p N w hR
  have hpl := hpb.2
  obtain ⟨PB, hPB⟩ : ∃ PB, Hid (p.bytes = PB) := ⟨_, rfl⟩
  have hpp : 0 < p.bytes.length := par_pos2 p
  rw [hPB.out] at kw kf hpl hpp
  obtain ⟨CS, hCS⟩ : ∃ CS, Hid ([7] ++ PB = CS) := ⟨[7] ++ PB, rfl⟩
  have hcl : CS.length = 1 + PB.length := by rw [← hCS.out, List.length_append]; rfl
  rw [hCS.out] at kw
  have HCL := Lib.hid hcl
  have kq := fun w => refright_ok p N w hR
  have kwn := fun w => pwrite_nil p N w hR
  have ks : ∀ (W : World) (S S' : Nat → Prop) (A A' : Option Addr) (c c' n n' : Nat), n = (CS).length → n' = (CS).length → Lies W S A CS → Lies W S' A' CS → Calls Try.prog 20 #[.slice A n c, .slice A' n' c'] W fun e w' => e = .returned (.bool true) ∧ Below W.heap.size W w' := fun W S S' A A' c c' n n' hn hn' h h' => by
    subst hn; subst hn'
    exact same_true CS S S' A A' c c' W h h' (by unfold maxLen; omega)
  obtain ⟨XS, hXS⟩ : ∃ XS, Hid ([7] ++ bs = XS) := ⟨[7] ++ bs, rfl⟩
  have hxl : XS.length = 1 + bs.length := by rw [← hXS.out, List.length_append]; rfl
  have hxb : ∀ x ∈ XS, x < 256 := by
    rw [← hXS.out]
    intro x hx
    rcases List.mem_append.1 hx with h | h
    · simp at h; omega
    · exact hb x h
  have hsh : PRes XS (1, 0) q ee (st.1 + 1, st.2) := by rw [← hXS.out]; exact pres_shift 7 h
  have h7 : rdNum XS (0, 0) 18446744073709551615 = (7, (1, 0)) ∧ rdNum XS (0, 0) 7 = (7, (1, 0)) := by
    have hd : XS.drop 0 = form 7 ++ bs := by rw [List.drop_zero, ← hXS.out, e7]
    have g1 := rdNum_form (mo := 18446744073709551615) (show 7 < 18446744073709551616 by decide) (by decide) hd
    have g2 := rdNum_form (mo := 7) (show 7 < 18446744073709551616 by decide) (by decide) hd
    rw [e7] at g1 g2
    exact ⟨g1, g2⟩
  have kd := fun w hx => rpdec_is bs A c q ee n st w hx (by omega) hc hcm hb h (by rw [hn]; rw [if_neg hee])
  have HX := Lib.hid hx
  have HSH := Lib.hid hsh
  have HXB := Lib.hid hxb
  have HXL := Lib.hid hxl
  have H7 := Lib.hid h7
  have HL := Lib.hid hl
  have HA := Lib.hid hA
  have d1 : ((ee : Int) != 0) = true := by simp; omega
  clear hx hl hc hcm hb hA h hsh hxb hxl h7 hn hR hfit hpb hcl hP hW1 hee
  go_enter Try.func24, Try.ntmps24
  go_upto_region 5 with (first
    | (refine load_par _ rfl rfl w.heap.size p _ rfl (by assumption) ?_)
    | (go_at_call 50; refine kn.mono ?_; clear kn; rintro e w2 ⟨rfl, ⟨F2, hW2, -⟩, hg2⟩; have hP2 := hP1.grown hg2 (by omega); have hB2 := hb1.trans (below_of_grown hg2 (Nat.le_succ _) hb1.size))
    | (go_at_call 43; refine (kw _ _ hW2).mono ?_; clear kw; rintro e w3 ⟨rfl, ⟨F3, hW3, -⟩, hg3⟩; have hP3 := hP2.grown hg3 (by omega); have hB3 := hB2.trans (below_of_grown hg3 (Nat.le_succ _) hB2.size))
    | (go_at_call 44; refine (out_ok _ _ _ _ hW3).mono ?_; rintro e w4 ⟨v4, rfl, hown4, hb4⟩; obtain ⟨A4, c4, rfl, -, -, -, hL4⟩ := Lies.own hown4; have hP4 := hP3.up hb4; have hB4 := Below.then hB3 hb4))
  have hb5 : Below w4.heap.size w4 (w4.alloc (.cells #[.int .u8 7] 5)) := (Below.refl _ _).alloc (Nat.le_refl _) _
  have hO5 := own_seven w4
  have hP5 := hP4.up hb5
  have hB5 := Below.then hB4 hb5
  have hL5 := hL4.grown (grown_below hb5 none) (by simp)
  have hP4lt := hP4.lt
  clear hP1 hP2 hP3 hP4 hB2 hB3 hb1 hW2 hW3 hown4 hL4
  go_upto_region 9 with (first
    | (refine load_par _ rfl rfl w.heap.size p _ rfl (by assumption) ?_)
    | (refine app_any _ _ rfl rfl w4.heap.size _ 1 [7] rfl hO8 A8 c8 PB.length PB rfl _ rfl hL8 (fun e => by subst e; exact absurd (lies_at hL8 hpp) (by simp)) (by omega) hB4le ?_; intro v9 w9 hown9 hgrow9)
    | (go_at_call 21; refine (kf _).mono ?_; clear kf; rintro e w8 ⟨v8, rfl, hown8, hb8⟩; obtain ⟨A8, c8, rfl, -, -, -, hL8⟩ := Lies.own hown8; have hP8 := hP7.up hb8; have hB8 := Below.then hB7 hb8; have hC8 := hL7.grown (grown_below hb8 none) (by simp); have hO8 := own_below0 hO7 hb8; have hB4le : w4.heap.size ≤ w8.heap.size := Nat.le_trans hB47 hb8.size)
    | (go_at_call 10; refine (kq _).mono ?_; clear kq; rintro e w66 ⟨rfl, hb66⟩; have hP66 := hP6.up hb66; have hB66 := Below.then hB6 hb66; have hL66 := hL6.grown (grown_below hb66 none) (by simp); have hO66 := own_below0 hO6 hb66; have hB466 := Nat.le_trans hB46 hb66.size; clear hP6)
    | (go_at_call 11; refine (plain_is p _).mono ?_; rintro e w7 ⟨rfl, hb7⟩; have hP7 := hP66.up hb7; have hB7 := Below.then hB66 hb7; have hL7 := hL66.grown (grown_below hb7 none) (by simp); have hO7 := own_below0 hO66 hb7; have hB47 := Nat.le_trans hB466 hb7.size; clear hP66)
    | (go_at_call 11; refine (plain_is p _).mono ?_; rintro e w6 ⟨rfl, hb6⟩; have hP6 := hP5.up hb6; have hB6 := Below.then hB5 hb6; have hL6 := hL5.grown (grown_below hb6 none) (by simp); have hO6 := own_below0 hO5 hb6; have hB46 := Nat.le_trans hb5.size hb6.size; clear hP5))
  have hb9 : Below w4.heap.size w8 w9 := (Below.refl _ _).grown hgrow9 hB4le (fun k hk => (hO8.lt k hk).1)
  rw [hCS.out] at hown9
  have hP9 := hP8.below hb9 hP4lt
  have hB9 := hB8.trans (hb9.mono hB4.size)
  have hC9 := hC8.hold (w' := w9) (fun a ha => hb9.cell ha.2.1)
  obtain ⟨A9, c9, rfl, -, -, -, hD9⟩ := Lies.own hown9
  have hPl9 := hP9.lt
  have NL : Hid (1 + PB.length = CS.length) := by show _ = _; exact HCL.out.symm
  go_upto_region 11 with (first
    | (refine load_par _ rfl rfl w.heap.size p _ rfl (by assumption) ?_)
    | (go_at_call 20; refine (ks _ _ _ _ _ _ _ CS.length (1 + PB.length) rfl NL.out hC9 hD9).mono ?_; clear ks; rintro e w10 ⟨rfl, hb10⟩; have hP10 := hP9.up hb10; have hB10 := Below.then hB9 hb10)
    | (go_at_call 43; refine (kwn _).mono ?_; rintro e w11 ⟨rfl, hb11⟩; have hB11 := Below.then hB10 hb11))
  have hb12 : Below w11.heap.size w11 (w11.alloc (.cells #[.int .u8 7] 5)) := (Below.refl _ _).alloc (Nat.le_refl _) _
  have hO12 := own_seven w11
  have x12 := HX.out.hold fun a ha => (Below.then hB11 hb12).cell ha
  have hB12 := Below.then hB11 hb12
  have hl12 : 1 + bs.length ≤ 3000 := by have := HL.out; omega
  clear hP9 hP10 hB9 hB10 hC9 hD9 hPl9 NL
  go_upto_region 13 with (first
    | (refine app_any _ _ rfl rfl w11.heap.size _ 1 [7] rfl hO12 A c bs.length bs rfl _ rfl x12 HA.out hl12 hb12.size ?_; intro v13 w13 hown13 hgrow13; have hb13 : Below w11.heap.size w11 w13 := hb12.grown hgrow13 hb12.size (fun k hk => (hO12.lt k hk).1); rw [hXS.out] at hown13; obtain ⟨A13, c13, rfl, -, -, -, hL13⟩ := Lies.own hown13; have ko := open_is XS _ A13 c13 w13 hL13 (by rw [HXL.out]; omega) HXB.out; rw [HXL.out] at ko; clear hown13 hgrow13)
    | (go_at_call 46; refine ko.mono ?_; clear ko; rintro e w14 ⟨rb, A14, c14, rfl, hR14, hrb, hb14⟩; have HRB : Hid (w.heap.size ≤ rb) := Nat.le_trans (Nat.le_trans hB11.size hb13.size) hrb; have hb1114 := Below.then hb13 hb14)
    | (go_at_call 51; refine (rnum_is rb _ XS (0, 0) A14 c14 7 _ hR14 (by decide)).mono ?_; rintro e w15 ⟨rfl, hR15, hg15⟩; rw [H7.out.2] at hR15))
  have hB15 : Below w.heap.size w w15 := by
    have h1 := hB11.size
    have h2 := hrb
    have h3 := hb13.size
    have h0 := Below.then hB11 hb1114
    exact h0.trans (below_of_grown hg15 (by omega) h0.size)
  have hF15 : ∀ k, (w13.heap.size ≤ k ∧ k < rb) → k < w15.heap.size := fun k hk => Nat.lt_trans hk.2 hR15.lt
  have HF15 := Lib.hid hF15
  clear hF15 hb13 hb1114 hb14 hL13 hO12 x12 hb12 hB12 hR14 hg15
  go_upto_region 14 with (first
    | (go_at_call 47; refine (pread_is rb _ XS (1, 0) A14 c14 q ee (st.1 + 1, st.2) _ hR15 HF15.out HSH).mono ?_; rintro e w16 ⟨rfl, hR16, hg16⟩)
    | (refine store_par _ _ rfl rfl w16.heap.size q Par.none 24 rfl rfl (ParAt.new w16 Par.none 24) ?_))
  have hrl := hR15.lt
  have hB16 : Below w.heap.size w w16 := hB15.trans (below_of_grown hg16 HRB.out hB15.size)
  generalize hW17 : World.setRow _ _ _ = w17
  have hQ17 : ParAt w17 w16.heap.size q 24 := by rw [← hW17]; exact (ParAt.new w16 Par.none 24).set
  have hb17 : Below w16.heap.size w16 w17 := by rw [← hW17]; exact below_setRow ((Below.refl _ _).alloc (Nat.le_refl _) _) (Nat.le_refl _) _
  have hR17 := hR16.grown (grown_below hb17 none) (by simp) (by simp)
  have hB17 := Below.then hB16 hb17
  have x17 := (HX.out.hold fun a ha => hB17.cell ha).imp (S' := (· < w17.heap.size)) (fun k h _ => h)
  clear hW17 hR15 hR16 hg16 hB15 hB16 hb17
  go_upto_region 15 with (first
    | (go_at_call 23; refine (kd _ x17).mono ?_; clear kd; rintro e w18 ⟨rfl, hb18⟩)
    | (refine store_rpar2 _ _ rfl rfl w18.heap.size q Par.none 30 rfl rfl (ParAt.new w18 Par.none 30) ?_))
  generalize hW19 : World.setRow _ _ _ = w19
  have hS19 : ParAt w19 w18.heap.size q 30 := by rw [← hW19]; exact (ParAt.new w18 Par.none 30).set
  have hb19 : Below w17.heap.size w17 w19 := by rw [← hW19]; exact below_setRow (hb18.alloc hb18.size _) hb18.size _
  have hQ19 := hQ17.up hb19
  have hR19 := hR17.grown (grown_below hb19 none) (by simp) (by simp)
  have hB19 := Below.then hB17 hb19
  clear hW19 hb18 hb19 hQ17 hR17 hB17 x17
  go_upto_region 16 with (first
    | (go_at_call 47; refine (pread_nil _).mono ?_; rintro e w20 ⟨rfl, hb20⟩)
    | (refine store_par _ _ rfl rfl w20.heap.size Par.none Par.none 24 rfl rfl (ParAt.new w20 Par.none 24) ?_))
  generalize hW21 : World.setRow _ _ _ = w21
  have hT21 : ParAt w21 w20.heap.size Par.none 24 := by rw [← hW21]; exact (ParAt.new w20 Par.none 24).set
  have hb21 : Below w19.heap.size w19 w21 := by rw [← hW21]; exact below_setRow (hb20.alloc hb20.size _) hb20.size _
  have hQ21 := hQ19.up hb21
  have hS21 := hS19.up hb21
  have hR21 := hR19.grown (grown_below hb21 none) (by simp) (by simp)
  have hB21 := Below.then hB19 hb21
  clear hW21 hb20 hb21 hQ19 hS19 hR19 hB19
  refine region_list [] (fun _ w' => Below w21.heap.size w21 w') (by kernel_rfl) (by kernel_rfl) (Below.refl _ _).drew ?_
  refine SeqS.take _ (by rfl) (by rfl) (fun ph w' hS => exec_load_par _ rfl _ _ _ rfl (hQ21.up hS)) ?_
  simp only [Act.put, List.setIfInBounds_toArray, List.set_cons_zero, List.set_cons_succ]
  refine SeqS.call (below_call (Nat.le_refl _) (fun w _ => plain_is q w)) (by rfl) (by rfl) (fun w => ?_) ?_; · go_simp
  simp only [Act.put, List.setIfInBounds_toArray, List.set_cons_zero, List.set_cons_succ]
  refine SeqS.take _ (by rfl) (by rfl) (fun ph w' hS => exec_load_rpar2 _ rfl _ _ _ rfl (hS21.up hS)) ?_
  simp only [Act.put, List.setIfInBounds_toArray, List.set_cons_zero, List.set_cons_succ]
  refine SeqS.calm (.bool true) (by rfl) (by rfl) (fun w => exec_eqr _ _ _ rfl q rfl rfl) ?_
  simp only [Act.put, List.setIfInBounds_toArray, List.set_cons_zero, List.set_cons_succ]
  refine' SeqS.calm _ (by rfl) (by rfl) (fun w => ?_) ?_; rotate_left; · (go_simp <;> with_reducible rfl)
  simp only [Act.put, List.setIfInBounds_toArray, List.set_cons_zero, List.set_cons_succ]
  refine' SeqS.calm _ (by rfl) (by rfl) (fun w => ?_) ?_; rotate_left; · (go_simp <;> with_reducible rfl)
  simp only [Act.put, List.setIfInBounds_toArray, List.set_cons_zero, List.set_cons_succ]
  refine' SeqS.calm _ (by rfl) (by rfl) (fun w => ?_) ?_; rotate_left; · (go_simp <;> with_reducible rfl)
  simp only [Act.put, List.setIfInBounds_toArray, List.set_cons_zero, List.set_cons_succ]
  refine' SeqS.calm _ (by rfl) (by rfl) (fun w => ?_) ?_; rotate_left; · (go_simp <;> with_reducible rfl)
  simp only [Act.put, List.setIfInBounds_toArray, List.set_cons_zero, List.set_cons_succ]
  refine' SeqS.calm _ (by rfl) (by rfl) (fun w => ?_) ?_; rotate_left; · (go_simp <;> with_reducible rfl)
  simp only [Act.put, List.setIfInBounds_toArray, List.set_cons_zero, List.set_cons_succ]
  refine' SeqS.calm _ (by rfl) (by rfl) (fun w => ?_) ?_; rotate_left; · (go_simp <;> with_reducible rfl)
  simp only [Act.put, List.setIfInBounds_toArray, List.set_cons_zero, List.set_cons_succ]
  refine' SeqS.calm _ (by rfl) (by rfl) (fun w => ?_) ?_; rotate_left; · (go_simp <;> with_reducible rfl)
  simp only [Act.put, List.setIfInBounds_toArray, List.set_cons_zero, List.set_cons_succ]
  refine' SeqS.calm _ (by rfl) (by rfl) (fun w => ?_) ?_; rotate_left; · (go_simp <;> with_reducible rfl)
  simp only [Act.put, List.setIfInBounds_toArray, List.set_cons_zero, List.set_cons_succ]
  refine' SeqS.calm _ (by rfl) (by rfl) (fun w => ?_) ?_; rotate_left; · (go_simp <;> with_reducible rfl)
  simp only [Act.put, List.setIfInBounds_toArray, List.set_cons_zero, List.set_cons_succ]
  refine SeqS.skip (by rfl) (by rfl) ?_
  simp only [Act.put, List.setIfInBounds_toArray, List.set_cons_zero, List.set_cons_succ]
  refine SeqS.skip (by rfl) (by rfl) ?_
  simp only [Act.put, List.setIfInBounds_toArray, List.set_cons_zero, List.set_cons_succ]
  refine SeqS.skip (by rfl) (by rfl) ?_
  simp only [Act.put, List.setIfInBounds_toArray, List.set_cons_zero, List.set_cons_succ]
  refine SeqS.skip (by rfl) (by rfl) ?_
  simp only [Act.put, List.setIfInBounds_toArray, List.set_cons_zero, List.set_cons_succ]
  refine SeqS.skip (by rfl) (by rfl) ?_
  simp only [Act.put, List.setIfInBounds_toArray, List.set_cons_zero, List.set_cons_succ]
  refine' SeqS.calm _ (by rfl) (by rfl) (fun w => ?_) ?_; rotate_left; · (go_simp <;> with_reducible rfl)
  simp only [Act.put, List.setIfInBounds_toArray, List.set_cons_zero, List.set_cons_succ]
  refine' SeqS.calm _ (by rfl) (by rfl) (fun w => ?_) ?_; rotate_left; · (go_simp <;> with_reducible rfl)
  simp only [Act.put, List.setIfInBounds_toArray, List.set_cons_zero, List.set_cons_succ]
  refine' SeqS.calm _ (by rfl) (by rfl) (fun w => ?_) ?_; rotate_left; · (go_simp <;> with_reducible rfl)
  simp only [Act.put, List.setIfInBounds_toArray, List.set_cons_zero, List.set_cons_succ]
  refine SeqS.take _ (by rfl) (by rfl) (fun ph w' hS => exec_load_par _ rfl _ _ _ rfl (hT21.up hS)) ?_
  simp only [Act.put, List.setIfInBounds_toArray, List.set_cons_zero, List.set_cons_succ]
  refine SeqS.calm (.agg Par.none.vals) (by rfl) (by rfl) (fun w => exec_build_par _ rfl Par.none (by kernel_rfl) w) ?_
  simp only [Act.put, List.setIfInBounds_toArray, List.set_cons_zero, List.set_cons_succ]
  refine SeqS.calm (.bool true) (by rfl) (by rfl) (fun w => exec_eql _ _ _ rfl Par.none rfl rfl) ?_
  simp only [Act.put, List.setIfInBounds_toArray, List.set_cons_zero, List.set_cons_succ]
  refine' SeqS.calm _ (by rfl) (by rfl) (fun w => ?_) ?_; rotate_left; · (go_simp <;> with_reducible rfl)
  simp only [Act.put, List.setIfInBounds_toArray, List.set_cons_zero, List.set_cons_succ]
  refine' SeqS.calm _ (by rfl) (by rfl) (fun w => ?_) ?_; rotate_left; · (go_simp <;> with_reducible rfl)
  simp only [Act.put, List.setIfInBounds_toArray, List.set_cons_zero, List.set_cons_succ]
  refine' SeqS.calm _ (by rfl) (by rfl) (fun w => ?_) ?_; rotate_left; · (go_simp <;> with_reducible rfl)
  simp only [Act.put, List.setIfInBounds_toArray, List.set_cons_zero, List.set_cons_succ]
  refine' SeqS.calm _ (by rfl) (by rfl) (fun w => ?_) ?_; rotate_left; · (go_simp <;> with_reducible rfl)
  simp only [Act.put, List.setIfInBounds_toArray, List.set_cons_zero, List.set_cons_succ]
  refine' SeqS.calm _ (by rfl) (by rfl) (fun w => ?_) ?_; rotate_left; · (go_simp <;> with_reducible rfl)
  simp only [Act.put, List.setIfInBounds_toArray, List.set_cons_zero, List.set_cons_succ]
  refine' SeqS.calm _ (by rfl) (by rfl) (fun w => ?_) ?_; rotate_left; · (go_simp <;> with_reducible rfl)
  simp only [Act.put, List.setIfInBounds_toArray, List.set_cons_zero, List.set_cons_succ]
  intro w22 hw22
  have hB22 := Below.then hB21 hw22
  go_wp2
  go_ret
  exact ⟨rfl, hB22⟩
end Go.Proofs.Ytjgbpgdnmghcpaa
