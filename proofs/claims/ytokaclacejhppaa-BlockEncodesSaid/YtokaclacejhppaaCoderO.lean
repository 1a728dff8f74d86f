/- Layer 5 (coder): all that a writer has written. By contracts. -/
import Derived.Test.YtokaclacejhppaaCoderQ
namespace Go.Proofs.Ytokaclacejhppaa
open Go.RowKit
set_option linter.unusedVariables false

theorem out_nil (w : World) :
    Calls Try.prog 16 #[.pointer none] w fun e w' => e = .returned (.tuple #[.slice none 0 0, .int .i64 1]) ∧ w = w' := by
  go_enter Try.func16, Try.ntmps16
  go_wp2_with fail
  refine bodyPost_ret (v := .tuple #[.slice none 0 0, .int .i64 1]) (by simp [results, Try.results16, go_sem]) rfl ⟨rfl, rfl⟩

theorem out_bad (b : Nat) (F : Nat → Prop) (s : List Nat × Nat) (w : World) (hW : Writes w b F s) (he : s.2 ≠ 0) :
    Calls Try.prog 16 #[.pointer (some ⟨b, 0, none⟩)] w fun e w' => e = .returned (.tuple #[.slice none 0 0, .int .i64 (s.2 : Int)]) ∧ Below w.heap.size w w' := by
  obtain ⟨m, p, pre, tail, part, hWr⟩ := hW
  obtain ⟨c0, c1, c2, f0, f1, f2⟩ := hWr.cells
  have k := failed_yes b s.2 w c1 he
  clear he
  go_enter Try.func16, Try.ntmps16
  go_wp2_with (go_at_call 32; refine k.mono ?_; rintro e w' ⟨rfl, rfl⟩)
  go_quiet (fail)
  go_wp2_with fail
  refine bodyPost_ret (v := .tuple #[.slice none 0 0, .int .i64 (s.2 : Int)]) (by simp [results, Try.results16, go_sem]) rfl ⟨rfl, below_drewN (Below.refl _ _) _⟩

theorem splice_all {Z : List Value} {bs : List Nat} {n : Nat} (hZ : Z.length = n + bs.length) : splice Z n (u8s bs) = Z.take n ++ u8s bs := by
  unfold splice
  rw [List.drop_eq_nil_of_le (by rw [u8s_len]; omega), List.append_nil]
theorem splice_mid {Z : List Value} {l r : List Nat} {n : Nat} (hZ : Z.length = n + l.length) : splice (Z ++ u8s r) n (u8s l) = Z.take n ++ u8s (l ++ r) := by
  unfold splice
  rw [List.take_append_of_le_length (by omega), u8s_len, List.drop_append, List.drop_eq_nil_of_le (by omega), u8s_append, show n + l.length - Z.length = 0 by omega]
  simp

set_option maxRecDepth 100000 in
set_option maxHeartbeats 2000000 in
theorem out_ok (b : Nat) (F : Nat → Prop) (bs : List Nat) (w : World) (hW : Writes w b F (bs, 0)) :
    Calls Try.prog 16 #[.pointer (some ⟨b, 0, none⟩)] w fun e w' => ∃ v, e = .returned (.tuple #[v, .int .i64 0]) ∧ w'.ownsRow w.heap.size 5 1 v bs.length (u8s bs) ∧ Below w.heap.size w w' := by
  obtain ⟨m, p, pre, tail, part, hWr⟩ := hW
  obtain ⟨i0, hi0, hz0, hz1, hz2⟩ := info_parts u8_info
  obtain ⟨c0, c1, c2, f0, f1, f2⟩ := hWr.cells
  have hbl := hWr.lt
  obtain ⟨N, hN⟩ : ∃ N, Hid (bs.length = N) := ⟨_, rfl⟩
  have hNm : N ≤ 131072 := by rw [← hN.out]; exact hWr.most
  simp only [hN.out] at c0
  rw [hN.out]
  have kf := failed_no b w c1
  obtain ⟨i, hi⟩ : ∃ i, Hid (tail.length = i) := ⟨_, rfl⟩
  have hi64 : i < 64 := by rw [← hi.out]; exact hWr.short
  have htx : bs = pre ++ tail := hWr.text
  have hpl := Chain.len _ _ _ hWr.chain
  have hmN : N = 64 * m + i := by rw [← hN.out, ← hi.out, htx, List.length_append, hpl]
  have hmod : Int.tmod (N : Int) 64 = (i : Int) := by
    rw [Int.tmod_eq_emod_of_nonneg (by omega)]
    omega
  obtain ⟨Bg, hBg⟩ : ∃ Bg, Hid (64 * m = Bg) := ⟨_, rfl⟩
  have hsub : IntKind.i64.wrap ((N : Int) - (i : Int)) = (Bg : Int) := by
    have := hBg.out
    rw [IntWalk.i64_in _ (by omega)]; omega
  have hBN : Bg ≤ N := by have := hBg.out; omega
  have hBI : (Bg : Int) ≤ (N : Int) := by omega
  obtain ⟨Z, hZ, hZl⟩ : ∃ Z : List Value, madeCells #[.int .u8 0] N = Z.toArray ∧ Z.length = N := ⟨(madeCells #[.int .u8 0] N).toList, by simp, by simp [size_madeCells]⟩
  have hmk : ∀ V : World, (Instr.makeSlice 25 (.int .i64 (N : Int)) (.int .i64 (N : Int))).run Try.prog V =
      .ok (.slice (some ⟨V.heap.size, 0, none⟩) N N) (V.alloc (.cells Z.toArray 5)) := by
    intro V
    have h := run_make (P := Try.prog) V 25 5 i0 (.int .u8 0) Try.underlying25 hi0 hz0 .i64 .i64 (N : Int) (N : Int) (by omega) (by omega) (by rw [hz2]; omega) (by omega)
    rw [hz1, Nat.mul_one] at h
    rw [← hZ]
    exact h
  have HMN := Lib.hid hmN
  have HTX := Lib.hid htx
  have HZL := Lib.hid hZl
  clear hmN htx hZ hZl hpl
  go_enter Try.func16, Try.ntmps16
  go_wp2_with (go_at_call 32; refine kf.mono ?_; rintro e w' ⟨rfl, rfl⟩)
  have hr1 := heap_alloc_new w (.cells Z.toArray 5)
  have hb1 : Below w.heap.size w (w.alloc (.cells Z.toArray 5)) := (Below.refl _ w).alloc (Nat.le_refl _) _
  generalize w.alloc (.cells Z.toArray 5) = w1 at hr1 hb1 ⊢
  have hW1 := hWr.grown (grown_below hb1 none) (by simp) (by simp)
  have d0 := hW1.cells.1
  simp only [hN.out] at d0
  clear hmk c0 c1 c2 f0 f1 f2 kf
  go_quiet (fail)
  go_upto_region 7 with fail
  have hr2 : (w1.drewN nq).heap[w.heap.size]? = some (.cells Z.toArray 5 (0, 0)) := hr1
  have hb2 : Below w.heap.size w (w1.drewN nq) := below_drewN hb1 nq
  generalize w1.drewN nq = w2 at hr2 hb2 ⊢
  have hW2 := hWr.grown (grown_below hb2 none) (by simp) (by simp)
  clear d0 hW1 hr1 hb1
  have hti : (u8s tail).length = Nat.min 64 (N - Bg) := by
    have h1 : N - Bg = i := by have := hBg.out; have := HMN.out; omega
    rw [u8s_len, hi.out, h1]
    exact (Nat.min_eq_right (by omega)).symm
  have hsrc : ∀ (v : World), v.heap = w2.heap → ∀ j u, (u8s tail)[j]? = some u → v.cell? ((⟨b, 3, none⟩ : Addr).add j) = some u := by
    intro v hv j u hj
    have hjl : j < tail.length := by have := (List.getElem?_eq_some_iff.1 hj).1; rwa [u8s_len] at this
    have e : v.heap[b]? = w2.heap[b]? := by rw [hv]
    rw [Addr.add_mid]
    refine cell_at (e.trans hW2.block) ?_
    unfold wcells
    rw [show 3 + j = j + 1 + 1 + 1 by omega]
    simp only [List.getElem?_cons_succ]
    rw [← hj, ← hW2.same, ← u8s_take, List.getElem?_take, if_pos hjl]
  have hfit : Bg + (u8s tail).length ≤ Z.length := by rw [u8s_len, hi.out, HZL.out]; have := hBg.out; have := HMN.out; omega
  have HTI := Lib.hid hti
  have HSR := Lib.hid hsrc
  have HFI := Lib.hid hfit
  have hone : ∀ v ∈ u8s tail, v.oneCell' = true := u8s_one
  have HON := Lib.hid hone
  have HR2 := Lib.hid hr2
  clear hti hsrc hfit hone hr2
  go_cut [] from 36 to 43 (fun wx => Hid (wx.heap[w.heap.size]? = some (.cells (splice Z Bg (u8s tail)).toArray 5 (0, 0))) ∧ Hid (Below w.heap.size w2 wx))
  case first =>
    by_cases hNB : N = Bg
    · have hN0 : (N : Int) = (Bg : Int) := by omega
      subst hNB
      go_region_law ((refine step_copy_splice rfl (.tmp 38) (.tmp 42) 25 25 rfl 5 Try.underlying25 u8_size (some ⟨w.heap.size, 0, none⟩) (some ⟨b, 3, none⟩) (N - N) (N - N) 64 64 (by simp [Act.eval, Act.put]) (by simp [Act.eval, Act.put]) w.heap.size N Z 5 HR2.out (u8s tail) HTI.out (fun h => by have h1 := HTI.out; rw [Nat.sub_self] at h1; have : Nat.min 64 0 = 0 := rfl; omega) HFI.out HON.out w.heap.size w2 (Below.refl _ _).drew (Nat.le_refl _) ?_; intro w4 HG4 hB4))
      go_wp2_with fail
      go_meet
      exact ⟨HG4, hB4⟩
    · have hne : ¬ (N = Bg) := hNB
      go_region_law ((refine step_copy_splice rfl (.tmp 38) (.tmp 42) 25 25 rfl 5 Try.underlying25 u8_size (some ⟨w.heap.size, Bg, none⟩) (some ⟨b, 3, none⟩) (N - Bg) (N - Bg) 64 64 (by simp [Act.eval, Act.put]) (by simp [Act.eval, Act.put]) w.heap.size Bg Z 5 HR2.out (u8s tail) HTI.out (fun h => ⟨rfl, _, rfl, HSR.out _ rfl⟩) HFI.out HON.out w.heap.size w2 (Below.refl _ _).drew (Nat.le_refl _) ?_; intro w4 HG4 hB4))
      go_wp2_with fail
      go_meet
      exact ⟨HG4, hB4⟩
  case rest =>
    obtain ⟨HG, HB⟩ := hcut
    have hbc : Below w.heap.size w wc := hb2.trans HB.out
    have hWc := hWr.grown (grown_below hbc none) (by simp) (by simp)
    have d2 := hWc.cells.2.2.1
    have hrow : wc.heap[w.heap.size]? = some (.cells (Z.take Bg ++ u8s tail).toArray 5 (0, 0)) := by
      have h1 := HG.out
      rw [splice_all (by rw [HZL.out, hi.out]; have := hBg.out; have := HMN.out; omega)] at h1
      exact h1
    have HROW := Lib.hid hrow
    clear hrow hW2
    have hch := Lib.hid hWc.chain
    go_wp2
    go_loopw [5, 6] (fun bv pv wr => ∃ (m' : Nat) (p' : Value) (pre' rest : List Nat) (Y : List Value), bv = .int .i64 ((64 * m' : Nat) : Int) ∧ pv = p' ∧ m' ≤ m ∧ Hid (Chain wr F m' p' pre') ∧ Hid (bs = pre' ++ rest) ∧ Hid (Y.length = 64 * m') ∧
        Hid (wr.heap[w.heap.size]? = some (.cells (Y ++ u8s rest).toArray 5 (0, 0))) ∧ Below w.heap.size w wr) (fun bv _ _ => (intOf bv).toNat)
    case atStart => exact ⟨m, p, pre, tail, Z.take Bg, by rw [← hBg.out], rfl, Nat.le_refl _, hch, HTX, by show _ = _; rw [List.length_take, HZL.out]; have := hBg.out; omega, HROW, hbc⟩
    case round =>
      obtain ⟨m', p', pre', rest, Y, rfl, rfl, hmm, HCH, HBS, HY, HRW, hbr⟩ := hrel
      rcases Nat.eq_zero_or_pos m' with rfl | hpos
      · obtain ⟨rfl, rfl⟩ := HCH.out
        have hY : Y = [] := List.eq_nil_of_length_eq_zero HY.out
        subst hY
        have hbs : bs = rest := HBS.out
        subst hbs
        go_wp2
        refine bodyPost_ret (v := .tuple #[.slice (some ⟨w.heap.size, 0, none⟩) N N, .int .i64 0]) (by simp [results, Try.results16, go_sem]) rfl ⟨_, rfl, ?_, hbr⟩
        have h1 := HRW.out
        refine ⟨by rw [u8s_len, Nat.mul_one, hN.out], .inr ⟨w.heap.size, N, (u8s bs).toArray, rfl, Nat.le_refl _, by simpa using h1, Nat.le_refl _, by unfold maxLen; omega, by simp [u8s_len, hN.out], by rw [Nat.mul_one, ← hN.out, ← u8s_len]; simp⟩⟩
      · obtain ⟨k, rfl⟩ : ∃ k, m' = k + 1 := ⟨m' - 1, by omega⟩
        obtain ⟨g, q, pre2, last, rfl, hFg, hpre, hll, hgb, hch2⟩ := HCH.out
        have hgl := (hWr.apart g hFg).2
        have hq := cell_at (k := 0) hgb rfl
        have HGB := Lib.hid hgb
        obtain ⟨Bk, hBk⟩ : ∃ Bk, Hid (64 * k = Bk) := ⟨_, rfl⟩
        have hb1 : ((64 * (k + 1) : Nat) : Int) = ((Bk + 64 : Nat) : Int) := by have := hBk.out; omega
        rw [hb1]
        have hw64 : IntKind.i64.wrap (((Bk + 64 : Nat) : Int) - 64) = (Bk : Int) := by
          have := hBk.out
          have := HMN.out
          rw [IntWalk.i64_in _ (by omega)]; omega
        have hBkN : Bk + 64 ≤ N := by have := hBk.out; have := HMN.out; omega
        have hneK : ¬ (N = Bk) := by omega
        have hBkI : (Bk : Int) ≤ (N : Int) := by omega
        have HQ := Lib.hid hq
        have HCH2 := Lib.hid hch2
        clear hb1 hgb hch2 hq
        go_wp2
        have hsrc : ∀ (v : World), v.heap = wr.heap → ∀ j u, (u8s last)[j]? = some u → v.cell? ((⟨g, 1, none⟩ : Addr).add j) = some u := by
          intro v hv j u hj
          have e : v.heap[g]? = wr.heap[g]? := by rw [hv]
          rw [Addr.add_mid]
          refine cell_at (e.trans HGB.out) ?_
          rw [show 1 + j = j + 1 by omega]
          exact hj
        have hcl : (u8s last).length = Nat.min 64 (N - Bk) := by rw [u8s_len, hll]; exact (Nat.min_eq_left (by omega)).symm
        have hfit : Bk + (u8s last).length ≤ (Y ++ u8s rest).length := by
          have := HY.out
          have := hBk.out
          rw [List.length_append, u8s_len, hll]; omega
        have hone : ∀ v ∈ u8s last, v.oneCell' = true := u8s_one
        have HSR2 := Lib.hid hsrc
        have HCL := Lib.hid hcl
        have HFI2 := Lib.hid hfit
        have HON2 := Lib.hid hone
        clear hsrc hcl hfit hone
        go_region_law ((refine step_copy_splice rfl (.tmp 58) (.tmp 62) 25 25 rfl 5 Try.underlying25 u8_size (some ⟨w.heap.size, Bk, none⟩) (some ⟨g, 1, none⟩) (N - Bk) (N - Bk) 64 64 (by simp [Act.eval, Act.put]) (by simp [Act.eval, Act.put]) w.heap.size Bk (Y ++ u8s rest) 5 HRW.out (u8s last) HCL.out (fun h => ⟨rfl, _, rfl, HSR2.out _ rfl⟩) HFI2.out HON2.out w.heap.size wr (Below.refl _ _).drew (Nat.le_refl _) ?_; intro w4 HG4 hB4))
        have hq4 : w4.cell? ⟨g, 0, none⟩ = some q := by rw [hB4.cell (p := ⟨g, 0, none⟩) hgl]; exact HQ.out
        have hrow4 : w4.heap[w.heap.size]? = some (.cells (Y.take Bk ++ u8s (last ++ rest)).toArray 5 (0, 0)) := by
          have h1 := HG4.out
          rw [splice_mid (by have := HY.out; have := hBk.out; omega)] at h1
          exact h1
        have HR4 := Lib.hid hrow4
        have hch4 : Hid (Chain w4 F k q pre2) := Chain.hold (fun j hj hf => hB4.block j (hWr.apart j hf).2) (fun _ h => h) _ _ _ HCH2.out
        clear hrow4
        go_wp2
        go_roundw
        case rel =>
          refine ⟨k, q, pre2, last ++ rest, Y.take Bk, by rw [← hBk.out], rfl, by omega, hch4, ?_, ?_, HR4, hbr.trans hB4⟩
          · show bs = _
            rw [HBS.out, hpre, List.append_assoc]
          · show _ = _
            rw [List.length_take]
            have := HY.out
            have := hBk.out
            omega
        case measure => simp [intOf]; omega
end Go.Proofs.Ytokaclacejhppaa
