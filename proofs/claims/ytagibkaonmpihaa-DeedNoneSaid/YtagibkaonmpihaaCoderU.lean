/- Layer 5 (coder): a string of bytes is read; a reader is opened. By contracts. -/
import Derived.Test.YtagibkaonmpihaaCoderT
import Derived.Test.YtagibkaonmpihaaCoderO
import Derived.Laws.AppendOwnNone
namespace Go.Proofs.Ytagibkaonmpihaa
open Go.RowKit
set_option linter.unusedVariables false
set_option linter.unusedSimpArgs false

theorem rdRaw_bad {bs : List Nat} {p y : Nat} {most : Int} (hy : y ≠ 0) (h : rdInt bs (p, 0) most = (0, (p, y))) : rdRaw bs (p, 0) most = ([], (p, y)) := by
  unfold rdRaw
  rw [if_neg (by simp), h, if_pos hy]
theorem rdRaw_ok {bs : List Nat} {p n q : Nat} {most : Int} (h : rdInt bs (p, 0) most = (n, (q, 0))) : rdRaw bs (p, 0) most = if bs.length - q < n then ([], (p, 50)) else ((bs.drop q).take n, (q + n, 0)) := by
  unfold rdRaw
  rw [if_neg (by simp), h, if_neg (by simp)]

/-- A row that the call made and filled. -/
theorem owns_made {w : World} {g n base : Nat} {xs : List Nat} (hb : base ≤ g) (hn : xs.length = n) (hm : n ≤ maxLen) (h : w.heap[g]? = some (.cells (u8s xs).toArray 5 (0, 0))) :
    w.ownsRow base 5 1 (.slice (some ⟨g, 0, none⟩) n n) n (u8s xs) :=
  ⟨by rw [u8s_len, Nat.mul_one, hn], .inr ⟨g, n, (u8s xs).toArray, rfl, hb, h, Nat.le_refl _, hm, by simp [u8s_len, hn], by rw [Nat.mul_one, ← hn, ← u8s_len]; simp⟩⟩

theorem ReaderAt.below {w w' : World} {B b : Nat} {F : Nat → Prop} {bs : List Nat} {s : Nat × Nat} {A : Option Addr} {c : Nat} (h : ReaderAt w b F bs s A c) (hb : Below B w w') (hbB : b < B) (hF : ∀ k, F k → k < B) : ReaderAt w' b F bs s A c :=
  ⟨by rw [hb.block b hbB]; exact h.block, h.lies.hold fun p hp => hb.cell (hF _ hp), h.room, h.most, h.place, h.small, h.apart, h.bytes⟩
theorem grown_by_below {w w3 w4 : World} {b : Nat} (hg : w.grownBy w3 (some b)) (hb : Below w.heap.size w3 w4) : w.grownBy w4 (some b) :=
  ⟨hb.os.trans hg.os, hb.tape.trans hg.tape, hb.output.trans hg.output, Nat.le_trans hg.size hb.size, fun k hk hn => (hb.block k hk).trans (hg.block k hk hn)⟩

theorem splice_zero {Z : List Value} {xs : List Nat} (h : Z.length = xs.length) : splice Z 0 (u8s xs) = u8s xs := by
  unfold splice
  rw [List.drop_eq_nil_of_le (by rw [u8s_len]; omega)]
  simp

set_option maxRecDepth 100000 in
set_option maxHeartbeats 2000000 in
theorem rraw_is (b : Nat) (F : Nat → Prop) (bs : List Nat) (s : Nat × Nat) (A : Option Addr) (cp : Nat) (most : Int) (w : World) (hR : ReaderAt w b F bs s A cp) (hF : ∀ k, F k → k < w.heap.size) (hbl : bs.length ≤ 140737488355328) (h0 : -9223372036854775808 ≤ most) (h1 : most ≤ 9223372036854775807) :
    Calls Try.prog 49 #[.pointer (some ⟨b, 0, none⟩), .int .i64 most] w fun ev w' => ∃ v, ev = .returned v ∧ w'.ownsRow w.heap.size 5 1 v (rdRaw bs s most).1.length (u8s (rdRaw bs s most).1) ∧ Rd w b F bs (rdRaw bs s most).2 A cp w' := by
  obtain ⟨p, e0⟩ := s
  obtain ⟨c0, c1, c2, f0, f1⟩ := hR.cells
  simp only at c0 c1
  have hcm := hR.most
  unfold maxLen at hcm
  have hrm := hR.room
  by_cases he : e0 = 0
  · subst he
    have ks := rshut_no b w c1
    rcases rdInt_two (p := p) (most := most) hR.bytes with ⟨y, hy0, hy1, hr⟩ | ⟨n, q, hr⟩
    · have kc := count_bad b F bs p A cp most w hR h0 h1 y hy0 hr
      rw [rdRaw_bad hy0 hr]
      have hY := Lib.hid hy0
      have hlI : (bs.length : Int) ≤ 9223372036854775807 := by omega
      clear hr hy0
      go_enter Try.func49, Try.ntmps49
      go_wp2_with (first
        | (go_at_call 55; refine ks.mono ?_; rintro e w' ⟨rfl, rfl⟩)
        | (go_at_call 68; refine kc.mono ?_; rintro e w' ⟨rfl, kq, rfl⟩)
        | (go_at_call 58; refine (move_not b y _ _ (w.drewN kq) c1 f1 hY.out).mono ?_; rintro e w' ⟨rfl, rfl⟩))
      refine bodyPost_ret (v := .slice none 0 0) (by simp [results, Try.results49, go_sem]) rfl ⟨_, rfl, World.ownsRow_nil _ _ _ _, ((hR.drewN _).stopped y hy1 _ rfl).drew⟩
    · obtain ⟨kc, hnm, hq⟩ := count_ok b F bs p A cp most w hR h1 n q hr
      rw [rdRaw_ok hr]
      clear hr
      by_cases hgt : bs.length - q < n
      · rw [if_pos hgt]
        have hqI : (q : Int) ≤ (bs.length : Int) := by omega
        have hgI : (bs.length : Int) - (q : Int) < (n : Int) := by omega
        have hlI : (bs.length : Int) ≤ 9223372036854775807 := by omega
        clear hgt
        go_enter Try.func49, Try.ntmps49
        go_wp2_with (first
          | (go_at_call 55; refine ks.mono ?_; rintro e w' ⟨rfl, rfl⟩)
          | (go_at_call 68; refine kc.mono ?_; rintro e w' ⟨rfl, kq, rfl⟩)
          | (go_at_call 58; refine (move_not b 50 _ _ (w.drewN kq) c1 f1 (by omega)).mono ?_; rintro e w' ⟨rfl, rfl⟩))
        refine bodyPost_ret (v := .slice none 0 0) (by simp [results, Try.results49, go_sem]) rfl ⟨_, rfl, World.ownsRow_nil _ _ _ _, ((hR.drewN _).stopped 50 (by omega) _ rfl).drew⟩
      · rw [if_neg hgt]
        have hqI : (q : Int) ≤ (bs.length : Int) := by omega
        have hgI : (n : Int) ≤ (bs.length : Int) - (q : Int) := by omega
        have hlI : (bs.length : Int) ≤ 9223372036854775807 := by omega
        have hqn : ((q + n : Nat) : Int) = (q : Int) + (n : Int) := by omega
        have HQN := Lib.hid hqn
        obtain ⟨i0, hi0, hz0, hz1, hz2⟩ := info_parts u8_info
        obtain ⟨Z, hZ, hZl⟩ : ∃ Z : List Value, madeCells #[.int .u8 0] n = Z.toArray ∧ Z.length = n := ⟨(madeCells #[.int .u8 0] n).toList, by simp, by simp [size_madeCells]⟩
        have hmk : ∀ V : World, (Instr.makeSlice 23 (.int .i64 (n : Int)) (.int .i64 (n : Int))).run Try.prog V =
            .ok (.slice (some ⟨V.heap.size, 0, none⟩) n n) (V.alloc (.cells Z.toArray 5)) := by
          intro V
          have h := run_make (P := Try.prog) V 23 5 i0 (.int .u8 0) Try.underlying23 hi0 hz0 .i64 .i64 (n : Int) (n : Int) (by omega) (by omega) (by rw [hz2]; omega) (by omega)
          rw [hz1, Nat.mul_one] at h
          rw [← hZ]
          exact h
        have HZL := Lib.hid hZl
        have hqb : q + n ≤ bs.length := by omega
        clear hgt hqn hZ hZl
        go_enter Try.func49, Try.ntmps49
        go_upto_region 9 with (first
          | (go_at_call 55; refine ks.mono ?_; rintro e w' ⟨rfl, rfl⟩)
          | (go_at_call 68; refine kc.mono ?_; rintro e w' ⟨rfl, kq, rfl⟩)
          | (go_at_call 58; refine (move_ok b ((q : Int) + (n : Int)) _ (w.drewN kq) c0 f0).mono ?_; rintro e w' ⟨rfl, rfl⟩))
        have hR2 := (hR.drewN kq).moved (q + n) hqb _ (by rw [HQN.out])
        obtain ⟨w3, hw3⟩ : ∃ w3, (((w.drewN kq).setCell ⟨b, 0, none⟩ (.int .i64 ((q : Int) + (n : Int)))).alloc (.cells Z.toArray 5)) = w3 := ⟨_, rfl⟩
        rw [hw3]
        have hbw : b < w.heap.size := hR.lt
        have hsz3 : ((w.drewN kq).setCell ⟨b, 0, none⟩ (.int .i64 ((q : Int) + (n : Int)))).heap.size = w.heap.size := by simp [World.setCell]
        have hrow3 : w3.heap[w.heap.size]? = some (.cells Z.toArray 5 (0, 0)) := by
          rw [← hw3, ← hsz3]
          exact heap_alloc_new _ _
        have hg3 : w.grownBy w3 (some b) := by
          rw [← hw3]
          exact grown_trans (grown_drew w kq _) (grown_trans (grown_set _ b 0 _) (grown_alloc _ _ _))
        have hR3 : ReaderAt w3 b F bs (q + n, 0) A cp := by
          rw [← hw3]
          exact hR2.1.grown (grown_alloc _ _ none) (by simp) (by simp)
        have HROW := Lib.hid hrow3
        have d2 := hR3.cells.2.2.1
        have htl : ((bs.drop q).take n).length = n := by rw [List.length_take, List.length_drop]; omega
        have HTL := Lib.hid htl
        clear hw3 hrow3 htl hR2 c0 c1 c2 f0 f1
        by_cases hn0 : n = 0
        · subst hn0
          have hZ0 : Z = [] := List.eq_nil_of_length_eq_zero HZL.out
          subst hZ0
          by_cases hcq : cp = q
          · subst hcq
            go_wp2_with (with_reducible refine wpList_copy_nothing rfl (.tmp 38) (.tmp 44) 23 23 rfl 5 Try.underlying23 u8_size _ _ _ _ _ _ rfl rfl ?z1 ?_)
            case z1 => exact Nat.min_zero _
            exact bodyPost_ret (v := .slice (some ⟨w.heap.size, 0, none⟩) 0 0) (by simp [results, Try.results49, go_sem]) rfl ⟨_, rfl, owns_made (xs := []) (Nat.le_refl _) rfl (Nat.zero_le _) HROW.out, hR3, hg3⟩
          · go_wp2_with (with_reducible refine wpList_copy_nothing rfl (.tmp 38) (.tmp 44) 23 23 rfl 5 Try.underlying23 u8_size _ _ _ _ _ _ rfl rfl ?z2 ?_)
            case z2 => exact Nat.min_zero _
            exact bodyPost_ret (v := .slice (some ⟨w.heap.size, 0, none⟩) 0 0) (by simp [results, Try.results49, go_sem]) rfl ⟨_, rfl, owns_made (xs := []) (Nat.le_refl _) rfl (Nat.zero_le _) HROW.out, hR3, hg3⟩
        · have hcq : ¬ (cp = q) := by omega
          obtain ⟨a, rfl, hFa, hca⟩ := hR3.lies.get (k := q) (by omega)
          have hsrc : ∀ j v, (u8s ((bs.drop q).take n))[j]? = some v → w3.cell? ((a.add q).add j) = some v := by
            have h1 := hR3.lies.behind (j := q) (by omega) hrm
            rw [if_neg hcq] at h1
            exact h1.src n
          have HSR := Lib.hid hsrc
          clear hca hsrc hn0
          go_wp2_with (with_reducible refine wpList_copy_splice rfl (.tmp 38) (.tmp 44) 23 23 rfl 5 Try.underlying23 u8_size _ _ _ _ _ _ rfl rfl w.heap.size 0 Z 5 HROW.out (u8s ((bs.drop q).take n)) ?c1 ?c2 ?c3 u8s_one w.heap.size w3 (Below.refl _ _) (Nat.le_refl _) ?_)
          case c1 => rw [u8s_len, HTL.out]; exact (Nat.min_eq_right (by omega)).symm
          case c2 => intro h; exact HSR.out
          case c3 => rw [u8s_len, HTL.out, HZL.out]; omega
          intro w4 HG4 hB4
          have hrow4 : w4.heap[w.heap.size]? = some (.cells (u8s ((bs.drop q).take n)).toArray 5 (0, 0)) := by
            have h := HG4.out
            rw [splice_zero (by rw [HZL.out, HTL.out])] at h
            exact h
          have HR4 := Lib.hid hrow4
          clear hrow4
          go_wp2
          refine bodyPost_ret (v := .slice (some ⟨w.heap.size, 0, none⟩) n n) (by simp [results, Try.results49, go_sem]) rfl ⟨_, rfl, ?_, ?_, ?_⟩
          · show w4.ownsRow w.heap.size 5 1 _ ((bs.drop q).take n).length _
            rw [HTL.out]
            exact owns_made (Nat.le_refl _) HTL.out (by unfold maxLen; omega) HR4.out
          · exact hR3.below hB4 hbw hF
          · exact grown_by_below hg3 hB4
  · have ks := rshut_yes b e0 w c1 he
    have hrd : rdRaw bs (p, e0) most = ([], (p, e0)) := by unfold rdRaw; rw [if_pos he]
    rw [hrd]
    clear hrd he
    go_enter Try.func49, Try.ntmps49
    go_wp2_with (go_at_call 55; refine ks.mono ?_; rintro e w' ⟨rfl, rfl⟩)
    refine bodyPost_ret (v := .slice none 0 0) (by simp [results, Try.results49, go_sem]) rfl ⟨_, rfl, World.ownsRow_nil _ _ _ _, hR, grown_refl _ _⟩
end Go.Proofs.Ytagibkaonmpihaa
