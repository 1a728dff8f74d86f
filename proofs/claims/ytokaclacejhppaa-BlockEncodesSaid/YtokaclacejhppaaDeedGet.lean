/- Layer 5 (coder): a reader of bytes; two texts held against each other. By contracts. · Layer 7 (param): bytes as parameters. By contracts. · Layer 5 (coder): a string of bytes is read; a reader is opened. By contracts. · Layer 8 (deed): a deed that is being read, beside its reader. By contracts. · Layer 8 (deed): a deed is read, kind by kind. By contracts. · Layer 8 (deed): a deed is read, kind by kind. By contracts. · Layer 8 (deed): a deed is read, kind by kind. By contracts. -/
import Derived.Test.YtokaclacejhppaaBytesV
import Derived.Test.YtokaclacejhppaaCoderS
import Derived.Test.YtokaclacejhppaaCoderO
import Derived.Laws.AppendOwnNone
import Derived.Test.YtokaclacejhppaaParH
import Derived.Test.YtokaclacejhppaaParC
import Derived.Test.YtokaclacejhppaaCoderT
import Derived.Test.YtokaclacejhppaaDeedB
import Derived.Test.YtokaclacejhppaaDeedE
import Derived.Deep.RegionHeld3
namespace Go.Proofs.Ytokaclacejhppaa
open Go.RowKit
set_option linter.unusedVariables false
set_option linter.unusedSimpArgs false

theorem open_is (xs : List Nat) (S : Nat → Prop) (A : Option Addr) (c : Nat) (w : World) (hx : Lies w S A xs) (hl : xs.length ≤ 140737488355328) (hb : ∀ x ∈ xs, x < 256) :
    Calls Try.prog 21 #[.slice A xs.length c] w fun e w' => ∃ (b : Nat) (A' : Option Addr) (c' : Nat), e = .returned (.pointer (some ⟨b, 0, none⟩)) ∧ ReaderAt w' b (fun k => w.heap.size ≤ k ∧ k < b) xs (0, 0) A' c' ∧ w.heap.size ≤ b ∧ Below w.heap.size w w' := by
  have k := clone_is xs S A c w hx hl
  go_enter Try.func21, Try.ntmps21
  go_wp2_with (go_at_call 38; refine k.mono ?_; rintro e w1 ⟨v, rfl, hown, hb1⟩; obtain ⟨A', c', rfl, hl1, hl2, _, hL⟩ := Lies.own hown)
  refine bodyPost_ret (v := .pointer (some ⟨w1.heap.size, 0, none⟩)) (by simp [results, Try.results21, go_sem]) rfl ⟨w1.heap.size, A', c', rfl, ?_, hb1.size, hb1.alloc hb1.size _⟩
  refine ⟨heap_alloc_new w1 _, ?_, hl1, hl2, Nat.zero_le _, Nat.zero_le _, fun h => Nat.lt_irrefl _ h.2, hb⟩
  intro j x hj
  obtain ⟨a, hA, hS, hc⟩ := hL j x hj
  exact ⟨a, hA, ⟨hS.1, hS.2.1⟩, by rw [World.cell?_alloc_lt _ _ _ (World.block_lt_of_cell? w1 _ hc)]; exact hc⟩

end Go.Proofs.Ytokaclacejhppaa
namespace Go.Proofs.Ytokaclacejhppaa
open Go.RowKit
set_option linter.unusedVariables false
set_option linter.unusedSimpArgs false

theorem pres_bad {bs : List Nat} {s st : Nat × Nat} {q : Par} {ee : Nat} (h : PRes bs s q ee st) (he : ee ≠ 0) : q = Par.none := by
  rcases h.2 with ⟨_, h1, _⟩ | ⟨_, p, _, _, ⟨_, _, h1⟩ | ⟨_, h1, _⟩⟩
  · exact h1
  · exact absurd h1 he
  · exact h1

end Go.Proofs.Ytokaclacejhppaa
namespace Go.Proofs.Ytokaclacejhppaa
open Go.RowKit
set_option linter.unusedVariables false
set_option linter.unusedSimpArgs false

theorem rdRaw_bad {bs : List Nat} {p y : Nat} {most : Int} (hy : y ≠ 0) (h : rdInt bs (p, 0) most = (0, (p, y))) : rdRaw bs (p, 0) most = ([], (p, y)) := by
  unfold rdRaw
  rw [if_neg (by simp), h, if_pos hy]
theorem rdRaw_ok {bs : List Nat} {p n q : Nat} {most : Int} (h : rdInt bs (p, 0) most = (n, (q, 0))) : rdRaw bs (p, 0) most = if bs.length - q < n then ([], (p, 50)) else ((bs.drop q).take n, (q + n, 0)) := by
  unfold rdRaw
  rw [if_neg (by simp), h, if_neg (by simp)]

/-- A row that the call made and filled. -/
theorem owns_made {w : World} {g n base : Nat} {xs : List Nat} (hb : base ≤ g) (hn : xs.length = n) (hm : n ≤ maxLen) (h : w.heap[g]? = some (.cells (u8s xs).toArray 5 (0, 0))) :
    w.ownsRow base 5 1 (.slice (some ⟨g, 0, none⟩) n n) n (u8s xs) :=
  ⟨by rw [u8s_len, Nat.mul_one, hn], .inr ⟨g, n, (u8s xs).toArray, rfl, hb, h, Nat.le_refl _, hm, by simp [u8s_len, hn], by rw [Nat.mul_one, ← hn, ← u8s_len]; simp⟩⟩

theorem ReaderAt.below {w w' : World} {B b : Nat} {F : Nat → Prop} {bs : List Nat} {s : Nat × Nat} {A : Option Addr} {c : Nat} (h : ReaderAt w b F bs s A c) (hb : Below B w w') (hbB : b < B) (hF : ∀ k, F k → k < B) : ReaderAt w' b F bs s A c :=
  ⟨by rw [hb.block b hbB]; exact h.block, h.lies.hold fun p hp => hb.cell (hF _ hp), h.room, h.most, h.place, h.small, h.apart, h.bytes⟩
theorem grown_by_below {w w3 w4 : World} {b : Nat} (hg : w.grownBy w3 (some b)) (hb : Below w.heap.size w3 w4) : w.grownBy w4 (some b) :=
  ⟨hb.os.trans hg.os, hb.tape.trans hg.tape, hb.output.trans hg.output, Nat.le_trans hg.size hb.size, fun k hk hn => (hb.block k hk).trans (hg.block k hk hn)⟩

theorem splice_zero {Z : List Value} {xs : List Nat} (h : Z.length = xs.length) : splice Z 0 (u8s xs) = u8s xs := by
  unfold splice
  rw [List.drop_eq_nil_of_le (by rw [u8s_len]; omega)]
  simp

set_option maxRecDepth 100000 in
set_option maxHeartbeats 2000000 in
theorem rraw_is (b : Nat) (F : Nat → Prop) (bs : List Nat) (s : Nat × Nat) (A : Option Addr) (cp : Nat) (most : Int) (w : World) (hR : ReaderAt w b F bs s A cp) (hF : ∀ k, F k → k < w.heap.size) (hbl : bs.length ≤ 140737488355328) (h0 : -9223372036854775808 ≤ most) (h1 : most ≤ 9223372036854775807) :
    Calls Try.prog 62 #[.pointer (some ⟨b, 0, none⟩), .int .i64 most] w fun ev w' => ∃ v, ev = .returned v ∧ w'.ownsRow w.heap.size 5 1 v (rdRaw bs s most).1.length (u8s (rdRaw bs s most).1) ∧ Rd w b F bs (rdRaw bs s most).2 A cp w' := by
  obtain ⟨p, e0⟩ := s
  obtain ⟨c0, c1, c2, f0, f1⟩ := hR.cells
  simp only at c0 c1
  have hcm := hR.most
  unfold maxLen at hcm
  have hrm := hR.room
  by_cases he : e0 = 0
  · subst he
    have ks := rshut_no b w c1
    rcases rdInt_two (p := p) (most := most) hR.bytes with ⟨y, hy0, hy1, hr⟩ | ⟨n, q, hr⟩
    · have kc := count_bad b F bs p A cp most w hR h0 h1 y hy0 hr
      rw [rdRaw_bad hy0 hr]
      have hY := Lib.hid hy0
      have hlI : (bs.length : Int) ≤ 9223372036854775807 := by omega
      clear hr hy0
      go_enter Try.func62, Try.ntmps62
      go_wp2_with (first
        | (go_at_call 39; refine ks.mono ?_; rintro e w' ⟨rfl, rfl⟩)
        | (go_at_call 40; refine kc.mono ?_; rintro e w' ⟨rfl, kq, rfl⟩)
        | (go_at_call 29; refine (move_not b y _ _ (w.drewN kq) c1 f1 hY.out).mono ?_; rintro e w' ⟨rfl, rfl⟩))
      refine bodyPost_ret (v := .slice none 0 0) (by simp [results, Try.results62, go_sem]) rfl ⟨_, rfl, World.ownsRow_nil _ _ _ _, ((hR.drewN _).stopped y hy1 _ rfl).drew⟩
    · obtain ⟨kc, hnm, hq⟩ := count_ok b F bs p A cp most w hR h1 n q hr
      rw [rdRaw_ok hr]
      clear hr
      by_cases hgt : bs.length - q < n
      · rw [if_pos hgt]
        have hqI : (q : Int) ≤ (bs.length : Int) := by omega
        have hgI : (bs.length : Int) - (q : Int) < (n : Int) := by omega
        have hlI : (bs.length : Int) ≤ 9223372036854775807 := by omega
        clear hgt
        go_enter Try.func62, Try.ntmps62
        go_wp2_with (first
          | (go_at_call 39; refine ks.mono ?_; rintro e w' ⟨rfl, rfl⟩)
          | (go_at_call 40; refine kc.mono ?_; rintro e w' ⟨rfl, kq, rfl⟩)
          | (go_at_call 29; refine (move_not b 50 _ _ (w.drewN kq) c1 f1 (by omega)).mono ?_; rintro e w' ⟨rfl, rfl⟩))
        refine bodyPost_ret (v := .slice none 0 0) (by simp [results, Try.results62, go_sem]) rfl ⟨_, rfl, World.ownsRow_nil _ _ _ _, ((hR.drewN _).stopped 50 (by omega) _ rfl).drew⟩
      · rw [if_neg hgt]
        have hqI : (q : Int) ≤ (bs.length : Int) := by omega
        have hgI : (n : Int) ≤ (bs.length : Int) - (q : Int) := by omega
        have hlI : (bs.length : Int) ≤ 9223372036854775807 := by omega
        have hqn : ((q + n : Nat) : Int) = (q : Int) + (n : Int) := by omega
        have HQN := Lib.hid hqn
        obtain ⟨i0, hi0, hz0, hz1, hz2⟩ := info_parts u8_info
        obtain ⟨Z, hZ, hZl⟩ : ∃ Z : List Value, madeCells #[.int .u8 0] n = Z.toArray ∧ Z.length = n := ⟨(madeCells #[.int .u8 0] n).toList, by simp, by simp [size_madeCells]⟩
        have hmk : ∀ V : World, (Instr.makeSlice 25 (.int .i64 (n : Int)) (.int .i64 (n : Int))).run Try.prog V =
            .ok (.slice (some ⟨V.heap.size, 0, none⟩) n n) (V.alloc (.cells Z.toArray 5)) := by
          intro V
          have h := run_make (P := Try.prog) V 25 5 i0 (.int .u8 0) Try.underlying25 hi0 hz0 .i64 .i64 (n : Int) (n : Int) (by omega) (by omega) (by rw [hz2]; omega) (by omega)
          rw [hz1, Nat.mul_one] at h
          rw [← hZ]
          exact h
        have HZL := Lib.hid hZl
        have hqb : q + n ≤ bs.length := by omega
        clear hgt hqn hZ hZl
        go_enter Try.func62, Try.ntmps62
        go_upto_region 9 with (first
          | (go_at_call 39; refine ks.mono ?_; rintro e w' ⟨rfl, rfl⟩)
          | (go_at_call 40; refine kc.mono ?_; rintro e w' ⟨rfl, kq, rfl⟩)
          | (go_at_call 29; refine (move_ok b ((q : Int) + (n : Int)) _ (w.drewN kq) c0 f0).mono ?_; rintro e w' ⟨rfl, rfl⟩))
        have hR2 := (hR.drewN kq).moved (q + n) hqb _ (by rw [HQN.out])
        obtain ⟨w3, hw3⟩ : ∃ w3, (((w.drewN kq).setCell ⟨b, 0, none⟩ (.int .i64 ((q : Int) + (n : Int)))).alloc (.cells Z.toArray 5)) = w3 := ⟨_, rfl⟩
        rw [hw3]
        have hbw : b < w.heap.size := hR.lt
        have hsz3 : ((w.drewN kq).setCell ⟨b, 0, none⟩ (.int .i64 ((q : Int) + (n : Int)))).heap.size = w.heap.size := by simp [World.setCell]
        have hrow3 : w3.heap[w.heap.size]? = some (.cells Z.toArray 5 (0, 0)) := by
          rw [← hw3, ← hsz3]
          exact heap_alloc_new _ _
        have hg3 : w.grownBy w3 (some b) := by
          rw [← hw3]
          exact grown_trans (grown_drew w kq _) (grown_trans (grown_set _ b 0 _) (grown_alloc _ _ _))
        have hR3 : ReaderAt w3 b F bs (q + n, 0) A cp := by
          rw [← hw3]
          exact hR2.1.grown (grown_alloc _ _ none) (by simp) (by simp)
        have HROW := Lib.hid hrow3
        have d2 := hR3.cells.2.2.1
        have htl : ((bs.drop q).take n).length = n := by rw [List.length_take, List.length_drop]; omega
        have HTL := Lib.hid htl
        clear hw3 hrow3 htl hR2 c0 c1 c2 f0 f1
        by_cases hn0 : n = 0
        · subst hn0
          have hZ0 : Z = [] := List.eq_nil_of_length_eq_zero HZL.out
          subst hZ0
          by_cases hcq : cp = q
          · subst hcq
            go_wp2_with (with_reducible refine wpList_copy_nothing rfl (.tmp 38) (.tmp 44) 25 25 rfl 5 Try.underlying25 u8_size _ _ _ _ _ _ rfl rfl ?z1 ?_)
            case z1 => exact Nat.min_zero _
            exact bodyPost_ret (v := .slice (some ⟨w.heap.size, 0, none⟩) 0 0) (by simp [results, Try.results62, go_sem]) rfl ⟨_, rfl, owns_made (xs := []) (Nat.le_refl _) rfl (Nat.zero_le _) HROW.out, hR3, hg3⟩
          · go_wp2_with (with_reducible refine wpList_copy_nothing rfl (.tmp 38) (.tmp 44) 25 25 rfl 5 Try.underlying25 u8_size _ _ _ _ _ _ rfl rfl ?z2 ?_)
            case z2 => exact Nat.min_zero _
            exact bodyPost_ret (v := .slice (some ⟨w.heap.size, 0, none⟩) 0 0) (by simp [results, Try.results62, go_sem]) rfl ⟨_, rfl, owns_made (xs := []) (Nat.le_refl _) rfl (Nat.zero_le _) HROW.out, hR3, hg3⟩
        · have hcq : ¬ (cp = q) := by omega
          obtain ⟨a, rfl, hFa, hca⟩ := hR3.lies.get (k := q) (by omega)
          have hsrc : ∀ j v, (u8s ((bs.drop q).take n))[j]? = some v → w3.cell? ((a.add q).add j) = some v := by
            have h1 := hR3.lies.behind (j := q) (by omega) hrm
            rw [if_neg hcq] at h1
            exact h1.src n
          have HSR := Lib.hid hsrc
          clear hca hsrc hn0
          go_wp2_with (with_reducible refine wpList_copy_splice rfl (.tmp 38) (.tmp 44) 25 25 rfl 5 Try.underlying25 u8_size _ _ _ _ _ _ rfl rfl w.heap.size 0 Z 5 HROW.out (u8s ((bs.drop q).take n)) ?c1 ?c2 ?c3 u8s_one w.heap.size w3 (Below.refl _ _) (Nat.le_refl _) ?_)
          case c1 => rw [u8s_len, HTL.out]; exact (Nat.min_eq_right (by omega)).symm
          case c2 => intro h; exact HSR.out
          case c3 => rw [u8s_len, HTL.out, HZL.out]; omega
          intro w4 HG4 hB4
          have hrow4 : w4.heap[w.heap.size]? = some (.cells (u8s ((bs.drop q).take n)).toArray 5 (0, 0)) := by
            have h := HG4.out
            rw [splice_zero (by rw [HZL.out, HTL.out])] at h
            exact h
          have HR4 := Lib.hid hrow4
          clear hrow4
          go_wp2
          refine bodyPost_ret (v := .slice (some ⟨w.heap.size, 0, none⟩) n n) (by simp [results, Try.results62, go_sem]) rfl ⟨_, rfl, ?_, ?_, ?_⟩
          · show w4.ownsRow w.heap.size 5 1 _ ((bs.drop q).take n).length _
            rw [HTL.out]
            exact owns_made (Nat.le_refl _) HTL.out (by unfold maxLen; omega) HR4.out
          · exact hR3.below hB4 hbw hF
          · exact grown_by_below hg3 hB4
  · have ks := rshut_yes b e0 w c1 he
    have hrd : rdRaw bs (p, e0) most = ([], (p, e0)) := by unfold rdRaw; rw [if_pos he]
    rw [hrd]
    clear hrd he
    go_enter Try.func62, Try.ntmps62
    go_wp2_with (go_at_call 39; refine ks.mono ?_; rintro e w' ⟨rfl, rfl⟩)
    refine bodyPost_ret (v := .slice none 0 0) (by simp [results, Try.results62, go_sem]) rfl ⟨_, rfl, World.ownsRow_nil _ _ _ _, hR, grown_refl _ _⟩
end Go.Proofs.Ytokaclacejhppaa
namespace Go.Proofs.Ytokaclacejhppaa
open Go.RowKit
set_option linter.unusedVariables false
set_option linter.unusedSimpArgs false

/-- From one world to another: all blocks are as they were but those of which X is said. -/
structure Kept (X : Nat → Prop) (w w' : World) : Prop where
  os : w'.os = w.os
  tape : w'.tape = w.tape
  output : w'.output = w.output
  size : w.heap.size ≤ w'.heap.size
  block : ∀ i, i < w.heap.size → ¬ X i → w'.heap[i]? = w.heap[i]?
theorem Kept.refl (X : Nat → Prop) (w : World) : Kept X w w := ⟨rfl, rfl, rfl, Nat.le_refl _, fun _ _ _ => rfl⟩
theorem Kept.grown {X : Nat → Prop} {a b c : World} (h : Kept X a b) {r : Nat} (hg : b.grownBy c (some r)) (hr : X r ∨ a.heap.size ≤ r) : Kept X a c :=
  ⟨hg.os.trans h.os, hg.tape.trans h.tape, hg.output.trans h.output, Nat.le_trans h.size hg.size, fun i hi hx =>
    (hg.block i (Nat.lt_of_lt_of_le hi h.size) (fun e => by injection e with e; subst e; rcases hr with h | h; exact hx h; omega)).trans (h.block i hi hx)⟩
theorem Kept.below {X : Nat → Prop} {a b c : World} (h : Kept X a b) (hb : Below b.heap.size b c) : Kept X a c :=
  ⟨hb.os.trans h.os, hb.tape.trans h.tape, hb.output.trans h.output, Nat.le_trans h.size hb.size, fun i hi hx => (hb.block i (Nat.lt_of_lt_of_le hi h.size)).trans (h.block i hi hx)⟩

/-- The deed in block dg as it has been read since w0, by the reader of block rb that the reader of deeds in block g holds, with why it is none. -/
structure GetAt (w0 : World) (rb : Nat) (FB : Nat → Prop) (bs : List Nat) (A : Option Addr) (cp g dg : Nat) (s : Nat × Nat) (y : Nat) (d : Dd) (B : Option Addr) (c : Nat) (w : World) : Prop where
  reader : ReaderAt w rb FB bs s A cp
  own : w.heap[g]? = some (.cells #[.pointer (some ⟨rb, 0, none⟩), .int .i64 (y : Int)] 88 (0, 0))
  deed : DeedAt w dg d B c 39
  lies : Lies w (fun k => dg < k) B d.bits
  room : d.bits.length ≤ c
  most : c ≤ maxLen
  fresh : rb < dg ∧ g < dg ∧ rb ≠ g ∧ (∀ k, FB k → k < dg ∧ k ≠ g) ∧ w0.heap.size = dg
  kept : Kept (fun k => k = rb ∨ k = g) w0 w

theorem zero_deed (V : World) : (zeroValue 39).run Try.prog V = .ok (.agg (Dd.none.vals none 0)) V := by
  have h : (Try.prog.info? 39).map (fun i => i.zero) = some (some (.agg (Dd.none.vals none 0))) := by kernel_rfl
  cases hq : Try.prog.info? 39 with
  | none => simp [hq] at h
  | some i =>
    simp [hq] at h
    simp [zeroValue, typeInfo, Sem.run_bind, hq, h]

section
variable {w0 w w' : World} {rb : Nat} {FB : Nat → Prop} {bs : List Nat} {A B B' : Option Addr} {cp g dg c c' : Nat} {s s' : Nat × Nat} {y : Nat} {d d' : Dd}

theorem GetAt.start (w0 : World) (hR : ReaderAt w0 rb FB bs s A cp) (hg : w0.heap[g]? = some (.cells #[.pointer (some ⟨rb, 0, none⟩), .int .i64 (y : Int)] 88 (0, 0))) (hn : rb ≠ g) (hF : ∀ k, FB k → k < w0.heap.size ∧ k ≠ g) :
    GetAt w0 rb FB bs A cp g w0.heap.size s y Dd.none none 0 (w0.alloc (.cells (Dd.none.vals none 0) 39)) := by
  have hB : Below w0.heap.size w0 (w0.alloc (.cells (Dd.none.vals none 0) 39)) := (Below.refl _ _).alloc (Nat.le_refl _) _
  have hgl : g < w0.heap.size := (Array.getElem?_eq_some_iff.1 hg).1
  exact ⟨hR.grown (grown_below hB none) (by simp) (by simp), (hB.block g hgl).trans hg, DeedAt.new w0 _ _ _ _, Lies.nil _ _ _, Nat.le_refl _, Nat.zero_le _, ⟨hR.lt, hgl, hn, hF, rfl⟩, (Kept.refl _ _).below hB⟩

theorem GetAt.read (h : GetAt w0 rb FB bs A cp g dg s y d B c w) (hR : Rd w rb FB bs s' A cp w') : GetAt w0 rb FB bs A cp g dg s' y d B c w' :=
  ⟨hR.1, (hR.2.block g (Array.getElem?_eq_some_iff.1 h.own).1 (fun e => by injection e with e; exact h.fresh.2.2.1 e.symm)).trans h.own,
    h.deed.grown hR.2 (fun e => by injection e with e; have := h.fresh.1; omega),
    h.lies.grown hR.2 (fun k hk e => by injection e with e; have := h.fresh.1; omega), h.room, h.most, h.fresh, h.kept.grown hR.2 (.inl (.inl rfl))⟩
theorem GetAt.next (h : GetAt w0 rb FB bs A cp g dg s y d B c w) (hb : Below w.heap.size w w') : GetAt w0 rb FB bs A cp g dg s y d B c w' :=
  ⟨h.reader.grown (grown_below hb none) (by simp) (by simp), (hb.block g (Array.getElem?_eq_some_iff.1 h.own).1).trans h.own, h.deed.next hb, h.lies.grown (grown_below hb none) (by simp), h.room, h.most, h.fresh, h.kept.below hb⟩
theorem GetAt.drew (h : GetAt w0 rb FB bs A cp g dg s y d B c w) : GetAt w0 rb FB bs A cp g dg s y d B c w.drew := h.next (Below.refl _ _).drew

/-- A cell of the deed is written. -/
theorem GetAt.set (h : GetAt w0 rb FB bs A cp g dg s y d B c w) (k : Nat) (v : Value) (hv : (d.vals B c).setIfInBounds k v = d'.vals B' c') (hl : Lies w (fun k => dg < k) B' d'.bits) (hr : d'.bits.length ≤ c') (hm : c' ≤ maxLen) :
    GetAt w0 rb FB bs A cp g dg s y d' B' c' (w.setCell ⟨dg, k, none⟩ v) := by
  have hg := grown_set w dg k v
  obtain ⟨f1, f2, f3, f4, f5⟩ := h.fresh
  refine ⟨h.reader.grown hg (fun e => by injection e with e; omega) (fun k hk e => by injection e with e; have := (f4 k hk).1; omega), (hg.block g (Array.getElem?_eq_some_iff.1 h.own).1 (fun e => by injection e with e; omega)).trans h.own, ?_, hl.grown hg (fun k hk e => by injection e with e; omega), hr, hm, h.fresh, h.kept.grown hg (.inr (by omega))⟩
  have := heap_setCell_same w dg k _ _ v h.deed
  rw [hv] at this
  exact this
/-- Why it is none is written. -/
theorem GetAt.why (h : GetAt w0 rb FB bs A cp g dg s y d B c w) (z : Nat) : GetAt w0 rb FB bs A cp g dg s z d B c (w.setCell ⟨g, 1, none⟩ (.int .i64 (z : Int))) := by
  have hg := grown_set w g 1 (.int .i64 (z : Int))
  obtain ⟨f1, f2, f3, f4, f5⟩ := h.fresh
  refine ⟨h.reader.grown hg (fun e => by injection e with e; exact f3 e) (fun k hk e => by injection e with e; exact (f4 k hk).2 e), ?_, h.deed.grown hg (fun e => by injection e with e; omega), h.lies.grown hg (fun k hk e => by injection e with e; omega), h.room, h.most, h.fresh, h.kept.grown hg (.inl (.inr rfl))⟩
  have := heap_setCell_same w g 1 _ _ (.int .i64 (z : Int)) h.own
  exact this

theorem GetAt.ptr (h : GetAt w0 rb FB bs A cp g dg s y d B c w) : w.cell? ⟨g, 0, none⟩ = some (.pointer (some ⟨rb, 0, none⟩)) := cell_arr h.own rfl
theorem GetAt.whyIs (h : GetAt w0 rb FB bs A cp g dg s y d B c w) : w.cell? ⟨g, 1, none⟩ = some (.int .i64 (y : Int)) ∧ w.frozen? ⟨g, 1, none⟩ = false := ⟨cell_arr h.own rfl, frozen_of_row w g 1 _ _ h.own⟩
theorem GetAt.thaw (h : GetAt w0 rb FB bs A cp g dg s y d B c w) (k : Nat) : w.frozen? ⟨dg, k, none⟩ = false := frozen_of_row w dg k _ _ h.deed

/-! ### The calls -/
theorem GetAt.int (h : GetAt w0 rb FB bs A cp g dg s y d B c w) (m n : Nat) (mi ni : Int) (hmi : mi = (m : Int)) (hni : ni = (n : Int)) (hm : m ≤ 4611686018427387904) (hr : rdNum bs s m = (n, s')) :
    Calls Try.prog 22 #[.pointer (some ⟨rb, 0, none⟩), .int .i64 mi] w fun e w' => e = .returned (.int .i64 ni) ∧ GetAt w0 rb FB bs A cp g dg s' y d B c w' := by
  subst hmi; subst hni
  have k := rint_is rb FB bs s A cp (m : Int) w h.reader (by omega) (by omega)
  rw [rdInt_cast, hr] at k
  exact k.mono (by rintro e w' ⟨rfl, hR⟩; exact ⟨rfl, h.read hR⟩)
theorem GetAt.num (h : GetAt w0 rb FB bs A cp g dg s y d B c w) (m n : Nat) (mi : Int) (hmi : mi = (m : Int)) (hm : m ≤ 4611686018427387904) (hr : rdNum bs s m = (n, s')) :
    Calls Try.prog 64 #[.pointer (some ⟨rb, 0, none⟩), .int .u64 mi] w fun e w' => e = .returned (.int .u64 (n : Int)) ∧ GetAt w0 rb FB bs A cp g dg s' y d B c w' := by
  subst hmi
  have k := rnum_is rb FB bs s A cp m w h.reader (by omega)
  rw [hr] at k
  exact k.mono (by rintro e w' ⟨rfl, hR⟩; exact ⟨rfl, h.read hR⟩)
theorem GetAt.flag (h : GetAt w0 rb FB bs A cp g dg s y d B c w) (n : Nat) (hr : rdNum bs s 1 = (n, s')) :
    Calls Try.prog 65 #[.pointer (some ⟨rb, 0, none⟩)] w fun e w' => e = .returned (.bool (decide (n = 1))) ∧ GetAt w0 rb FB bs A cp g dg s' y d B c w' := by
  have k := rflag_is rb FB bs s A cp w h.reader
  rw [hr] at k
  exact k.mono (by rintro e w' ⟨rfl, hR⟩; exact ⟨by congr 2, h.read hR⟩)
theorem GetAt.raw (h : GetAt w0 rb FB bs A cp g dg s y d B c w) (m : Nat) (mi : Int) (hmi : mi = (m : Int)) (xs : List Nat) (hm : m ≤ 4611686018427387904) (hbl : bs.length ≤ 140737488355328) (hr : rdRaw bs s (m : Int) = (xs, s')) :
    Calls Try.prog 62 #[.pointer (some ⟨rb, 0, none⟩), .int .i64 mi] w fun e w' => (∃ B' c', e = .returned (.slice B' xs.length c') ∧ Lies w' (fun k => dg < k) B' xs ∧ xs.length ≤ c' ∧ c' ≤ maxLen) ∧ GetAt w0 rb FB bs A cp g dg s' y d B c w' := by
  subst hmi
  have hdl := h.deed.lt
  have k := rraw_is rb FB bs s A cp (m : Int) w h.reader (fun k hk => by have := (h.fresh.2.2.2.1 k hk).1; omega) hbl (by omega) (by omega)
  rw [hr] at k
  refine k.mono ?_
  rintro e w' ⟨v, rfl, hown, hR⟩
  obtain ⟨B', c', rfl, h1, h2, h3, hL⟩ := Lies.own hown
  exact ⟨⟨B', c', rfl, hL.imp (fun k _ h => by have := h.1; omega), h1, h2⟩, h.read hR⟩
theorem GetAt.pars (h : GetAt w0 rb FB bs A cp g dg s y d B c w) (q : Par) (ee : Nat) (hr : PRes bs s q ee s') :
    Calls Try.prog 63 #[.pointer (some ⟨rb, 0, none⟩)] w fun e w' => e = .returned (.tuple #[.agg q.vals, .int .i64 (ee : Int)]) ∧ GetAt w0 rb FB bs A cp g dg s' y d B c w' := by
  have hdl := h.deed.lt
  exact (pread_is rb FB bs s A cp q ee s' w h.reader (fun k hk => by have := (h.fresh.2.2.2.1 k hk).1; omega) hr).mono (by rintro e w' ⟨rfl, hR⟩; exact ⟨rfl, h.read hR⟩)
theorem GetAt.used (h : GetAt w0 rb FB bs A cp g dg s y d B c w) (f : Int) (hf : d.mask = f) :
    Calls Try.prog 45 #[.agg (d.vals B c)] w fun e w' => e = .returned (.int .i64 f) ∧ GetAt w0 rb FB bs A cp g dg s y d B c w' := by
  have k := used_is d B c w
  rw [hf] at k
  exact k.mono (by rintro e w' ⟨rfl, hb⟩; exact ⟨rfl, h.next hb⟩)
theorem GetAt.askYes (h : GetAt w0 rb FB bs A cp g dg s y d B c w) :
    Calls Try.prog 61 #[.pointer (some ⟨g, 0, none⟩), .bool true] w fun e w' => e = .returned (.tuple #[]) ∧ GetAt w0 rb FB bs A cp g dg s y d B c w' := by
  have HH := Lib.hid h
  clear h
  go_enter Try.func61, Try.ntmps61
  go_wp2
  go_end0
  exact ⟨rfl, HH.out⟩
theorem GetAt.askNo (h : GetAt w0 rb FB bs A cp g dg s y d B c w) :
    Calls Try.prog 61 #[.pointer (some ⟨g, 0, none⟩), .bool false] w fun e w' => e = .returned (.tuple #[]) ∧ GetAt w0 rb FB bs A cp g dg s 80 d B c w' := by
  obtain ⟨c1, f1⟩ := h.whyIs
  have h2 := Lib.hid (h.why 80)
  clear h
  go_enter Try.func61, Try.ntmps61
  go_wp2
  go_end0
  exact ⟨rfl, h2.out⟩
/-- The deed is handed back. -/
theorem GetAt.again (h : GetAt w0 rb FB bs A cp g dg s y d B c w) : GetAt w0 rb FB bs A cp g dg s y d B c (w.setRow dg (d.vals B c)) := by
  have hg := grown_setRow w dg (d.vals B c)
  obtain ⟨f1, f2, f3, f4, f5⟩ := h.fresh
  exact ⟨h.reader.grown hg (fun e => by injection e with e; omega) (fun k hk e => by injection e with e; have := (f4 k hk).1; omega), (hg.block g (Array.getElem?_eq_some_iff.1 h.own).1 (fun e => by injection e with e; omega)).trans h.own, DeedAt.set h.deed, h.lies.grown hg (fun k hk e => by injection e with e; omega), h.room, h.most, h.fresh, h.kept.grown hg (.inr (by omega))⟩
/-- Its parameters, and why it is none, are written. -/
theorem GetAt.setPars (h : GetAt w0 rb FB bs A cp g dg s y d B c w) (q : Par) (d' : Dd) (hd : d' = { d with par := q }) : GetAt w0 rb FB bs A cp g dg s y d' B c (w.setCells dg 8 q.vals.toList) := by
  subst hd
  have hcells : ∀ (vs : List Value) (o : Nat) (w : World), w.grownBy (w.setCells dg o vs) (some dg) := by
    intro vs
    induction vs with
    | nil => intro o w; exact grown_refl _ _
    | cons v vs ih => intro o w; exact grown_trans (grown_set w dg o v) (ih (o + 1) _)
  have hg := hcells q.vals.toList 8 w
  obtain ⟨f1, f2, f3, f4, f5⟩ := h.fresh
  refine ⟨h.reader.grown hg (fun e => by injection e with e; omega) (fun k hk e => by injection e with e; have := (f4 k hk).1; omega), (hg.block g (Array.getElem?_eq_some_iff.1 h.own).1 (fun e => by injection e with e; omega)).trans h.own, ?_, h.lies.grown hg (fun k hk e => by injection e with e; omega), h.room, h.most, h.fresh, h.kept.grown hg (.inr (by omega))⟩
  have hrow : ∀ (vs : List Value) (o : Nat) (w : World) (C : Array Value), w.heap[dg]? = some (.cells C 39 (0, 0)) → ∃ C', (w.setCells dg o vs).heap[dg]? = some (.cells C' 39 (0, 0)) ∧ C'.size = C.size := by
    intro vs
    induction vs with
    | nil => intro o w C hC; exact ⟨C, hC, rfl⟩
    | cons v vs ih =>
      intro o w C hC
      obtain ⟨C', h1, h2⟩ := ih (o + 1) (w.setCell ⟨dg, o, none⟩ v) _ (heap_setCell_same w dg o _ _ v hC)
      exact ⟨C', h1, by rw [h2]; simp⟩
  obtain ⟨C', h1, h2⟩ := hrow q.vals.toList 8 w _ h.deed
  have hC : C' = ({ d with par := q } : Dd).vals B c := by
    apply Array.ext_getElem?
    intro k
    rw [← cell_of_row _ dg k C' _ _ h1]
    by_cases hk : 8 ≤ k ∧ k < 32
    · obtain ⟨j, rfl⟩ : ∃ j, k = 8 + j := ⟨k - 8, by omega⟩
      have hj : j < 24 := by omega
      have hjl : j < q.vals.toList.length := by rw [Array.length_toList, vals_size]; exact hj
      rw [World.cell?_setCells_in dg q.vals.toList 8 w (fun i hi => (h.deed.there i (by rw [Array.length_toList, vals_size] at hi; exact hi)).1) j hjl, ← List.getElem?_eq_getElem hjl, Array.getElem?_toList]
      clear hjl hk
      match j, hj with
      | 0, _ | 1, _ | 2, _ | 3, _ | 4, _ | 5, _ | 6, _ | 7, _ | 8, _ | 9, _ | 10, _ | 11, _ | 12, _ | 13, _ | 14, _ | 15, _ | 16, _ | 17, _ | 18, _ | 19, _ | 20, _ | 21, _ | 22, _ | 23, _ => rfl
      | n + 24, hj => exact absurd hj (by omega)
    · rw [World.cell?_setCells_out dg q.vals.toList 8 w ⟨dg, k, none⟩ (fun _ _ => by rw [Array.length_toList, vals_size]; show k < 8 ∨ 8 + 24 ≤ k; omega), h.deed.cell]
      by_cases hk2 : k < 34
      · have : k = 0 ∨ k = 1 ∨ k = 2 ∨ k = 3 ∨ k = 4 ∨ k = 5 ∨ k = 6 ∨ k = 7 ∨ k = 32 ∨ k = 33 := by omega
        rcases this with rfl | rfl | rfl | rfl | rfl | rfl | rfl | rfl | rfl | rfl <;> rfl
      · rw [Array.getElem?_eq_none (by rw [dvals_size]; omega), Array.getElem?_eq_none (by rw [dvals_size]; omega)]
  rw [hC] at h1
  exact h1
end
end Go.Proofs.Ytokaclacejhppaa
namespace Go.Proofs.Ytokaclacejhppaa
open Go.RowKit
set_option linter.unusedVariables false
set_option linter.unusedSimpArgs false

set_option maxRecDepth 100000 in
set_option maxHeartbeats 4000000 in
theorem get_send (rb : Nat) (FB : Nat → Prop) (bs : List Nat) (A : Option Addr) (cp g : Nat) (s : Nat × Nat) (a t m : Nat) (s1 : Nat × Nat) (s2 : Nat × Nat) (s3 : Nat × Nat) (s4 : Nat × Nat) (w : World) (hR : ReaderAt w rb FB bs s A cp) (hg : w.heap[g]? = some (.cells #[.pointer (some ⟨rb, 0, none⟩), .int .i64 ((0 : Nat) : Int)] 88 (0, 0))) (hn : rb ≠ g) (hF : ∀ k, FB k → k < w.heap.size ∧ k ≠ g) (hbl : bs.length ≤ 140737488355328) (K1 : rdNum bs s 255 = (1, s1)) (K2 : rdNum bs s1 63 = (a, s2)) (K3 : rdNum bs s2 63 = (t, s3)) (K4 : rdNum bs s3 4611686018427387904 = (m, s4)) (hm : m ≠ 0) :
    Calls Try.prog 41 #[.pointer (some ⟨g, 0, none⟩)] w fun e w' => ∃ B c, e = .returned (.agg (Dd.vals ⟨1, a, 0, t, m, 0, [], 0, Par.none, 0, false⟩ B c)) ∧ GetAt w rb FB bs A cp g w.heap.size s4 0 ⟨1, a, 0, t, m, 0, [], 0, Par.none, 0, false⟩ B c w' := by
  have hz := zero_deed
  have h0 : GetAt w rb FB bs A cp g w.heap.size s 0 ⟨0, 0, 0, 0, 0, 0, [], 0, Par.none, 0, false⟩ none 0 (w.alloc (.cells (Dd.none.vals none 0) 39)) := GetAt.start w hR hg hn hF
  have z := h0.thaw
  have p := h0.ptr
  have dd := h0.deed
  have cs := h0.deed.cells
  dsimp only at cs
  obtain ⟨c0, c1, c2, c3, c4, c5, c6, c7, c32, c33⟩ := cs
  clear hR hg hn hF
  have hd1 : decide (0 < m) = true := by simp; omega
  clear hm
  have kh1 : ∀ w, Calls Try.prog 47 #[.int .i64 97, .int .i64 1] w fun e w' => e = .returned (.bool true) ∧ w = w' := fun w => by have := has_is 97 1 w; rwa [hb97_1] at this
  have kh2 : ∀ w, Calls Try.prog 47 #[.int .i64 97, .int .i64 2] w fun e w' => e = .returned (.bool false) ∧ w = w' := fun w => by have := has_is 97 2 w; rwa [hb97_2] at this
  have kh4 : ∀ w, Calls Try.prog 47 #[.int .i64 97, .int .i64 4] w fun e w' => e = .returned (.bool false) ∧ w = w' := fun w => by have := has_is 97 4 w; rwa [hb97_4] at this
  have kh8 : ∀ w, Calls Try.prog 47 #[.int .i64 97, .int .i64 8] w fun e w' => e = .returned (.bool false) ∧ w = w' := fun w => by have := has_is 97 8 w; rwa [hb97_8] at this
  have kh16 : ∀ w, Calls Try.prog 47 #[.int .i64 97, .int .i64 16] w fun e w' => e = .returned (.bool false) ∧ w = w' := fun w => by have := has_is 97 16 w; rwa [hb97_16] at this
  have kh32 : ∀ w, Calls Try.prog 47 #[.int .i64 97, .int .i64 32] w fun e w' => e = .returned (.bool true) ∧ w = w' := fun w => by have := has_is 97 32 w; rwa [hb97_32] at this
  have kh64 : ∀ w, Calls Try.prog 47 #[.int .i64 97, .int .i64 64] w fun e w' => e = .returned (.bool true) ∧ w = w' := fun w => by have := has_is 97 64 w; rwa [hb97_64] at this
  have kh128 : ∀ w, Calls Try.prog 47 #[.int .i64 97, .int .i64 128] w fun e w' => e = .returned (.bool false) ∧ w = w' := fun w => by have := has_is 97 128 w; rwa [hb97_128] at this
  go_enter Try.func41, Try.ntmps41
  go_wp2_with (first
    | (refine load_deed _ rfl rfl _ _ _ _ _ rfl (by assumption) ?_)
    | (refine store_deed _ _ rfl rfl _ _ _ _ _ _ _ _ rfl rfl (by assumption) ?_)
    | (go_at_call 22; refine (h0.int 255 1 255 1 rfl rfl (by omega) K1).mono ?_; clear K1; rintro e w1 ⟨rfl, q1⟩; clear z p dd h0; have z := q1.thaw; have cs := q1.deed.cells; dsimp only at cs; clear c0 c1 c2 c3 c4 c5 c6 c7 c32 c33; obtain ⟨c0, c1, c2, c3, c4, c5, c6, c7, c32, c33⟩ := cs; have h1 := q1.set 0 (.int .i64 1) (d' := ⟨1, 0, 0, 0, 0, 0, [], 0, Par.none, 0, false⟩) (B' := none) (c' := 0) rfl (Lies.nil _ _ _) (Nat.le_refl _) (Nat.zero_le _); have p := h1.ptr; have dd := h1.deed; clear q1)
    | (go_at_call 45; refine (h1.used 97 rfl).mono ?_; rintro e w2 ⟨rfl, h2⟩; clear z p dd h1; have z := h2.thaw; have p := h2.ptr; have dd := h2.deed; have cs := h2.deed.cells; dsimp only at cs; clear c0 c1 c2 c3 c4 c5 c6 c7 c32 c33; obtain ⟨c0, c1, c2, c3, c4, c5, c6, c7, c32, c33⟩ := cs)
    | (go_at_call 61; refine h2.askYes.mono ?_; rintro e w3 ⟨rfl, h3⟩; clear z p dd h2; have z := h3.thaw; have p := h3.ptr; have dd := h3.deed; have cs := h3.deed.cells; dsimp only at cs; clear c0 c1 c2 c3 c4 c5 c6 c7 c32 c33; obtain ⟨c0, c1, c2, c3, c4, c5, c6, c7, c32, c33⟩ := cs)
    | (go_at_call 22; refine (h3.int 63 a 63 (a : Int) rfl rfl (by omega) K2).mono ?_; clear K2; rintro e w4 ⟨rfl, q4⟩; clear z p dd h3; have z := q4.thaw; have cs := q4.deed.cells; dsimp only at cs; clear c0 c1 c2 c3 c4 c5 c6 c7 c32 c33; obtain ⟨c0, c1, c2, c3, c4, c5, c6, c7, c32, c33⟩ := cs; have h4 := q4.set 1 (.int .i64 (a : Int)) (d' := ⟨1, a, 0, 0, 0, 0, [], 0, Par.none, 0, false⟩) (B' := none) (c' := 0) rfl (Lies.nil _ _ _) (Nat.le_refl _) (Nat.zero_le _); have p := h4.ptr; have dd := h4.deed; clear q4)
    | (go_at_call 22; refine (h4.int 63 t 63 (t : Int) rfl rfl (by omega) K3).mono ?_; clear K3; rintro e w5 ⟨rfl, q5⟩; clear z p dd h4; have z := q5.thaw; have cs := q5.deed.cells; dsimp only at cs; clear c0 c1 c2 c3 c4 c5 c6 c7 c32 c33; obtain ⟨c0, c1, c2, c3, c4, c5, c6, c7, c32, c33⟩ := cs; have h5 := q5.set 3 (.int .i64 (t : Int)) (d' := ⟨1, a, 0, t, 0, 0, [], 0, Par.none, 0, false⟩) (B' := none) (c' := 0) rfl (Lies.nil _ _ _) (Nat.le_refl _) (Nat.zero_le _); have p := h5.ptr; have dd := h5.deed; clear q5)
    | (go_at_call 64; refine (h5.num 4611686018427387904 m 4611686018427387904 rfl (by omega) K4).mono ?_; clear K4; rintro e w6 ⟨rfl, q6⟩; clear z p dd h5; have z := q6.thaw; have cs := q6.deed.cells; dsimp only at cs; clear c0 c1 c2 c3 c4 c5 c6 c7 c32 c33; obtain ⟨c0, c1, c2, c3, c4, c5, c6, c7, c32, c33⟩ := cs; have h6 := q6.set 4 (.int .u64 (m : Int)) (d' := ⟨1, a, 0, t, m, 0, [], 0, Par.none, 0, false⟩) (B' := none) (c' := 0) rfl (Lies.nil _ _ _) (Nat.le_refl _) (Nat.zero_le _); have p := h6.ptr; have dd := h6.deed; clear q6)
    | (go_at_call 61; refine h6.askYes.mono ?_; rintro e w7 ⟨rfl, h7⟩; clear z p dd h6; have z := h7.thaw; have p := h7.ptr; have dd := h7.deed; have cs := h7.deed.cells; dsimp only at cs; clear c0 c1 c2 c3 c4 c5 c6 c7 c32 c33; obtain ⟨c0, c1, c2, c3, c4, c5, c6, c7, c32, c33⟩ := cs)
    | (go_at_call 47; refine (kh1 _).mono ?_; clear kh1; rintro e w' ⟨rfl, rfl⟩)
    | (go_at_call 47; refine (kh2 _).mono ?_; clear kh2; rintro e w' ⟨rfl, rfl⟩)
    | (go_at_call 47; refine (kh4 _).mono ?_; clear kh4; rintro e w' ⟨rfl, rfl⟩)
    | (go_at_call 47; refine (kh8 _).mono ?_; clear kh8; rintro e w' ⟨rfl, rfl⟩)
    | (go_at_call 47; refine (kh16 _).mono ?_; clear kh16; rintro e w' ⟨rfl, rfl⟩)
    | (go_at_call 47; refine (kh32 _).mono ?_; clear kh32; rintro e w' ⟨rfl, rfl⟩)
    | (go_at_call 47; refine (kh64 _).mono ?_; clear kh64; rintro e w' ⟨rfl, rfl⟩)
    | (go_at_call 47; refine (kh128 _).mono ?_; clear kh128; rintro e w' ⟨rfl, rfl⟩))
  have hfin := h7.again
  refine bodyPost_ret (res_deed1 Try.results41 rfl hfin.deed) rfl ⟨none, 0, rfl, hfin⟩
set_option maxRecDepth 100000 in
set_option maxHeartbeats 4000000 in
theorem get_send0 (rb : Nat) (FB : Nat → Prop) (bs : List Nat) (A : Option Addr) (cp g : Nat) (s : Nat × Nat) (a t : Nat) (s1 : Nat × Nat) (s2 : Nat × Nat) (s3 : Nat × Nat) (s4 : Nat × Nat) (w : World) (hR : ReaderAt w rb FB bs s A cp) (hg : w.heap[g]? = some (.cells #[.pointer (some ⟨rb, 0, none⟩), .int .i64 ((0 : Nat) : Int)] 88 (0, 0))) (hn : rb ≠ g) (hF : ∀ k, FB k → k < w.heap.size ∧ k ≠ g) (hbl : bs.length ≤ 140737488355328) (K1 : rdNum bs s 255 = (1, s1)) (K2 : rdNum bs s1 63 = (a, s2)) (K3 : rdNum bs s2 63 = (t, s3)) (K4 : rdNum bs s3 4611686018427387904 = (0, s4)) :
    Calls Try.prog 41 #[.pointer (some ⟨g, 0, none⟩)] w fun e w' => ∃ B c, e = .returned (.agg (Dd.vals ⟨1, a, 0, t, 0, 0, [], 0, Par.none, 0, false⟩ B c)) ∧ GetAt w rb FB bs A cp g w.heap.size s4 80 ⟨1, a, 0, t, 0, 0, [], 0, Par.none, 0, false⟩ B c w' := by
  have hz := zero_deed
  have h0 : GetAt w rb FB bs A cp g w.heap.size s 0 ⟨0, 0, 0, 0, 0, 0, [], 0, Par.none, 0, false⟩ none 0 (w.alloc (.cells (Dd.none.vals none 0) 39)) := GetAt.start w hR hg hn hF
  have z := h0.thaw
  have p := h0.ptr
  have dd := h0.deed
  have cs := h0.deed.cells
  dsimp only at cs
  obtain ⟨c0, c1, c2, c3, c4, c5, c6, c7, c32, c33⟩ := cs
  clear hR hg hn hF
  have kh1 : ∀ w, Calls Try.prog 47 #[.int .i64 97, .int .i64 1] w fun e w' => e = .returned (.bool true) ∧ w = w' := fun w => by have := has_is 97 1 w; rwa [hb97_1] at this
  have kh2 : ∀ w, Calls Try.prog 47 #[.int .i64 97, .int .i64 2] w fun e w' => e = .returned (.bool false) ∧ w = w' := fun w => by have := has_is 97 2 w; rwa [hb97_2] at this
  have kh4 : ∀ w, Calls Try.prog 47 #[.int .i64 97, .int .i64 4] w fun e w' => e = .returned (.bool false) ∧ w = w' := fun w => by have := has_is 97 4 w; rwa [hb97_4] at this
  have kh8 : ∀ w, Calls Try.prog 47 #[.int .i64 97, .int .i64 8] w fun e w' => e = .returned (.bool false) ∧ w = w' := fun w => by have := has_is 97 8 w; rwa [hb97_8] at this
  have kh16 : ∀ w, Calls Try.prog 47 #[.int .i64 97, .int .i64 16] w fun e w' => e = .returned (.bool false) ∧ w = w' := fun w => by have := has_is 97 16 w; rwa [hb97_16] at this
  have kh32 : ∀ w, Calls Try.prog 47 #[.int .i64 97, .int .i64 32] w fun e w' => e = .returned (.bool true) ∧ w = w' := fun w => by have := has_is 97 32 w; rwa [hb97_32] at this
  have kh64 : ∀ w, Calls Try.prog 47 #[.int .i64 97, .int .i64 64] w fun e w' => e = .returned (.bool true) ∧ w = w' := fun w => by have := has_is 97 64 w; rwa [hb97_64] at this
  have kh128 : ∀ w, Calls Try.prog 47 #[.int .i64 97, .int .i64 128] w fun e w' => e = .returned (.bool false) ∧ w = w' := fun w => by have := has_is 97 128 w; rwa [hb97_128] at this
  go_enter Try.func41, Try.ntmps41
  go_wp2_with (first
    | (refine load_deed _ rfl rfl _ _ _ _ _ rfl (by assumption) ?_)
    | (refine store_deed _ _ rfl rfl _ _ _ _ _ _ _ _ rfl rfl (by assumption) ?_)
    | (go_at_call 22; refine (h0.int 255 1 255 1 rfl rfl (by omega) K1).mono ?_; clear K1; rintro e w1 ⟨rfl, q1⟩; clear z p dd h0; have z := q1.thaw; have cs := q1.deed.cells; dsimp only at cs; clear c0 c1 c2 c3 c4 c5 c6 c7 c32 c33; obtain ⟨c0, c1, c2, c3, c4, c5, c6, c7, c32, c33⟩ := cs; have h1 := q1.set 0 (.int .i64 1) (d' := ⟨1, 0, 0, 0, 0, 0, [], 0, Par.none, 0, false⟩) (B' := none) (c' := 0) rfl (Lies.nil _ _ _) (Nat.le_refl _) (Nat.zero_le _); have p := h1.ptr; have dd := h1.deed; clear q1)
    | (go_at_call 45; refine (h1.used 97 rfl).mono ?_; rintro e w2 ⟨rfl, h2⟩; clear z p dd h1; have z := h2.thaw; have p := h2.ptr; have dd := h2.deed; have cs := h2.deed.cells; dsimp only at cs; clear c0 c1 c2 c3 c4 c5 c6 c7 c32 c33; obtain ⟨c0, c1, c2, c3, c4, c5, c6, c7, c32, c33⟩ := cs)
    | (go_at_call 61; refine h2.askYes.mono ?_; rintro e w3 ⟨rfl, h3⟩; clear z p dd h2; have z := h3.thaw; have p := h3.ptr; have dd := h3.deed; have cs := h3.deed.cells; dsimp only at cs; clear c0 c1 c2 c3 c4 c5 c6 c7 c32 c33; obtain ⟨c0, c1, c2, c3, c4, c5, c6, c7, c32, c33⟩ := cs)
    | (go_at_call 22; refine (h3.int 63 a 63 (a : Int) rfl rfl (by omega) K2).mono ?_; clear K2; rintro e w4 ⟨rfl, q4⟩; clear z p dd h3; have z := q4.thaw; have cs := q4.deed.cells; dsimp only at cs; clear c0 c1 c2 c3 c4 c5 c6 c7 c32 c33; obtain ⟨c0, c1, c2, c3, c4, c5, c6, c7, c32, c33⟩ := cs; have h4 := q4.set 1 (.int .i64 (a : Int)) (d' := ⟨1, a, 0, 0, 0, 0, [], 0, Par.none, 0, false⟩) (B' := none) (c' := 0) rfl (Lies.nil _ _ _) (Nat.le_refl _) (Nat.zero_le _); have p := h4.ptr; have dd := h4.deed; clear q4)
    | (go_at_call 22; refine (h4.int 63 t 63 (t : Int) rfl rfl (by omega) K3).mono ?_; clear K3; rintro e w5 ⟨rfl, q5⟩; clear z p dd h4; have z := q5.thaw; have cs := q5.deed.cells; dsimp only at cs; clear c0 c1 c2 c3 c4 c5 c6 c7 c32 c33; obtain ⟨c0, c1, c2, c3, c4, c5, c6, c7, c32, c33⟩ := cs; have h5 := q5.set 3 (.int .i64 (t : Int)) (d' := ⟨1, a, 0, t, 0, 0, [], 0, Par.none, 0, false⟩) (B' := none) (c' := 0) rfl (Lies.nil _ _ _) (Nat.le_refl _) (Nat.zero_le _); have p := h5.ptr; have dd := h5.deed; clear q5)
    | (go_at_call 64; refine (h5.num 4611686018427387904 0 4611686018427387904 rfl (by omega) K4).mono ?_; clear K4; rintro e w6 ⟨rfl, q6⟩; clear z p dd h5; have z := q6.thaw; have cs := q6.deed.cells; dsimp only at cs; clear c0 c1 c2 c3 c4 c5 c6 c7 c32 c33; obtain ⟨c0, c1, c2, c3, c4, c5, c6, c7, c32, c33⟩ := cs; have h6 := q6.set 4 (.int .u64 0) (d' := ⟨1, a, 0, t, 0, 0, [], 0, Par.none, 0, false⟩) (B' := none) (c' := 0) rfl (Lies.nil _ _ _) (Nat.le_refl _) (Nat.zero_le _); have p := h6.ptr; have dd := h6.deed; clear q6)
    | (go_at_call 61; refine h6.askNo.mono ?_; rintro e w7 ⟨rfl, h7⟩; clear z p dd h6; have z := h7.thaw; have p := h7.ptr; have dd := h7.deed; have cs := h7.deed.cells; dsimp only at cs; clear c0 c1 c2 c3 c4 c5 c6 c7 c32 c33; obtain ⟨c0, c1, c2, c3, c4, c5, c6, c7, c32, c33⟩ := cs)
    | (go_at_call 47; refine (kh1 _).mono ?_; clear kh1; rintro e w' ⟨rfl, rfl⟩)
    | (go_at_call 47; refine (kh2 _).mono ?_; clear kh2; rintro e w' ⟨rfl, rfl⟩)
    | (go_at_call 47; refine (kh4 _).mono ?_; clear kh4; rintro e w' ⟨rfl, rfl⟩)
    | (go_at_call 47; refine (kh8 _).mono ?_; clear kh8; rintro e w' ⟨rfl, rfl⟩)
    | (go_at_call 47; refine (kh16 _).mono ?_; clear kh16; rintro e w' ⟨rfl, rfl⟩)
    | (go_at_call 47; refine (kh32 _).mono ?_; clear kh32; rintro e w' ⟨rfl, rfl⟩)
    | (go_at_call 47; refine (kh64 _).mono ?_; clear kh64; rintro e w' ⟨rfl, rfl⟩)
    | (go_at_call 47; refine (kh128 _).mono ?_; clear kh128; rintro e w' ⟨rfl, rfl⟩))
  have hfin := h7.again
  refine bodyPost_ret (res_deed1 Try.results41 rfl hfin.deed) rfl ⟨none, 0, rfl, hfin⟩
set_option maxRecDepth 100000 in
set_option maxHeartbeats 4000000 in
theorem get_stake (rb : Nat) (FB : Nat → Prop) (bs : List Nat) (A : Option Addr) (cp g : Nat) (s : Nat × Nat) (a m : Nat) (s1 : Nat × Nat) (s2 : Nat × Nat) (s3 : Nat × Nat) (w : World) (hR : ReaderAt w rb FB bs s A cp) (hg : w.heap[g]? = some (.cells #[.pointer (some ⟨rb, 0, none⟩), .int .i64 ((0 : Nat) : Int)] 88 (0, 0))) (hn : rb ≠ g) (hF : ∀ k, FB k → k < w.heap.size ∧ k ≠ g) (hbl : bs.length ≤ 140737488355328) (K1 : rdNum bs s 255 = (2, s1)) (K2 : rdNum bs s1 63 = (a, s2)) (K3 : rdNum bs s2 4611686018427387904 = (m, s3)) (hm : m ≠ 0) :
    Calls Try.prog 41 #[.pointer (some ⟨g, 0, none⟩)] w fun e w' => ∃ B c, e = .returned (.agg (Dd.vals ⟨2, a, 0, 0, m, 0, [], 0, Par.none, 0, false⟩ B c)) ∧ GetAt w rb FB bs A cp g w.heap.size s3 0 ⟨2, a, 0, 0, m, 0, [], 0, Par.none, 0, false⟩ B c w' := by
  have hz := zero_deed
  have h0 : GetAt w rb FB bs A cp g w.heap.size s 0 ⟨0, 0, 0, 0, 0, 0, [], 0, Par.none, 0, false⟩ none 0 (w.alloc (.cells (Dd.none.vals none 0) 39)) := GetAt.start w hR hg hn hF
  have z := h0.thaw
  have p := h0.ptr
  have dd := h0.deed
  have cs := h0.deed.cells
  dsimp only at cs
  obtain ⟨c0, c1, c2, c3, c4, c5, c6, c7, c32, c33⟩ := cs
  clear hR hg hn hF
  have hd1 : decide (0 < m) = true := by simp; omega
  clear hm
  have kh1 : ∀ w, Calls Try.prog 47 #[.int .i64 65, .int .i64 1] w fun e w' => e = .returned (.bool true) ∧ w = w' := fun w => by have := has_is 65 1 w; rwa [hb65_1] at this
  have kh2 : ∀ w, Calls Try.prog 47 #[.int .i64 65, .int .i64 2] w fun e w' => e = .returned (.bool false) ∧ w = w' := fun w => by have := has_is 65 2 w; rwa [hb65_2] at this
  have kh4 : ∀ w, Calls Try.prog 47 #[.int .i64 65, .int .i64 4] w fun e w' => e = .returned (.bool false) ∧ w = w' := fun w => by have := has_is 65 4 w; rwa [hb65_4] at this
  have kh8 : ∀ w, Calls Try.prog 47 #[.int .i64 65, .int .i64 8] w fun e w' => e = .returned (.bool false) ∧ w = w' := fun w => by have := has_is 65 8 w; rwa [hb65_8] at this
  have kh16 : ∀ w, Calls Try.prog 47 #[.int .i64 65, .int .i64 16] w fun e w' => e = .returned (.bool false) ∧ w = w' := fun w => by have := has_is 65 16 w; rwa [hb65_16] at this
  have kh32 : ∀ w, Calls Try.prog 47 #[.int .i64 65, .int .i64 32] w fun e w' => e = .returned (.bool false) ∧ w = w' := fun w => by have := has_is 65 32 w; rwa [hb65_32] at this
  have kh64 : ∀ w, Calls Try.prog 47 #[.int .i64 65, .int .i64 64] w fun e w' => e = .returned (.bool true) ∧ w = w' := fun w => by have := has_is 65 64 w; rwa [hb65_64] at this
  have kh128 : ∀ w, Calls Try.prog 47 #[.int .i64 65, .int .i64 128] w fun e w' => e = .returned (.bool false) ∧ w = w' := fun w => by have := has_is 65 128 w; rwa [hb65_128] at this
  go_enter Try.func41, Try.ntmps41
  go_wp2_with (first
    | (refine load_deed _ rfl rfl _ _ _ _ _ rfl (by assumption) ?_)
    | (refine store_deed _ _ rfl rfl _ _ _ _ _ _ _ _ rfl rfl (by assumption) ?_)
    | (go_at_call 22; refine (h0.int 255 2 255 2 rfl rfl (by omega) K1).mono ?_; clear K1; rintro e w1 ⟨rfl, q1⟩; clear z p dd h0; have z := q1.thaw; have cs := q1.deed.cells; dsimp only at cs; clear c0 c1 c2 c3 c4 c5 c6 c7 c32 c33; obtain ⟨c0, c1, c2, c3, c4, c5, c6, c7, c32, c33⟩ := cs; have h1 := q1.set 0 (.int .i64 2) (d' := ⟨2, 0, 0, 0, 0, 0, [], 0, Par.none, 0, false⟩) (B' := none) (c' := 0) rfl (Lies.nil _ _ _) (Nat.le_refl _) (Nat.zero_le _); have p := h1.ptr; have dd := h1.deed; clear q1)
    | (go_at_call 45; refine (h1.used 65 rfl).mono ?_; rintro e w2 ⟨rfl, h2⟩; clear z p dd h1; have z := h2.thaw; have p := h2.ptr; have dd := h2.deed; have cs := h2.deed.cells; dsimp only at cs; clear c0 c1 c2 c3 c4 c5 c6 c7 c32 c33; obtain ⟨c0, c1, c2, c3, c4, c5, c6, c7, c32, c33⟩ := cs)
    | (go_at_call 61; refine h2.askYes.mono ?_; rintro e w3 ⟨rfl, h3⟩; clear z p dd h2; have z := h3.thaw; have p := h3.ptr; have dd := h3.deed; have cs := h3.deed.cells; dsimp only at cs; clear c0 c1 c2 c3 c4 c5 c6 c7 c32 c33; obtain ⟨c0, c1, c2, c3, c4, c5, c6, c7, c32, c33⟩ := cs)
    | (go_at_call 22; refine (h3.int 63 a 63 (a : Int) rfl rfl (by omega) K2).mono ?_; clear K2; rintro e w4 ⟨rfl, q4⟩; clear z p dd h3; have z := q4.thaw; have cs := q4.deed.cells; dsimp only at cs; clear c0 c1 c2 c3 c4 c5 c6 c7 c32 c33; obtain ⟨c0, c1, c2, c3, c4, c5, c6, c7, c32, c33⟩ := cs; have h4 := q4.set 1 (.int .i64 (a : Int)) (d' := ⟨2, a, 0, 0, 0, 0, [], 0, Par.none, 0, false⟩) (B' := none) (c' := 0) rfl (Lies.nil _ _ _) (Nat.le_refl _) (Nat.zero_le _); have p := h4.ptr; have dd := h4.deed; clear q4)
    | (go_at_call 64; refine (h4.num 4611686018427387904 m 4611686018427387904 rfl (by omega) K3).mono ?_; clear K3; rintro e w5 ⟨rfl, q5⟩; clear z p dd h4; have z := q5.thaw; have cs := q5.deed.cells; dsimp only at cs; clear c0 c1 c2 c3 c4 c5 c6 c7 c32 c33; obtain ⟨c0, c1, c2, c3, c4, c5, c6, c7, c32, c33⟩ := cs; have h5 := q5.set 4 (.int .u64 (m : Int)) (d' := ⟨2, a, 0, 0, m, 0, [], 0, Par.none, 0, false⟩) (B' := none) (c' := 0) rfl (Lies.nil _ _ _) (Nat.le_refl _) (Nat.zero_le _); have p := h5.ptr; have dd := h5.deed; clear q5)
    | (go_at_call 61; refine h5.askYes.mono ?_; rintro e w6 ⟨rfl, h6⟩; clear z p dd h5; have z := h6.thaw; have p := h6.ptr; have dd := h6.deed; have cs := h6.deed.cells; dsimp only at cs; clear c0 c1 c2 c3 c4 c5 c6 c7 c32 c33; obtain ⟨c0, c1, c2, c3, c4, c5, c6, c7, c32, c33⟩ := cs)
    | (go_at_call 47; refine (kh1 _).mono ?_; clear kh1; rintro e w' ⟨rfl, rfl⟩)
    | (go_at_call 47; refine (kh2 _).mono ?_; clear kh2; rintro e w' ⟨rfl, rfl⟩)
    | (go_at_call 47; refine (kh4 _).mono ?_; clear kh4; rintro e w' ⟨rfl, rfl⟩)
    | (go_at_call 47; refine (kh8 _).mono ?_; clear kh8; rintro e w' ⟨rfl, rfl⟩)
    | (go_at_call 47; refine (kh16 _).mono ?_; clear kh16; rintro e w' ⟨rfl, rfl⟩)
    | (go_at_call 47; refine (kh32 _).mono ?_; clear kh32; rintro e w' ⟨rfl, rfl⟩)
    | (go_at_call 47; refine (kh64 _).mono ?_; clear kh64; rintro e w' ⟨rfl, rfl⟩)
    | (go_at_call 47; refine (kh128 _).mono ?_; clear kh128; rintro e w' ⟨rfl, rfl⟩))
  have hfin := h6.again
  refine bodyPost_ret (res_deed1 Try.results41 rfl hfin.deed) rfl ⟨none, 0, rfl, hfin⟩
set_option maxRecDepth 100000 in
set_option maxHeartbeats 4000000 in
theorem get_stake0 (rb : Nat) (FB : Nat → Prop) (bs : List Nat) (A : Option Addr) (cp g : Nat) (s : Nat × Nat) (a : Nat) (s1 : Nat × Nat) (s2 : Nat × Nat) (s3 : Nat × Nat) (w : World) (hR : ReaderAt w rb FB bs s A cp) (hg : w.heap[g]? = some (.cells #[.pointer (some ⟨rb, 0, none⟩), .int .i64 ((0 : Nat) : Int)] 88 (0, 0))) (hn : rb ≠ g) (hF : ∀ k, FB k → k < w.heap.size ∧ k ≠ g) (hbl : bs.length ≤ 140737488355328) (K1 : rdNum bs s 255 = (2, s1)) (K2 : rdNum bs s1 63 = (a, s2)) (K3 : rdNum bs s2 4611686018427387904 = (0, s3)) :
    Calls Try.prog 41 #[.pointer (some ⟨g, 0, none⟩)] w fun e w' => ∃ B c, e = .returned (.agg (Dd.vals ⟨2, a, 0, 0, 0, 0, [], 0, Par.none, 0, false⟩ B c)) ∧ GetAt w rb FB bs A cp g w.heap.size s3 80 ⟨2, a, 0, 0, 0, 0, [], 0, Par.none, 0, false⟩ B c w' := by
  have hz := zero_deed
  have h0 : GetAt w rb FB bs A cp g w.heap.size s 0 ⟨0, 0, 0, 0, 0, 0, [], 0, Par.none, 0, false⟩ none 0 (w.alloc (.cells (Dd.none.vals none 0) 39)) := GetAt.start w hR hg hn hF
  have z := h0.thaw
  have p := h0.ptr
  have dd := h0.deed
  have cs := h0.deed.cells
  dsimp only at cs
  obtain ⟨c0, c1, c2, c3, c4, c5, c6, c7, c32, c33⟩ := cs
  clear hR hg hn hF
  have kh1 : ∀ w, Calls Try.prog 47 #[.int .i64 65, .int .i64 1] w fun e w' => e = .returned (.bool true) ∧ w = w' := fun w => by have := has_is 65 1 w; rwa [hb65_1] at this
  have kh2 : ∀ w, Calls Try.prog 47 #[.int .i64 65, .int .i64 2] w fun e w' => e = .returned (.bool false) ∧ w = w' := fun w => by have := has_is 65 2 w; rwa [hb65_2] at this
  have kh4 : ∀ w, Calls Try.prog 47 #[.int .i64 65, .int .i64 4] w fun e w' => e = .returned (.bool false) ∧ w = w' := fun w => by have := has_is 65 4 w; rwa [hb65_4] at this
  have kh8 : ∀ w, Calls Try.prog 47 #[.int .i64 65, .int .i64 8] w fun e w' => e = .returned (.bool false) ∧ w = w' := fun w => by have := has_is 65 8 w; rwa [hb65_8] at this
  have kh16 : ∀ w, Calls Try.prog 47 #[.int .i64 65, .int .i64 16] w fun e w' => e = .returned (.bool false) ∧ w = w' := fun w => by have := has_is 65 16 w; rwa [hb65_16] at this
  have kh32 : ∀ w, Calls Try.prog 47 #[.int .i64 65, .int .i64 32] w fun e w' => e = .returned (.bool false) ∧ w = w' := fun w => by have := has_is 65 32 w; rwa [hb65_32] at this
  have kh64 : ∀ w, Calls Try.prog 47 #[.int .i64 65, .int .i64 64] w fun e w' => e = .returned (.bool true) ∧ w = w' := fun w => by have := has_is 65 64 w; rwa [hb65_64] at this
  have kh128 : ∀ w, Calls Try.prog 47 #[.int .i64 65, .int .i64 128] w fun e w' => e = .returned (.bool false) ∧ w = w' := fun w => by have := has_is 65 128 w; rwa [hb65_128] at this
  go_enter Try.func41, Try.ntmps41
  go_wp2_with (first
    | (refine load_deed _ rfl rfl _ _ _ _ _ rfl (by assumption) ?_)
    | (refine store_deed _ _ rfl rfl _ _ _ _ _ _ _ _ rfl rfl (by assumption) ?_)
    | (go_at_call 22; refine (h0.int 255 2 255 2 rfl rfl (by omega) K1).mono ?_; clear K1; rintro e w1 ⟨rfl, q1⟩; clear z p dd h0; have z := q1.thaw; have cs := q1.deed.cells; dsimp only at cs; clear c0 c1 c2 c3 c4 c5 c6 c7 c32 c33; obtain ⟨c0, c1, c2, c3, c4, c5, c6, c7, c32, c33⟩ := cs; have h1 := q1.set 0 (.int .i64 2) (d' := ⟨2, 0, 0, 0, 0, 0, [], 0, Par.none, 0, false⟩) (B' := none) (c' := 0) rfl (Lies.nil _ _ _) (Nat.le_refl _) (Nat.zero_le _); have p := h1.ptr; have dd := h1.deed; clear q1)
    | (go_at_call 45; refine (h1.used 65 rfl).mono ?_; rintro e w2 ⟨rfl, h2⟩; clear z p dd h1; have z := h2.thaw; have p := h2.ptr; have dd := h2.deed; have cs := h2.deed.cells; dsimp only at cs; clear c0 c1 c2 c3 c4 c5 c6 c7 c32 c33; obtain ⟨c0, c1, c2, c3, c4, c5, c6, c7, c32, c33⟩ := cs)
    | (go_at_call 61; refine h2.askYes.mono ?_; rintro e w3 ⟨rfl, h3⟩; clear z p dd h2; have z := h3.thaw; have p := h3.ptr; have dd := h3.deed; have cs := h3.deed.cells; dsimp only at cs; clear c0 c1 c2 c3 c4 c5 c6 c7 c32 c33; obtain ⟨c0, c1, c2, c3, c4, c5, c6, c7, c32, c33⟩ := cs)
    | (go_at_call 22; refine (h3.int 63 a 63 (a : Int) rfl rfl (by omega) K2).mono ?_; clear K2; rintro e w4 ⟨rfl, q4⟩; clear z p dd h3; have z := q4.thaw; have cs := q4.deed.cells; dsimp only at cs; clear c0 c1 c2 c3 c4 c5 c6 c7 c32 c33; obtain ⟨c0, c1, c2, c3, c4, c5, c6, c7, c32, c33⟩ := cs; have h4 := q4.set 1 (.int .i64 (a : Int)) (d' := ⟨2, a, 0, 0, 0, 0, [], 0, Par.none, 0, false⟩) (B' := none) (c' := 0) rfl (Lies.nil _ _ _) (Nat.le_refl _) (Nat.zero_le _); have p := h4.ptr; have dd := h4.deed; clear q4)
    | (go_at_call 64; refine (h4.num 4611686018427387904 0 4611686018427387904 rfl (by omega) K3).mono ?_; clear K3; rintro e w5 ⟨rfl, q5⟩; clear z p dd h4; have z := q5.thaw; have cs := q5.deed.cells; dsimp only at cs; clear c0 c1 c2 c3 c4 c5 c6 c7 c32 c33; obtain ⟨c0, c1, c2, c3, c4, c5, c6, c7, c32, c33⟩ := cs; have h5 := q5.set 4 (.int .u64 0) (d' := ⟨2, a, 0, 0, 0, 0, [], 0, Par.none, 0, false⟩) (B' := none) (c' := 0) rfl (Lies.nil _ _ _) (Nat.le_refl _) (Nat.zero_le _); have p := h5.ptr; have dd := h5.deed; clear q5)
    | (go_at_call 61; refine h5.askNo.mono ?_; rintro e w6 ⟨rfl, h6⟩; clear z p dd h5; have z := h6.thaw; have p := h6.ptr; have dd := h6.deed; have cs := h6.deed.cells; dsimp only at cs; clear c0 c1 c2 c3 c4 c5 c6 c7 c32 c33; obtain ⟨c0, c1, c2, c3, c4, c5, c6, c7, c32, c33⟩ := cs)
    | (go_at_call 47; refine (kh1 _).mono ?_; clear kh1; rintro e w' ⟨rfl, rfl⟩)
    | (go_at_call 47; refine (kh2 _).mono ?_; clear kh2; rintro e w' ⟨rfl, rfl⟩)
    | (go_at_call 47; refine (kh4 _).mono ?_; clear kh4; rintro e w' ⟨rfl, rfl⟩)
    | (go_at_call 47; refine (kh8 _).mono ?_; clear kh8; rintro e w' ⟨rfl, rfl⟩)
    | (go_at_call 47; refine (kh16 _).mono ?_; clear kh16; rintro e w' ⟨rfl, rfl⟩)
    | (go_at_call 47; refine (kh32 _).mono ?_; clear kh32; rintro e w' ⟨rfl, rfl⟩)
    | (go_at_call 47; refine (kh64 _).mono ?_; clear kh64; rintro e w' ⟨rfl, rfl⟩)
    | (go_at_call 47; refine (kh128 _).mono ?_; clear kh128; rintro e w' ⟨rfl, rfl⟩))
  have hfin := h6.again
  refine bodyPost_ret (res_deed1 Try.results41 rfl hfin.deed) rfl ⟨none, 0, rfl, hfin⟩
set_option maxRecDepth 100000 in
set_option maxHeartbeats 4000000 in
theorem get_top (rb : Nat) (FB : Nat → Prop) (bs : List Nat) (A : Option Addr) (cp g : Nat) (s : Nat × Nat) (a b m : Nat) (s1 : Nat × Nat) (s2 : Nat × Nat) (s3 : Nat × Nat) (s4 : Nat × Nat) (w : World) (hR : ReaderAt w rb FB bs s A cp) (hg : w.heap[g]? = some (.cells #[.pointer (some ⟨rb, 0, none⟩), .int .i64 ((0 : Nat) : Int)] 88 (0, 0))) (hn : rb ≠ g) (hF : ∀ k, FB k → k < w.heap.size ∧ k ≠ g) (hbl : bs.length ≤ 140737488355328) (K1 : rdNum bs s 255 = (3, s1)) (K2 : rdNum bs s1 63 = (a, s2)) (K3 : rdNum bs s2 127 = (b, s3)) (K4 : rdNum bs s3 4611686018427387904 = (m, s4)) (hm : m ≠ 0) :
    Calls Try.prog 41 #[.pointer (some ⟨g, 0, none⟩)] w fun e w' => ∃ B c, e = .returned (.agg (Dd.vals ⟨3, a, b, 0, m, 0, [], 0, Par.none, 0, false⟩ B c)) ∧ GetAt w rb FB bs A cp g w.heap.size s4 0 ⟨3, a, b, 0, m, 0, [], 0, Par.none, 0, false⟩ B c w' := by
  have hz := zero_deed
  have h0 : GetAt w rb FB bs A cp g w.heap.size s 0 ⟨0, 0, 0, 0, 0, 0, [], 0, Par.none, 0, false⟩ none 0 (w.alloc (.cells (Dd.none.vals none 0) 39)) := GetAt.start w hR hg hn hF
  have z := h0.thaw
  have p := h0.ptr
  have dd := h0.deed
  have cs := h0.deed.cells
  dsimp only at cs
  obtain ⟨c0, c1, c2, c3, c4, c5, c6, c7, c32, c33⟩ := cs
  clear hR hg hn hF
  have hd1 : decide (0 < m) = true := by simp; omega
  clear hm
  have kh1 : ∀ w, Calls Try.prog 47 #[.int .i64 67, .int .i64 1] w fun e w' => e = .returned (.bool true) ∧ w = w' := fun w => by have := has_is 67 1 w; rwa [hb67_1] at this
  have kh2 : ∀ w, Calls Try.prog 47 #[.int .i64 67, .int .i64 2] w fun e w' => e = .returned (.bool true) ∧ w = w' := fun w => by have := has_is 67 2 w; rwa [hb67_2] at this
  have kh4 : ∀ w, Calls Try.prog 47 #[.int .i64 67, .int .i64 4] w fun e w' => e = .returned (.bool false) ∧ w = w' := fun w => by have := has_is 67 4 w; rwa [hb67_4] at this
  have kh8 : ∀ w, Calls Try.prog 47 #[.int .i64 67, .int .i64 8] w fun e w' => e = .returned (.bool false) ∧ w = w' := fun w => by have := has_is 67 8 w; rwa [hb67_8] at this
  have kh16 : ∀ w, Calls Try.prog 47 #[.int .i64 67, .int .i64 16] w fun e w' => e = .returned (.bool false) ∧ w = w' := fun w => by have := has_is 67 16 w; rwa [hb67_16] at this
  have kh32 : ∀ w, Calls Try.prog 47 #[.int .i64 67, .int .i64 32] w fun e w' => e = .returned (.bool false) ∧ w = w' := fun w => by have := has_is 67 32 w; rwa [hb67_32] at this
  have kh64 : ∀ w, Calls Try.prog 47 #[.int .i64 67, .int .i64 64] w fun e w' => e = .returned (.bool true) ∧ w = w' := fun w => by have := has_is 67 64 w; rwa [hb67_64] at this
  have kh128 : ∀ w, Calls Try.prog 47 #[.int .i64 67, .int .i64 128] w fun e w' => e = .returned (.bool false) ∧ w = w' := fun w => by have := has_is 67 128 w; rwa [hb67_128] at this
  go_enter Try.func41, Try.ntmps41
  go_wp2_with (first
    | (refine load_deed _ rfl rfl _ _ _ _ _ rfl (by assumption) ?_)
    | (refine store_deed _ _ rfl rfl _ _ _ _ _ _ _ _ rfl rfl (by assumption) ?_)
    | (go_at_call 22; refine (h0.int 255 3 255 3 rfl rfl (by omega) K1).mono ?_; clear K1; rintro e w1 ⟨rfl, q1⟩; clear z p dd h0; have z := q1.thaw; have cs := q1.deed.cells; dsimp only at cs; clear c0 c1 c2 c3 c4 c5 c6 c7 c32 c33; obtain ⟨c0, c1, c2, c3, c4, c5, c6, c7, c32, c33⟩ := cs; have h1 := q1.set 0 (.int .i64 3) (d' := ⟨3, 0, 0, 0, 0, 0, [], 0, Par.none, 0, false⟩) (B' := none) (c' := 0) rfl (Lies.nil _ _ _) (Nat.le_refl _) (Nat.zero_le _); have p := h1.ptr; have dd := h1.deed; clear q1)
    | (go_at_call 45; refine (h1.used 67 rfl).mono ?_; rintro e w2 ⟨rfl, h2⟩; clear z p dd h1; have z := h2.thaw; have p := h2.ptr; have dd := h2.deed; have cs := h2.deed.cells; dsimp only at cs; clear c0 c1 c2 c3 c4 c5 c6 c7 c32 c33; obtain ⟨c0, c1, c2, c3, c4, c5, c6, c7, c32, c33⟩ := cs)
    | (go_at_call 61; refine h2.askYes.mono ?_; rintro e w3 ⟨rfl, h3⟩; clear z p dd h2; have z := h3.thaw; have p := h3.ptr; have dd := h3.deed; have cs := h3.deed.cells; dsimp only at cs; clear c0 c1 c2 c3 c4 c5 c6 c7 c32 c33; obtain ⟨c0, c1, c2, c3, c4, c5, c6, c7, c32, c33⟩ := cs)
    | (go_at_call 22; refine (h3.int 63 a 63 (a : Int) rfl rfl (by omega) K2).mono ?_; clear K2; rintro e w4 ⟨rfl, q4⟩; clear z p dd h3; have z := q4.thaw; have cs := q4.deed.cells; dsimp only at cs; clear c0 c1 c2 c3 c4 c5 c6 c7 c32 c33; obtain ⟨c0, c1, c2, c3, c4, c5, c6, c7, c32, c33⟩ := cs; have h4 := q4.set 1 (.int .i64 (a : Int)) (d' := ⟨3, a, 0, 0, 0, 0, [], 0, Par.none, 0, false⟩) (B' := none) (c' := 0) rfl (Lies.nil _ _ _) (Nat.le_refl _) (Nat.zero_le _); have p := h4.ptr; have dd := h4.deed; clear q4)
    | (go_at_call 22; refine (h4.int 127 b 127 (b : Int) rfl rfl (by omega) K3).mono ?_; clear K3; rintro e w5 ⟨rfl, q5⟩; clear z p dd h4; have z := q5.thaw; have cs := q5.deed.cells; dsimp only at cs; clear c0 c1 c2 c3 c4 c5 c6 c7 c32 c33; obtain ⟨c0, c1, c2, c3, c4, c5, c6, c7, c32, c33⟩ := cs; have h5 := q5.set 2 (.int .i64 (b : Int)) (d' := ⟨3, a, b, 0, 0, 0, [], 0, Par.none, 0, false⟩) (B' := none) (c' := 0) rfl (Lies.nil _ _ _) (Nat.le_refl _) (Nat.zero_le _); have p := h5.ptr; have dd := h5.deed; clear q5)
    | (go_at_call 64; refine (h5.num 4611686018427387904 m 4611686018427387904 rfl (by omega) K4).mono ?_; clear K4; rintro e w6 ⟨rfl, q6⟩; clear z p dd h5; have z := q6.thaw; have cs := q6.deed.cells; dsimp only at cs; clear c0 c1 c2 c3 c4 c5 c6 c7 c32 c33; obtain ⟨c0, c1, c2, c3, c4, c5, c6, c7, c32, c33⟩ := cs; have h6 := q6.set 4 (.int .u64 (m : Int)) (d' := ⟨3, a, b, 0, m, 0, [], 0, Par.none, 0, false⟩) (B' := none) (c' := 0) rfl (Lies.nil _ _ _) (Nat.le_refl _) (Nat.zero_le _); have p := h6.ptr; have dd := h6.deed; clear q6)
    | (go_at_call 61; refine h6.askYes.mono ?_; rintro e w7 ⟨rfl, h7⟩; clear z p dd h6; have z := h7.thaw; have p := h7.ptr; have dd := h7.deed; have cs := h7.deed.cells; dsimp only at cs; clear c0 c1 c2 c3 c4 c5 c6 c7 c32 c33; obtain ⟨c0, c1, c2, c3, c4, c5, c6, c7, c32, c33⟩ := cs)
    | (go_at_call 47; refine (kh1 _).mono ?_; clear kh1; rintro e w' ⟨rfl, rfl⟩)
    | (go_at_call 47; refine (kh2 _).mono ?_; clear kh2; rintro e w' ⟨rfl, rfl⟩)
    | (go_at_call 47; refine (kh4 _).mono ?_; clear kh4; rintro e w' ⟨rfl, rfl⟩)
    | (go_at_call 47; refine (kh8 _).mono ?_; clear kh8; rintro e w' ⟨rfl, rfl⟩)
    | (go_at_call 47; refine (kh16 _).mono ?_; clear kh16; rintro e w' ⟨rfl, rfl⟩)
    | (go_at_call 47; refine (kh32 _).mono ?_; clear kh32; rintro e w' ⟨rfl, rfl⟩)
    | (go_at_call 47; refine (kh64 _).mono ?_; clear kh64; rintro e w' ⟨rfl, rfl⟩)
    | (go_at_call 47; refine (kh128 _).mono ?_; clear kh128; rintro e w' ⟨rfl, rfl⟩))
  have hfin := h7.again
  refine bodyPost_ret (res_deed1 Try.results41 rfl hfin.deed) rfl ⟨none, 0, rfl, hfin⟩
set_option maxRecDepth 100000 in
set_option maxHeartbeats 4000000 in
theorem get_top0 (rb : Nat) (FB : Nat → Prop) (bs : List Nat) (A : Option Addr) (cp g : Nat) (s : Nat × Nat) (a b : Nat) (s1 : Nat × Nat) (s2 : Nat × Nat) (s3 : Nat × Nat) (s4 : Nat × Nat) (w : World) (hR : ReaderAt w rb FB bs s A cp) (hg : w.heap[g]? = some (.cells #[.pointer (some ⟨rb, 0, none⟩), .int .i64 ((0 : Nat) : Int)] 88 (0, 0))) (hn : rb ≠ g) (hF : ∀ k, FB k → k < w.heap.size ∧ k ≠ g) (hbl : bs.length ≤ 140737488355328) (K1 : rdNum bs s 255 = (3, s1)) (K2 : rdNum bs s1 63 = (a, s2)) (K3 : rdNum bs s2 127 = (b, s3)) (K4 : rdNum bs s3 4611686018427387904 = (0, s4)) :
    Calls Try.prog 41 #[.pointer (some ⟨g, 0, none⟩)] w fun e w' => ∃ B c, e = .returned (.agg (Dd.vals ⟨3, a, b, 0, 0, 0, [], 0, Par.none, 0, false⟩ B c)) ∧ GetAt w rb FB bs A cp g w.heap.size s4 80 ⟨3, a, b, 0, 0, 0, [], 0, Par.none, 0, false⟩ B c w' := by
  have hz := zero_deed
  have h0 : GetAt w rb FB bs A cp g w.heap.size s 0 ⟨0, 0, 0, 0, 0, 0, [], 0, Par.none, 0, false⟩ none 0 (w.alloc (.cells (Dd.none.vals none 0) 39)) := GetAt.start w hR hg hn hF
  have z := h0.thaw
  have p := h0.ptr
  have dd := h0.deed
  have cs := h0.deed.cells
  dsimp only at cs
  obtain ⟨c0, c1, c2, c3, c4, c5, c6, c7, c32, c33⟩ := cs
  clear hR hg hn hF
  have kh1 : ∀ w, Calls Try.prog 47 #[.int .i64 67, .int .i64 1] w fun e w' => e = .returned (.bool true) ∧ w = w' := fun w => by have := has_is 67 1 w; rwa [hb67_1] at this
  have kh2 : ∀ w, Calls Try.prog 47 #[.int .i64 67, .int .i64 2] w fun e w' => e = .returned (.bool true) ∧ w = w' := fun w => by have := has_is 67 2 w; rwa [hb67_2] at this
  have kh4 : ∀ w, Calls Try.prog 47 #[.int .i64 67, .int .i64 4] w fun e w' => e = .returned (.bool false) ∧ w = w' := fun w => by have := has_is 67 4 w; rwa [hb67_4] at this
  have kh8 : ∀ w, Calls Try.prog 47 #[.int .i64 67, .int .i64 8] w fun e w' => e = .returned (.bool false) ∧ w = w' := fun w => by have := has_is 67 8 w; rwa [hb67_8] at this
  have kh16 : ∀ w, Calls Try.prog 47 #[.int .i64 67, .int .i64 16] w fun e w' => e = .returned (.bool false) ∧ w = w' := fun w => by have := has_is 67 16 w; rwa [hb67_16] at this
  have kh32 : ∀ w, Calls Try.prog 47 #[.int .i64 67, .int .i64 32] w fun e w' => e = .returned (.bool false) ∧ w = w' := fun w => by have := has_is 67 32 w; rwa [hb67_32] at this
  have kh64 : ∀ w, Calls Try.prog 47 #[.int .i64 67, .int .i64 64] w fun e w' => e = .returned (.bool true) ∧ w = w' := fun w => by have := has_is 67 64 w; rwa [hb67_64] at this
  have kh128 : ∀ w, Calls Try.prog 47 #[.int .i64 67, .int .i64 128] w fun e w' => e = .returned (.bool false) ∧ w = w' := fun w => by have := has_is 67 128 w; rwa [hb67_128] at this
  go_enter Try.func41, Try.ntmps41
  go_wp2_with (first
    | (refine load_deed _ rfl rfl _ _ _ _ _ rfl (by assumption) ?_)
    | (refine store_deed _ _ rfl rfl _ _ _ _ _ _ _ _ rfl rfl (by assumption) ?_)
    | (go_at_call 22; refine (h0.int 255 3 255 3 rfl rfl (by omega) K1).mono ?_; clear K1; rintro e w1 ⟨rfl, q1⟩; clear z p dd h0; have z := q1.thaw; have cs := q1.deed.cells; dsimp only at cs; clear c0 c1 c2 c3 c4 c5 c6 c7 c32 c33; obtain ⟨c0, c1, c2, c3, c4, c5, c6, c7, c32, c33⟩ := cs; have h1 := q1.set 0 (.int .i64 3) (d' := ⟨3, 0, 0, 0, 0, 0, [], 0, Par.none, 0, false⟩) (B' := none) (c' := 0) rfl (Lies.nil _ _ _) (Nat.le_refl _) (Nat.zero_le _); have p := h1.ptr; have dd := h1.deed; clear q1)
    | (go_at_call 45; refine (h1.used 67 rfl).mono ?_; rintro e w2 ⟨rfl, h2⟩; clear z p dd h1; have z := h2.thaw; have p := h2.ptr; have dd := h2.deed; have cs := h2.deed.cells; dsimp only at cs; clear c0 c1 c2 c3 c4 c5 c6 c7 c32 c33; obtain ⟨c0, c1, c2, c3, c4, c5, c6, c7, c32, c33⟩ := cs)
    | (go_at_call 61; refine h2.askYes.mono ?_; rintro e w3 ⟨rfl, h3⟩; clear z p dd h2; have z := h3.thaw; have p := h3.ptr; have dd := h3.deed; have cs := h3.deed.cells; dsimp only at cs; clear c0 c1 c2 c3 c4 c5 c6 c7 c32 c33; obtain ⟨c0, c1, c2, c3, c4, c5, c6, c7, c32, c33⟩ := cs)
    | (go_at_call 22; refine (h3.int 63 a 63 (a : Int) rfl rfl (by omega) K2).mono ?_; clear K2; rintro e w4 ⟨rfl, q4⟩; clear z p dd h3; have z := q4.thaw; have cs := q4.deed.cells; dsimp only at cs; clear c0 c1 c2 c3 c4 c5 c6 c7 c32 c33; obtain ⟨c0, c1, c2, c3, c4, c5, c6, c7, c32, c33⟩ := cs; have h4 := q4.set 1 (.int .i64 (a : Int)) (d' := ⟨3, a, 0, 0, 0, 0, [], 0, Par.none, 0, false⟩) (B' := none) (c' := 0) rfl (Lies.nil _ _ _) (Nat.le_refl _) (Nat.zero_le _); have p := h4.ptr; have dd := h4.deed; clear q4)
    | (go_at_call 22; refine (h4.int 127 b 127 (b : Int) rfl rfl (by omega) K3).mono ?_; clear K3; rintro e w5 ⟨rfl, q5⟩; clear z p dd h4; have z := q5.thaw; have cs := q5.deed.cells; dsimp only at cs; clear c0 c1 c2 c3 c4 c5 c6 c7 c32 c33; obtain ⟨c0, c1, c2, c3, c4, c5, c6, c7, c32, c33⟩ := cs; have h5 := q5.set 2 (.int .i64 (b : Int)) (d' := ⟨3, a, b, 0, 0, 0, [], 0, Par.none, 0, false⟩) (B' := none) (c' := 0) rfl (Lies.nil _ _ _) (Nat.le_refl _) (Nat.zero_le _); have p := h5.ptr; have dd := h5.deed; clear q5)
    | (go_at_call 64; refine (h5.num 4611686018427387904 0 4611686018427387904 rfl (by omega) K4).mono ?_; clear K4; rintro e w6 ⟨rfl, q6⟩; clear z p dd h5; have z := q6.thaw; have cs := q6.deed.cells; dsimp only at cs; clear c0 c1 c2 c3 c4 c5 c6 c7 c32 c33; obtain ⟨c0, c1, c2, c3, c4, c5, c6, c7, c32, c33⟩ := cs; have h6 := q6.set 4 (.int .u64 0) (d' := ⟨3, a, b, 0, 0, 0, [], 0, Par.none, 0, false⟩) (B' := none) (c' := 0) rfl (Lies.nil _ _ _) (Nat.le_refl _) (Nat.zero_le _); have p := h6.ptr; have dd := h6.deed; clear q6)
    | (go_at_call 61; refine h6.askNo.mono ?_; rintro e w7 ⟨rfl, h7⟩; clear z p dd h6; have z := h7.thaw; have p := h7.ptr; have dd := h7.deed; have cs := h7.deed.cells; dsimp only at cs; clear c0 c1 c2 c3 c4 c5 c6 c7 c32 c33; obtain ⟨c0, c1, c2, c3, c4, c5, c6, c7, c32, c33⟩ := cs)
    | (go_at_call 47; refine (kh1 _).mono ?_; clear kh1; rintro e w' ⟨rfl, rfl⟩)
    | (go_at_call 47; refine (kh2 _).mono ?_; clear kh2; rintro e w' ⟨rfl, rfl⟩)
    | (go_at_call 47; refine (kh4 _).mono ?_; clear kh4; rintro e w' ⟨rfl, rfl⟩)
    | (go_at_call 47; refine (kh8 _).mono ?_; clear kh8; rintro e w' ⟨rfl, rfl⟩)
    | (go_at_call 47; refine (kh16 _).mono ?_; clear kh16; rintro e w' ⟨rfl, rfl⟩)
    | (go_at_call 47; refine (kh32 _).mono ?_; clear kh32; rintro e w' ⟨rfl, rfl⟩)
    | (go_at_call 47; refine (kh64 _).mono ?_; clear kh64; rintro e w' ⟨rfl, rfl⟩)
    | (go_at_call 47; refine (kh128 _).mono ?_; clear kh128; rintro e w' ⟨rfl, rfl⟩))
  have hfin := h7.again
  refine bodyPost_ret (res_deed1 Try.results41 rfl hfin.deed) rfl ⟨none, 0, rfl, hfin⟩
end Go.Proofs.Ytokaclacejhppaa
namespace Go.Proofs.Ytokaclacejhppaa
open Go.RowKit
set_option linter.unusedVariables false
set_option linter.unusedSimpArgs false

theorem mask_bad (k : Nat) (hk : k = 0 ∨ 7 < k) : Dd.mask ⟨k, 0, 0, 0, 0, 0, [], 0, Par.none, 0, false⟩ = 0 := by
  unfold Dd.mask
  simp only
  rw [if_neg (by omega), if_neg (by omega), if_neg (by omega), if_neg (by omega), if_neg (by omega), if_neg (by omega), if_neg (by omega)]
set_option maxRecDepth 100000 in
set_option maxHeartbeats 4000000 in
theorem get_leave (rb : Nat) (FB : Nat → Prop) (bs : List Nat) (A : Option Addr) (cp g : Nat) (s : Nat × Nat) (a b : Nat) (s1 : Nat × Nat) (s2 : Nat × Nat) (s3 : Nat × Nat) (w : World) (hR : ReaderAt w rb FB bs s A cp) (hg : w.heap[g]? = some (.cells #[.pointer (some ⟨rb, 0, none⟩), .int .i64 ((0 : Nat) : Int)] 88 (0, 0))) (hn : rb ≠ g) (hF : ∀ k, FB k → k < w.heap.size ∧ k ≠ g) (hbl : bs.length ≤ 140737488355328) (K1 : rdNum bs s 255 = (4, s1)) (K2 : rdNum bs s1 63 = (a, s2)) (K3 : rdNum bs s2 127 = (b, s3)) :
    Calls Try.prog 41 #[.pointer (some ⟨g, 0, none⟩)] w fun e w' => ∃ B c, e = .returned (.agg (Dd.vals ⟨4, a, b, 0, 0, 0, [], 0, Par.none, 0, false⟩ B c)) ∧ GetAt w rb FB bs A cp g w.heap.size s3 0 ⟨4, a, b, 0, 0, 0, [], 0, Par.none, 0, false⟩ B c w' := by
  have hz := zero_deed
  have h0 : GetAt w rb FB bs A cp g w.heap.size s 0 ⟨0, 0, 0, 0, 0, 0, [], 0, Par.none, 0, false⟩ none 0 (w.alloc (.cells (Dd.none.vals none 0) 39)) := GetAt.start w hR hg hn hF
  have z := h0.thaw
  have p := h0.ptr
  have dd := h0.deed
  have cs := h0.deed.cells
  dsimp only at cs
  obtain ⟨c0, c1, c2, c3, c4, c5, c6, c7, c32, c33⟩ := cs
  clear hR hg hn hF
  have kh1 : ∀ w, Calls Try.prog 47 #[.int .i64 3, .int .i64 1] w fun e w' => e = .returned (.bool true) ∧ w = w' := fun w => by have := has_is 3 1 w; rwa [hb3_1] at this
  have kh2 : ∀ w, Calls Try.prog 47 #[.int .i64 3, .int .i64 2] w fun e w' => e = .returned (.bool true) ∧ w = w' := fun w => by have := has_is 3 2 w; rwa [hb3_2] at this
  have kh4 : ∀ w, Calls Try.prog 47 #[.int .i64 3, .int .i64 4] w fun e w' => e = .returned (.bool false) ∧ w = w' := fun w => by have := has_is 3 4 w; rwa [hb3_4] at this
  have kh8 : ∀ w, Calls Try.prog 47 #[.int .i64 3, .int .i64 8] w fun e w' => e = .returned (.bool false) ∧ w = w' := fun w => by have := has_is 3 8 w; rwa [hb3_8] at this
  have kh16 : ∀ w, Calls Try.prog 47 #[.int .i64 3, .int .i64 16] w fun e w' => e = .returned (.bool false) ∧ w = w' := fun w => by have := has_is 3 16 w; rwa [hb3_16] at this
  have kh32 : ∀ w, Calls Try.prog 47 #[.int .i64 3, .int .i64 32] w fun e w' => e = .returned (.bool false) ∧ w = w' := fun w => by have := has_is 3 32 w; rwa [hb3_32] at this
  have kh64 : ∀ w, Calls Try.prog 47 #[.int .i64 3, .int .i64 64] w fun e w' => e = .returned (.bool false) ∧ w = w' := fun w => by have := has_is 3 64 w; rwa [hb3_64] at this
  have kh128 : ∀ w, Calls Try.prog 47 #[.int .i64 3, .int .i64 128] w fun e w' => e = .returned (.bool false) ∧ w = w' := fun w => by have := has_is 3 128 w; rwa [hb3_128] at this
  go_enter Try.func41, Try.ntmps41
  go_wp2_with (first
    | (refine load_deed _ rfl rfl _ _ _ _ _ rfl (by assumption) ?_)
    | (refine store_deed _ _ rfl rfl _ _ _ _ _ _ _ _ rfl rfl (by assumption) ?_)
    | (go_at_call 22; refine (h0.int 255 4 255 4 rfl rfl (by omega) K1).mono ?_; clear K1; rintro e w1 ⟨rfl, q1⟩; clear z p dd h0; have z := q1.thaw; have cs := q1.deed.cells; dsimp only at cs; clear c0 c1 c2 c3 c4 c5 c6 c7 c32 c33; obtain ⟨c0, c1, c2, c3, c4, c5, c6, c7, c32, c33⟩ := cs; have h1 := q1.set 0 (.int .i64 4) (d' := ⟨4, 0, 0, 0, 0, 0, [], 0, Par.none, 0, false⟩) (B' := none) (c' := 0) rfl (Lies.nil _ _ _) (Nat.le_refl _) (Nat.zero_le _); have p := h1.ptr; have dd := h1.deed; clear q1)
    | (go_at_call 45; refine (h1.used 3 rfl).mono ?_; rintro e w2 ⟨rfl, h2⟩; clear z p dd h1; have z := h2.thaw; have p := h2.ptr; have dd := h2.deed; have cs := h2.deed.cells; dsimp only at cs; clear c0 c1 c2 c3 c4 c5 c6 c7 c32 c33; obtain ⟨c0, c1, c2, c3, c4, c5, c6, c7, c32, c33⟩ := cs)
    | (go_at_call 61; refine h2.askYes.mono ?_; rintro e w3 ⟨rfl, h3⟩; clear z p dd h2; have z := h3.thaw; have p := h3.ptr; have dd := h3.deed; have cs := h3.deed.cells; dsimp only at cs; clear c0 c1 c2 c3 c4 c5 c6 c7 c32 c33; obtain ⟨c0, c1, c2, c3, c4, c5, c6, c7, c32, c33⟩ := cs)
    | (go_at_call 22; refine (h3.int 63 a 63 (a : Int) rfl rfl (by omega) K2).mono ?_; clear K2; rintro e w4 ⟨rfl, q4⟩; clear z p dd h3; have z := q4.thaw; have cs := q4.deed.cells; dsimp only at cs; clear c0 c1 c2 c3 c4 c5 c6 c7 c32 c33; obtain ⟨c0, c1, c2, c3, c4, c5, c6, c7, c32, c33⟩ := cs; have h4 := q4.set 1 (.int .i64 (a : Int)) (d' := ⟨4, a, 0, 0, 0, 0, [], 0, Par.none, 0, false⟩) (B' := none) (c' := 0) rfl (Lies.nil _ _ _) (Nat.le_refl _) (Nat.zero_le _); have p := h4.ptr; have dd := h4.deed; clear q4)
    | (go_at_call 22; refine (h4.int 127 b 127 (b : Int) rfl rfl (by omega) K3).mono ?_; clear K3; rintro e w5 ⟨rfl, q5⟩; clear z p dd h4; have z := q5.thaw; have cs := q5.deed.cells; dsimp only at cs; clear c0 c1 c2 c3 c4 c5 c6 c7 c32 c33; obtain ⟨c0, c1, c2, c3, c4, c5, c6, c7, c32, c33⟩ := cs; have h5 := q5.set 2 (.int .i64 (b : Int)) (d' := ⟨4, a, b, 0, 0, 0, [], 0, Par.none, 0, false⟩) (B' := none) (c' := 0) rfl (Lies.nil _ _ _) (Nat.le_refl _) (Nat.zero_le _); have p := h5.ptr; have dd := h5.deed; clear q5)
    | (go_at_call 47; refine (kh1 _).mono ?_; clear kh1; rintro e w' ⟨rfl, rfl⟩)
    | (go_at_call 47; refine (kh2 _).mono ?_; clear kh2; rintro e w' ⟨rfl, rfl⟩)
    | (go_at_call 47; refine (kh4 _).mono ?_; clear kh4; rintro e w' ⟨rfl, rfl⟩)
    | (go_at_call 47; refine (kh8 _).mono ?_; clear kh8; rintro e w' ⟨rfl, rfl⟩)
    | (go_at_call 47; refine (kh16 _).mono ?_; clear kh16; rintro e w' ⟨rfl, rfl⟩)
    | (go_at_call 47; refine (kh32 _).mono ?_; clear kh32; rintro e w' ⟨rfl, rfl⟩)
    | (go_at_call 47; refine (kh64 _).mono ?_; clear kh64; rintro e w' ⟨rfl, rfl⟩)
    | (go_at_call 47; refine (kh128 _).mono ?_; clear kh128; rintro e w' ⟨rfl, rfl⟩))
  have hfin := h5.again
  refine bodyPost_ret (res_deed1 Try.results41 rfl hfin.deed) rfl ⟨none, 0, rfl, hfin⟩
set_option maxRecDepth 100000 in
set_option maxHeartbeats 4000000 in
theorem get_mark (rb : Nat) (FB : Nat → Prop) (bs : List Nat) (A : Option Addr) (cp g : Nat) (s : Nat × Nat) (ep : Nat) (xs : List Nat) (s1 : Nat × Nat) (s2 : Nat × Nat) (st : Nat × Nat) (w : World) (hR : ReaderAt w rb FB bs s A cp) (hg : w.heap[g]? = some (.cells #[.pointer (some ⟨rb, 0, none⟩), .int .i64 ((0 : Nat) : Int)] 88 (0, 0))) (hn : rb ≠ g) (hF : ∀ k, FB k → k < w.heap.size ∧ k ≠ g) (hbl : bs.length ≤ 140737488355328) (K1 : rdNum bs s 255 = (5, s1)) (K2 : rdNum bs s1 1073741824 = (ep, s2)) (KR : rdRaw bs s2 (32 : Nat) = (xs, st)) :
    Calls Try.prog 41 #[.pointer (some ⟨g, 0, none⟩)] w fun e w' => ∃ B c, e = .returned (.agg (Dd.vals ⟨5, 0, 0, 0, 0, ep, xs, 0, Par.none, 0, false⟩ B c)) ∧ GetAt w rb FB bs A cp g w.heap.size st 0 ⟨5, 0, 0, 0, 0, ep, xs, 0, Par.none, 0, false⟩ B c w' := by
  have hz := zero_deed
  have h0 : GetAt w rb FB bs A cp g w.heap.size s 0 ⟨0, 0, 0, 0, 0, 0, [], 0, Par.none, 0, false⟩ none 0 (w.alloc (.cells (Dd.none.vals none 0) 39)) := GetAt.start w hR hg hn hF
  have z := h0.thaw
  have p := h0.ptr
  have dd := h0.deed
  have cs := h0.deed.cells
  dsimp only at cs
  obtain ⟨c0, c1, c2, c3, c4, c5, c6, c7, c32, c33⟩ := cs
  clear hR hg hn hF
  have kh1 : ∀ w, Calls Try.prog 47 #[.int .i64 4, .int .i64 1] w fun e w' => e = .returned (.bool false) ∧ w = w' := fun w => by have := has_is 4 1 w; rwa [hb4_1] at this
  have kh2 : ∀ w, Calls Try.prog 47 #[.int .i64 4, .int .i64 2] w fun e w' => e = .returned (.bool false) ∧ w = w' := fun w => by have := has_is 4 2 w; rwa [hb4_2] at this
  have kh4 : ∀ w, Calls Try.prog 47 #[.int .i64 4, .int .i64 4] w fun e w' => e = .returned (.bool true) ∧ w = w' := fun w => by have := has_is 4 4 w; rwa [hb4_4] at this
  have kh8 : ∀ w, Calls Try.prog 47 #[.int .i64 4, .int .i64 8] w fun e w' => e = .returned (.bool false) ∧ w = w' := fun w => by have := has_is 4 8 w; rwa [hb4_8] at this
  have kh16 : ∀ w, Calls Try.prog 47 #[.int .i64 4, .int .i64 16] w fun e w' => e = .returned (.bool false) ∧ w = w' := fun w => by have := has_is 4 16 w; rwa [hb4_16] at this
  have kh32 : ∀ w, Calls Try.prog 47 #[.int .i64 4, .int .i64 32] w fun e w' => e = .returned (.bool false) ∧ w = w' := fun w => by have := has_is 4 32 w; rwa [hb4_32] at this
  have kh64 : ∀ w, Calls Try.prog 47 #[.int .i64 4, .int .i64 64] w fun e w' => e = .returned (.bool false) ∧ w = w' := fun w => by have := has_is 4 64 w; rwa [hb4_64] at this
  have kh128 : ∀ w, Calls Try.prog 47 #[.int .i64 4, .int .i64 128] w fun e w' => e = .returned (.bool false) ∧ w = w' := fun w => by have := has_is 4 128 w; rwa [hb4_128] at this
  go_enter Try.func41, Try.ntmps41
  go_wp2_with (first
    | (refine load_deed _ rfl rfl _ _ _ _ _ rfl (by assumption) ?_)
    | (refine store_deed _ _ rfl rfl _ _ _ _ _ _ _ _ rfl rfl (by assumption) ?_)
    | (go_at_call 22; refine (h0.int 255 5 255 5 rfl rfl (by omega) K1).mono ?_; clear K1; rintro e w1 ⟨rfl, q1⟩; clear z p dd h0; have z := q1.thaw; have cs := q1.deed.cells; dsimp only at cs; clear c0 c1 c2 c3 c4 c5 c6 c7 c32 c33; obtain ⟨c0, c1, c2, c3, c4, c5, c6, c7, c32, c33⟩ := cs; have h1 := q1.set 0 (.int .i64 5) (d' := ⟨5, 0, 0, 0, 0, 0, [], 0, Par.none, 0, false⟩) (B' := none) (c' := 0) rfl (Lies.nil _ _ _) (Nat.le_refl _) (Nat.zero_le _); have p := h1.ptr; have dd := h1.deed; clear q1)
    | (go_at_call 45; refine (h1.used 4 rfl).mono ?_; rintro e w2 ⟨rfl, h2⟩; clear z p dd h1; have z := h2.thaw; have p := h2.ptr; have dd := h2.deed; have cs := h2.deed.cells; dsimp only at cs; clear c0 c1 c2 c3 c4 c5 c6 c7 c32 c33; obtain ⟨c0, c1, c2, c3, c4, c5, c6, c7, c32, c33⟩ := cs)
    | (go_at_call 61; refine h2.askYes.mono ?_; rintro e w3 ⟨rfl, h3⟩; clear z p dd h2; have z := h3.thaw; have p := h3.ptr; have dd := h3.deed; have cs := h3.deed.cells; dsimp only at cs; clear c0 c1 c2 c3 c4 c5 c6 c7 c32 c33; obtain ⟨c0, c1, c2, c3, c4, c5, c6, c7, c32, c33⟩ := cs)
    | (go_at_call 47; refine (kh1 _).mono ?_; clear kh1; rintro e w' ⟨rfl, rfl⟩)
    | (go_at_call 47; refine (kh2 _).mono ?_; clear kh2; rintro e w' ⟨rfl, rfl⟩)
    | (go_at_call 47; refine (kh4 _).mono ?_; clear kh4; rintro e w' ⟨rfl, rfl⟩)
    | (go_at_call 47; refine (kh8 _).mono ?_; clear kh8; rintro e w' ⟨rfl, rfl⟩)
    | (go_at_call 47; refine (kh16 _).mono ?_; clear kh16; rintro e w' ⟨rfl, rfl⟩)
    | (go_at_call 47; refine (kh32 _).mono ?_; clear kh32; rintro e w' ⟨rfl, rfl⟩)
    | (go_at_call 47; refine (kh64 _).mono ?_; clear kh64; rintro e w' ⟨rfl, rfl⟩)
    | (go_at_call 47; refine (kh128 _).mono ?_; clear kh128; rintro e w' ⟨rfl, rfl⟩))
  have hd := h3.drew
  have pd := hd.ptr
  go_region_held3 (fun w' => w'.cell? ⟨g, 0, none⟩ = some (.pointer (some ⟨rb, 0, none⟩)))
    (first | exact pd | exact pa | exact pb | exact pc | exact pp)
    (first
      | (go_at_call 22; refine (hd.int 1073741824 ep 1073741824 (ep : Int) rfl rfl (by omega) K2).mono ?_; clear K2; rintro e wa ⟨rfl, qa⟩; have pa := qa.ptr)
      | (go_at_call 62; refine (qa.raw 32 32 rfl xs (by omega) hbl KR).mono ?_; clear KR; rintro e wb ⟨⟨B1, e1, rfl, l1, l2, l3⟩, qb⟩; clear z; have z := qb.thaw; have cs := qb.deed.cells; dsimp only at cs; clear c0 c1 c2 c3 c4 c5 c6 c7 c32 c33; obtain ⟨c0, c1, c2, c3, c4, c5, c6, c7, c32, c33⟩ := cs; have pb := qb.ptr; have qc := qb.set 5 (.int .i64 (ep : Int)) (d' := ⟨5, 0, 0, 0, 0, ep, [], 0, Par.none, 0, false⟩) (B' := none) (c' := 0) rfl (Lies.nil _ _ _) (Nat.le_refl _) (Nat.zero_le _); have pc := qc.ptr; have lc : Lies _ (fun k => w.heap.size < k) B1 xs := l1.grown (grown_set _ w.heap.size 5 (.int .i64 (ep : Int))) (fun k hk e => by injection e with e; omega); have h4 := qc.set 6 (.slice B1 xs.length e1) (d' := ⟨5, 0, 0, 0, 0, ep, xs, 0, Par.none, 0, false⟩) (B' := B1) (c' := e1) rfl lc l2 l3; have pp := h4.ptr; have dd := h4.deed))
  go_wp2_with (first
    | (refine load_deed _ rfl rfl _ _ _ _ _ rfl (by assumption) ?_)
    | (refine store_deed _ _ rfl rfl _ _ _ _ _ _ _ _ rfl rfl (by assumption) ?_)
    | (go_at_call 47; refine (kh1 _).mono ?_; clear kh1; rintro e w' ⟨rfl, rfl⟩)
    | (go_at_call 47; refine (kh2 _).mono ?_; clear kh2; rintro e w' ⟨rfl, rfl⟩)
    | (go_at_call 47; refine (kh4 _).mono ?_; clear kh4; rintro e w' ⟨rfl, rfl⟩)
    | (go_at_call 47; refine (kh8 _).mono ?_; clear kh8; rintro e w' ⟨rfl, rfl⟩)
    | (go_at_call 47; refine (kh16 _).mono ?_; clear kh16; rintro e w' ⟨rfl, rfl⟩)
    | (go_at_call 47; refine (kh32 _).mono ?_; clear kh32; rintro e w' ⟨rfl, rfl⟩)
    | (go_at_call 47; refine (kh64 _).mono ?_; clear kh64; rintro e w' ⟨rfl, rfl⟩)
    | (go_at_call 47; refine (kh128 _).mono ?_; clear kh128; rintro e w' ⟨rfl, rfl⟩))
  have hfin := h4.again
  refine bodyPost_ret (res_deed1 Try.results41 rfl hfin.deed) rfl ⟨B1, e1, rfl, hfin⟩
set_option maxRecDepth 100000 in
set_option maxHeartbeats 4000000 in
theorem get_other (rb : Nat) (FB : Nat → Prop) (bs : List Nat) (A : Option Addr) (cp g : Nat) (s : Nat × Nat) (a k : Nat) (s1 : Nat × Nat) (s2 : Nat × Nat) (s3 : Nat × Nat) (w : World) (hR : ReaderAt w rb FB bs s A cp) (hg : w.heap[g]? = some (.cells #[.pointer (some ⟨rb, 0, none⟩), .int .i64 ((0 : Nat) : Int)] 88 (0, 0))) (hn : rb ≠ g) (hF : ∀ k, FB k → k < w.heap.size ∧ k ≠ g) (hbl : bs.length ≤ 140737488355328) (K1 : rdNum bs s 255 = (6, s1)) (K2 : rdNum bs s1 63 = (a, s2)) (K3 : rdNum bs s2 255 = (k, s3)) (k3 : 3 ≤ k) (k4 : k ≤ 4) :
    Calls Try.prog 41 #[.pointer (some ⟨g, 0, none⟩)] w fun e w' => ∃ B c, e = .returned (.agg (Dd.vals ⟨6, a, 0, 0, 0, 0, [], k, Par.none, 0, false⟩ B c)) ∧ GetAt w rb FB bs A cp g w.heap.size s3 0 ⟨6, a, 0, 0, 0, 0, [], k, Par.none, 0, false⟩ B c w' := by
  have hz := zero_deed
  have h0 : GetAt w rb FB bs A cp g w.heap.size s 0 ⟨0, 0, 0, 0, 0, 0, [], 0, Par.none, 0, false⟩ none 0 (w.alloc (.cells (Dd.none.vals none 0) 39)) := GetAt.start w hR hg hn hF
  have z := h0.thaw
  have p := h0.ptr
  have dd := h0.deed
  have cs := h0.deed.cells
  dsimp only at cs
  obtain ⟨c0, c1, c2, c3, c4, c5, c6, c7, c32, c33⟩ := cs
  clear hR hg hn hF
  have e1 : decide (1 ≤ k) = true := by simp; omega
  have e2 : decide (k ≤ 4) = true := by simp; omega
  have e3 : decide ((1 : Int) ≤ (k : Int)) = true := by simp; omega
  have e4 : decide ((k : Int) ≤ 4) = true := by simp; omega
  have kh1 : ∀ w, Calls Try.prog 47 #[.int .i64 9, .int .i64 1] w fun e w' => e = .returned (.bool true) ∧ w = w' := fun w => by have := has_is 9 1 w; rwa [hb9_1] at this
  have kh2 : ∀ w, Calls Try.prog 47 #[.int .i64 9, .int .i64 2] w fun e w' => e = .returned (.bool false) ∧ w = w' := fun w => by have := has_is 9 2 w; rwa [hb9_2] at this
  have kh4 : ∀ w, Calls Try.prog 47 #[.int .i64 9, .int .i64 4] w fun e w' => e = .returned (.bool false) ∧ w = w' := fun w => by have := has_is 9 4 w; rwa [hb9_4] at this
  have kh8 : ∀ w, Calls Try.prog 47 #[.int .i64 9, .int .i64 8] w fun e w' => e = .returned (.bool true) ∧ w = w' := fun w => by have := has_is 9 8 w; rwa [hb9_8] at this
  have kh16 : ∀ w, Calls Try.prog 47 #[.int .i64 9, .int .i64 16] w fun e w' => e = .returned (.bool false) ∧ w = w' := fun w => by have := has_is 9 16 w; rwa [hb9_16] at this
  have kh32 : ∀ w, Calls Try.prog 47 #[.int .i64 9, .int .i64 32] w fun e w' => e = .returned (.bool false) ∧ w = w' := fun w => by have := has_is 9 32 w; rwa [hb9_32] at this
  have kh64 : ∀ w, Calls Try.prog 47 #[.int .i64 9, .int .i64 64] w fun e w' => e = .returned (.bool false) ∧ w = w' := fun w => by have := has_is 9 64 w; rwa [hb9_64] at this
  have kh128 : ∀ w, Calls Try.prog 47 #[.int .i64 9, .int .i64 128] w fun e w' => e = .returned (.bool false) ∧ w = w' := fun w => by have := has_is 9 128 w; rwa [hb9_128] at this
  go_enter Try.func41, Try.ntmps41
  go_wp2_with (first
    | (refine load_deed _ rfl rfl _ _ _ _ _ rfl (by assumption) ?_)
    | (refine store_deed _ _ rfl rfl _ _ _ _ _ _ _ _ rfl rfl (by assumption) ?_)
    | (go_at_call 22; refine (h0.int 255 6 255 6 rfl rfl (by omega) K1).mono ?_; clear K1; rintro e w1 ⟨rfl, q1⟩; clear z p dd h0; have z := q1.thaw; have cs := q1.deed.cells; dsimp only at cs; clear c0 c1 c2 c3 c4 c5 c6 c7 c32 c33; obtain ⟨c0, c1, c2, c3, c4, c5, c6, c7, c32, c33⟩ := cs; have h1 := q1.set 0 (.int .i64 6) (d' := ⟨6, 0, 0, 0, 0, 0, [], 0, Par.none, 0, false⟩) (B' := none) (c' := 0) rfl (Lies.nil _ _ _) (Nat.le_refl _) (Nat.zero_le _); have p := h1.ptr; have dd := h1.deed; clear q1)
    | (go_at_call 45; refine (h1.used 9 rfl).mono ?_; rintro e w2 ⟨rfl, h2⟩; clear z p dd h1; have z := h2.thaw; have p := h2.ptr; have dd := h2.deed; have cs := h2.deed.cells; dsimp only at cs; clear c0 c1 c2 c3 c4 c5 c6 c7 c32 c33; obtain ⟨c0, c1, c2, c3, c4, c5, c6, c7, c32, c33⟩ := cs)
    | (go_at_call 61; refine h2.askYes.mono ?_; rintro e w3 ⟨rfl, h3⟩; clear z p dd h2; have z := h3.thaw; have p := h3.ptr; have dd := h3.deed; have cs := h3.deed.cells; dsimp only at cs; clear c0 c1 c2 c3 c4 c5 c6 c7 c32 c33; obtain ⟨c0, c1, c2, c3, c4, c5, c6, c7, c32, c33⟩ := cs)
    | (go_at_call 22; refine (h3.int 63 a 63 (a : Int) rfl rfl (by omega) K2).mono ?_; clear K2; rintro e w4 ⟨rfl, q4⟩; clear z p dd h3; have z := q4.thaw; have cs := q4.deed.cells; dsimp only at cs; clear c0 c1 c2 c3 c4 c5 c6 c7 c32 c33; obtain ⟨c0, c1, c2, c3, c4, c5, c6, c7, c32, c33⟩ := cs; have h4 := q4.set 1 (.int .i64 (a : Int)) (d' := ⟨6, a, 0, 0, 0, 0, [], 0, Par.none, 0, false⟩) (B' := none) (c' := 0) rfl (Lies.nil _ _ _) (Nat.le_refl _) (Nat.zero_le _); have p := h4.ptr; have dd := h4.deed; clear q4)
    | (go_at_call 22; refine (h4.int 255 k 255 (k : Int) rfl rfl (by omega) K3).mono ?_; clear K3; rintro e w5 ⟨rfl, q5⟩; clear z p dd h4; have z := q5.thaw; have cs := q5.deed.cells; dsimp only at cs; clear c0 c1 c2 c3 c4 c5 c6 c7 c32 c33; obtain ⟨c0, c1, c2, c3, c4, c5, c6, c7, c32, c33⟩ := cs; have h5 := q5.set 7 (.int .i64 (k : Int)) (d' := ⟨6, a, 0, 0, 0, 0, [], k, Par.none, 0, false⟩) (B' := none) (c' := 0) rfl (Lies.nil _ _ _) (Nat.le_refl _) (Nat.zero_le _); have p := h5.ptr; have dd := h5.deed; clear q5)
    | (go_at_call 61; refine h5.askYes.mono ?_; rintro e w6 ⟨rfl, h6⟩; clear z p dd h5; have z := h6.thaw; have p := h6.ptr; have dd := h6.deed; have cs := h6.deed.cells; dsimp only at cs; clear c0 c1 c2 c3 c4 c5 c6 c7 c32 c33; obtain ⟨c0, c1, c2, c3, c4, c5, c6, c7, c32, c33⟩ := cs)
    | (go_at_call 45; refine (h6.used 9 (by show (if (k : Int) = 1 then (25 : Int) else if (k : Int) = 2 then 105 else 9) = 9; rw [if_neg (by omega), if_neg (by omega)])).mono ?_; rintro e w7 ⟨rfl, h7⟩; clear z p dd h6; have z := h7.thaw; have p := h7.ptr; have dd := h7.deed; have cs := h7.deed.cells; dsimp only at cs; clear c0 c1 c2 c3 c4 c5 c6 c7 c32 c33; obtain ⟨c0, c1, c2, c3, c4, c5, c6, c7, c32, c33⟩ := cs)
    | (go_at_call 47; refine (kh1 _).mono ?_; clear kh1; rintro e w' ⟨rfl, rfl⟩)
    | (go_at_call 47; refine (kh2 _).mono ?_; clear kh2; rintro e w' ⟨rfl, rfl⟩)
    | (go_at_call 47; refine (kh4 _).mono ?_; clear kh4; rintro e w' ⟨rfl, rfl⟩)
    | (go_at_call 47; refine (kh8 _).mono ?_; clear kh8; rintro e w' ⟨rfl, rfl⟩)
    | (go_at_call 47; refine (kh16 _).mono ?_; clear kh16; rintro e w' ⟨rfl, rfl⟩)
    | (go_at_call 47; refine (kh32 _).mono ?_; clear kh32; rintro e w' ⟨rfl, rfl⟩)
    | (go_at_call 47; refine (kh64 _).mono ?_; clear kh64; rintro e w' ⟨rfl, rfl⟩)
    | (go_at_call 47; refine (kh128 _).mono ?_; clear kh128; rintro e w' ⟨rfl, rfl⟩))
  have hfin := h7.again
  refine bodyPost_ret (res_deed1 Try.results41 rfl hfin.deed) rfl ⟨none, 0, rfl, hfin⟩
set_option maxRecDepth 100000 in
set_option maxHeartbeats 4000000 in
theorem get_otherhi (rb : Nat) (FB : Nat → Prop) (bs : List Nat) (A : Option Addr) (cp g : Nat) (s : Nat × Nat) (a k : Nat) (s1 : Nat × Nat) (s2 : Nat × Nat) (s3 : Nat × Nat) (w : World) (hR : ReaderAt w rb FB bs s A cp) (hg : w.heap[g]? = some (.cells #[.pointer (some ⟨rb, 0, none⟩), .int .i64 ((0 : Nat) : Int)] 88 (0, 0))) (hn : rb ≠ g) (hF : ∀ k, FB k → k < w.heap.size ∧ k ≠ g) (hbl : bs.length ≤ 140737488355328) (K1 : rdNum bs s 255 = (6, s1)) (K2 : rdNum bs s1 63 = (a, s2)) (K3 : rdNum bs s2 255 = (k, s3)) (k4 : 4 < k) :
    Calls Try.prog 41 #[.pointer (some ⟨g, 0, none⟩)] w fun e w' => ∃ B c, e = .returned (.agg (Dd.vals ⟨6, a, 0, 0, 0, 0, [], k, Par.none, 0, false⟩ B c)) ∧ GetAt w rb FB bs A cp g w.heap.size s3 80 ⟨6, a, 0, 0, 0, 0, [], k, Par.none, 0, false⟩ B c w' := by
  have hz := zero_deed
  have h0 : GetAt w rb FB bs A cp g w.heap.size s 0 ⟨0, 0, 0, 0, 0, 0, [], 0, Par.none, 0, false⟩ none 0 (w.alloc (.cells (Dd.none.vals none 0) 39)) := GetAt.start w hR hg hn hF
  have z := h0.thaw
  have p := h0.ptr
  have dd := h0.deed
  have cs := h0.deed.cells
  dsimp only at cs
  obtain ⟨c0, c1, c2, c3, c4, c5, c6, c7, c32, c33⟩ := cs
  clear hR hg hn hF
  have e1 : decide (1 ≤ k) = true := by simp; omega
  have e2 : decide (k ≤ 4) = false := by simp; omega
  have e3 : decide ((1 : Int) ≤ (k : Int)) = true := by simp; omega
  have e4 : decide ((k : Int) ≤ 4) = false := by simp; omega
  have kh1 : ∀ w, Calls Try.prog 47 #[.int .i64 9, .int .i64 1] w fun e w' => e = .returned (.bool true) ∧ w = w' := fun w => by have := has_is 9 1 w; rwa [hb9_1] at this
  have kh2 : ∀ w, Calls Try.prog 47 #[.int .i64 9, .int .i64 2] w fun e w' => e = .returned (.bool false) ∧ w = w' := fun w => by have := has_is 9 2 w; rwa [hb9_2] at this
  have kh4 : ∀ w, Calls Try.prog 47 #[.int .i64 9, .int .i64 4] w fun e w' => e = .returned (.bool false) ∧ w = w' := fun w => by have := has_is 9 4 w; rwa [hb9_4] at this
  have kh8 : ∀ w, Calls Try.prog 47 #[.int .i64 9, .int .i64 8] w fun e w' => e = .returned (.bool true) ∧ w = w' := fun w => by have := has_is 9 8 w; rwa [hb9_8] at this
  have kh16 : ∀ w, Calls Try.prog 47 #[.int .i64 9, .int .i64 16] w fun e w' => e = .returned (.bool false) ∧ w = w' := fun w => by have := has_is 9 16 w; rwa [hb9_16] at this
  have kh32 : ∀ w, Calls Try.prog 47 #[.int .i64 9, .int .i64 32] w fun e w' => e = .returned (.bool false) ∧ w = w' := fun w => by have := has_is 9 32 w; rwa [hb9_32] at this
  have kh64 : ∀ w, Calls Try.prog 47 #[.int .i64 9, .int .i64 64] w fun e w' => e = .returned (.bool false) ∧ w = w' := fun w => by have := has_is 9 64 w; rwa [hb9_64] at this
  have kh128 : ∀ w, Calls Try.prog 47 #[.int .i64 9, .int .i64 128] w fun e w' => e = .returned (.bool false) ∧ w = w' := fun w => by have := has_is 9 128 w; rwa [hb9_128] at this
  go_enter Try.func41, Try.ntmps41
  go_wp2_with (first
    | (refine load_deed _ rfl rfl _ _ _ _ _ rfl (by assumption) ?_)
    | (refine store_deed _ _ rfl rfl _ _ _ _ _ _ _ _ rfl rfl (by assumption) ?_)
    | (go_at_call 22; refine (h0.int 255 6 255 6 rfl rfl (by omega) K1).mono ?_; clear K1; rintro e w1 ⟨rfl, q1⟩; clear z p dd h0; have z := q1.thaw; have cs := q1.deed.cells; dsimp only at cs; clear c0 c1 c2 c3 c4 c5 c6 c7 c32 c33; obtain ⟨c0, c1, c2, c3, c4, c5, c6, c7, c32, c33⟩ := cs; have h1 := q1.set 0 (.int .i64 6) (d' := ⟨6, 0, 0, 0, 0, 0, [], 0, Par.none, 0, false⟩) (B' := none) (c' := 0) rfl (Lies.nil _ _ _) (Nat.le_refl _) (Nat.zero_le _); have p := h1.ptr; have dd := h1.deed; clear q1)
    | (go_at_call 45; refine (h1.used 9 rfl).mono ?_; rintro e w2 ⟨rfl, h2⟩; clear z p dd h1; have z := h2.thaw; have p := h2.ptr; have dd := h2.deed; have cs := h2.deed.cells; dsimp only at cs; clear c0 c1 c2 c3 c4 c5 c6 c7 c32 c33; obtain ⟨c0, c1, c2, c3, c4, c5, c6, c7, c32, c33⟩ := cs)
    | (go_at_call 61; refine h2.askYes.mono ?_; rintro e w3 ⟨rfl, h3⟩; clear z p dd h2; have z := h3.thaw; have p := h3.ptr; have dd := h3.deed; have cs := h3.deed.cells; dsimp only at cs; clear c0 c1 c2 c3 c4 c5 c6 c7 c32 c33; obtain ⟨c0, c1, c2, c3, c4, c5, c6, c7, c32, c33⟩ := cs)
    | (go_at_call 22; refine (h3.int 63 a 63 (a : Int) rfl rfl (by omega) K2).mono ?_; clear K2; rintro e w4 ⟨rfl, q4⟩; clear z p dd h3; have z := q4.thaw; have cs := q4.deed.cells; dsimp only at cs; clear c0 c1 c2 c3 c4 c5 c6 c7 c32 c33; obtain ⟨c0, c1, c2, c3, c4, c5, c6, c7, c32, c33⟩ := cs; have h4 := q4.set 1 (.int .i64 (a : Int)) (d' := ⟨6, a, 0, 0, 0, 0, [], 0, Par.none, 0, false⟩) (B' := none) (c' := 0) rfl (Lies.nil _ _ _) (Nat.le_refl _) (Nat.zero_le _); have p := h4.ptr; have dd := h4.deed; clear q4)
    | (go_at_call 22; refine (h4.int 255 k 255 (k : Int) rfl rfl (by omega) K3).mono ?_; clear K3; rintro e w5 ⟨rfl, q5⟩; clear z p dd h4; have z := q5.thaw; have cs := q5.deed.cells; dsimp only at cs; clear c0 c1 c2 c3 c4 c5 c6 c7 c32 c33; obtain ⟨c0, c1, c2, c3, c4, c5, c6, c7, c32, c33⟩ := cs; have h5 := q5.set 7 (.int .i64 (k : Int)) (d' := ⟨6, a, 0, 0, 0, 0, [], k, Par.none, 0, false⟩) (B' := none) (c' := 0) rfl (Lies.nil _ _ _) (Nat.le_refl _) (Nat.zero_le _); have p := h5.ptr; have dd := h5.deed; clear q5)
    | (go_at_call 61; refine h5.askNo.mono ?_; rintro e w6 ⟨rfl, h6⟩; clear z p dd h5; have z := h6.thaw; have p := h6.ptr; have dd := h6.deed; have cs := h6.deed.cells; dsimp only at cs; clear c0 c1 c2 c3 c4 c5 c6 c7 c32 c33; obtain ⟨c0, c1, c2, c3, c4, c5, c6, c7, c32, c33⟩ := cs)
    | (go_at_call 45; refine (h6.used 9 (by show (if (k : Int) = 1 then (25 : Int) else if (k : Int) = 2 then 105 else 9) = 9; rw [if_neg (by omega), if_neg (by omega)])).mono ?_; rintro e w7 ⟨rfl, h7⟩; clear z p dd h6; have z := h7.thaw; have p := h7.ptr; have dd := h7.deed; have cs := h7.deed.cells; dsimp only at cs; clear c0 c1 c2 c3 c4 c5 c6 c7 c32 c33; obtain ⟨c0, c1, c2, c3, c4, c5, c6, c7, c32, c33⟩ := cs)
    | (go_at_call 47; refine (kh1 _).mono ?_; clear kh1; rintro e w' ⟨rfl, rfl⟩)
    | (go_at_call 47; refine (kh2 _).mono ?_; clear kh2; rintro e w' ⟨rfl, rfl⟩)
    | (go_at_call 47; refine (kh4 _).mono ?_; clear kh4; rintro e w' ⟨rfl, rfl⟩)
    | (go_at_call 47; refine (kh8 _).mono ?_; clear kh8; rintro e w' ⟨rfl, rfl⟩)
    | (go_at_call 47; refine (kh16 _).mono ?_; clear kh16; rintro e w' ⟨rfl, rfl⟩)
    | (go_at_call 47; refine (kh32 _).mono ?_; clear kh32; rintro e w' ⟨rfl, rfl⟩)
    | (go_at_call 47; refine (kh64 _).mono ?_; clear kh64; rintro e w' ⟨rfl, rfl⟩)
    | (go_at_call 47; refine (kh128 _).mono ?_; clear kh128; rintro e w' ⟨rfl, rfl⟩))
  have hfin := h7.again
  refine bodyPost_ret (res_deed1 Try.results41 rfl hfin.deed) rfl ⟨none, 0, rfl, hfin⟩
set_option maxRecDepth 100000 in
set_option maxHeartbeats 4000000 in
theorem get_other0 (rb : Nat) (FB : Nat → Prop) (bs : List Nat) (A : Option Addr) (cp g : Nat) (s : Nat × Nat) (a : Nat) (s1 : Nat × Nat) (s2 : Nat × Nat) (s3 : Nat × Nat) (w : World) (hR : ReaderAt w rb FB bs s A cp) (hg : w.heap[g]? = some (.cells #[.pointer (some ⟨rb, 0, none⟩), .int .i64 ((0 : Nat) : Int)] 88 (0, 0))) (hn : rb ≠ g) (hF : ∀ k, FB k → k < w.heap.size ∧ k ≠ g) (hbl : bs.length ≤ 140737488355328) (K1 : rdNum bs s 255 = (6, s1)) (K2 : rdNum bs s1 63 = (a, s2)) (K3 : rdNum bs s2 255 = (0, s3)) :
    Calls Try.prog 41 #[.pointer (some ⟨g, 0, none⟩)] w fun e w' => ∃ B c, e = .returned (.agg (Dd.vals ⟨6, a, 0, 0, 0, 0, [], 0, Par.none, 0, false⟩ B c)) ∧ GetAt w rb FB bs A cp g w.heap.size s3 80 ⟨6, a, 0, 0, 0, 0, [], 0, Par.none, 0, false⟩ B c w' := by
  have hz := zero_deed
  have h0 : GetAt w rb FB bs A cp g w.heap.size s 0 ⟨0, 0, 0, 0, 0, 0, [], 0, Par.none, 0, false⟩ none 0 (w.alloc (.cells (Dd.none.vals none 0) 39)) := GetAt.start w hR hg hn hF
  have z := h0.thaw
  have p := h0.ptr
  have dd := h0.deed
  have cs := h0.deed.cells
  dsimp only at cs
  obtain ⟨c0, c1, c2, c3, c4, c5, c6, c7, c32, c33⟩ := cs
  clear hR hg hn hF
  have kh1 : ∀ w, Calls Try.prog 47 #[.int .i64 9, .int .i64 1] w fun e w' => e = .returned (.bool true) ∧ w = w' := fun w => by have := has_is 9 1 w; rwa [hb9_1] at this
  have kh2 : ∀ w, Calls Try.prog 47 #[.int .i64 9, .int .i64 2] w fun e w' => e = .returned (.bool false) ∧ w = w' := fun w => by have := has_is 9 2 w; rwa [hb9_2] at this
  have kh4 : ∀ w, Calls Try.prog 47 #[.int .i64 9, .int .i64 4] w fun e w' => e = .returned (.bool false) ∧ w = w' := fun w => by have := has_is 9 4 w; rwa [hb9_4] at this
  have kh8 : ∀ w, Calls Try.prog 47 #[.int .i64 9, .int .i64 8] w fun e w' => e = .returned (.bool true) ∧ w = w' := fun w => by have := has_is 9 8 w; rwa [hb9_8] at this
  have kh16 : ∀ w, Calls Try.prog 47 #[.int .i64 9, .int .i64 16] w fun e w' => e = .returned (.bool false) ∧ w = w' := fun w => by have := has_is 9 16 w; rwa [hb9_16] at this
  have kh32 : ∀ w, Calls Try.prog 47 #[.int .i64 9, .int .i64 32] w fun e w' => e = .returned (.bool false) ∧ w = w' := fun w => by have := has_is 9 32 w; rwa [hb9_32] at this
  have kh64 : ∀ w, Calls Try.prog 47 #[.int .i64 9, .int .i64 64] w fun e w' => e = .returned (.bool false) ∧ w = w' := fun w => by have := has_is 9 64 w; rwa [hb9_64] at this
  have kh128 : ∀ w, Calls Try.prog 47 #[.int .i64 9, .int .i64 128] w fun e w' => e = .returned (.bool false) ∧ w = w' := fun w => by have := has_is 9 128 w; rwa [hb9_128] at this
  go_enter Try.func41, Try.ntmps41
  go_wp2_with (first
    | (refine load_deed _ rfl rfl _ _ _ _ _ rfl (by assumption) ?_)
    | (refine store_deed _ _ rfl rfl _ _ _ _ _ _ _ _ rfl rfl (by assumption) ?_)
    | (go_at_call 22; refine (h0.int 255 6 255 6 rfl rfl (by omega) K1).mono ?_; clear K1; rintro e w1 ⟨rfl, q1⟩; clear z p dd h0; have z := q1.thaw; have cs := q1.deed.cells; dsimp only at cs; clear c0 c1 c2 c3 c4 c5 c6 c7 c32 c33; obtain ⟨c0, c1, c2, c3, c4, c5, c6, c7, c32, c33⟩ := cs; have h1 := q1.set 0 (.int .i64 6) (d' := ⟨6, 0, 0, 0, 0, 0, [], 0, Par.none, 0, false⟩) (B' := none) (c' := 0) rfl (Lies.nil _ _ _) (Nat.le_refl _) (Nat.zero_le _); have p := h1.ptr; have dd := h1.deed; clear q1)
    | (go_at_call 45; refine (h1.used 9 rfl).mono ?_; rintro e w2 ⟨rfl, h2⟩; clear z p dd h1; have z := h2.thaw; have p := h2.ptr; have dd := h2.deed; have cs := h2.deed.cells; dsimp only at cs; clear c0 c1 c2 c3 c4 c5 c6 c7 c32 c33; obtain ⟨c0, c1, c2, c3, c4, c5, c6, c7, c32, c33⟩ := cs)
    | (go_at_call 61; refine h2.askYes.mono ?_; rintro e w3 ⟨rfl, h3⟩; clear z p dd h2; have z := h3.thaw; have p := h3.ptr; have dd := h3.deed; have cs := h3.deed.cells; dsimp only at cs; clear c0 c1 c2 c3 c4 c5 c6 c7 c32 c33; obtain ⟨c0, c1, c2, c3, c4, c5, c6, c7, c32, c33⟩ := cs)
    | (go_at_call 22; refine (h3.int 63 a 63 (a : Int) rfl rfl (by omega) K2).mono ?_; clear K2; rintro e w4 ⟨rfl, q4⟩; clear z p dd h3; have z := q4.thaw; have cs := q4.deed.cells; dsimp only at cs; clear c0 c1 c2 c3 c4 c5 c6 c7 c32 c33; obtain ⟨c0, c1, c2, c3, c4, c5, c6, c7, c32, c33⟩ := cs; have h4 := q4.set 1 (.int .i64 (a : Int)) (d' := ⟨6, a, 0, 0, 0, 0, [], 0, Par.none, 0, false⟩) (B' := none) (c' := 0) rfl (Lies.nil _ _ _) (Nat.le_refl _) (Nat.zero_le _); have p := h4.ptr; have dd := h4.deed; clear q4)
    | (go_at_call 22; refine (h4.int 255 0 255 0 rfl rfl (by omega) K3).mono ?_; clear K3; rintro e w5 ⟨rfl, q5⟩; clear z p dd h4; have z := q5.thaw; have cs := q5.deed.cells; dsimp only at cs; clear c0 c1 c2 c3 c4 c5 c6 c7 c32 c33; obtain ⟨c0, c1, c2, c3, c4, c5, c6, c7, c32, c33⟩ := cs; have h5 := q5.set 7 (.int .i64 0) (d' := ⟨6, a, 0, 0, 0, 0, [], 0, Par.none, 0, false⟩) (B' := none) (c' := 0) rfl (Lies.nil _ _ _) (Nat.le_refl _) (Nat.zero_le _); have p := h5.ptr; have dd := h5.deed; clear q5)
    | (go_at_call 61; refine h5.askNo.mono ?_; rintro e w6 ⟨rfl, h6⟩; clear z p dd h5; have z := h6.thaw; have p := h6.ptr; have dd := h6.deed; have cs := h6.deed.cells; dsimp only at cs; clear c0 c1 c2 c3 c4 c5 c6 c7 c32 c33; obtain ⟨c0, c1, c2, c3, c4, c5, c6, c7, c32, c33⟩ := cs)
    | (go_at_call 45; refine (h6.used 9 rfl).mono ?_; rintro e w7 ⟨rfl, h7⟩; clear z p dd h6; have z := h7.thaw; have p := h7.ptr; have dd := h7.deed; have cs := h7.deed.cells; dsimp only at cs; clear c0 c1 c2 c3 c4 c5 c6 c7 c32 c33; obtain ⟨c0, c1, c2, c3, c4, c5, c6, c7, c32, c33⟩ := cs)
    | (go_at_call 47; refine (kh1 _).mono ?_; clear kh1; rintro e w' ⟨rfl, rfl⟩)
    | (go_at_call 47; refine (kh2 _).mono ?_; clear kh2; rintro e w' ⟨rfl, rfl⟩)
    | (go_at_call 47; refine (kh4 _).mono ?_; clear kh4; rintro e w' ⟨rfl, rfl⟩)
    | (go_at_call 47; refine (kh8 _).mono ?_; clear kh8; rintro e w' ⟨rfl, rfl⟩)
    | (go_at_call 47; refine (kh16 _).mono ?_; clear kh16; rintro e w' ⟨rfl, rfl⟩)
    | (go_at_call 47; refine (kh32 _).mono ?_; clear kh32; rintro e w' ⟨rfl, rfl⟩)
    | (go_at_call 47; refine (kh64 _).mono ?_; clear kh64; rintro e w' ⟨rfl, rfl⟩)
    | (go_at_call 47; refine (kh128 _).mono ?_; clear kh128; rintro e w' ⟨rfl, rfl⟩))
  have hfin := h7.again
  refine bodyPost_ret (res_deed1 Try.results41 rfl hfin.deed) rfl ⟨none, 0, rfl, hfin⟩
set_option maxRecDepth 100000 in
set_option maxHeartbeats 4000000 in
theorem get_vote (rb : Nat) (FB : Nat → Prop) (bs : List Nat) (A : Option Addr) (cp g : Nat) (s : Nat × Nat) (a b n yv : Nat) (s1 : Nat × Nat) (s2 : Nat × Nat) (s3 : Nat × Nat) (s4 : Nat × Nat) (s5 : Nat × Nat) (w : World) (hR : ReaderAt w rb FB bs s A cp) (hg : w.heap[g]? = some (.cells #[.pointer (some ⟨rb, 0, none⟩), .int .i64 ((0 : Nat) : Int)] 88 (0, 0))) (hn : rb ≠ g) (hF : ∀ k, FB k → k < w.heap.size ∧ k ≠ g) (hbl : bs.length ≤ 140737488355328) (K1 : rdNum bs s 255 = (7, s1)) (K2 : rdNum bs s1 63 = (a, s2)) (K3 : rdNum bs s2 127 = (b, s3)) (K4 : rdNum bs s3 31 = (n, s4)) (K5 : rdNum bs s4 1 = (yv, s5)) :
    Calls Try.prog 41 #[.pointer (some ⟨g, 0, none⟩)] w fun e w' => ∃ B c, e = .returned (.agg (Dd.vals ⟨7, a, b, 0, 0, 0, [], 0, Par.none, n, (decide (yv = 1))⟩ B c)) ∧ GetAt w rb FB bs A cp g w.heap.size s5 0 ⟨7, a, b, 0, 0, 0, [], 0, Par.none, n, (decide (yv = 1))⟩ B c w' := by
  have hz := zero_deed
  have h0 : GetAt w rb FB bs A cp g w.heap.size s 0 ⟨0, 0, 0, 0, 0, 0, [], 0, Par.none, 0, false⟩ none 0 (w.alloc (.cells (Dd.none.vals none 0) 39)) := GetAt.start w hR hg hn hF
  have z := h0.thaw
  have p := h0.ptr
  have dd := h0.deed
  have cs := h0.deed.cells
  dsimp only at cs
  obtain ⟨c0, c1, c2, c3, c4, c5, c6, c7, c32, c33⟩ := cs
  clear hR hg hn hF
  have kh1 : ∀ w, Calls Try.prog 47 #[.int .i64 131, .int .i64 1] w fun e w' => e = .returned (.bool true) ∧ w = w' := fun w => by have := has_is 131 1 w; rwa [hb131_1] at this
  have kh2 : ∀ w, Calls Try.prog 47 #[.int .i64 131, .int .i64 2] w fun e w' => e = .returned (.bool true) ∧ w = w' := fun w => by have := has_is 131 2 w; rwa [hb131_2] at this
  have kh4 : ∀ w, Calls Try.prog 47 #[.int .i64 131, .int .i64 4] w fun e w' => e = .returned (.bool false) ∧ w = w' := fun w => by have := has_is 131 4 w; rwa [hb131_4] at this
  have kh8 : ∀ w, Calls Try.prog 47 #[.int .i64 131, .int .i64 8] w fun e w' => e = .returned (.bool false) ∧ w = w' := fun w => by have := has_is 131 8 w; rwa [hb131_8] at this
  have kh16 : ∀ w, Calls Try.prog 47 #[.int .i64 131, .int .i64 16] w fun e w' => e = .returned (.bool false) ∧ w = w' := fun w => by have := has_is 131 16 w; rwa [hb131_16] at this
  have kh32 : ∀ w, Calls Try.prog 47 #[.int .i64 131, .int .i64 32] w fun e w' => e = .returned (.bool false) ∧ w = w' := fun w => by have := has_is 131 32 w; rwa [hb131_32] at this
  have kh64 : ∀ w, Calls Try.prog 47 #[.int .i64 131, .int .i64 64] w fun e w' => e = .returned (.bool false) ∧ w = w' := fun w => by have := has_is 131 64 w; rwa [hb131_64] at this
  have kh128 : ∀ w, Calls Try.prog 47 #[.int .i64 131, .int .i64 128] w fun e w' => e = .returned (.bool true) ∧ w = w' := fun w => by have := has_is 131 128 w; rwa [hb131_128] at this
  go_enter Try.func41, Try.ntmps41
  go_wp2_with (first
    | (refine load_deed _ rfl rfl _ _ _ _ _ rfl (by assumption) ?_)
    | (refine store_deed _ _ rfl rfl _ _ _ _ _ _ _ _ rfl rfl (by assumption) ?_)
    | (go_at_call 22; refine (h0.int 255 7 255 7 rfl rfl (by omega) K1).mono ?_; clear K1; rintro e w1 ⟨rfl, q1⟩; clear z p dd h0; have z := q1.thaw; have cs := q1.deed.cells; dsimp only at cs; clear c0 c1 c2 c3 c4 c5 c6 c7 c32 c33; obtain ⟨c0, c1, c2, c3, c4, c5, c6, c7, c32, c33⟩ := cs; have h1 := q1.set 0 (.int .i64 7) (d' := ⟨7, 0, 0, 0, 0, 0, [], 0, Par.none, 0, false⟩) (B' := none) (c' := 0) rfl (Lies.nil _ _ _) (Nat.le_refl _) (Nat.zero_le _); have p := h1.ptr; have dd := h1.deed; clear q1)
    | (go_at_call 45; refine (h1.used 131 rfl).mono ?_; rintro e w2 ⟨rfl, h2⟩; clear z p dd h1; have z := h2.thaw; have p := h2.ptr; have dd := h2.deed; have cs := h2.deed.cells; dsimp only at cs; clear c0 c1 c2 c3 c4 c5 c6 c7 c32 c33; obtain ⟨c0, c1, c2, c3, c4, c5, c6, c7, c32, c33⟩ := cs)
    | (go_at_call 61; refine h2.askYes.mono ?_; rintro e w3 ⟨rfl, h3⟩; clear z p dd h2; have z := h3.thaw; have p := h3.ptr; have dd := h3.deed; have cs := h3.deed.cells; dsimp only at cs; clear c0 c1 c2 c3 c4 c5 c6 c7 c32 c33; obtain ⟨c0, c1, c2, c3, c4, c5, c6, c7, c32, c33⟩ := cs)
    | (go_at_call 22; refine (h3.int 63 a 63 (a : Int) rfl rfl (by omega) K2).mono ?_; clear K2; rintro e w4 ⟨rfl, q4⟩; clear z p dd h3; have z := q4.thaw; have cs := q4.deed.cells; dsimp only at cs; clear c0 c1 c2 c3 c4 c5 c6 c7 c32 c33; obtain ⟨c0, c1, c2, c3, c4, c5, c6, c7, c32, c33⟩ := cs; have h4 := q4.set 1 (.int .i64 (a : Int)) (d' := ⟨7, a, 0, 0, 0, 0, [], 0, Par.none, 0, false⟩) (B' := none) (c' := 0) rfl (Lies.nil _ _ _) (Nat.le_refl _) (Nat.zero_le _); have p := h4.ptr; have dd := h4.deed; clear q4)
    | (go_at_call 22; refine (h4.int 127 b 127 (b : Int) rfl rfl (by omega) K3).mono ?_; clear K3; rintro e w5 ⟨rfl, q5⟩; clear z p dd h4; have z := q5.thaw; have cs := q5.deed.cells; dsimp only at cs; clear c0 c1 c2 c3 c4 c5 c6 c7 c32 c33; obtain ⟨c0, c1, c2, c3, c4, c5, c6, c7, c32, c33⟩ := cs; have h5 := q5.set 2 (.int .i64 (b : Int)) (d' := ⟨7, a, b, 0, 0, 0, [], 0, Par.none, 0, false⟩) (B' := none) (c' := 0) rfl (Lies.nil _ _ _) (Nat.le_refl _) (Nat.zero_le _); have p := h5.ptr; have dd := h5.deed; clear q5)
    | (go_at_call 47; refine (kh1 _).mono ?_; clear kh1; rintro e w' ⟨rfl, rfl⟩)
    | (go_at_call 47; refine (kh2 _).mono ?_; clear kh2; rintro e w' ⟨rfl, rfl⟩)
    | (go_at_call 47; refine (kh4 _).mono ?_; clear kh4; rintro e w' ⟨rfl, rfl⟩)
    | (go_at_call 47; refine (kh8 _).mono ?_; clear kh8; rintro e w' ⟨rfl, rfl⟩)
    | (go_at_call 47; refine (kh16 _).mono ?_; clear kh16; rintro e w' ⟨rfl, rfl⟩)
    | (go_at_call 47; refine (kh32 _).mono ?_; clear kh32; rintro e w' ⟨rfl, rfl⟩)
    | (go_at_call 47; refine (kh64 _).mono ?_; clear kh64; rintro e w' ⟨rfl, rfl⟩)
    | (go_at_call 47; refine (kh128 _).mono ?_; clear kh128; rintro e w' ⟨rfl, rfl⟩))
  have hd := h5.drew
  have pd := hd.ptr
  go_region_held3 (fun w' => w'.cell? ⟨g, 0, none⟩ = some (.pointer (some ⟨rb, 0, none⟩)))
    (first | exact pd | exact pa | exact pb | exact pc | exact pp)
    (first
      | (go_at_call 22; refine (hd.int 31 n 31 (n : Int) rfl rfl (by omega) K4).mono ?_; clear K4; rintro e wa ⟨rfl, qa⟩; have pa := qa.ptr)
      | (go_at_call 65; refine (qa.flag yv K5).mono ?_; clear K5; rintro e wb ⟨rfl, qb⟩; clear z; have z := qb.thaw; have cs := qb.deed.cells; dsimp only at cs; clear c0 c1 c2 c3 c4 c5 c6 c7 c32 c33; obtain ⟨c0, c1, c2, c3, c4, c5, c6, c7, c32, c33⟩ := cs; have pb := qb.ptr; have qc := qb.set 32 (.int .i64 (n : Int)) (d' := ⟨7, a, b, 0, 0, 0, [], 0, Par.none, n, false⟩) (B' := none) (c' := 0) rfl (Lies.nil _ _ _) (Nat.le_refl _) (Nat.zero_le _); have pc := qc.ptr; have h6 := qc.set 33 (.bool (decide (yv = 1))) (d' := ⟨7, a, b, 0, 0, 0, [], 0, Par.none, n, (decide (yv = 1))⟩) (B' := none) (c' := 0) rfl (Lies.nil _ _ _) (Nat.le_refl _) (Nat.zero_le _); have pp := h6.ptr; have dd := h6.deed))
  go_wp2_with (first
    | (refine load_deed _ rfl rfl _ _ _ _ _ rfl (by assumption) ?_)
    | (refine store_deed _ _ rfl rfl _ _ _ _ _ _ _ _ rfl rfl (by assumption) ?_)
    | (go_at_call 47; refine (kh1 _).mono ?_; clear kh1; rintro e w' ⟨rfl, rfl⟩)
    | (go_at_call 47; refine (kh2 _).mono ?_; clear kh2; rintro e w' ⟨rfl, rfl⟩)
    | (go_at_call 47; refine (kh4 _).mono ?_; clear kh4; rintro e w' ⟨rfl, rfl⟩)
    | (go_at_call 47; refine (kh8 _).mono ?_; clear kh8; rintro e w' ⟨rfl, rfl⟩)
    | (go_at_call 47; refine (kh16 _).mono ?_; clear kh16; rintro e w' ⟨rfl, rfl⟩)
    | (go_at_call 47; refine (kh32 _).mono ?_; clear kh32; rintro e w' ⟨rfl, rfl⟩)
    | (go_at_call 47; refine (kh64 _).mono ?_; clear kh64; rintro e w' ⟨rfl, rfl⟩)
    | (go_at_call 47; refine (kh128 _).mono ?_; clear kh128; rintro e w' ⟨rfl, rfl⟩))
  have hfin := h6.again
  refine bodyPost_ret (res_deed1 Try.results41 rfl hfin.deed) rfl ⟨none, 0, rfl, hfin⟩
set_option maxRecDepth 100000 in
set_option maxHeartbeats 4000000 in
theorem get_bad (rb : Nat) (FB : Nat → Prop) (bs : List Nat) (A : Option Addr) (cp g : Nat) (s : Nat × Nat) (k : Nat) (s1 : Nat × Nat) (w : World) (hR : ReaderAt w rb FB bs s A cp) (hg : w.heap[g]? = some (.cells #[.pointer (some ⟨rb, 0, none⟩), .int .i64 ((0 : Nat) : Int)] 88 (0, 0))) (hn : rb ≠ g) (hF : ∀ k, FB k → k < w.heap.size ∧ k ≠ g) (hbl : bs.length ≤ 140737488355328) (K1 : rdNum bs s 255 = (k, s1)) (hk : k = 0 ∨ 7 < k) :
    Calls Try.prog 41 #[.pointer (some ⟨g, 0, none⟩)] w fun e w' => ∃ B c, e = .returned (.agg (Dd.vals ⟨k, 0, 0, 0, 0, 0, [], 0, Par.none, 0, false⟩ B c)) ∧ GetAt w rb FB bs A cp g w.heap.size s1 80 ⟨k, 0, 0, 0, 0, 0, [], 0, Par.none, 0, false⟩ B c w' := by
  have hz := zero_deed
  have h0 : GetAt w rb FB bs A cp g w.heap.size s 0 ⟨0, 0, 0, 0, 0, 0, [], 0, Par.none, 0, false⟩ none 0 (w.alloc (.cells (Dd.none.vals none 0) 39)) := GetAt.start w hR hg hn hF
  have z := h0.thaw
  have p := h0.ptr
  have dd := h0.deed
  have cs := h0.deed.cells
  dsimp only at cs
  obtain ⟨c0, c1, c2, c3, c4, c5, c6, c7, c32, c33⟩ := cs
  clear hR hg hn hF
  have kh1 : ∀ w, Calls Try.prog 47 #[.int .i64 0, .int .i64 1] w fun e w' => e = .returned (.bool false) ∧ w = w' := fun w => by have := has_is 0 1 w; rwa [show hb 0 1 = false from by decide +kernel] at this
  have kh2 : ∀ w, Calls Try.prog 47 #[.int .i64 0, .int .i64 2] w fun e w' => e = .returned (.bool false) ∧ w = w' := fun w => by have := has_is 0 2 w; rwa [show hb 0 2 = false from by decide +kernel] at this
  have kh4 : ∀ w, Calls Try.prog 47 #[.int .i64 0, .int .i64 4] w fun e w' => e = .returned (.bool false) ∧ w = w' := fun w => by have := has_is 0 4 w; rwa [show hb 0 4 = false from by decide +kernel] at this
  have kh8 : ∀ w, Calls Try.prog 47 #[.int .i64 0, .int .i64 8] w fun e w' => e = .returned (.bool false) ∧ w = w' := fun w => by have := has_is 0 8 w; rwa [show hb 0 8 = false from by decide +kernel] at this
  have kh16 : ∀ w, Calls Try.prog 47 #[.int .i64 0, .int .i64 16] w fun e w' => e = .returned (.bool false) ∧ w = w' := fun w => by have := has_is 0 16 w; rwa [show hb 0 16 = false from by decide +kernel] at this
  have kh32 : ∀ w, Calls Try.prog 47 #[.int .i64 0, .int .i64 32] w fun e w' => e = .returned (.bool false) ∧ w = w' := fun w => by have := has_is 0 32 w; rwa [show hb 0 32 = false from by decide +kernel] at this
  have kh64 : ∀ w, Calls Try.prog 47 #[.int .i64 0, .int .i64 64] w fun e w' => e = .returned (.bool false) ∧ w = w' := fun w => by have := has_is 0 64 w; rwa [show hb 0 64 = false from by decide +kernel] at this
  have kh128 : ∀ w, Calls Try.prog 47 #[.int .i64 0, .int .i64 128] w fun e w' => e = .returned (.bool false) ∧ w = w' := fun w => by have := has_is 0 128 w; rwa [show hb 0 128 = false from by decide +kernel] at this
  go_enter Try.func41, Try.ntmps41
  go_wp2_with (first
    | (refine load_deed _ rfl rfl _ _ _ _ _ rfl (by assumption) ?_)
    | (refine store_deed _ _ rfl rfl _ _ _ _ _ _ _ _ rfl rfl (by assumption) ?_)
    | (go_at_call 22; refine (h0.int 255 k 255 (k : Int) rfl rfl (by omega) K1).mono ?_; clear K1; rintro e w1 ⟨rfl, q1⟩; clear z p dd h0; have z := q1.thaw; have cs := q1.deed.cells; dsimp only at cs; clear c0 c1 c2 c3 c4 c5 c6 c7 c32 c33; obtain ⟨c0, c1, c2, c3, c4, c5, c6, c7, c32, c33⟩ := cs; have h1 := q1.set 0 (.int .i64 (k : Int)) (d' := ⟨k, 0, 0, 0, 0, 0, [], 0, Par.none, 0, false⟩) (B' := none) (c' := 0) rfl (Lies.nil _ _ _) (Nat.le_refl _) (Nat.zero_le _); have p := h1.ptr; have dd := h1.deed; clear q1)
    | (go_at_call 45; refine (h1.used 0 (mask_bad k hk)).mono ?_; rintro e w2 ⟨rfl, h2⟩; clear z p dd h1; have z := h2.thaw; have p := h2.ptr; have dd := h2.deed; have cs := h2.deed.cells; dsimp only at cs; clear c0 c1 c2 c3 c4 c5 c6 c7 c32 c33; obtain ⟨c0, c1, c2, c3, c4, c5, c6, c7, c32, c33⟩ := cs)
    | (go_at_call 61; refine h2.askNo.mono ?_; rintro e w3 ⟨rfl, h3⟩; clear z p dd h2; have z := h3.thaw; have p := h3.ptr; have dd := h3.deed; have cs := h3.deed.cells; dsimp only at cs; clear c0 c1 c2 c3 c4 c5 c6 c7 c32 c33; obtain ⟨c0, c1, c2, c3, c4, c5, c6, c7, c32, c33⟩ := cs)
    | (go_at_call 47; refine (kh1 _).mono ?_; clear kh1; rintro e w' ⟨rfl, rfl⟩)
    | (go_at_call 47; refine (kh2 _).mono ?_; clear kh2; rintro e w' ⟨rfl, rfl⟩)
    | (go_at_call 47; refine (kh4 _).mono ?_; clear kh4; rintro e w' ⟨rfl, rfl⟩)
    | (go_at_call 47; refine (kh8 _).mono ?_; clear kh8; rintro e w' ⟨rfl, rfl⟩)
    | (go_at_call 47; refine (kh16 _).mono ?_; clear kh16; rintro e w' ⟨rfl, rfl⟩)
    | (go_at_call 47; refine (kh32 _).mono ?_; clear kh32; rintro e w' ⟨rfl, rfl⟩)
    | (go_at_call 47; refine (kh64 _).mono ?_; clear kh64; rintro e w' ⟨rfl, rfl⟩)
    | (go_at_call 47; refine (kh128 _).mono ?_; clear kh128; rintro e w' ⟨rfl, rfl⟩))
  have hfin := h3.again
  refine bodyPost_ret (res_deed1 Try.results41 rfl hfin.deed) rfl ⟨none, 0, rfl, hfin⟩
end Go.Proofs.Ytokaclacejhppaa
namespace Go.Proofs.Ytokaclacejhppaa
open Go.RowKit
set_option linter.unusedVariables false
set_option linter.unusedSimpArgs false

set_option maxRecDepth 100000 in
set_option maxHeartbeats 4000000 in
theorem get_params (rb : Nat) (FB : Nat → Prop) (bs : List Nat) (A : Option Addr) (cp g : Nat) (s : Nat × Nat) (a : Nat) (q : Par) (ee : Nat) (s1 : Nat × Nat) (s2 : Nat × Nat) (s3 : Nat × Nat) (st : Nat × Nat) (w : World) (hR : ReaderAt w rb FB bs s A cp) (hg : w.heap[g]? = some (.cells #[.pointer (some ⟨rb, 0, none⟩), .int .i64 ((0 : Nat) : Int)] 88 (0, 0))) (hn : rb ≠ g) (hF : ∀ k, FB k → k < w.heap.size ∧ k ≠ g) (hbl : bs.length ≤ 140737488355328) (K1 : rdNum bs s 255 = (6, s1)) (K2 : rdNum bs s1 63 = (a, s2)) (K3 : rdNum bs s2 255 = (1, s3)) (KP : PRes bs s3 q ee st) :
    Calls Try.prog 41 #[.pointer (some ⟨g, 0, none⟩)] w fun e w' => ∃ B c, e = .returned (.agg (Dd.vals ⟨6, a, 0, 0, 0, 0, [], 1, q, 0, false⟩ B c)) ∧ GetAt w rb FB bs A cp g w.heap.size st ee ⟨6, a, 0, 0, 0, 0, [], 1, q, 0, false⟩ B c w' := by
  have hz := zero_deed
  have h0 : GetAt w rb FB bs A cp g w.heap.size s 0 ⟨0, 0, 0, 0, 0, 0, [], 0, Par.none, 0, false⟩ none 0 (w.alloc (.cells (Dd.none.vals none 0) 39)) := GetAt.start w hR hg hn hF
  have z := h0.thaw
  have p := h0.ptr
  have dd := h0.deed
  have cs := h0.deed.cells
  dsimp only at cs
  obtain ⟨c0, c1, c2, c3, c4, c5, c6, c7, c32, c33⟩ := cs
  clear hR hg hn hF
  have kh1 : ∀ w, Calls Try.prog 47 #[.int .i64 9, .int .i64 1] w fun e w' => e = .returned (.bool true) ∧ w = w' := fun w => by have := has_is 9 1 w; rwa [hb9_1] at this
  have kh2 : ∀ w, Calls Try.prog 47 #[.int .i64 9, .int .i64 2] w fun e w' => e = .returned (.bool false) ∧ w = w' := fun w => by have := has_is 9 2 w; rwa [hb9_2] at this
  have kh4 : ∀ w, Calls Try.prog 47 #[.int .i64 9, .int .i64 4] w fun e w' => e = .returned (.bool false) ∧ w = w' := fun w => by have := has_is 9 4 w; rwa [hb9_4] at this
  have kh8 : ∀ w, Calls Try.prog 47 #[.int .i64 9, .int .i64 8] w fun e w' => e = .returned (.bool true) ∧ w = w' := fun w => by have := has_is 9 8 w; rwa [hb9_8] at this
  have kh16 : ∀ w, Calls Try.prog 47 #[.int .i64 25, .int .i64 16] w fun e w' => e = .returned (.bool true) ∧ w = w' := fun w => by have := has_is 25 16 w; rwa [hb25_16] at this
  have kh32 : ∀ w, Calls Try.prog 47 #[.int .i64 25, .int .i64 32] w fun e w' => e = .returned (.bool false) ∧ w = w' := fun w => by have := has_is 25 32 w; rwa [hb25_32] at this
  have kh64 : ∀ w, Calls Try.prog 47 #[.int .i64 25, .int .i64 64] w fun e w' => e = .returned (.bool false) ∧ w = w' := fun w => by have := has_is 25 64 w; rwa [hb25_64] at this
  have kh128 : ∀ w, Calls Try.prog 47 #[.int .i64 25, .int .i64 128] w fun e w' => e = .returned (.bool false) ∧ w = w' := fun w => by have := has_is 25 128 w; rwa [hb25_128] at this
  go_enter Try.func41, Try.ntmps41
  go_wp2_with (first
    | (refine load_deed _ rfl rfl _ _ _ _ _ rfl (by assumption) ?_)
    | (refine store_deed _ _ rfl rfl _ _ _ _ _ _ _ _ rfl rfl (by assumption) ?_)
    | (go_at_call 22; refine (h0.int 255 6 255 6 rfl rfl (by omega) K1).mono ?_; clear K1; rintro e w1 ⟨rfl, q1⟩; clear z p dd h0; have z := q1.thaw; have cs := q1.deed.cells; dsimp only at cs; clear c0 c1 c2 c3 c4 c5 c6 c7 c32 c33; obtain ⟨c0, c1, c2, c3, c4, c5, c6, c7, c32, c33⟩ := cs; have h1 := q1.set 0 (.int .i64 6) (d' := ⟨6, 0, 0, 0, 0, 0, [], 0, Par.none, 0, false⟩) (B' := none) (c' := 0) rfl (Lies.nil _ _ _) (Nat.le_refl _) (Nat.zero_le _); have p := h1.ptr; have dd := h1.deed; clear q1)
    | (go_at_call 45; refine (h1.used 9 rfl).mono ?_; rintro e w2 ⟨rfl, h2⟩; clear z p dd h1; have z := h2.thaw; have p := h2.ptr; have dd := h2.deed; have cs := h2.deed.cells; dsimp only at cs; clear c0 c1 c2 c3 c4 c5 c6 c7 c32 c33; obtain ⟨c0, c1, c2, c3, c4, c5, c6, c7, c32, c33⟩ := cs)
    | (go_at_call 61; refine h2.askYes.mono ?_; rintro e w3 ⟨rfl, h3⟩; clear z p dd h2; have z := h3.thaw; have p := h3.ptr; have dd := h3.deed; have cs := h3.deed.cells; dsimp only at cs; clear c0 c1 c2 c3 c4 c5 c6 c7 c32 c33; obtain ⟨c0, c1, c2, c3, c4, c5, c6, c7, c32, c33⟩ := cs)
    | (go_at_call 22; refine (h3.int 63 a 63 (a : Int) rfl rfl (by omega) K2).mono ?_; clear K2; rintro e w4 ⟨rfl, q4⟩; clear z p dd h3; have z := q4.thaw; have cs := q4.deed.cells; dsimp only at cs; clear c0 c1 c2 c3 c4 c5 c6 c7 c32 c33; obtain ⟨c0, c1, c2, c3, c4, c5, c6, c7, c32, c33⟩ := cs; have h4 := q4.set 1 (.int .i64 (a : Int)) (d' := ⟨6, a, 0, 0, 0, 0, [], 0, Par.none, 0, false⟩) (B' := none) (c' := 0) rfl (Lies.nil _ _ _) (Nat.le_refl _) (Nat.zero_le _); have p := h4.ptr; have dd := h4.deed; clear q4)
    | (go_at_call 22; refine (h4.int 255 1 255 1 rfl rfl (by omega) K3).mono ?_; clear K3; rintro e w5 ⟨rfl, q5⟩; clear z p dd h4; have z := q5.thaw; have cs := q5.deed.cells; dsimp only at cs; clear c0 c1 c2 c3 c4 c5 c6 c7 c32 c33; obtain ⟨c0, c1, c2, c3, c4, c5, c6, c7, c32, c33⟩ := cs; have h5 := q5.set 7 (.int .i64 1) (d' := ⟨6, a, 0, 0, 0, 0, [], 1, Par.none, 0, false⟩) (B' := none) (c' := 0) rfl (Lies.nil _ _ _) (Nat.le_refl _) (Nat.zero_le _); have p := h5.ptr; have dd := h5.deed; clear q5)
    | (go_at_call 61; refine h5.askYes.mono ?_; rintro e w6 ⟨rfl, h6⟩; clear z p dd h5; have z := h6.thaw; have p := h6.ptr; have dd := h6.deed; have cs := h6.deed.cells; dsimp only at cs; clear c0 c1 c2 c3 c4 c5 c6 c7 c32 c33; obtain ⟨c0, c1, c2, c3, c4, c5, c6, c7, c32, c33⟩ := cs)
    | (go_at_call 45; refine (h6.used 25 rfl).mono ?_; rintro e w7 ⟨rfl, h7⟩; clear z p dd h6; have z := h7.thaw; have p := h7.ptr; have dd := h7.deed; have cs := h7.deed.cells; dsimp only at cs; clear c0 c1 c2 c3 c4 c5 c6 c7 c32 c33; obtain ⟨c0, c1, c2, c3, c4, c5, c6, c7, c32, c33⟩ := cs)
    | (go_at_call 63; refine (h7.pars q ee KP).mono ?_; clear KP; rintro e w8 ⟨rfl, q8⟩; clear z p dd h7; have dd := q8.deed; obtain ⟨W, hW⟩ : ∃ W, Hid (w8.setCells w.heap.size 8 q.vals.toList = W) := ⟨_, rfl⟩; have h8' : GetAt w rb FB bs A cp g w.heap.size st 0 ⟨6, a, 0, 0, 0, 0, [], 1, q, 0, false⟩ none 0 W := hW.out ▸ q8.setPars q ⟨6, a, 0, 0, 0, 0, [], 1, q, 0, false⟩ rfl; clear c0 c1 c2 c3 c4 c5 c6 c7 c32 c33)
    | (refine store_pars _ _ rfl rfl w.heap.size q _ _ _ _ rfl rfl dd ?_; rw [hW.out]; obtain ⟨y1, y2⟩ := h8'.whyIs; have h8 := h8'.why ee; clear dd hW q8; have dd := h8.deed; have p := h8.ptr)
    | (go_at_call 47; refine (kh1 _).mono ?_; clear kh1; rintro e w' ⟨rfl, rfl⟩)
    | (go_at_call 47; refine (kh2 _).mono ?_; clear kh2; rintro e w' ⟨rfl, rfl⟩)
    | (go_at_call 47; refine (kh4 _).mono ?_; clear kh4; rintro e w' ⟨rfl, rfl⟩)
    | (go_at_call 47; refine (kh8 _).mono ?_; clear kh8; rintro e w' ⟨rfl, rfl⟩)
    | (go_at_call 47; refine (kh16 _).mono ?_; clear kh16; rintro e w' ⟨rfl, rfl⟩)
    | (go_at_call 47; refine (kh32 _).mono ?_; clear kh32; rintro e w' ⟨rfl, rfl⟩)
    | (go_at_call 47; refine (kh64 _).mono ?_; clear kh64; rintro e w' ⟨rfl, rfl⟩)
    | (go_at_call 47; refine (kh128 _).mono ?_; clear kh128; rintro e w' ⟨rfl, rfl⟩))
  have hfin := h8.again
  refine bodyPost_ret (res_deed1 Try.results41 rfl hfin.deed) rfl ⟨none, 0, rfl, hfin⟩
set_option maxRecDepth 100000 in
set_option maxHeartbeats 4000000 in
theorem get_spend (rb : Nat) (FB : Nat → Prop) (bs : List Nat) (A : Option Addr) (cp g : Nat) (s : Nat × Nat) (a t m : Nat) (s1 : Nat × Nat) (s2 : Nat × Nat) (s3 : Nat × Nat) (s4 : Nat × Nat) (s5 : Nat × Nat) (w : World) (hR : ReaderAt w rb FB bs s A cp) (hg : w.heap[g]? = some (.cells #[.pointer (some ⟨rb, 0, none⟩), .int .i64 ((0 : Nat) : Int)] 88 (0, 0))) (hn : rb ≠ g) (hF : ∀ k, FB k → k < w.heap.size ∧ k ≠ g) (hbl : bs.length ≤ 140737488355328) (K1 : rdNum bs s 255 = (6, s1)) (K2 : rdNum bs s1 63 = (a, s2)) (K3 : rdNum bs s2 255 = (2, s3)) (K4 : rdNum bs s3 63 = (t, s4)) (K5 : rdNum bs s4 4611686018427387904 = (m, s5)) (hm : m ≠ 0) :
    Calls Try.prog 41 #[.pointer (some ⟨g, 0, none⟩)] w fun e w' => ∃ B c, e = .returned (.agg (Dd.vals ⟨6, a, 0, t, m, 0, [], 2, Par.none, 0, false⟩ B c)) ∧ GetAt w rb FB bs A cp g w.heap.size s5 0 ⟨6, a, 0, t, m, 0, [], 2, Par.none, 0, false⟩ B c w' := by
  have hz := zero_deed
  have h0 : GetAt w rb FB bs A cp g w.heap.size s 0 ⟨0, 0, 0, 0, 0, 0, [], 0, Par.none, 0, false⟩ none 0 (w.alloc (.cells (Dd.none.vals none 0) 39)) := GetAt.start w hR hg hn hF
  have z := h0.thaw
  have p := h0.ptr
  have dd := h0.deed
  have cs := h0.deed.cells
  dsimp only at cs
  obtain ⟨c0, c1, c2, c3, c4, c5, c6, c7, c32, c33⟩ := cs
  clear hR hg hn hF
  have hd1 : decide (0 < m) = true := by simp; omega
  clear hm
  have kh1 : ∀ w, Calls Try.prog 47 #[.int .i64 9, .int .i64 1] w fun e w' => e = .returned (.bool true) ∧ w = w' := fun w => by have := has_is 9 1 w; rwa [hb9_1] at this
  have kh2 : ∀ w, Calls Try.prog 47 #[.int .i64 9, .int .i64 2] w fun e w' => e = .returned (.bool false) ∧ w = w' := fun w => by have := has_is 9 2 w; rwa [hb9_2] at this
  have kh4 : ∀ w, Calls Try.prog 47 #[.int .i64 9, .int .i64 4] w fun e w' => e = .returned (.bool false) ∧ w = w' := fun w => by have := has_is 9 4 w; rwa [hb9_4] at this
  have kh8 : ∀ w, Calls Try.prog 47 #[.int .i64 9, .int .i64 8] w fun e w' => e = .returned (.bool true) ∧ w = w' := fun w => by have := has_is 9 8 w; rwa [hb9_8] at this
  have kh16 : ∀ w, Calls Try.prog 47 #[.int .i64 105, .int .i64 16] w fun e w' => e = .returned (.bool false) ∧ w = w' := fun w => by have := has_is 105 16 w; rwa [hb105_16] at this
  have kh32 : ∀ w, Calls Try.prog 47 #[.int .i64 105, .int .i64 32] w fun e w' => e = .returned (.bool true) ∧ w = w' := fun w => by have := has_is 105 32 w; rwa [hb105_32] at this
  have kh64 : ∀ w, Calls Try.prog 47 #[.int .i64 105, .int .i64 64] w fun e w' => e = .returned (.bool true) ∧ w = w' := fun w => by have := has_is 105 64 w; rwa [hb105_64] at this
  have kh128 : ∀ w, Calls Try.prog 47 #[.int .i64 105, .int .i64 128] w fun e w' => e = .returned (.bool false) ∧ w = w' := fun w => by have := has_is 105 128 w; rwa [hb105_128] at this
  go_enter Try.func41, Try.ntmps41
  go_wp2_with (first
    | (refine load_deed _ rfl rfl _ _ _ _ _ rfl (by assumption) ?_)
    | (refine store_deed _ _ rfl rfl _ _ _ _ _ _ _ _ rfl rfl (by assumption) ?_)
    | (go_at_call 22; refine (h0.int 255 6 255 6 rfl rfl (by omega) K1).mono ?_; clear K1; rintro e w1 ⟨rfl, q1⟩; clear z p dd h0; have z := q1.thaw; have cs := q1.deed.cells; dsimp only at cs; clear c0 c1 c2 c3 c4 c5 c6 c7 c32 c33; obtain ⟨c0, c1, c2, c3, c4, c5, c6, c7, c32, c33⟩ := cs; have h1 := q1.set 0 (.int .i64 6) (d' := ⟨6, 0, 0, 0, 0, 0, [], 0, Par.none, 0, false⟩) (B' := none) (c' := 0) rfl (Lies.nil _ _ _) (Nat.le_refl _) (Nat.zero_le _); have p := h1.ptr; have dd := h1.deed; clear q1)
    | (go_at_call 45; refine (h1.used 9 rfl).mono ?_; rintro e w2 ⟨rfl, h2⟩; clear z p dd h1; have z := h2.thaw; have p := h2.ptr; have dd := h2.deed; have cs := h2.deed.cells; dsimp only at cs; clear c0 c1 c2 c3 c4 c5 c6 c7 c32 c33; obtain ⟨c0, c1, c2, c3, c4, c5, c6, c7, c32, c33⟩ := cs)
    | (go_at_call 61; refine h2.askYes.mono ?_; rintro e w3 ⟨rfl, h3⟩; clear z p dd h2; have z := h3.thaw; have p := h3.ptr; have dd := h3.deed; have cs := h3.deed.cells; dsimp only at cs; clear c0 c1 c2 c3 c4 c5 c6 c7 c32 c33; obtain ⟨c0, c1, c2, c3, c4, c5, c6, c7, c32, c33⟩ := cs)
    | (go_at_call 22; refine (h3.int 63 a 63 (a : Int) rfl rfl (by omega) K2).mono ?_; clear K2; rintro e w4 ⟨rfl, q4⟩; clear z p dd h3; have z := q4.thaw; have cs := q4.deed.cells; dsimp only at cs; clear c0 c1 c2 c3 c4 c5 c6 c7 c32 c33; obtain ⟨c0, c1, c2, c3, c4, c5, c6, c7, c32, c33⟩ := cs; have h4 := q4.set 1 (.int .i64 (a : Int)) (d' := ⟨6, a, 0, 0, 0, 0, [], 0, Par.none, 0, false⟩) (B' := none) (c' := 0) rfl (Lies.nil _ _ _) (Nat.le_refl _) (Nat.zero_le _); have p := h4.ptr; have dd := h4.deed; clear q4)
    | (go_at_call 22; refine (h4.int 255 2 255 2 rfl rfl (by omega) K3).mono ?_; clear K3; rintro e w5 ⟨rfl, q5⟩; clear z p dd h4; have z := q5.thaw; have cs := q5.deed.cells; dsimp only at cs; clear c0 c1 c2 c3 c4 c5 c6 c7 c32 c33; obtain ⟨c0, c1, c2, c3, c4, c5, c6, c7, c32, c33⟩ := cs; have h5 := q5.set 7 (.int .i64 2) (d' := ⟨6, a, 0, 0, 0, 0, [], 2, Par.none, 0, false⟩) (B' := none) (c' := 0) rfl (Lies.nil _ _ _) (Nat.le_refl _) (Nat.zero_le _); have p := h5.ptr; have dd := h5.deed; clear q5)
    | (go_at_call 61; refine h5.askYes.mono ?_; rintro e w6 ⟨rfl, h6⟩; clear z p dd h5; have z := h6.thaw; have p := h6.ptr; have dd := h6.deed; have cs := h6.deed.cells; dsimp only at cs; clear c0 c1 c2 c3 c4 c5 c6 c7 c32 c33; obtain ⟨c0, c1, c2, c3, c4, c5, c6, c7, c32, c33⟩ := cs)
    | (go_at_call 45; refine (h6.used 105 rfl).mono ?_; rintro e w7 ⟨rfl, h7⟩; clear z p dd h6; have z := h7.thaw; have p := h7.ptr; have dd := h7.deed; have cs := h7.deed.cells; dsimp only at cs; clear c0 c1 c2 c3 c4 c5 c6 c7 c32 c33; obtain ⟨c0, c1, c2, c3, c4, c5, c6, c7, c32, c33⟩ := cs)
    | (go_at_call 22; refine (h7.int 63 t 63 (t : Int) rfl rfl (by omega) K4).mono ?_; clear K4; rintro e w8 ⟨rfl, q8⟩; clear z p dd h7; have z := q8.thaw; have cs := q8.deed.cells; dsimp only at cs; clear c0 c1 c2 c3 c4 c5 c6 c7 c32 c33; obtain ⟨c0, c1, c2, c3, c4, c5, c6, c7, c32, c33⟩ := cs; have h8 := q8.set 3 (.int .i64 (t : Int)) (d' := ⟨6, a, 0, t, 0, 0, [], 2, Par.none, 0, false⟩) (B' := none) (c' := 0) rfl (Lies.nil _ _ _) (Nat.le_refl _) (Nat.zero_le _); have p := h8.ptr; have dd := h8.deed; clear q8)
    | (go_at_call 64; refine (h8.num 4611686018427387904 m 4611686018427387904 rfl (by omega) K5).mono ?_; clear K5; rintro e w9 ⟨rfl, q9⟩; clear z p dd h8; have z := q9.thaw; have cs := q9.deed.cells; dsimp only at cs; clear c0 c1 c2 c3 c4 c5 c6 c7 c32 c33; obtain ⟨c0, c1, c2, c3, c4, c5, c6, c7, c32, c33⟩ := cs; have h9 := q9.set 4 (.int .u64 (m : Int)) (d' := ⟨6, a, 0, t, m, 0, [], 2, Par.none, 0, false⟩) (B' := none) (c' := 0) rfl (Lies.nil _ _ _) (Nat.le_refl _) (Nat.zero_le _); have p := h9.ptr; have dd := h9.deed; clear q9)
    | (go_at_call 61; refine h9.askYes.mono ?_; rintro e w10 ⟨rfl, h10⟩; clear z p dd h9; have z := h10.thaw; have p := h10.ptr; have dd := h10.deed; have cs := h10.deed.cells; dsimp only at cs; clear c0 c1 c2 c3 c4 c5 c6 c7 c32 c33; obtain ⟨c0, c1, c2, c3, c4, c5, c6, c7, c32, c33⟩ := cs)
    | (go_at_call 47; refine (kh1 _).mono ?_; clear kh1; rintro e w' ⟨rfl, rfl⟩)
    | (go_at_call 47; refine (kh2 _).mono ?_; clear kh2; rintro e w' ⟨rfl, rfl⟩)
    | (go_at_call 47; refine (kh4 _).mono ?_; clear kh4; rintro e w' ⟨rfl, rfl⟩)
    | (go_at_call 47; refine (kh8 _).mono ?_; clear kh8; rintro e w' ⟨rfl, rfl⟩)
    | (go_at_call 47; refine (kh16 _).mono ?_; clear kh16; rintro e w' ⟨rfl, rfl⟩)
    | (go_at_call 47; refine (kh32 _).mono ?_; clear kh32; rintro e w' ⟨rfl, rfl⟩)
    | (go_at_call 47; refine (kh64 _).mono ?_; clear kh64; rintro e w' ⟨rfl, rfl⟩)
    | (go_at_call 47; refine (kh128 _).mono ?_; clear kh128; rintro e w' ⟨rfl, rfl⟩))
  have hfin := h10.again
  refine bodyPost_ret (res_deed1 Try.results41 rfl hfin.deed) rfl ⟨none, 0, rfl, hfin⟩
set_option maxRecDepth 100000 in
set_option maxHeartbeats 4000000 in
theorem get_spend0 (rb : Nat) (FB : Nat → Prop) (bs : List Nat) (A : Option Addr) (cp g : Nat) (s : Nat × Nat) (a t : Nat) (s1 : Nat × Nat) (s2 : Nat × Nat) (s3 : Nat × Nat) (s4 : Nat × Nat) (s5 : Nat × Nat) (w : World) (hR : ReaderAt w rb FB bs s A cp) (hg : w.heap[g]? = some (.cells #[.pointer (some ⟨rb, 0, none⟩), .int .i64 ((0 : Nat) : Int)] 88 (0, 0))) (hn : rb ≠ g) (hF : ∀ k, FB k → k < w.heap.size ∧ k ≠ g) (hbl : bs.length ≤ 140737488355328) (K1 : rdNum bs s 255 = (6, s1)) (K2 : rdNum bs s1 63 = (a, s2)) (K3 : rdNum bs s2 255 = (2, s3)) (K4 : rdNum bs s3 63 = (t, s4)) (K5 : rdNum bs s4 4611686018427387904 = (0, s5)) :
    Calls Try.prog 41 #[.pointer (some ⟨g, 0, none⟩)] w fun e w' => ∃ B c, e = .returned (.agg (Dd.vals ⟨6, a, 0, t, 0, 0, [], 2, Par.none, 0, false⟩ B c)) ∧ GetAt w rb FB bs A cp g w.heap.size s5 80 ⟨6, a, 0, t, 0, 0, [], 2, Par.none, 0, false⟩ B c w' := by
  have hz := zero_deed
  have h0 : GetAt w rb FB bs A cp g w.heap.size s 0 ⟨0, 0, 0, 0, 0, 0, [], 0, Par.none, 0, false⟩ none 0 (w.alloc (.cells (Dd.none.vals none 0) 39)) := GetAt.start w hR hg hn hF
  have z := h0.thaw
  have p := h0.ptr
  have dd := h0.deed
  have cs := h0.deed.cells
  dsimp only at cs
  obtain ⟨c0, c1, c2, c3, c4, c5, c6, c7, c32, c33⟩ := cs
  clear hR hg hn hF
  have kh1 : ∀ w, Calls Try.prog 47 #[.int .i64 9, .int .i64 1] w fun e w' => e = .returned (.bool true) ∧ w = w' := fun w => by have := has_is 9 1 w; rwa [hb9_1] at this
  have kh2 : ∀ w, Calls Try.prog 47 #[.int .i64 9, .int .i64 2] w fun e w' => e = .returned (.bool false) ∧ w = w' := fun w => by have := has_is 9 2 w; rwa [hb9_2] at this
  have kh4 : ∀ w, Calls Try.prog 47 #[.int .i64 9, .int .i64 4] w fun e w' => e = .returned (.bool false) ∧ w = w' := fun w => by have := has_is 9 4 w; rwa [hb9_4] at this
  have kh8 : ∀ w, Calls Try.prog 47 #[.int .i64 9, .int .i64 8] w fun e w' => e = .returned (.bool true) ∧ w = w' := fun w => by have := has_is 9 8 w; rwa [hb9_8] at this
  have kh16 : ∀ w, Calls Try.prog 47 #[.int .i64 105, .int .i64 16] w fun e w' => e = .returned (.bool false) ∧ w = w' := fun w => by have := has_is 105 16 w; rwa [hb105_16] at this
  have kh32 : ∀ w, Calls Try.prog 47 #[.int .i64 105, .int .i64 32] w fun e w' => e = .returned (.bool true) ∧ w = w' := fun w => by have := has_is 105 32 w; rwa [hb105_32] at this
  have kh64 : ∀ w, Calls Try.prog 47 #[.int .i64 105, .int .i64 64] w fun e w' => e = .returned (.bool true) ∧ w = w' := fun w => by have := has_is 105 64 w; rwa [hb105_64] at this
  have kh128 : ∀ w, Calls Try.prog 47 #[.int .i64 105, .int .i64 128] w fun e w' => e = .returned (.bool false) ∧ w = w' := fun w => by have := has_is 105 128 w; rwa [hb105_128] at this
  go_enter Try.func41, Try.ntmps41
  go_wp2_with (first
    | (refine load_deed _ rfl rfl _ _ _ _ _ rfl (by assumption) ?_)
    | (refine store_deed _ _ rfl rfl _ _ _ _ _ _ _ _ rfl rfl (by assumption) ?_)
    | (go_at_call 22; refine (h0.int 255 6 255 6 rfl rfl (by omega) K1).mono ?_; clear K1; rintro e w1 ⟨rfl, q1⟩; clear z p dd h0; have z := q1.thaw; have cs := q1.deed.cells; dsimp only at cs; clear c0 c1 c2 c3 c4 c5 c6 c7 c32 c33; obtain ⟨c0, c1, c2, c3, c4, c5, c6, c7, c32, c33⟩ := cs; have h1 := q1.set 0 (.int .i64 6) (d' := ⟨6, 0, 0, 0, 0, 0, [], 0, Par.none, 0, false⟩) (B' := none) (c' := 0) rfl (Lies.nil _ _ _) (Nat.le_refl _) (Nat.zero_le _); have p := h1.ptr; have dd := h1.deed; clear q1)
    | (go_at_call 45; refine (h1.used 9 rfl).mono ?_; rintro e w2 ⟨rfl, h2⟩; clear z p dd h1; have z := h2.thaw; have p := h2.ptr; have dd := h2.deed; have cs := h2.deed.cells; dsimp only at cs; clear c0 c1 c2 c3 c4 c5 c6 c7 c32 c33; obtain ⟨c0, c1, c2, c3, c4, c5, c6, c7, c32, c33⟩ := cs)
    | (go_at_call 61; refine h2.askYes.mono ?_; rintro e w3 ⟨rfl, h3⟩; clear z p dd h2; have z := h3.thaw; have p := h3.ptr; have dd := h3.deed; have cs := h3.deed.cells; dsimp only at cs; clear c0 c1 c2 c3 c4 c5 c6 c7 c32 c33; obtain ⟨c0, c1, c2, c3, c4, c5, c6, c7, c32, c33⟩ := cs)
    | (go_at_call 22; refine (h3.int 63 a 63 (a : Int) rfl rfl (by omega) K2).mono ?_; clear K2; rintro e w4 ⟨rfl, q4⟩; clear z p dd h3; have z := q4.thaw; have cs := q4.deed.cells; dsimp only at cs; clear c0 c1 c2 c3 c4 c5 c6 c7 c32 c33; obtain ⟨c0, c1, c2, c3, c4, c5, c6, c7, c32, c33⟩ := cs; have h4 := q4.set 1 (.int .i64 (a : Int)) (d' := ⟨6, a, 0, 0, 0, 0, [], 0, Par.none, 0, false⟩) (B' := none) (c' := 0) rfl (Lies.nil _ _ _) (Nat.le_refl _) (Nat.zero_le _); have p := h4.ptr; have dd := h4.deed; clear q4)
    | (go_at_call 22; refine (h4.int 255 2 255 2 rfl rfl (by omega) K3).mono ?_; clear K3; rintro e w5 ⟨rfl, q5⟩; clear z p dd h4; have z := q5.thaw; have cs := q5.deed.cells; dsimp only at cs; clear c0 c1 c2 c3 c4 c5 c6 c7 c32 c33; obtain ⟨c0, c1, c2, c3, c4, c5, c6, c7, c32, c33⟩ := cs; have h5 := q5.set 7 (.int .i64 2) (d' := ⟨6, a, 0, 0, 0, 0, [], 2, Par.none, 0, false⟩) (B' := none) (c' := 0) rfl (Lies.nil _ _ _) (Nat.le_refl _) (Nat.zero_le _); have p := h5.ptr; have dd := h5.deed; clear q5)
    | (go_at_call 61; refine h5.askYes.mono ?_; rintro e w6 ⟨rfl, h6⟩; clear z p dd h5; have z := h6.thaw; have p := h6.ptr; have dd := h6.deed; have cs := h6.deed.cells; dsimp only at cs; clear c0 c1 c2 c3 c4 c5 c6 c7 c32 c33; obtain ⟨c0, c1, c2, c3, c4, c5, c6, c7, c32, c33⟩ := cs)
    | (go_at_call 45; refine (h6.used 105 rfl).mono ?_; rintro e w7 ⟨rfl, h7⟩; clear z p dd h6; have z := h7.thaw; have p := h7.ptr; have dd := h7.deed; have cs := h7.deed.cells; dsimp only at cs; clear c0 c1 c2 c3 c4 c5 c6 c7 c32 c33; obtain ⟨c0, c1, c2, c3, c4, c5, c6, c7, c32, c33⟩ := cs)
    | (go_at_call 22; refine (h7.int 63 t 63 (t : Int) rfl rfl (by omega) K4).mono ?_; clear K4; rintro e w8 ⟨rfl, q8⟩; clear z p dd h7; have z := q8.thaw; have cs := q8.deed.cells; dsimp only at cs; clear c0 c1 c2 c3 c4 c5 c6 c7 c32 c33; obtain ⟨c0, c1, c2, c3, c4, c5, c6, c7, c32, c33⟩ := cs; have h8 := q8.set 3 (.int .i64 (t : Int)) (d' := ⟨6, a, 0, t, 0, 0, [], 2, Par.none, 0, false⟩) (B' := none) (c' := 0) rfl (Lies.nil _ _ _) (Nat.le_refl _) (Nat.zero_le _); have p := h8.ptr; have dd := h8.deed; clear q8)
    | (go_at_call 64; refine (h8.num 4611686018427387904 0 4611686018427387904 rfl (by omega) K5).mono ?_; clear K5; rintro e w9 ⟨rfl, q9⟩; clear z p dd h8; have z := q9.thaw; have cs := q9.deed.cells; dsimp only at cs; clear c0 c1 c2 c3 c4 c5 c6 c7 c32 c33; obtain ⟨c0, c1, c2, c3, c4, c5, c6, c7, c32, c33⟩ := cs; have h9 := q9.set 4 (.int .u64 0) (d' := ⟨6, a, 0, t, 0, 0, [], 2, Par.none, 0, false⟩) (B' := none) (c' := 0) rfl (Lies.nil _ _ _) (Nat.le_refl _) (Nat.zero_le _); have p := h9.ptr; have dd := h9.deed; clear q9)
    | (go_at_call 61; refine h9.askNo.mono ?_; rintro e w10 ⟨rfl, h10⟩; clear z p dd h9; have z := h10.thaw; have p := h10.ptr; have dd := h10.deed; have cs := h10.deed.cells; dsimp only at cs; clear c0 c1 c2 c3 c4 c5 c6 c7 c32 c33; obtain ⟨c0, c1, c2, c3, c4, c5, c6, c7, c32, c33⟩ := cs)
    | (go_at_call 47; refine (kh1 _).mono ?_; clear kh1; rintro e w' ⟨rfl, rfl⟩)
    | (go_at_call 47; refine (kh2 _).mono ?_; clear kh2; rintro e w' ⟨rfl, rfl⟩)
    | (go_at_call 47; refine (kh4 _).mono ?_; clear kh4; rintro e w' ⟨rfl, rfl⟩)
    | (go_at_call 47; refine (kh8 _).mono ?_; clear kh8; rintro e w' ⟨rfl, rfl⟩)
    | (go_at_call 47; refine (kh16 _).mono ?_; clear kh16; rintro e w' ⟨rfl, rfl⟩)
    | (go_at_call 47; refine (kh32 _).mono ?_; clear kh32; rintro e w' ⟨rfl, rfl⟩)
    | (go_at_call 47; refine (kh64 _).mono ?_; clear kh64; rintro e w' ⟨rfl, rfl⟩)
    | (go_at_call 47; refine (kh128 _).mono ?_; clear kh128; rintro e w' ⟨rfl, rfl⟩))
  have hfin := h10.again
  refine bodyPost_ret (res_deed1 Try.results41 rfl hfin.deed) rfl ⟨none, 0, rfl, hfin⟩
end Go.Proofs.Ytokaclacejhppaa
