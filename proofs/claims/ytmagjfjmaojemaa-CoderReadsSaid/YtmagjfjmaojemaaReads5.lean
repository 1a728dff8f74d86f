/- Law CoderReads (P5.2, P5.3): of any bytes, asked for anything in any order, the document's numbers and bytes are told, up to the first failure, at its place. -/
import Derived.Test.YtmagjfjmaojemaaAwake5
import Derived.Test.YtmagjfjmaojemaaCoderZ2
import Derived.Test.YtmagjfjmaojemaaFew5
import Derived.Test.YtmagjfjmaojemaaLaw8
import Derived.Test.YtmagjfjmaojemaaRows
namespace Go.Proofs.Ytmagjfjmaojemaa.CoderReads
open Go.RowKit Go.ChangeShapes Go.WideShapes Go.ChangeAt
set_option linter.unusedVariables false
set_option linter.unusedSimpArgs false

theorem RefR.drewN {w : World} {d B : Nat} {bs : List Nat} {s : Nat × Nat} {A : Option Addr} {c : Nat} (h : RefR w d B bs s A c) (n : Nat) : RefR (w.drewN n) d B bs s A c := h.grown (grown_drew w n none) (by simp) (by simp)
theorem op_start {w : World} {g : Nat} {x y z : Value} (h1 : w.cell? ⟨g, 1, none⟩ = some x) (h2 : w.cell? ⟨g, 2, none⟩ = some y) (h3 : w.cell? ⟨g, 3, none⟩ = some z) : w.drew.cell? ⟨g, 1, none⟩ = some x ∧ w.drew.cell? ⟨g, 2, none⟩ = some y ∧ w.drew.cell? ⟨g, 3, none⟩ = some z := ⟨h1, h2, h3⟩
theorem op_keep {w w' : World} {g br : Nat} {x y z : Value} (h : w.cell? ⟨g, 1, none⟩ = some x ∧ w.cell? ⟨g, 2, none⟩ = some y ∧ w.cell? ⟨g, 3, none⟩ = some z) (hg : w.grownBy w' (some br)) (hne : g ≠ br) : w'.cell? ⟨g, 1, none⟩ = some x ∧ w'.cell? ⟨g, 2, none⟩ = some y ∧ w'.cell? ⟨g, 3, none⟩ = some z := by
  have hl : g < w.heap.size := World.block_lt_of_cell? w _ h.1
  have hb := hg.block g hl (fun e => hne (by injection e))
  refine ⟨?_, ?_, ?_⟩
  · rw [World.cell?_of_block (a := ⟨g, 1, none⟩) hb]; exact h.1
  · rw [World.cell?_of_block (a := ⟨g, 2, none⟩) hb]; exact h.2.1
  · rw [World.cell?_of_block (a := ⟨g, 3, none⟩) hb]; exact h.2.2
theorem op_keep2 {w w' : World} {g : Nat} {x y z : Value} (h : w.cell? ⟨g, 1, none⟩ = some x ∧ w.cell? ⟨g, 2, none⟩ = some y ∧ w.cell? ⟨g, 3, none⟩ = some z) (hb : Below w.heap.size w w') : w'.cell? ⟨g, 1, none⟩ = some x ∧ w'.cell? ⟨g, 2, none⟩ = some y ∧ w'.cell? ⟨g, 3, none⟩ = some z := by
  have hl : g < w.heap.size := World.block_lt_of_cell? w _ h.1
  exact ⟨(hb.cell (p := ⟨g, 1, none⟩) hl).trans h.1, (hb.cell (p := ⟨g, 2, none⟩) hl).trans h.2.1, (hb.cell (p := ⟨g, 3, none⟩) hl).trans h.2.2⟩
theorem quiet_one {P : Program} {f : FuncId} {args : Array Value} {w : World} {n : Nat} {v : Value}
    (h : Calls P f args (w.drewN n) fun e w' => e = .returned v ∧ w.drewN n = w') : Calls P f args (w.drewN n) fun e w2 => e = .returned v ∧ ∃ m, w2 = w.drewN m :=
  h.mono fun _ _ h => ⟨h.1, n, h.2.symm⟩

section
variable (b d B : Nat) (F : Nat → Prop) (bs : List Nat) (s s' : Nat × Nat) (A A2 : Option Addr) (cp c2 : Nat)
theorem kc_num (n x : Nat) (hn : n < 18446744073709551616) (h : rdNum bs s n = (x, s')) (w : World) (hR : ReaderAt w b F bs s A cp) :
    Calls Try.prog 21 #[.pointer (some ⟨b, 0, none⟩), .int .u64 (n : Int)] w fun ev w' => ev = .returned (.int .u64 (x : Int)) ∧ Rd w b F bs s' A cp w' := by
  have k := rnum_is b F bs s A cp n w hR hn
  rw [h] at k; exact k
theorem kr_num (n x : Nat) (hn : n < 18446744073709551616) (h : rdNum bs s n = (x, s')) (w : World) (hR : RefR w d B bs s A2 c2) :
    Calls Try.prog 22 #[.pointer (some ⟨d, 0, none⟩), .int .u64 (n : Int)] w fun ev w' => ev = .returned (.int .u64 (x : Int)) ∧ RR w d B bs s' A2 c2 w' := by
  have k := refnum_is d B bs s A2 c2 n w hR hn
  rw [h] at k; exact k
theorem kc_int (i : Int) (x : Nat) (h0 : -9223372036854775808 ≤ i) (h1 : i ≤ 9223372036854775807) (h : rdInt bs s i = (x, s')) (w : World) (hR : ReaderAt w b F bs s A cp) :
    Calls Try.prog 23 #[.pointer (some ⟨b, 0, none⟩), .int .i64 i] w fun ev w' => ev = .returned (.int .i64 (x : Int)) ∧ Rd w b F bs s' A cp w' := by
  have k := rint_is b F bs s A cp i w hR h0 h1
  rw [h] at k; exact k
theorem kr_int (i : Int) (x : Nat) (h0 : -9223372036854775808 ≤ i) (h1 : i ≤ 9223372036854775807) (h : rdInt bs s i = (x, s')) (w : World) (hR : RefR w d B bs s A2 c2) :
    Calls Try.prog 24 #[.pointer (some ⟨d, 0, none⟩), .int .i64 i] w fun ev w' => ev = .returned (.int .i64 (x : Int)) ∧ RR w d B bs s' A2 c2 w' := by
  have k := refrint_is d B bs s A2 c2 i w hR h0 h1
  rw [h] at k; exact k
theorem kc_flag (x : Nat) (h : rdNum bs s 1 = (x, s')) (w : World) (hR : ReaderAt w b F bs s A cp) :
    Calls Try.prog 25 #[.pointer (some ⟨b, 0, none⟩)] w fun ev w' => ev = .returned (.bool ((x : Int) == 1)) ∧ Rd w b F bs s' A cp w' := by
  have k := rflag_is b F bs s A cp w hR
  rw [h] at k
  have e : ((x : Int) == 1) = (x == 1) := by rw [Bool.eq_iff_iff]; simp; omega
  rw [e]; exact k
theorem kr_flag (x : Nat) (h : rdNum bs s 1 = (x, s')) (w : World) (hR : RefR w d B bs s A2 c2) :
    Calls Try.prog 22 #[.pointer (some ⟨d, 0, none⟩), .int .u64 1] w fun ev w' => ev = .returned (.int .u64 (x : Int)) ∧ RR w d B bs s' A2 c2 w' := by
  have k := refnum_is d B bs s A2 c2 1 w hR (by omega)
  rw [h] at k; exact k
theorem kc_raw (i : Int) (ys : List Nat) (h0 : -9223372036854775808 ≤ i) (h1 : i ≤ 9223372036854775807) (hbl : bs.length ≤ 3000) (h : rdRaw bs s i = (ys, s')) (w : World) (hR : ReaderAt w b F bs s A cp) (hF : ∀ k, F k → k < w.heap.size) :
    Calls Try.prog 26 #[.pointer (some ⟨b, 0, none⟩), .int .i64 i] w fun ev w' => ∃ (A3 : Option Addr) (c3 : Nat), ev = .returned (.slice A3 ys.length c3) ∧ Lies w' (fun k => w.heap.size ≤ k) A3 ys ∧ Rd w b F bs s' A cp w' := by
  refine (rraw_is b F bs s A cp i w hR hF (by omega) h0 h1).mono ?_
  rintro ev w' ⟨v, rfl, hown, hL⟩
  rw [h] at hown hL
  obtain ⟨A3, c3, rfl, _, _, _, hl⟩ := Lies.own hown
  exact ⟨A3, c3, rfl, hl.imp (fun _ _ h => h.1), hL⟩
theorem kr_raw (i : Int) (ys : List Nat) (h0 : -9223372036854775808 ≤ i) (h1 : i ≤ 9223372036854775807) (hA0 : A2 = none → c2 = 0) (h : rdRaw bs s i = (ys, s')) (w : World) (hR : RefR w d B bs s A2 c2) :
    Calls Try.prog 27 #[.pointer (some ⟨d, 0, none⟩), .int .i64 i] w fun ev w' => ∃ (A3 : Option Addr) (c3 : Nat), ev = .returned (.slice A3 ys.length c3) ∧ Lies w' (fun k => w.heap.size ≤ k) A3 ys ∧ RR w d B bs s' A2 c2 w' := by
  refine (refrraw_is d B bs s A2 c2 i w hR hA0 h0 h1).mono ?_
  rintro ev w' ⟨v, rfl, hown, hL⟩
  rw [h] at hown hL
  obtain ⟨A3, c3, rfl, _, _, _, hl⟩ := Lies.own hown
  exact ⟨A3, c3, rfl, hl.imp (fun _ _ h => h.1), hL⟩
end
theorem rdRaw_len {bs : List Nat} {s : Nat × Nat} {i : Int} : (rdRaw bs s i).1.length ≤ bs.length := by
  unfold rdRaw
  split
  · simp
  · split
    · simp
    · split
      · simp
      · simp; omega

set_option maxRecDepth 100000 in
set_option maxHeartbeats 8000000 in
theorem walk (xs : List Nat) (A : Option Addr) (cap : Nat) (ops : List OpV) (Ao : Option Addr) (co : Nat) (w : World) (hx : Lies w (· < w.heap.size) A xs) (hxb : ∀ x ∈ xs, x < 256) (hxc : xs.length ≤ cap) (hxm : cap ≤ maxLen) (hA0 : A = none → cap = 0)
    (ho : OpsIn w w.heap.size Ao ops) (hlc : ops.length ≤ co) (hcm : co ≤ maxLen) :
    Calls Try.prog 4 #[.slice A xs.length cap, .slice Ao ops.length co] w fun e w' => e = .returned (.bool true) ∧ Below w.heap.size w w' := by
  by_cases hl : xs.length ≤ 3000
  · have hlI : (xs.length : Int) ≤ 3000 := by omega
    by_cases hfew : Few ops
    · have HFEW := Lib.hid hfew
      have h60 := hfew.2
      have HXB := Lib.hid hxb
      have HA0 := Lib.hid hA0
      clear hfew hxb hA0
      go_enter Try.func4, Try.ntmps4
      go_wp2_with (first
        | (go_at_call 8; refine (coder_awake _).mono ?_; rintro e w1 ⟨rfl, hb1⟩)
        | (go_at_call 9; refine (few_yes ops Ao co w.heap.size _ (ho.below hb1) hb1.size HFEW.out).mono ?_; rintro e w2 ⟨rfl, hb2⟩; have hx2 := (hx.hold (w' := w1) (fun p hp => hb1.cell hp)).hold (w' := w2) (fun p hp => hb2.cell (Nat.lt_of_lt_of_le hp hb1.size)))
        | (go_at_call 20; refine (open_is xs _ A cap _ hx2 (by omega) HXB.out).mono ?_; rintro e w3 ⟨br, A', c', rfl, hR, hbr, hb3⟩))
      have hB2 : Below w.heap.size w w2 := hb1.trans (hb2.mono hb1.size)
      have hB3 : Below w.heap.size w w3 := hB2.trans (hb3.mono hB2.size)
      have hx3 := hx2.hold (w' := w3) (fun p hp => hb3.cell (Nat.lt_of_lt_of_le hp hB2.size))
      have hD0 : RefR (w3.alloc (.cells #[.slice A xs.length cap, .int .i64 0, .int .i64 0] 53)) w3.heap.size w.heap.size xs (0, 0) A cap :=
        ⟨heap_alloc_new w3 _, hx3.grown (grown_alloc w3 _ none) (by simp), hxc, hxm, Nat.zero_le _, Nat.zero_le _, hB3.size, HXB.out, hl⟩
      have hR0 := hR.grown (grown_alloc w3 (.cells #[.slice A xs.length cap, .int .i64 0, .int .i64 0] 53) none) (by simp) (by simp)
      have hB3' := hB3.alloc hB3.size (.cells #[.slice A xs.length cap, .int .i64 0, .int .i64 0] 53)
      have hbrl := hR.lt
      have hbrw : w.heap.size ≤ br := Nat.le_trans hB2.size hbr
      have hdw : w.heap.size ≤ w3.heap.size := hB3.size
      obtain ⟨d, hd⟩ : ∃ d, d = w3.heap.size := ⟨_, rfl⟩
      rw [← hd] at hD0 hbrl hdw ⊢
      clear hx2 hx3 hR hd
      go_loopw [26] (fun iv wr => ∃ (k : Nat) (st : Nat × Nat), k ≤ ops.length ∧ iv = .int .i64 (k : Int) ∧ ReaderAt wr br (fun q => w2.heap.size ≤ q ∧ q < br) xs st A' c' ∧ RefR wr d w.heap.size xs st A cap ∧ Below w.heap.size w wr) (fun iv _ => ops.length - (intOf iv).toNat)
      case atStart => exact ⟨0, (0, 0), Nat.zero_le _, rfl, hR0, hD0, hB3'⟩
      case round =>
        obtain ⟨k, st, hk, rfl, hRr, hDr, hBr⟩ := hrel
        by_cases hlt : k < ops.length
        · obtain ⟨hin, a, rfl, c0, c1, c2, c3⟩ := (ho.below hBr).at (List.getElem?_eq_getElem hlt)
          obtain ⟨o, hoo⟩ : ∃ o, Hid (ops[k] = o) := ⟨ops[k], Lib.hid rfl⟩
          rw [hoo.out] at hin c0 c1 c2 c3
          have hkI : (k : Int) < (ops.length : Int) := by omega
          have hDl := hDr.lt
          have hneb : wr.heap.size ≠ br := by omega
          have hned : wr.heap.size ≠ d := by omega
          have hRa := hRr.grown (grown_alloc wr (.cells #[.int .i64 o.kd, .int .i64 o.i, .int .u64 (o.n : Int), .slice o.row o.bs.length o.cap] 39) none) (by simp) (by simp)
          have hDa := hDr.grown (grown_alloc wr (.cells #[.int .i64 o.kd, .int .i64 o.i, .int .u64 (o.n : Int), .slice o.row o.bs.length o.cap] 39) none) (by simp) (by simp)
          have hBa := hBr.alloc hBr.size (.cells #[.int .i64 o.kd, .int .i64 o.i, .int .u64 (o.n : Int), .slice o.row o.bs.length o.cap] 39)
          have q1 := new_row wr #[.int .i64 o.kd, .int .i64 o.i, .int .u64 (o.n : Int), .slice o.row o.bs.length o.cap] 39 1 _ rfl
          have q2 := new_row wr #[.int .i64 o.kd, .int .i64 o.i, .int .u64 (o.n : Int), .slice o.row o.bs.length o.cap] 39 2 _ rfl
          have q3 := new_row wr #[.int .i64 o.kd, .int .i64 o.i, .int .u64 (o.n : Int), .slice o.row o.bs.length o.cap] 39 3 _ rfl
          clear hRr hDr
          by_cases h1 : o.kd = 1
          · have e1 : (o.kd == 1) = true := by rw [h1]; rfl
            clear h1
            obtain ⟨x, s', hrd⟩ : ∃ x s', Hid (rdNum xs st o.n = (x, s')) := ⟨_, _, rfl⟩
            go_wp2
            generalize (wr.alloc (.cells #[.int .i64 o.kd, .int .i64 o.i, .int .u64 (o.n : Int), .slice o.row o.bs.length o.cap] 39)) = wa at q1 q2 q3 hRa hDa hBa ⊢
            have hRd : ReaderAt wa.drew br (fun q => w2.heap.size ≤ q ∧ q < br) xs st A' c' := hRa.drewN 1
            have hDd : RefR wa.drew d w.heap.size xs st A cap := RefR.drewN hDa 1
            have hBd : Below w.heap.size w wa.drew := hBa.drew
            go_region_held3 (fun w' => w'.cell? ⟨wr.heap.size, 1, none⟩ = some (.int .i64 o.i) ∧ w'.cell? ⟨wr.heap.size, 2, none⟩ = some (.int .u64 (o.n : Int)) ∧ w'.cell? ⟨wr.heap.size, 3, none⟩ = some (.slice o.row o.bs.length o.cap))
              (first | exact op_start q1 q2 q3 | exact op_keep (by assumption) (by assumption) hneb | exact op_keep (by assumption) (by assumption) hned | exact op_keep2 (by assumption) (by assumption))
              (first
                | (go_at_call 21; refine (kc_num br _ xs st s' A' c' o.n x hin.word hrd.out _ hRd).mono ?_; rintro e w5 ⟨rfl, hR5, hg5⟩; have hD5 := hDd.grown hg5 (by intro e; injection e with e; omega) (fun k hk e => by injection e with e; omega))
                | (go_at_call 22; refine (kr_num d w.heap.size xs st s' A cap o.n x hin.word hrd.out _ hD5).mono ?_; rintro e w6 ⟨rfl, hD6, hg6⟩; have hR6 := hR5.grown hg6 (by intro e; injection e with e; omega) (fun k hk e => by injection e with e; have := hk.2; omega)))
            go_wp2_with fail
            have hB5 := hBd.trans (below_of_grown hg5 hbrw hBd.size)
            have hB6 := hB5.trans (below_of_grown hg6 hdw hB5.size)
            obtain ⟨y0, y1, y2, _, _⟩ := hD6.cells
            go_quiet ((first
              | (go_at_call 28; exact quiet_one (rat_is br _ xs _ A' c' _ (hR6.drewN _)))
              | (go_at_call 29; exact quiet_one (rerr_is br _ xs _ A' c' _ (hR6.drewN _)))
              | (go_at_call 30; exact Calls.quiet_of (rdone_is br _ xs _ A' c' _ (hR6.drewN _)))
              | (go_at_call 31; exact Calls.quiet_of (refdone_is d _ xs _ A cap _ (RefR.drewN hD6 _)))))
            go_wp2_with fail
            go_roundw
            case rel => exact ⟨k + 1, s', by omega, by go_num, hR6.drewN _, RefR.drewN hD6 _, below_drewN hB6 _⟩
            case measure => simp [intOf]; omega
          · have n1 : (o.kd == 1) = false := by simpa using h1
            by_cases h2 : o.kd = 2
            · have e2 : (o.kd == 2) = true := by rw [h2]; rfl
              clear h1 h2
              obtain ⟨x, s', hrd⟩ : ∃ x s', Hid (rdInt xs st o.i = (x, s')) := ⟨_, _, rfl⟩
              go_wp2
              generalize (wr.alloc (.cells #[.int .i64 o.kd, .int .i64 o.i, .int .u64 (o.n : Int), .slice o.row o.bs.length o.cap] 39)) = wa at q1 q2 q3 hRa hDa hBa ⊢
              have hRd : ReaderAt wa.drew br (fun q => w2.heap.size ≤ q ∧ q < br) xs st A' c' := hRa.drewN 1
              have hDd : RefR wa.drew d w.heap.size xs st A cap := RefR.drewN hDa 1
              have hBd : Below w.heap.size w wa.drew := hBa.drew
              go_region_held3 (fun w' => w'.cell? ⟨wr.heap.size, 1, none⟩ = some (.int .i64 o.i) ∧ w'.cell? ⟨wr.heap.size, 2, none⟩ = some (.int .u64 (o.n : Int)) ∧ w'.cell? ⟨wr.heap.size, 3, none⟩ = some (.slice o.row o.bs.length o.cap))
                (first | exact op_start q1 q2 q3 | exact op_keep (by assumption) (by assumption) hneb | exact op_keep (by assumption) (by assumption) hned | exact op_keep2 (by assumption) (by assumption))
                (first
                  | (go_at_call 23; refine (kc_int br _ xs st s' A' c' o.i x hin.lo hin.hi hrd.out _ hRd).mono ?_; rintro e w5 ⟨rfl, hR5, hg5⟩; have hD5 := hDd.grown hg5 (by intro e; injection e with e; omega) (fun k hk e => by injection e with e; omega))
                  | (go_at_call 24; refine (kr_int d w.heap.size xs st s' A cap o.i x hin.lo hin.hi hrd.out _ hD5).mono ?_; rintro e w6 ⟨rfl, hD6, hg6⟩; have hR6 := hR5.grown hg6 (by intro e; injection e with e; omega) (fun k hk e => by injection e with e; have := hk.2; omega)))
              go_wp2_with fail
              have hB5 := hBd.trans (below_of_grown hg5 hbrw hBd.size)
              have hB6 := hB5.trans (below_of_grown hg6 hdw hB5.size)
              obtain ⟨y0, y1, y2, _, _⟩ := hD6.cells
              go_quiet ((first
                | (go_at_call 28; exact quiet_one (rat_is br _ xs _ A' c' _ (hR6.drewN _)))
                | (go_at_call 29; exact quiet_one (rerr_is br _ xs _ A' c' _ (hR6.drewN _)))
                | (go_at_call 30; exact Calls.quiet_of (rdone_is br _ xs _ A' c' _ (hR6.drewN _)))
                | (go_at_call 31; exact Calls.quiet_of (refdone_is d _ xs _ A cap _ (RefR.drewN hD6 _)))))
              go_wp2_with fail
              go_roundw
              case rel => exact ⟨k + 1, s', by omega, by go_num, hR6.drewN _, RefR.drewN hD6 _, below_drewN hB6 _⟩
              case measure => simp [intOf]; omega
            · have n2 : (o.kd == 2) = false := by simpa using h2
              by_cases h3 : o.kd = 3
              · have e3 : (o.kd == 3) = true := by rw [h3]; rfl
                clear h1 h2 h3
                obtain ⟨x, s', hrd⟩ : ∃ x s', Hid (rdNum xs st 1 = (x, s')) := ⟨_, _, rfl⟩
                go_wp2_with (first
                  | (go_at_call 25; refine (kc_flag br _ xs st s' A' c' x hrd.out _ hRa).mono ?_; rintro e w5 ⟨rfl, hR5, hg5⟩; have hD5 := hDa.grown hg5 (by intro e; injection e with e; omega) (fun k hk e => by injection e with e; omega))
                  | (go_at_call 22; refine (kr_flag d w.heap.size xs st s' A cap x hrd.out _ hD5).mono ?_; rintro e w6 ⟨rfl, hD6, hg6⟩; have hR6 := hR5.grown hg6 (by intro e; injection e with e; omega) (fun k hk e => by injection e with e; have := hk.2; omega)))
                have hB5 := hBa.trans (below_of_grown hg5 hbrw hBa.size)
                have hB6 := hB5.trans (below_of_grown hg6 hdw hB5.size)
                obtain ⟨y0, y1, y2, _, _⟩ := hD6.cells
                go_quiet ((first
                  | (go_at_call 28; exact quiet_one (rat_is br _ xs _ A' c' _ (hR6.drewN _)))
                  | (go_at_call 29; exact quiet_one (rerr_is br _ xs _ A' c' _ (hR6.drewN _)))
                  | (go_at_call 30; exact Calls.quiet_of (rdone_is br _ xs _ A' c' _ (hR6.drewN _)))
                  | (go_at_call 31; exact Calls.quiet_of (refdone_is d _ xs _ A cap _ (RefR.drewN hD6 _)))))
                go_wp2_with fail
                go_roundw
                case rel => exact ⟨k + 1, s', by omega, by go_num, hR6.drewN _, RefR.drewN hD6 _, below_drewN hB6 _⟩
                case measure => simp [intOf]; omega
              · have n3 : (o.kd == 3) = false := by simpa using h3
                by_cases h4 : o.kd = 4
                · have e4 : (o.kd == 4) = true := by rw [h4]; rfl
                  clear h1 h2 h3 h4
                  have hyl := rdRaw_len (bs := xs) (s := st) (i := o.i)
                  obtain ⟨ys, s', hrd⟩ : ∃ ys s', Hid (rdRaw xs st o.i = (ys, s')) := ⟨_, _, rfl⟩
                  rw [hrd.out] at hyl
                  go_wp2
                  generalize (wr.alloc (.cells #[.int .i64 o.kd, .int .i64 o.i, .int .u64 (o.n : Int), .slice o.row o.bs.length o.cap] 39)) = wa at q1 q2 q3 hRa hDa hBa ⊢
                  have hRd : ReaderAt wa.drew br (fun q => w2.heap.size ≤ q ∧ q < br) xs st A' c' := hRa.drewN 1
                  have hDd : RefR wa.drew d w.heap.size xs st A cap := RefR.drewN hDa 1
                  have hBd : Below w.heap.size w wa.drew := hBa.drew
                  go_region_held3 (fun w' => w'.cell? ⟨wr.heap.size, 1, none⟩ = some (.int .i64 o.i) ∧ w'.cell? ⟨wr.heap.size, 2, none⟩ = some (.int .u64 (o.n : Int)) ∧ w'.cell? ⟨wr.heap.size, 3, none⟩ = some (.slice o.row o.bs.length o.cap))
                    (first | exact op_start q1 q2 q3 | exact op_keep (by assumption) (by assumption) hneb | exact op_keep (by assumption) (by assumption) hned | exact op_keep2 (by assumption) (by assumption))
                    (first
                      | (go_at_call 26; refine (kc_raw br _ xs st s' A' c' o.i ys hin.lo hin.hi hl hrd.out _ hRd (fun q h => Nat.lt_trans h.2 hRd.lt)).mono ?_; rintro e w5 ⟨A5, c5, rfl, hL5, hR5, hg5⟩; have hD5 := hDd.grown hg5 (by intro e; injection e with e; omega) (fun k hk e => by injection e with e; omega))
                      | (go_at_call 27; refine (kr_raw d w.heap.size xs st s' A cap o.i ys hin.lo hin.hi HA0.out hrd.out _ hD5).mono ?_; rintro e w6 ⟨A6, c6, rfl, hL6, hD6, hg6⟩; have hR6 := hR5.grown hg6 (by intro e; injection e with e; omega) (fun k hk e => by injection e with e; have := hk.2; omega); have hL5' := hL5.grown hg6 (fun k hk e => by injection e with e; have := hDd.lt; omega))
                      | (go_at_call 19; refine (same_true ys _ _ A5 A6 c5 c6 _ hL5' hL6 (by unfold maxLen; omega)).mono ?_; rintro e w7 ⟨rfl, hb7⟩))
                  go_wp2_with fail
                  have hB5 := hBd.trans (below_of_grown hg5 hbrw hBd.size)
                  have hB6 := hB5.trans (below_of_grown hg6 hdw hB5.size)
                  have hR7 := hR6.grown (grown_below hb7 none) (by simp) (by simp)
                  have hD7 := hD6.grown (grown_below hb7 none) (by simp) (by simp)
                  have hB7 := hB6.trans (hb7.mono hB6.size)
                  obtain ⟨y0, y1, y2, _, _⟩ := hD7.cells
                  go_quiet ((first
                    | (go_at_call 28; exact quiet_one (rat_is br _ xs _ A' c' _ (hR7.drewN _)))
                    | (go_at_call 29; exact quiet_one (rerr_is br _ xs _ A' c' _ (hR7.drewN _)))
                    | (go_at_call 30; exact Calls.quiet_of (rdone_is br _ xs _ A' c' _ (hR7.drewN _)))
                    | (go_at_call 31; exact Calls.quiet_of (refdone_is d _ xs _ A cap _ (RefR.drewN hD7 _)))))
                  go_wp2_with fail
                  go_roundw
                  case rel => exact ⟨k + 1, s', by omega, by go_num, hR7.drewN _, RefR.drewN hD7 _, below_drewN hB7 _⟩
                  case measure => simp [intOf]; omega
                · have n4 : (o.kd == 4) = false := by simpa using h4
                  clear h1 h2 h3 h4
                  go_wp2
                  obtain ⟨y0, y1, y2, _, _⟩ := hDa.cells
                  go_quiet ((first
                    | (go_at_call 28; exact quiet_one (rat_is br _ xs _ A' c' _ (hRa.drewN _)))
                    | (go_at_call 29; exact quiet_one (rerr_is br _ xs _ A' c' _ (hRa.drewN _)))
                    | (go_at_call 30; exact Calls.quiet_of (rdone_is br _ xs _ A' c' _ (hRa.drewN _)))
                    | (go_at_call 31; exact Calls.quiet_of (refdone_is d _ xs _ A cap _ (RefR.drewN hDa _)))))
                  go_wp2_with fail
                  go_roundw
                  case rel => exact ⟨k + 1, st, by omega, by go_num, hRa.drewN _, RefR.drewN hDa _, below_drewN hBa _⟩
                  case measure => simp [intOf]; omega
        · obtain rfl : k = ops.length := by omega
          clear hlt hk
          go_wp2
          go_ret
          exact ⟨rfl, hBr⟩
    · have HFEW := Lib.hid hfew
      clear hfew
      go_enter Try.func4, Try.ntmps4
      go_wp2_with (first
        | (go_at_call 8; refine (coder_awake _).mono ?_; rintro e w1 ⟨rfl, hb1⟩)
        | (go_at_call 9; refine (few_no ops Ao co w.heap.size _ (ho.below hb1) hb1.size hlc hcm HFEW.out).mono ?_; rintro e w2 ⟨rfl, hb2⟩))
      go_ret
      exact ⟨rfl, hb1.trans (hb2.mono hb1.size)⟩
  · have hlI : (3000 : Int) < (xs.length : Int) := by omega
    clear hl hxb hA0
    go_enter Try.func4, Try.ntmps4
    go_wp2_with (go_at_call 8; refine (coder_awake _).mono ?_; rintro e w1 ⟨rfl, hb1⟩)
    go_ret
    exact ⟨rfl, hb1⟩

theorem own : ownKnob Try.prog.godebug = none := by kernel_rfl
theorem laidOut : laidOutB Try.prog = true := by kernel_rfl

set_option maxRecDepth 100000 in
theorem lifted (os : Os) (started : os.Started) (H : Type) (enc : TypeId × Value → H) :
    ReturnsInHanded {} Try.checked os 4 .any (Rows.coderReadsSpec.pre6 enc Try.prog Try.f4 Rows.coderReadsRow.domain false) (Rows.coderReadsSpec.post enc Try.prog Try.f4 false true false false) := by
  refine returnsInHanded_of_change (C := Try.checked) own started (by kernel_rfl) Try.func4
    (ChangeSpec.witness6 (enc := enc) (C := Try.checked) false ⟨#[], #[.slice none 0 0, .slice none 0 0], []⟩ 8 (by kernel_rfl) (by kernel_rfl) (by kernel_rfl) (by kernel_rfl)) ?_
  intro W base args ds gs before hval0 hW hcnd _
  have hval : ∀ (j : Nat) t v, Try.f4.params[j]? = some t → args[j]? = some v → Value.okWide Try.prog W .any base t v := hval0
  have hW' := hW
  obtain ⟨p, q, hA0, hV, rfl, hfz, hnd⟩ := hW
  have hlt : ∀ x ∈ p ++ q, x.block < W.heap.size := fun x hx => hW'.lt x hx
  have hA : DataW.TrodAll enc Try.prog W 0 (fun _ => true) true Try.f4.params.toList args.toList ds p := hA0
  rw [Try.params4] at hA hval
  obtain ⟨v0, vs0, d0, ds0, p0, q0, hargs, rfl, rfl, h0, r0⟩ := trodAll_cons hA
  obtain ⟨v1, vs1, d1, ds1, p1, q1, rfl, rfl, rfl, h1, r1⟩ := trodAll_cons r0
  obtain ⟨rfl, rfl, rfl⟩ := trodAll_nil r1
  obtain rfl : args = #[v0, v1] := by cases args; simp_all
  obtain ⟨rfl, rfl⟩ := trodVars_none hV
  obtain ⟨A0, n0, c0, rfl⟩ := okWide_slice Try.underlying34 (hval 0 34 v0 rfl rfl)
  obtain ⟨ns0, hl0, hn0, hc0, hm0, hr0, hA0⟩ := open_u8s Try.underlying34 Try.underlying5 (by kernel_rfl) h0
  subst hl0
  obtain ⟨A1, n1, c1, rfl⟩ := okWide_slice Try.underlying22 (hval 1 22 v1 rfl rfl)
  obtain ⟨ops1, hl1, hc1, hm1, ho1⟩ := open_ops h1
  subst hl1
  clear hA0 hval0
  refine (walk ns0 A0 c0 ops1 A1 c1 W (Lies.ofRow hr0) hn0 hc0 hm0 hA0 ho1 hc1 hm1).mono fun e W' ⟨he, hg⟩ => ?_
  subst he
  exact ⟨_, rfl, law_post laidOut (by kernel_rfl) rfl rfl Try.underlying4 rfl hW' hg⟩

theorem over : Rows.coderReadsRow.holds Try.pinned (OpenSpec.ofChange Rows.coderReadsSpec) :=
  OpenClaim.holds_of_wide 4 Try.f4 rfl rfl rfl rfl rfl rfl rfl ⟨rfl, rfl, rfl, rfl, rfl⟩ rfl rfl rfl rfl rfl (by kernel_rfl) Try.func4 (by kernel_rfl)
    (of_decide_eq_true (by kernel_rfl)) (by unfold Func.isWrapper; first | (rw [if_pos (by decide +kernel)]; kernel_rfl) | (rw [if_neg (by decide +kernel)]; exact ⟨rfl, rfl⟩))
    (fun os started H enc _ => lifted os started H enc)

/-- The statement. -/
theorem proved : Rows.CoderReadsSaid := over
#print axioms proved

end Go.Proofs.Ytmagjfjmaojemaa.CoderReads
