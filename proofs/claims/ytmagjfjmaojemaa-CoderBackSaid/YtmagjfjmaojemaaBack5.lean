/- Law CoderBack (P5.4): what is written is read as it was, to the last byte; cut off anywhere it is not all there. -/
import Derived.Test.YtmagjfjmaojemaaAwake5
import Derived.Test.YtmagjfjmaojemaaFew5
import Derived.Test.YtmagjfjmaojemaaCoderB
import Derived.Test.YtmagjfjmaojemaaLaw8
import Derived.Test.YtmagjfjmaojemaaRows
namespace Go.Proofs.Ytmagjfjmaojemaa.CoderBack
open Go.RowKit Go.ChangeShapes Go.WideShapes Go.ChangeAt
set_option linter.unusedVariables false
set_option linter.unusedSimpArgs false

theorem rmax_is (b : Nat) (F : Nat → Prop) (bs : List Nat) (s : Nat × Nat) (A : Option Addr) (cp : Nat) (w : World) (hR : ReaderAt w b F bs s A cp) (x : Nat) (s' : Nat × Nat) (h : rdNum bs s 18446744073709551615 = (x, s')) :
    Calls Try.prog 21 #[.pointer (some ⟨b, 0, none⟩), .int .u64 18446744073709551615] w fun ev w' => ev = .returned (.int .u64 (x : Int)) ∧ Rd w b F bs s' A cp w' := by
  have k := rnum_is b F bs s A cp 18446744073709551615 w hR (by omega)
  rw [h] at k
  exact k

/-- Behind a call on a writer. -/
theorem Left.on {w w' : World} {b L : Nat} {F : Nat → Prop} {s : List Nat × Nat} (h : Left w b F s w') (hF : ∀ k, F k → L ≤ k) (hL : L ≤ w.heap.size) : ∃ F', Writes w' b F' s ∧ (∀ k, F' k → L ≤ k) := by
  obtain ⟨⟨F', hW, hF'⟩, hg⟩ := h
  exact ⟨F', hW, fun k hk => by rcases hF' k hk with h1 | h1; exact hF k h1; exact Nat.le_trans hL h1⟩

theorem flat_split {ops : List OpV} {k : Nat} (h : k < ops.length) : ops.flatMap item = (ops.take k).flatMap item ++ (item ops[k] ++ (ops.drop (k + 1)).flatMap item) := by
  have h1 : ops.take k ++ (ops[k] :: ops.drop (k + 1)) = ops := by rw [← List.drop_eq_getElem_cons h, List.take_append_drop]
  have h2 : (ops.take k ++ (ops[k] :: ops.drop (k + 1))).flatMap item = (ops.take k).flatMap item ++ (item ops[k] ++ (ops.drop (k + 1)).flatMap item) := by rw [List.flatMap_append, List.flatMap_cons]
  rwa [h1] at h2
theorem flag_back (o : OpV) : (flg o == 1) = (o.i == 1) := by
  unfold flg
  by_cases h : (o.i == 1) = true
  · rw [if_pos h, h]; rfl
  · rw [if_neg h]
    have : (o.i == 1) = false := by simpa using h
    rw [this]; rfl
theorem op_start {w : World} {g : Nat} {x y z : Value} (h1 : w.cell? ⟨g, 1, none⟩ = some x) (h2 : w.cell? ⟨g, 2, none⟩ = some y) (h3 : w.cell? ⟨g, 3, none⟩ = some z) : w.drew.cell? ⟨g, 1, none⟩ = some x ∧ w.drew.cell? ⟨g, 2, none⟩ = some y ∧ w.drew.cell? ⟨g, 3, none⟩ = some z := ⟨h1, h2, h3⟩
theorem op_keep {w w' : World} {g br : Nat} {x y z : Value} (h : w.cell? ⟨g, 1, none⟩ = some x ∧ w.cell? ⟨g, 2, none⟩ = some y ∧ w.cell? ⟨g, 3, none⟩ = some z) (hg : w.grownBy w' (some br)) (hne : g ≠ br) : w'.cell? ⟨g, 1, none⟩ = some x ∧ w'.cell? ⟨g, 2, none⟩ = some y ∧ w'.cell? ⟨g, 3, none⟩ = some z := by
  have hl : g < w.heap.size := World.block_lt_of_cell? w _ h.1
  have hb := hg.block g hl (fun e => hne (by injection e))
  refine ⟨?_, ?_, ?_⟩
  · rw [World.cell?_of_block (a := ⟨g, 1, none⟩) hb]; exact h.1
  · rw [World.cell?_of_block (a := ⟨g, 2, none⟩) hb]; exact h.2.1
  · rw [World.cell?_of_block (a := ⟨g, 3, none⟩) hb]; exact h.2.2
theorem op_keep2 {w w' : World} {g : Nat} {x y z : Value} (h : w.cell? ⟨g, 1, none⟩ = some x ∧ w.cell? ⟨g, 2, none⟩ = some y ∧ w.cell? ⟨g, 3, none⟩ = some z) (hb : Below w.heap.size w w') : w'.cell? ⟨g, 1, none⟩ = some x ∧ w'.cell? ⟨g, 2, none⟩ = some y ∧ w'.cell? ⟨g, 3, none⟩ = some z := by
  have hl : g < w.heap.size := World.block_lt_of_cell? w _ h.1
  exact ⟨(hb.cell (p := ⟨g, 1, none⟩) hl).trans h.1, (hb.cell (p := ⟨g, 2, none⟩) hl).trans h.2.1, (hb.cell (p := ⟨g, 3, none⟩) hl).trans h.2.2⟩
theorem rflag_back (b : Nat) (F : Nat → Prop) (bs : List Nat) (s s' : Nat × Nat) (A : Option Addr) (cp : Nat) (w : World) (hR : ReaderAt w b F bs s A cp) (o : OpV) (h : rdNum bs s 1 = (flg o, s')) :
    Calls Try.prog 25 #[.pointer (some ⟨b, 0, none⟩)] w fun ev w' => ev = .returned (.bool (o.i == 1)) ∧ Rd w b F bs s' A cp w' := by
  have k := rflag_is b F bs s A cp w hR
  rw [h] at k
  simp only [flag_back] at k
  exact k
theorem rraw_back (b : Nat) (F : Nat → Prop) (bs : List Nat) (s s' : Nat × Nat) (A : Option Addr) (cp : Nat) (w : World) (hR : ReaderAt w b F bs s A cp) (hF : ∀ k, F k → k < w.heap.size) (hbl : bs.length ≤ 140737488355328) (xs : List Nat) (n : Nat) (hn : n ≤ 9223372036854775807) (h : rdRaw bs s (n : Int) = (xs, s')) :
    Calls Try.prog 26 #[.pointer (some ⟨b, 0, none⟩), .int .i64 (n : Int)] w fun ev w' => ∃ v, ev = .returned v ∧ w'.ownsRow w.heap.size 5 1 v xs.length (u8s xs) ∧ Rd w b F bs s' A cp w' := by
  have k := rraw_is b F bs s A cp (n : Int) w hR hF hbl (by omega) (by omega)
  rw [h] at k
  exact k

theorem Lies.cut {w : World} {S : Nat → Prop} {A : Option Addr} {xs : List Nat} (h : Lies w S A xs) (n : Nat) : Lies w S A (xs.take n) := fun k x hx => by
  rw [List.getElem?_take] at hx
  split at hx
  · exact h k x hx
  · cases hx

theorem grown_cell {w w' : World} {b g : Nat} (hg : w.grownBy w' (some b)) (hne : g ≠ b) (hl : g < w.heap.size) (j : Nat) : w'.cell? ⟨g, j, none⟩ = w.cell? ⟨g, j, none⟩ :=
  World.cell?_of_block (a := ⟨g, j, none⟩) (hg.block g hl (fun e => hne (by injection e)))

set_option maxRecDepth 100000 in
set_option maxHeartbeats 4000000 in
theorem walk (ops : List OpV) (A : Option Addr) (c : Nat) (cut : Int) (w : World) (ho : OpsIn w w.heap.size A ops) (hlc : ops.length ≤ c) (hcm : c ≤ maxLen) (hc0 : -9223372036854775808 ≤ cut) (hc1 : cut ≤ 9223372036854775807) :
    Calls Try.prog 6 #[.slice A ops.length c, .int .i64 cut] w fun e w' => e = .returned (.bool true) ∧ Below w.heap.size w w' := by
  have hz := run_zero
  by_cases hfew : Few ops
  · by_cases hneg : cut < 0
    · have HFEW := Lib.hid hfew
      clear hfew
      go_enter Try.func6, Try.ntmps6
      go_wp2_with (first
        | (go_at_call 8; refine (coder_awake _).mono ?_; rintro e w1 ⟨rfl, hb1⟩)
        | (go_at_call 9; refine (few_yes ops A c w.heap.size _ (ho.below hb1) hb1.size HFEW.out).mono ?_; rintro e w2 ⟨rfl, hb2⟩))
      go_ret
      exact ⟨rfl, hb1.trans (hb2.mono hb1.size)⟩
    · obtain ⟨cn, rfl⟩ := Int.eq_ofNat_of_zero_le (by omega : 0 ≤ cut)
      have hng1 : decide ((cn : Int) < 0) = false := by simp
      have hng2 : ((cn : Int) < 0) = False := by simp
      have hln := hfew.2
      have HFEW := Lib.hid hfew
      clear hfew hneg
      go_enter Try.func6, Try.ntmps6
      go_wp2_with (first
        | (go_at_call 8; refine (coder_awake _).mono ?_; rintro e w1 ⟨rfl, hb1⟩)
        | (go_at_call 9; refine (few_yes ops A c w.heap.size _ (ho.below hb1) hb1.size HFEW.out).mono ?_; rintro e w2 ⟨rfl, hb2⟩))
      have hnew := writer_new w2
      have hB2 : Below w.heap.size w w2 := hb1.trans (hb2.mono hb1.size)
      have hB2' : Below w.heap.size w (w2.alloc (.cells zeroWriter 32)) := hB2.alloc hB2.size _
      have hbw : w.heap.size ≤ w2.heap.size := hB2.size
      go_loopw [29] (fun iv wr => ∃ (k : Nat) (F' : Nat → Prop), k ≤ ops.length ∧ iv = .int .i64 (k : Int) ∧ Writes wr w2.heap.size F' (wops ([], 0) (ops.take k)) ∧ Below w.heap.size w wr) (fun iv _ => ops.length - (intOf iv).toNat)
      case atStart => exact ⟨0, _, Nat.zero_le _, rfl, hnew, hB2'⟩
      case round =>
        obtain ⟨k, F', hk, rfl, hWr, hBr⟩ := hrel
        by_cases hlt : k < ops.length
        · obtain ⟨hin, a, rfl, c0, c1, c2, c3⟩ := (ho.below hBr).at (List.getElem?_eq_getElem hlt)
          have htk := List.take_succ_eq_append_getElem hlt
          obtain ⟨o, hoo⟩ : ∃ o, Hid (ops[k] = o) := ⟨ops[k], Lib.hid rfl⟩
          rw [hoo.out] at hin c0 c1 c2 c3 htk
          have HTK := Lib.hid htk
          have hkI : (k : Int) < (ops.length : Int) := by omega
          have hbl := hWr.lt
          have q1 := new_row wr #[.int .i64 o.kd, .int .i64 o.i, .int .u64 (o.n : Int), .slice o.row o.bs.length o.cap] 39 1 _ rfl
          have q3 := new_row wr #[.int .i64 o.kd, .int .i64 o.i, .int .u64 (o.n : Int), .slice o.row o.bs.length o.cap] 39 3 _ rfl
          have hW1 := hWr.below ((Below.refl _ wr).alloc (Nat.le_refl _) (.cells #[.int .i64 o.kd, .int .i64 o.i, .int .u64 (o.n : Int), .slice o.row o.bs.length o.cap] 39))
          have hBr1 := hBr.alloc hBr.size (.cells #[.int .i64 o.kd, .int .i64 o.i, .int .u64 (o.n : Int), .slice o.row o.bs.length o.cap] 39)
          have hne : wr.heap.size ≠ w2.heap.size := by omega
          have hrl : wr.heap.size < (wr.alloc (.cells #[.int .i64 o.kd, .int .i64 o.i, .int .u64 (o.n : Int), .slice o.row o.bs.length o.cap] 39)).heap.size := by simp
          have HQ1 := Lib.hid q1
          have HQ3 := Lib.hid q3
          clear htk q1 q3
          go_wp2_with (first
            | (go_at_call 10; refine (num_is w2.heap.size _ _ o.n _ hW1 hin.word).mono ?_; rintro e w3 ⟨rfl, ⟨F3, hW3, _⟩, hg3⟩; have p1 := (grown_cell hg3 hne hrl 1).trans HQ1.out; have p3 := (grown_cell hg3 hne hrl 3).trans HQ3.out)
            | (go_at_call 15; refine (flag_is w2.heap.size _ _ (o.i == 1) _ hW3).mono ?_; rintro e w4 ⟨rfl, ⟨F4, hW4, _⟩, hg4⟩; have p3 := (grown_cell hg4 hne (Nat.lt_of_lt_of_le hrl hg3.size) 3).trans p3; have hB4r : Below w.heap.size wr w4 := (((Below.refl _ wr).alloc hBr.size _).trans (below_of_grown hg3 hbw hBr1.size)).trans (below_of_grown hg4 hbw (Nat.le_trans hBr1.size hg3.size)); have hx4 : Lies w4 (· ≠ w2.heap.size) o.row o.bs := (hin.below hB4r).lies.imp (fun q _ hq e => by omega); have hB4 := hBr.trans hB4r)
            | (go_at_call 16; refine (raw_is w2.heap.size _ _ o.bs o.row o.cap _ hW4 hx4 hin.room hin.most).mono ?_; rintro e w5 ⟨rfl, ⟨F5, hW5, _⟩, hg5⟩))
          go_roundw
          case rel => exact ⟨k + 1, F5, by omega, by go_num, by rw [HTK.out, wops_snoc]; exact hW5, hB4.trans (below_of_grown hg5 hbw hB4.size)⟩
          case measure => simp [intOf]; omega
        · obtain rfl : k = ops.length := by omega
          rw [List.take_length] at hWr
          clear hlt hk hnew hB2'
          by_cases hE : (wops ([], 0) ops).2 = 0
          · have hT0 := (wops_zero ops ([], 0) hE).2
            rw [List.nil_append] at hT0
            obtain ⟨T, hT⟩ : ∃ T, Hid (ops.flatMap item = T) := ⟨_, rfl⟩
            rw [hT0, hT.out] at hWr
            clear hT0 hE
            have hTl : T.length ≤ 131072 := by obtain ⟨m, p, pre, tail, part, hx⟩ := hWr; exact hx.most
            have hTb : ∀ x ∈ T, x < 256 := by
              rw [← hT.out]
              intro x hx
              obtain ⟨o, ho1, ho2⟩ := List.mem_flatMap.1 hx
              obtain ⟨k, hk, rfl⟩ := List.getElem_of_mem ho1
              exact item_bytes (ho.below hBr k ops[k] (List.getElem?_eq_getElem hk)).1.bytes x ho2
            have HTB := Lib.hid hTb
            clear hTb
            go_wp2_with (first
              | (go_at_call 18; refine (out_ok _ _ _ _ hWr).mono ?_; rintro e w3 ⟨v, rfl, hown, hb3⟩; obtain ⟨Av, cv, rfl, hl1, hl2, hl3, hLv⟩ := Lies.own hown; clear hl3)
              | (go_at_call 20; refine (open_is T _ Av cv _ hLv (by omega) HTB.out).mono ?_; rintro e w4 ⟨br, A', c', rfl, hR, hbr, hb4⟩))
            have hB3 : Below w.heap.size w w3 := hBr.trans (hb3.mono hBr.size)
            have hB4 : Below w.heap.size w w4 := hB3.trans (hb4.mono hB3.size)
            have hL4 : Lies w4 (· < w3.heap.size) Av T := (hLv.grown (grown_below hb4 none) (by simp)).imp (fun k _ h => h.2.1)
            have hbrw : w.heap.size ≤ br := Nat.le_trans hB3.size hbr
            clear hLv hown
            go_loopw [65] (fun iv wr => ∃ k : Nat, k ≤ ops.length ∧ iv = .int .i64 (k : Int) ∧ ReaderAt wr br (fun k => w3.heap.size ≤ k ∧ k < br) T (((ops.take k).flatMap item).length, 0) A' c' ∧ Lies wr (· < w3.heap.size) Av T ∧ Below w.heap.size w wr) (fun iv _ => ops.length - (intOf iv).toNat)
            case atStart => exact ⟨0, Nat.zero_le _, rfl, hR, hL4, hB4⟩
            case round =>
              obtain ⟨k, hk, rfl, hRr, hLr, hBr2⟩ := hrel
              by_cases hlt : k < ops.length
              · obtain ⟨hin, a, rfl, c0, c1, c2, c3⟩ := (ho.below hBr2).at (List.getElem?_eq_getElem hlt)
                have htk := List.take_succ_eq_append_getElem hlt
                have hsp : T = (ops.take k).flatMap item ++ (item ops[k] ++ (ops.drop (k + 1)).flatMap item) := hT.out.symm.trans (flat_split hlt)
                obtain ⟨o, hoo⟩ : ∃ o, Hid (ops[k] = o) := ⟨ops[k], Lib.hid rfl⟩
                rw [hoo.out] at hin c0 c1 c2 c3 htk hsp
                obtain ⟨pre, hpre⟩ : ∃ pre, Hid ((ops.take k).flatMap item = pre) := ⟨_, rfl⟩
                obtain ⟨post, hpost⟩ : ∃ post, Hid ((ops.drop (k + 1)).flatMap item = post) := ⟨_, rfl⟩
                rw [hpre.out] at hRr hsp
                rw [hpost.out] at hsp
                have hnx : ((ops.take (k + 1)).flatMap item).length = pre.length + (item o).length := by rw [htk, List.flatMap_append, hpre.out]; simp
                have e1 : T = pre ++ (form o.n ++ (form (flg o) ++ (form o.bs.length ++ (o.bs ++ post)))) := by rw [hsp]; simp [item]
                have e2 : T = (pre ++ form o.n) ++ (form (flg o) ++ (form o.bs.length ++ (o.bs ++ post))) := by rw [e1]; simp
                have e3 : T = ((pre ++ form o.n) ++ form (flg o)) ++ (form o.bs.length ++ (o.bs ++ post)) := by rw [e2]; simp
                have hfl := flg_le o
                have hbl : o.bs.length < 18446744073709551616 := by have := hin.room; have := hin.most; unfold maxLen at this; omega
                have r1 := rd_num e1 hin.word (m := 18446744073709551615) (by have := hin.word; omega)
                have r2 := rd_num e2 (by omega) hfl
                have r3 := rd_raw e3 hbl
                have p2 : (pre ++ form o.n).length = pre.length + (form o.n).length := List.length_append
                have p3 : ((pre ++ form o.n) ++ form (flg o)).length = (pre ++ form o.n).length + (form (flg o)).length := List.length_append
                rw [← p2] at r1
                rw [← p3] at r2
                have HR1 := Lib.hid r1
                have HR2 := Lib.hid r2
                have HR3 := Lib.hid r3
                have HNX := Lib.hid hnx
                have HE3 := Lib.hid p3
                have hkI : (k : Int) < (ops.length : Int) := by omega
                clear htk hsp hnx e1 e2 e3 r1 r2 r3 p2 p3 hfl hbl
                go_wp2
                have hbl2 := hRr.lt
                have hne : wr.heap.size ≠ br := by omega
                have hom : o.bs.length ≤ 9223372036854775807 := by have := hin.room; have := hin.most; unfold maxLen at this; omega
                have q1 := new_row wr #[.int .i64 o.kd, .int .i64 o.i, .int .u64 (o.n : Int), .slice o.row o.bs.length o.cap] 39 1 _ rfl
                have q2 := new_row wr #[.int .i64 o.kd, .int .i64 o.i, .int .u64 (o.n : Int), .slice o.row o.bs.length o.cap] 39 2 _ rfl
                have q3 := new_row wr #[.int .i64 o.kd, .int .i64 o.i, .int .u64 (o.n : Int), .slice o.row o.bs.length o.cap] 39 3 _ rfl
                have hRa := hRr.grown (grown_alloc wr (.cells #[.int .i64 o.kd, .int .i64 o.i, .int .u64 (o.n : Int), .slice o.row o.bs.length o.cap] 39) none) (by simp) (by simp)
                have hxa := hin.lies.grown (grown_alloc wr (.cells #[.int .i64 o.kd, .int .i64 o.i, .int .u64 (o.n : Int), .slice o.row o.bs.length o.cap] 39) none) (by simp)
                have hra : wr.heap.size ≤ (wr.alloc (.cells #[.int .i64 o.kd, .int .i64 o.i, .int .u64 (o.n : Int), .slice o.row o.bs.length o.cap] 39)).heap.size := by simp
                have hLa := hLr.grown (grown_alloc wr (.cells #[.int .i64 o.kd, .int .i64 o.i, .int .u64 (o.n : Int), .slice o.row o.bs.length o.cap] 39) none) (by simp)
                have hBa := hBr2.alloc hBr2.size (.cells #[.int .i64 o.kd, .int .i64 o.i, .int .u64 (o.n : Int), .slice o.row o.bs.length o.cap] 39)
                generalize (wr.alloc (.cells #[.int .i64 o.kd, .int .i64 o.i, .int .u64 (o.n : Int), .slice o.row o.bs.length o.cap] 39)) = wa at q1 q2 q3 hRa hxa hra hLa hBa ⊢
                have hRd : ReaderAt wa.drew br (fun k => w3.heap.size ≤ k ∧ k < br) T (pre.length, 0) A' c' := hRa.drewN 1
                have hxd : Lies wa.drew (· < w.heap.size) o.row o.bs := hxa
                go_region_held3 (fun w' => w'.cell? ⟨wr.heap.size, 1, none⟩ = some (.int .i64 o.i) ∧ w'.cell? ⟨wr.heap.size, 2, none⟩ = some (.int .u64 (o.n : Int)) ∧ w'.cell? ⟨wr.heap.size, 3, none⟩ = some (.slice o.row o.bs.length o.cap))
                  (first | exact op_start q1 q2 q3 | exact op_keep (by assumption) (by assumption) hne | exact op_keep2 (by assumption) (by assumption))
                  (first
                    | (go_at_call 21; refine (rmax_is br _ T _ A' c' wa.drew hRd o.n _ HR1.out).mono ?_; rintro e w5 ⟨rfl, hR5, hg5⟩)
                    | (go_at_call 25; refine (rflag_back br _ T _ _ A' c' _ hR5 o HR2.out).mono ?_; rintro e w6 ⟨rfl, hR6, hg6⟩)
                    | (go_at_call 26; refine (rraw_back br _ T _ _ A' c' _ hR6 (fun k h => Nat.lt_trans h.2 hR6.lt) (by omega) o.bs o.bs.length hom HR3.out).mono ?_; rintro e w7 ⟨v7, rfl, hown7, hR7, hg7⟩; obtain ⟨A7, c7, rfl, hl71, hl72, hl73, hL7⟩ := Lies.own hown7; clear hl73)
                    | (go_at_call 19; refine (same_true o.bs _ _ A7 o.row c7 o.cap _ hL7 (((hxd.grown hg5 (fun k hk e => by injection e with e; omega)).grown hg6 (fun k hk e => by injection e with e; omega)).grown hg7 (fun k hk e => by injection e with e; omega)) (by unfold maxLen; omega)).mono ?_; rintro e w8 ⟨rfl, hb8⟩))
                go_wp2_with fail
                have hLd : Lies wa.drew (· < w3.heap.size) Av T := hLa
                have hL8 := (((hLd.grown hg5 (fun k hk e => by injection e with e; omega)).grown hg6 (fun k hk e => by injection e with e; omega)).grown hg7 (fun k hk e => by injection e with e; omega)).grown (grown_below hb8 none) (by simp)
                have hB5 := (hBa.drew).trans (below_of_grown hg5 hbrw hBa.size)
                have hB6 := hB5.trans (below_of_grown hg6 hbrw hB5.size)
                have hB7 := hB6.trans (below_of_grown hg7 hbrw hB6.size)
                have hR8 := hR7.grown (grown_below hb8 none) (by simp) (by simp)
                have hend : ((pre ++ form o.n) ++ form (flg o)).length + (form o.bs.length).length + o.bs.length = ((ops.take (k + 1)).flatMap item).length := by
                  rw [HNX.out, HE3.out]; simp [item]; omega
                rw [hend] at hR8
                clear hend
                go_roundw
                case rel => exact ⟨k + 1, by omega, by go_num, hR8, hL8, hB7.trans (hb8.mono hB7.size)⟩
                case measure => simp [intOf]; omega
              · obtain rfl : k = ops.length := by omega
                rw [List.take_length, hT.out] at hRr
                clear hlt hk hR hL4 hB4
                have hdn : rdDone T (T.length, 0) = 0 := by unfold rdDone; rw [if_neg (fun h => Nat.lt_irrefl _ h.2)]
                have HDN := Lib.hid hdn
                clear hdn
                by_cases hT0 : T.length = 0
                · have hT0I : ((T.length : Int) == 0) = true := by rw [hT0]; rfl
                  clear hT0
                  go_wp2_with (first
                    | (go_at_call 30; refine (rdone_is br _ T _ A' c' _ hRr).mono ?_; rintro e w5 ⟨rfl, kq, rfl⟩; rw [HDN.out]; have hRr := hRr.drewN kq)
                    | (go_at_call 28; refine (rat_is br _ T _ A' c' _ hRr).mono ?_; rintro e w5 ⟨rfl, rfl⟩))
                  go_ret
                  exact ⟨rfl, below_drewN hBr2 _⟩
                · have hT0I : ((T.length : Int) == 0) = false := by simp; intro h; exact hT0 (by rw [h]; rfl)
                  have hTpos : 0 < T.length := by omega
                  obtain ⟨j, hj⟩ : ∃ j, Hid (cn % T.length = j) := ⟨_, rfl⟩
                  have hjl : j < T.length := by rw [← hj.out]; exact Nat.mod_lt _ hTpos
                  have hmod : Int.tmod (cn : Int) (T.length : Int) = (j : Int) := by rw [← hj.out, Int.tmod_eq_emod_of_nonneg (by omega)]; simp
                  have hmod2 : (cn : Int) % (T.length : Int) = (j : Int) := by rw [← hj.out]; simp
                  have hjI : (j : Int) ≤ (cv : Int) := by omega
                  have hTI : (0 : Int) < (T.length : Int) := by omega
                  have htj : (T.take j).length = j := by rw [List.length_take]; omega
                  have HTJ := Lib.hid htj
                  have hTbj : ∀ x ∈ T.take j, x < 256 := fun x hx => HTB.out x (List.mem_of_mem_take hx)
                  have HTBJ := Lib.hid hTbj
                  have ko : ∀ W, Lies W (· < w3.heap.size) Av T → Calls Try.prog 20 #[.slice Av j cv] W fun e w' => ∃ (b : Nat) (A' : Option Addr) (c' : Nat), e = .returned (.pointer (some ⟨b, 0, none⟩)) ∧ ReaderAt w' b (fun k => W.heap.size ≤ k ∧ k < b) (T.take j) (0, 0) A' c' ∧ W.heap.size ≤ b ∧ Below W.heap.size W w' := fun W hW => by
                    have k := open_is (T.take j) _ Av cv W (Lies.cut hW j) (by rw [HTJ.out]; omega) HTBJ.out
                    rw [HTJ.out] at k
                    exact k
                  clear hT0 htj hTbj
                  go_wp2_with (first
                    | (go_at_call 30; refine (rdone_is br _ T _ A' c' _ hRr).mono ?_; rintro e w5 ⟨rfl, kq, rfl⟩; rw [HDN.out]; have hRr := hRr.drewN kq; have hLq : Lies (wr.drewN kq) (· < w3.heap.size) Av T := hLr)
                    | (go_at_call 28; refine (rat_is br _ T _ A' c' _ hRr).mono ?_; rintro e w5 ⟨rfl, rfl⟩)
                    | (go_at_call 20; refine (ko _ hLq).mono ?_; clear ko; rintro e w6 ⟨b2, A2, c2, rfl, hR2, hb2r, hb6⟩))
                  have hBq : Below w.heap.size w (wr.drewN kq) := below_drewN hBr2 kq
                  have hB6 := hBq.trans (hb6.mono hBq.size)
                  have hb2w : w.heap.size ≤ b2 := Nat.le_trans hBq.size hb2r
                  obtain ⟨N0, hN0⟩ : ∃ N0, N0 = (wr.drewN kq).heap.size := ⟨_, rfl⟩
                  rw [← hN0] at hR2
                  clear hLr hLq hRr hN0
                  go_loopw [116] (fun iv wr => ∃ (k : Nat) (st : Nat × Nat), k ≤ ops.length ∧ iv = .int .i64 (k : Int) ∧ Hid (st.2 = 50 ∨ (st = (((ops.take k).flatMap item).length, 0) ∧ ((ops.take k).flatMap item).length ≤ j)) ∧ ReaderAt wr b2 (fun q => N0 ≤ q ∧ q < b2) (T.take j) st A2 c2 ∧ Below w.heap.size w wr) (fun iv _ => ops.length - (intOf iv).toNat)
                  case atStart => exact ⟨0, (0, 0), Nat.zero_le _, rfl, .inr ⟨rfl, Nat.zero_le _⟩, hR2, hB6⟩
                  case round =>
                    obtain ⟨k, st, hk, rfl, HST, hRs, hBs⟩ := hrel
                    by_cases hlt : k < ops.length
                    · obtain ⟨hin, a, rfl, c0, c1, c2', c3⟩ := (ho.below hBs).at (List.getElem?_eq_getElem hlt)
                      have htk := List.take_succ_eq_append_getElem hlt
                      have hsp : T = (ops.take k).flatMap item ++ (item ops[k] ++ (ops.drop (k + 1)).flatMap item) := hT.out.symm.trans (flat_split hlt)
                      obtain ⟨o, hoo⟩ : ∃ o, Hid (ops[k] = o) := ⟨ops[k], Lib.hid rfl⟩
                      rw [hoo.out] at hin c0 c1 c2' c3 htk hsp
                      have hob : o.bs.length ≤ 9223372036854775807 := by have := hin.room; have := hin.most; unfold maxLen at this; omega
                      have hnew : Hid ((rop (T.take j) st o).2 = 50 ∨ (rop (T.take j) st o = (((ops.take (k + 1)).flatMap item).length, 0) ∧ ((ops.take (k + 1)).flatMap item).length ≤ j)) := by
                        have hlen : ((ops.take (k + 1)).flatMap item).length = ((ops.take k).flatMap item).length + (item o).length := by rw [htk, List.flatMap_append]; simp
                        rw [hlen]
                        rcases HST.out with h | ⟨h, hle⟩
                        · exact .inl (rop_bad h)
                        · rw [h]
                          exact rop_cut hsp hle hin.word (by omega)
                      have hkI : (k : Int) < (ops.length : Int) := by omega
                      have hbl2 := hRs.lt
                      have hne : wr.heap.size ≠ b2 := by omega
                      have q3 := new_row wr #[.int .i64 o.kd, .int .i64 o.i, .int .u64 (o.n : Int), .slice o.row o.bs.length o.cap] 39 3 _ rfl
                      have hRa := hRs.grown (grown_alloc wr (.cells #[.int .i64 o.kd, .int .i64 o.i, .int .u64 (o.n : Int), .slice o.row o.bs.length o.cap] 39) none) (by simp) (by simp)
                      have hBa := hBs.alloc hBs.size (.cells #[.int .i64 o.kd, .int .i64 o.i, .int .u64 (o.n : Int), .slice o.row o.bs.length o.cap] 39)
                      have hrl : wr.heap.size < (wr.alloc (.cells #[.int .i64 o.kd, .int .i64 o.i, .int .u64 (o.n : Int), .slice o.row o.bs.length o.cap] 39)).heap.size := by simp
                      have HQ3 := Lib.hid q3
                      clear htk hsp q3
                      go_wp2_with (first
                        | (go_at_call 21; refine (rmax_is b2 _ _ st A2 c2 _ hRa _ _ rfl).mono ?_; rintro e w7 ⟨rfl, hR7, hg7⟩; have p3 := (grown_cell hg7 hne hrl 3).trans HQ3.out)
                        | (go_at_call 25; refine (rflag_is b2 _ _ _ A2 c2 _ hR7).mono ?_; rintro e w8 ⟨rfl, hR8, hg8⟩; have p3 := (grown_cell hg8 hne (Nat.lt_of_lt_of_le hrl hg7.size) 3).trans p3)
                        | (go_at_call 26; refine (rraw_is b2 _ _ _ A2 c2 (o.bs.length : Int) _ hR8 (fun q h => Nat.lt_trans h.2 hR8.lt) (by rw [HTJ.out]; omega) (by omega) (by omega)).mono ?_; rintro e w9 ⟨v9, rfl, hown9, hR9, hg9⟩))
                      go_roundw
                      case rel =>
                        have hB7 := hBa.trans (below_of_grown hg7 hb2w hBa.size)
                        have hB8 := hB7.trans (below_of_grown hg8 hb2w hB7.size)
                        exact ⟨k + 1, rop (T.take j) st o, by omega, by go_num, hnew, hR9, hB8.trans (below_of_grown hg9 hb2w hB8.size)⟩
                      case measure => simp [intOf]; omega
                    · obtain rfl : k = ops.length := by omega
                      have h50 : st.2 = 50 := by
                        rcases HST.out with h | ⟨h, hle⟩
                        · exact h
                        · rw [List.take_length, hT.out] at hle; omega
                      have kerr := rerr_is b2 _ _ st A2 c2 wr hRs
                      rw [h50] at kerr
                      clear hlt hk h50
                      go_wp2_with (go_at_call 29; refine kerr.mono ?_; clear kerr; rintro e w7 ⟨rfl, rfl⟩)
                      go_ret
                      exact ⟨rfl, hBs⟩
          · obtain ⟨s, hs⟩ : ∃ s, Hid (wops ([], 0) ops = s) := ⟨_, rfl⟩
            have h3 := wops_two ops ([], 0) (.inl rfl)
            rw [hs.out] at hE h3 hWr
            have h3' : s.2 = 3 := by rcases h3 with h | h; exact absurd h hE; exact h
            have kb := out_bad _ _ s _ hWr hE
            rw [h3'] at kb
            clear h3 h3' hE
            go_wp2_with (go_at_call 18; refine kb.mono ?_; clear kb; rintro e w3 ⟨rfl, hb3⟩)
            go_ret
            exact ⟨rfl, hBr.trans (hb3.mono hBr.size)⟩
  · have HFEW := Lib.hid hfew
    clear hfew
    go_enter Try.func6, Try.ntmps6
    go_wp2_with (first
      | (go_at_call 8; refine (coder_awake _).mono ?_; rintro e w1 ⟨rfl, hb1⟩)
      | (go_at_call 9; refine (few_no ops A c w.heap.size _ (ho.below hb1) hb1.size hlc hcm HFEW.out).mono ?_; rintro e w2 ⟨rfl, hb2⟩))
    go_ret
    exact ⟨rfl, hb1.trans (hb2.mono hb1.size)⟩

theorem own : ownKnob Try.prog.godebug = none := by kernel_rfl
theorem laidOut : laidOutB Try.prog = true := by kernel_rfl

set_option maxRecDepth 100000 in
theorem lifted (os : Os) (started : os.Started) (H : Type) (enc : TypeId × Value → H) :
    ReturnsInHanded {} Try.checked os 6 .any (Rows.coderBackSpec.pre6 enc Try.prog Try.f6 Rows.coderBackRow.domain false) (Rows.coderBackSpec.post enc Try.prog Try.f6 false true false false) := by
  refine returnsInHanded_of_change (C := Try.checked) own started (by kernel_rfl) Try.func6
    (ChangeSpec.witness6 (enc := enc) (C := Try.checked) false ⟨#[], #[.slice none 0 0, .int .i64 0], []⟩ 8 (by kernel_rfl) (by kernel_rfl) (by kernel_rfl) (by kernel_rfl)) ?_
  intro W base args ds gs before hval0 hW hcnd _
  have hval : ∀ (j : Nat) t v, Try.f6.params[j]? = some t → args[j]? = some v → Value.okWide Try.prog W .any base t v := hval0
  have hW' := hW
  obtain ⟨p, q, hA0, hV, rfl, hfz, hnd⟩ := hW
  have hlt : ∀ x ∈ p ++ q, x.block < W.heap.size := fun x hx => hW'.lt x hx
  have hA : DataW.TrodAll enc Try.prog W 0 (fun _ => true) true Try.f6.params.toList args.toList ds p := hA0
  rw [Try.params6] at hA hval
  obtain ⟨v0, vs0, d0, ds0, p0, q0, hargs, rfl, rfl, h0, r0⟩ := trodAll_cons hA
  obtain ⟨v1, vs1, d1, ds1, p1, q1, rfl, rfl, rfl, h1, r1⟩ := trodAll_cons r0
  obtain ⟨rfl, rfl, rfl⟩ := trodAll_nil r1
  obtain rfl : args = #[v0, v1] := by cases args; simp_all
  obtain ⟨rfl, rfl⟩ := trodVars_none hV
  obtain ⟨A0, n0, c0, rfl⟩ := okWide_slice Try.underlying22 (hval 0 22 v0 rfl rfl)
  obtain ⟨ops0, hl0, hc0, hm0, ho0⟩ := open_ops h0
  subst hl0
  obtain ⟨a1, rfl, rfl, rfl, w1⟩ := open_int Try.underlying3 (hval 1 3 v1 rfl rfl) h1
  have b1 := i64_fits w1
  clear hA0 hval0
  refine (walk ops0 A0 c0 a1 W ho0 hc0 hm0 b1.1 b1.2).mono fun e W' ⟨he, hg⟩ => ?_
  subst he
  exact ⟨_, rfl, law_post laidOut (by kernel_rfl) rfl rfl Try.underlying4 rfl hW' hg⟩

theorem over : Rows.coderBackRow.holds Try.pinned (OpenSpec.ofChange Rows.coderBackSpec) :=
  OpenClaim.holds_of_wide 6 Try.f6 rfl rfl rfl rfl rfl rfl rfl ⟨rfl, rfl, rfl, rfl, rfl⟩ rfl rfl rfl rfl rfl (by kernel_rfl) Try.func6 (by kernel_rfl)
    (of_decide_eq_true (by kernel_rfl)) (by unfold Func.isWrapper; first | (rw [if_pos (by decide +kernel)]; kernel_rfl) | (rw [if_neg (by decide +kernel)]; exact ⟨rfl, rfl⟩))
    (fun os started H enc _ => lifted os started H enc)

/-- The statement. -/
theorem proved : Rows.CoderBackSaid := over
#print axioms proved

end Go.Proofs.Ytmagjfjmaojemaa.CoderBack
