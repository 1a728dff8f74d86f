/- Layer 22 (ballot), the document's: what votes weigh, and all that count, as whole numbers; the law's members. By contracts. -/
import Derived.Test.YtcaejanfhchacaaMemG
import Derived.Test.YtcaejanfhchacaaNum
namespace Go.Proofs.Ytcaejanfhchacaa
open Go.RowKit Go.Deep
set_option linter.unusedVariables false
set_option linter.unusedSimpArgs false

theorem tot_less {l : List Nat} (h : ∀ n ∈ l, n ≤ 18446744073709551615) (hl : l.length ≤ 100000) : (digs (tot l)).length ≤ 1000000 := by
  have := tot_digs l h l.length hl
  rw [List.take_length] at this
  omega
theorem Acc.kept {s N : Nat} {w w' : World} (h : Acc s w N) (hs : s + 2 ≤ w.heap.size) (hb : Below w.heap.size w w') : Acc s w' N := by
  obtain ⟨A, n, c, h1, h2, h3, h4⟩ := h
  have hp : (⟨s + 1, 0, none⟩ : Addr).block < w.heap.size := by show s + 1 < _; omega
  exact ⟨A, n, c, (hb.cell (p := ⟨s + 1, 0, none⟩) hp).trans h1, (hb.frozen (p := ⟨s + 1, 0, none⟩) hp).trans h2, (NatV.below h3 hb).up hb.size, h4⟩

set_option maxRecDepth 100000 in
set_option maxHeartbeats 2000000 in
theorem rbweigh_is (l : List Mem) (A : Option Addr) (c : Nat) (xs : List Nat) (A2 : Option Addr) (c2 : Nat) (P : Nat) (w : World) (hr : Row w w.heap.size A (rows l)) (hx : Row w w.heap.size A2 (u8s xs)) (hb : ∀ x ∈ xs, x < 256) (hl : l.length ≤ 100000) (hf : ∀ m ∈ l, m.s.Fits) (HY : Hid (presents l xs l.length = P)) :
    Calls Try.prog 60 #[.slice A l.length c, .slice A2 xs.length c2] w fun e w' => ∃ v, e = .returned v ∧ Num P v w' ∧ Below w.heap.size w w' := by
  have hM : ∀ m ∈ l, m.s.eff ≤ 18446744073709551615 := fun m hm => by have := (hf m hm).eff; omega
  have HR := Lib.hid hr
  have HM := Lib.hid hM
  have HX := Lib.hid hx
  have HBY := Lib.hid hb
  clear hx hb
  clear hr hf hM
  go_enter Try.func60, Try.ntmps60
  go_wp2
  go_loopw [6] (fun iv wr => ∃ (k : Nat) (l1 : List Nat), k ≤ l.length ∧ iv = .int .i64 (k : Int) ∧ Hid (picked (isThere xs) l k = l1) ∧ Hid (Acc w.heap.size wr (tot l1)) ∧
      Below (w.heap.size + 1) (w.alloc (.cells #[.slice none 0 0] 109)) wr ∧ w.heap.size + 2 ≤ wr.heap.size) (fun iv _ => l.length - (intOf iv).toNat)
  case atStart =>
    refine ⟨0, [], Nat.zero_le _, rfl, Lib.hid rfl, Lib.hid ⟨none, 0, 0, ?_, ?_, NatV.zero _ _, ?_⟩, (Below.refl _ _).alloc (by simp) _, by simp⟩
    · rw [World.cell?_alloc_at _ _ _ _ (by simp)]; rfl
    · exact World.frozen?_alloc_at _ _ _ _ (by simp)
    · exact fresh_of (fun a e => by cases e) (fun _ => rfl)
  case round =>
    obtain ⟨k, l1, hk, rfl, HP, HA, hB0, hs0⟩ := hrel
    have hB : Below w.heap.size w wr := ((Below.refl _ _).alloc (Nat.le_refl _) _).trans (hB0.mono (Nat.le_succ _))
    by_cases hlt : k < l.length
    · obtain ⟨m, hs⟩ : ∃ m, l[k]? = some m := ⟨_, List.getElem?_eq_getElem hlt⟩
      obtain ⟨a, rfl, hab, hat0⟩ := rows_row (HR.out.below hB) hs
      have hat : LiesAt wr (a.add (k * 6)) (Rec.vals m) := hat0
      have hki : (k : Int) < (l.length : Int) := by omega
      have hk0 : (0 : Int) ≤ (k : Int) := by omega
      have kc := fun w => rcounts_is m w
      clear hat0
      cases hc : m.counts with
      | false =>
        rw [hc] at kc
        have HP2 := Lib.hid ((picked_no hs (f := isThere xs) (by simp [isThere, hc])).trans HP.out)
        clear hs hc HP
        go_wp2_with (first
          | (refine load_rec 119 _ rfl rfl _ (Rec.vals m) rfl hat Try.underlying119 size_rmem ?_)
          | (go_at_call 97; refine (kc _).mono ?_; clear kc; rintro e w3 ⟨rfl, hb3⟩; have HA3 := Lib.hid (HA.out.kept hs0 hb3); have hs3 := Nat.le_trans hs0 hb3.size; have hB3 := hB0.trans (hb3.mono (by omega)); clear hb3))
        go_roundw
        case rel => exact ⟨k + 1, l1, by omega, by go_num, HP2, HA3, hB3, hs3⟩
        case measure => simp [intOf]; omega
      | true =>
        rw [hc] at kc
        have kg := fun (w1 : World) (hx : Lies w1 (· < w.heap.size) A2 xs) => rget_ok xs _ A2 c2 (k : Int) w1 hx HBY.out (by omega)
        rw [bitI_nat] at kg
        have KG := Lib.hid kg
        clear kg
        cases hbit : bitAt xs k with
        | false =>
          rw [hbit] at KG
          have HP2 := Lib.hid ((picked_no hs (f := isThere xs) (by simp [isThere, hc, hbit])).trans HP.out)
          clear hs hc HP hbit
          go_wp2_with (first
            | (refine load_rec 119 _ rfl rfl _ (Rec.vals m) rfl hat Try.underlying119 size_rmem ?_)
            | (go_at_call 97; refine (kc _).mono ?_; clear kc; rintro e w3 ⟨rfl, hb3⟩; have HA3 := Lib.hid (HA.out.kept hs0 hb3); have hs3 := Nat.le_trans hs0 hb3.size; have hB3 := hB0.trans (hb3.mono (by omega)); have hB4 := Below.then hB hb3; clear hb3)
            | (go_at_call 37; refine (KG.out _ (Lies.ofRow (HX.out.below hB4))).mono ?_; clear KG; rintro e w4 ⟨rfl, rfl⟩))
          go_roundw
          case rel => exact ⟨k + 1, l1, by omega, by go_num, HP2, HA3, hB3, hs3⟩
          case measure => simp [intOf]; omega
        | true =>
          rw [hbit] at KG
          have HP2 := Lib.hid ((picked_yes hs (f := isThere xs) (by simp [isThere, hc, hbit])).trans (congrArg (· ++ [m.s.eff]) HP.out))
          have hln : l1.length ≤ k := by rw [← HP.out]; exact picked_len _ _ _
          have hn1 : ∀ n ∈ l1, n ≤ 18446744073709551615 := by rw [← HP.out]; exact picked_most HM.out _
          have hx := HM.out m (List.mem_of_getElem? hs)
          have hl1 : (digs m.s.eff).length ≤ 1000000 := Nat.le_trans (digs_len (k := 20) (by omega)) (by omega)
          have hl2 : (digs (tot l1)).length ≤ 1000000 := tot_less hn1 (by omega)
          have HT := Lib.hid (tot_snoc l1 m.s.eff)
          have HL1 := Lib.hid hl1
          have HL2 := Lib.hid hl2
          have HXL := Lib.hid hx
          clear hs HP hln hn1 hx hl1 hl2
          clear hbit
          go_wp2_with (first
            | (refine load_rec 119 _ rfl rfl _ (Rec.vals m) rfl hat Try.underlying119 size_rmem ?_)
            | (go_at_call 97; refine (kc _).mono ?_; clear kc; rintro e w3 ⟨rfl, hb3⟩; have hs3 : w.heap.size + 2 ≤ w3.heap.size := Nat.le_trans hs0 hb3.size; have hB3 := hB0.trans (hb3.mono (by omega)); have x1 : w3.cell? ⟨(a.add (k * 6)).block, (a.add (k * 6)).off + 1, none⟩ = some (Value.int IntKind.u64 (m.s.eff : Int)) := (hat.up hb3).fld 0 rfl; have hB4 := Below.then hB hb3; obtain ⟨Au, n, cu, hcu, hfu, hnu, hfru⟩ := HA.out.kept hs0 hb3; have hs1 : (⟨w.heap.size + 1, 0, none⟩ : Addr).block < w3.heap.size := hs3; clear hb3 hat HA)
            | (go_at_call 37; refine (KG.out _ (Lies.ofRow (HX.out.below hB4))).mono ?_; clear KG; rintro e w4 ⟨rfl, rfl⟩))
          go_region_with (first
            | (go_at_call 91; refine (of_any _ _ HXL.out).mono ?_; rintro e w1 ⟨v1, rfl, hv1, hf1, hb1⟩; have hcu1 := (hb1.cell (p := ⟨w.heap.size + 1, 0, none⟩) hs1).trans hcu; have hfu1 := (hb1.frozen (p := ⟨w.heap.size + 1, 0, none⟩) hs1).trans hfu)
            | (go_at_call 98; refine (add_nat _ _ _ _ w1.heap.size w1 ((NatV.below (w := w3.drew) (B := w3.heap.size) hnu hb1).up hb1.size) hv1 (Nat.le_refl _) HL2.out HL1.out).mono ?_; rintro e w2 ⟨v2, rfl, hv2, hf2, hb2⟩; obtain ⟨A2', c2', rfl, _⟩ := id hv2; have hcu2 := (hb2.cell (p := ⟨w.heap.size + 1, 0, none⟩) (Nat.lt_of_lt_of_le hs1 hb1.size)).trans hcu1; have hfu2 := (hb2.frozen (p := ⟨w.heap.size + 1, 0, none⟩) (Nat.lt_of_lt_of_le hs1 hb1.size)).trans hfu1))
          all_goals
            go_wp2
            go_roundw
            case rel =>
              refine ⟨k + 1, l1 ++ [m.s.eff], by omega, by go_num, HP2, Lib.hid ?_, ?_, ?_⟩
              · rw [HT.out]
                exact acc_next hv2 hf2 (Nat.le_trans hs3 hb1.size) hcu2 hfu2
              · exact (((below_drewN hB3 1).trans (hb1.mono (by show _ ≤ w3.heap.size; omega))).trans (hb2.mono (Nat.le_trans (show w.heap.size + 1 ≤ w3.drew.heap.size from Nat.le_trans (by omega) hs3) hb1.size))).setCell (by show w.heap.size + 1 ≤ w.heap.size + 1; omega) _
              · have h1 : w3.heap.size ≤ w1.heap.size := hb1.size
                have h2 : w1.heap.size ≤ w2.heap.size := hb2.size
                show _ ≤ (w2.setCell _ _).heap.size
                simp [World.setCell]
                omega
            case measure => simp [intOf]; omega
    · obtain rfl : k = l.length := by omega
      obtain ⟨Au, n, cu, hcu, hfu, hnu, hfru⟩ := HA.out
      obtain ⟨hc0, hf0⟩ := result_cell hB0
      have e1 : tot l1 = P := by rw [← HY.out]; unfold presents; rw [HP.out]
      rw [e1] at hnu
      clear HP HA
      go_wp2
      refine bodyPost_ret (v := .agg #[.slice Au n cu]) (by simp [results, Try.results60, go_sem, hc0]) rfl ⟨_, rfl, ?_⟩
      obtain ⟨g1, g2, g3⟩ := result_nat (W := w) ⟨w.heap.size, 0, none⟩ hnu hfru (Nat.le_refl _) (Nat.le_refl _) (by show w.heap.size < _; omega) hB (Value.slice Au n cu)
      exact ⟨g1, g3⟩

set_option maxRecDepth 100000 in
set_option maxHeartbeats 2000000 in
theorem ractive_is (l : List Mem) (A : Option Addr) (c : Nat) (P : Nat) (w : World) (hr : Row w w.heap.size A (rows l)) (hl : l.length ≤ 100000) (hf : ∀ m ∈ l, m.s.Fits) (HY : Hid (actives l l.length = P)) :
    Calls Try.prog 59 #[.slice A l.length c] w fun e w' => ∃ v, e = .returned v ∧ Num P v w' ∧ Below w.heap.size w w' := by
  have hM : ∀ m ∈ l, m.s.eff ≤ 18446744073709551615 := fun m hm => by have := (hf m hm).eff; omega
  have HR := Lib.hid hr
  have HM := Lib.hid hM
  clear hr hf hM
  go_enter Try.func59, Try.ntmps59
  go_wp2
  go_loopw [4] (fun iv wr => ∃ (k : Nat) (l1 : List Nat), k ≤ l.length ∧ iv = .int .i64 (k : Int) ∧ Hid (picked (isAct) l k = l1) ∧ Hid (Acc w.heap.size wr (tot l1)) ∧
      Below (w.heap.size + 1) (w.alloc (.cells #[.slice none 0 0] 109)) wr ∧ w.heap.size + 2 ≤ wr.heap.size) (fun iv _ => l.length - (intOf iv).toNat)
  case atStart =>
    refine ⟨0, [], Nat.zero_le _, rfl, Lib.hid rfl, Lib.hid ⟨none, 0, 0, ?_, ?_, NatV.zero _ _, ?_⟩, (Below.refl _ _).alloc (by simp) _, by simp⟩
    · rw [World.cell?_alloc_at _ _ _ _ (by simp)]; rfl
    · exact World.frozen?_alloc_at _ _ _ _ (by simp)
    · exact fresh_of (fun a e => by cases e) (fun _ => rfl)
  case round =>
    obtain ⟨k, l1, hk, rfl, HP, HA, hB0, hs0⟩ := hrel
    have hB : Below w.heap.size w wr := ((Below.refl _ _).alloc (Nat.le_refl _) _).trans (hB0.mono (Nat.le_succ _))
    by_cases hlt : k < l.length
    · obtain ⟨m, hs⟩ : ∃ m, l[k]? = some m := ⟨_, List.getElem?_eq_getElem hlt⟩
      obtain ⟨a, rfl, hab, hat0⟩ := rows_row (HR.out.below hB) hs
      have hat : LiesAt wr (a.add (k * 6)) (Rec.vals m) := hat0
      have hki : (k : Int) < (l.length : Int) := by omega
      have hk0 : (0 : Int) ≤ (k : Int) := by omega
      have kc := fun w => rcounts_is m w
      clear hat0
      cases hc : m.counts with
      | false =>
        rw [hc] at kc
        have HP2 := Lib.hid ((picked_no hs (f := isAct) (by simp [isAct, hc])).trans HP.out)
        clear hs hc HP
        go_wp2_with (first
          | (refine load_rec 119 _ rfl rfl _ (Rec.vals m) rfl hat Try.underlying119 size_rmem ?_)
          | (go_at_call 97; refine (kc _).mono ?_; clear kc; rintro e w3 ⟨rfl, hb3⟩; have HA3 := Lib.hid (HA.out.kept hs0 hb3); have hs3 := Nat.le_trans hs0 hb3.size; have hB3 := hB0.trans (hb3.mono (by omega)); clear hb3))
        go_roundw
        case rel => exact ⟨k + 1, l1, by omega, by go_num, HP2, HA3, hB3, hs3⟩
        case measure => simp [intOf]; omega
      | true =>
        rw [hc] at kc
        have HP2 := Lib.hid ((picked_yes hs (f := isAct) (by simp [isAct, hc])).trans (congrArg (· ++ [m.s.eff]) HP.out))
        have hln : l1.length ≤ k := by rw [← HP.out]; exact picked_len _ _ _
        have hn1 : ∀ n ∈ l1, n ≤ 18446744073709551615 := by rw [← HP.out]; exact picked_most HM.out _
        have hx := HM.out m (List.mem_of_getElem? hs)
        have hl1 : (digs m.s.eff).length ≤ 1000000 := Nat.le_trans (digs_len (k := 20) (by omega)) (by omega)
        have hl2 : (digs (tot l1)).length ≤ 1000000 := tot_less hn1 (by omega)
        have HT := Lib.hid (tot_snoc l1 m.s.eff)
        have HL1 := Lib.hid hl1
        have HL2 := Lib.hid hl2
        have HXL := Lib.hid hx
        clear hs HP hln hn1 hx hl1 hl2
        go_wp2_with (first
          | (refine load_rec 119 _ rfl rfl _ (Rec.vals m) rfl hat Try.underlying119 size_rmem ?_)
          | (go_at_call 97; refine (kc _).mono ?_; clear kc; rintro e w3 ⟨rfl, hb3⟩; have hs3 : w.heap.size + 2 ≤ w3.heap.size := Nat.le_trans hs0 hb3.size; have hB3 := hB0.trans (hb3.mono (by omega)); have x1 : w3.cell? ⟨(a.add (k * 6)).block, (a.add (k * 6)).off + 1, none⟩ = some (Value.int IntKind.u64 (m.s.eff : Int)) := (hat.up hb3).fld 0 rfl; have hB4 := Below.then hB hb3; obtain ⟨Au, n, cu, hcu, hfu, hnu, hfru⟩ := HA.out.kept hs0 hb3; have hs1 : (⟨w.heap.size + 1, 0, none⟩ : Addr).block < w3.heap.size := hs3; clear hb3 hat HA))
        go_region_with (first
          | (go_at_call 91; refine (of_any _ _ HXL.out).mono ?_; rintro e w1 ⟨v1, rfl, hv1, hf1, hb1⟩; have hcu1 := (hb1.cell (p := ⟨w.heap.size + 1, 0, none⟩) hs1).trans hcu; have hfu1 := (hb1.frozen (p := ⟨w.heap.size + 1, 0, none⟩) hs1).trans hfu)
          | (go_at_call 98; refine (add_nat _ _ _ _ w1.heap.size w1 ((NatV.below (w := w3.drew) (B := w3.heap.size) hnu hb1).up hb1.size) hv1 (Nat.le_refl _) HL2.out HL1.out).mono ?_; rintro e w2 ⟨v2, rfl, hv2, hf2, hb2⟩; obtain ⟨A2', c2', rfl, _⟩ := id hv2; have hcu2 := (hb2.cell (p := ⟨w.heap.size + 1, 0, none⟩) (Nat.lt_of_lt_of_le hs1 hb1.size)).trans hcu1; have hfu2 := (hb2.frozen (p := ⟨w.heap.size + 1, 0, none⟩) (Nat.lt_of_lt_of_le hs1 hb1.size)).trans hfu1))
        all_goals
          go_wp2
          go_roundw
          case rel =>
            refine ⟨k + 1, l1 ++ [m.s.eff], by omega, by go_num, HP2, Lib.hid ?_, ?_, ?_⟩
            · rw [HT.out]
              exact acc_next hv2 hf2 (Nat.le_trans hs3 hb1.size) hcu2 hfu2
            · exact (((below_drewN hB3 1).trans (hb1.mono (by show _ ≤ w3.heap.size; omega))).trans (hb2.mono (Nat.le_trans (show w.heap.size + 1 ≤ w3.drew.heap.size from Nat.le_trans (by omega) hs3) hb1.size))).setCell (by show w.heap.size + 1 ≤ w.heap.size + 1; omega) _
            · have h1 : w3.heap.size ≤ w1.heap.size := hb1.size
              have h2 : w1.heap.size ≤ w2.heap.size := hb2.size
              show _ ≤ (w2.setCell _ _).heap.size
              simp [World.setCell]
              omega
          case measure => simp [intOf]; omega
    · obtain rfl : k = l.length := by omega
      obtain ⟨Au, n, cu, hcu, hfu, hnu, hfru⟩ := HA.out
      obtain ⟨hc0, hf0⟩ := result_cell hB0
      have e1 : tot l1 = P := by rw [← HY.out]; unfold actives; rw [HP.out]
      rw [e1] at hnu
      clear HP HA
      go_wp2
      refine bodyPost_ret (v := .agg #[.slice Au n cu]) (by simp [results, Try.results59, go_sem, hc0]) rfl ⟨_, rfl, ?_⟩
      obtain ⟨g1, g2, g3⟩ := result_nat (W := w) ⟨w.heap.size, 0, none⟩ hnu hfru (Nat.le_refl _) (Nat.le_refl _) (by show w.heap.size < _; omega) hB (Value.slice Au n cu)
      exact ⟨g1, g3⟩

set_option maxRecDepth 100000 in
set_option maxHeartbeats 2000000 in
theorem lplain_is (l : List Mem) (A : Option Addr) (c : Nat) (w : World) (hr : Row w w.heap.size A (rows l)) (hl : l.length ≤ 100000) :
    Calls Try.prog 22 #[.slice A l.length c] w fun e w' => ∃ A' c', e = .returned (.slice A' l.length c') ∧ Row w' w'.heap.size A' (rows l) ∧ Below w.heap.size w w' := by
  obtain ⟨i0, hi0, hz0, hz1, hz2⟩ := info_parts info_rmem
  have HR := Lib.hid hr
  clear hr
  go_enter Try.func22, Try.ntmps22
  go_wp2
  go_loopw [3, 8] (fun v3 iv wr => ∃ (k : Nat), k ≤ l.length ∧ iv = .int .i64 (k : Int) ∧ Hid (wr.ownsRow w.heap.size 119 (Rec.z Mem) v3 k (rows (l.take k))) ∧ Below w.heap.size w wr) (fun _ iv _ => l.length - (intOf iv).toNat)
  case atStart => exact ⟨0, Nat.zero_le _, rfl, Lib.hid (World.ownsRow_nil _ _ _ _), Below.refl _ _⟩
  case round =>
    obtain ⟨k, hk, rfl, HO4, hB⟩ := hrel
    by_cases hlt : k < l.length
    · obtain ⟨m, hs⟩ : ∃ m, l[k]? = some m := ⟨_, List.getElem?_eq_getElem hlt⟩
      obtain ⟨a, rfl, hab, hat0⟩ := rows_row (HR.out.below hB) hs
      have hat : LiesAt wr (a.add (k * 6)) (Rec.vals m) := hat0
      have HN := Lib.hid (rows_next hs)
      have hki : (k : Int) < (l.length : Int) := by omega
      have hk0 : (0 : Int) ≤ (k : Int) := by omega
      clear hs hat0
      go_wp2_with (first
        | (refine load_rec 116 _ rfl rfl _ (Rec.vals m) rfl hat Try.underlying116 size_mem ?_)
        | (refine store_rec 116 _ _ rfl rfl _ (Rec.vals m) (Rec.vals Mem.zero) 116 rfl rfl (RecAt.new _ (Rec.vals Mem.zero) _) size_mem rfl (Rec.one m) ?_; intro w2 hS2 hb2 hsz hkp; clear hsz hkp; have hb2 := rec_made (Below.refl _ _) hb2; have HO42 := Lib.hid (own_kept HO4.out hb2); have hB2 := Below.then hB hb2; clear hb2 hat)
        | (refine load_rec 116 _ rfl rfl _ (Rec.vals m) rfl hS2.lies Try.underlying116 size_mem ?_)
        | (go_at_call 62; refine (mplain_is m _).mono ?_; rintro e w3 ⟨rfl, hb3⟩; have HO43 := Lib.hid (own_kept HO42.out hb3); have hB3 := Below.then hB2 hb3; clear hb3)
        | (refine list_one_rec 66 119 rfl _ rfl Try.underlying66 (Rec.vals m) (Rec.vals Mem.zero) info_rmem rfl (by decide) (by decide) (fill_mem m) rfl ?_)
        | (at_builtin; refine wpList_append_lies _ rfl _ _ 66 rfl w.heap.size 119 i0 _ (Rec.z Mem) 48 Try.underlying66 hi0 hz0 hz1 hz2 rfl (by decide) _ k (rows (l.take k)) rfl (own_boxed HO43.out _) ⟨w3.heap.size, 0, none⟩ 1 1 (Rec.vals m).toList rfl rfl (RecAt.new w3 (Rec.vals m) 119).lies (rec_onecell m) (by decide) ?c1 ?c2 ?c3 _ rfl ?_))
      case c1 => simp only [maxLen]; omega
      case c2 => omega
      case c3 => exact Nat.le_trans hB3.size (by first | exact Nat.le_succ _ | simp)
      intro g cap w7 hown7 hg7 hat7 hlt7
      have hB7 : Below w.heap.size w w7 := (hB3.alloc hB3.size _).grown hg7 (Nat.le_trans hB3.size (by simp)) (fun b hb => (HO43.out.lt b hb).1)
      rw [← HN.out] at hown7
      have HO47 := Lib.hid hown7
      clear hown7 hg7 hat7 hlt7 HO4 HO42 HO43
      go_wp2
      go_roundw
      case rel => exact ⟨k + 1, by omega, by go_num, HO47, hB7⟩
      case measure => simp [intOf]; omega
    · obtain rfl : k = l.length := by omega
      have h4 := HO4.out
      rw [List.take_length] at h4
      obtain ⟨A1, c1, rfl, -, -, -, hr1⟩ := rows_of_own rfl h4
      have HR1 := Lib.hid hr1
      clear HO4 h4 hr1
      go_wp2
      go_ret
      exact ⟨A1, c1, by first | rfl | simp, HR1.out, hB⟩
end Go.Proofs.Ytcaejanfhchacaa
