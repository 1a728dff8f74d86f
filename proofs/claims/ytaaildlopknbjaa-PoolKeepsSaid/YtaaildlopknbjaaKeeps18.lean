/- Law PoolKeeps (P18.4): what is owed is in the sum, dues stay in the order of their ticks; what is ripe and what isn't are together all of it. No condition. -/
import Derived.Test.YtaaildlopknbjaaRows
import Derived.Test.YtaaildlopknbjaaPoolC
import Derived.Test.YtaaildlopknbjaaPoolF
import Derived.Test.YtaaildlopknbjaaTold
import Derived.BigQuiet
namespace Go.Proofs.Ytaaildlopknbjaa.PoolKeeps
open Go.ChangeShapes Go.WideShapes Go.ChangeAt Go.RowKit
set_option linter.unusedVariables false
set_option linter.unusedSimpArgs false

theorem mem_tot : ∀ {l : List Due} {x : Due}, x ∈ l → x.amt ≤ totDue l
  | y :: l, x, h => by
    rw [totDue_cons]
    rcases List.mem_cons.1 h with rfl | h
    · omega
    · have := mem_tot h; omega
theorem sum_due (l : List Due) (A : Option Addr) (c : Nat) (w : World) (hr : Row w w.heap.size A (rows l)) (hl : l.length ≤ 60) (ht : totDue l ≤ 67553994410557440) :
    Calls Try.prog 11 #[.slice none 0 0, .slice A l.length c] w fun e w' => e = .returned (.tuple #[.int .u64 (totDue l : Nat), .int .i64 0]) ∧ Below w.heap.size w w' := by
  have k := psum_is [] l none A 0 c w (Row.nil _ _ _) hr (by simp) (by omega) (by simp) (fun x hx => by have := mem_tot hx; omega)
  rw [show totDep [] = 0 from rfl, Nat.zero_add, tx_in (by omega), te_in (by omega)] at k
  exact k

set_option maxRecDepth 100000 in
theorem walk_many (l : List Due) (now : Int) (A : Option Addr) (c : Nat) (w : World) (hl : l.length ≤ maxLen) (h : 60 < l.length) :
    Calls Try.prog 5 #[.slice A l.length c, .int .i64 now] w fun e w' => e = .returned (.bool true) ∧ Below w.heap.size w w' := by
  unfold maxLen at hl
  go_enter Try.func5, Try.ntmps5
  go_wp2_with (go_at_call 6; refine (pool_awake _).mono ?_; rintro e w1 ⟨rfl, hb1⟩)
  go_ret
  exact ⟨rfl, hb1⟩

/-- The dues so far. -/
structure Far (w0 : World) (k : Nat) (ds : List Due) (A : Option Addr) (c : Nat) (w : World) : Prop where
  row : Row w w.heap.size A (rows ds)
  room : ds.length ≤ c
  bare : A = none → c = 0
  kept : Kept ds
  few : ds.length ≤ k
  tot : totDue ds ≤ k * 1125899906842624
theorem Far.up {w0 w w' : World} {k : Nat} {ds : List Due} {A : Option Addr} {c : Nat} (h : Far w0 k ds A c w) (hb : Below w.heap.size w w') : Far w0 k ds A c w' := ⟨h.row.kept hb, h.room, h.bare, h.kept, h.few, h.tot⟩
theorem Far.more {w0 w : World} {k : Nat} {ds : List Due} {A : Option Addr} {c : Nat} (h : Far w0 k ds A c w) : Far w0 (k + 1) ds A c w := ⟨h.row, h.room, h.bare, h.kept, Nat.le_succ_of_le h.few, Nat.le_trans h.tot (Nat.mul_le_mul_right _ (Nat.le_succ _))⟩

set_option maxRecDepth 100000 in
set_option maxHeartbeats 4000000 in
theorem walk_few (l : List Due) (now : Int) (A : Option Addr) (c : Nat) (w : World) (hr : Row w w.heap.size A (rows l)) (h : l.length ≤ 60) :
    Calls Try.prog 5 #[.slice A l.length c, .int .i64 now] w fun e w' => e = .returned (.bool true) ∧ Below w.heap.size w w' := by
  have HR := Lib.hid hr
  clear hr
  go_enter Try.func5, Try.ntmps5
  go_wp2_with (go_at_call 6; refine (pool_awake _).mono ?_; rintro e w0 ⟨rfl, hB0⟩)
  go_loopw [5, 31] (fun v5 iv wr => ∃ (k : Nat) (ds : List Due) (A5 : Option Addr) (c5 : Nat), k ≤ l.length ∧ iv = .int .i64 (k : Int) ∧ v5 = .slice A5 ds.length c5 ∧ Hid (Far w k ds A5 c5 wr) ∧ Below w.heap.size w wr) (fun _ iv _ => l.length - (intOf iv).toNat)
  case atStart => exact ⟨0, [], none, 0, Nat.zero_le _, rfl, rfl, Lib.hid ⟨Row.nil _ _ _, Nat.le_refl _, fun _ => rfl, Kept.nil, Nat.le_refl _, Nat.zero_le _⟩, hB0⟩
  case round =>
    obtain ⟨k, ds, A5, c5, hk, rfl, rfl, HF, hB⟩ := hrel
    clear hB0
    by_cases hlt : k < l.length
    · obtain ⟨s, hs⟩ : ∃ s, l[k]? = some s := ⟨_, List.getElem?_eq_getElem hlt⟩
      obtain ⟨a, rfl, hab, hat0⟩ := rows_row (HR.out.below hB) hs
      have hat : LiesAt wr (a.add (k * 3)) (Rec.vals s) := hat0
      have hki : (k : Int) < (l.length : Int) := by omega
      have hk0 : (0 : Int) ≤ (k : Int) := by omega
      have hk60 : k < 60 := by omega
      clear hs hat0
      by_cases hbig : 1125899906842624 < s.amt
      · have d1 : decide ((1125899906842624 : Int) < (s.amt : Int)) = true := decide_eq_true (by omega)
        clear hbig
        go_wp2_with (first
          | (refine load_rec 50 _ rfl rfl _ (Rec.vals s) rfl hat Try.underlying50 size_due ?_)
          | (refine store_rec 50 _ _ rfl rfl _ (Rec.vals s) (Rec.vals Due.zero) 50 rfl rfl (RecAt.new _ _ _) size_due rfl (Rec.one s) ?_; intro w2 hS2 hb2 hsz hkp; clear hsz hkp; have hb2 := rec_made (Below.refl _ _) hb2; have hB2 := Below.then hB hb2; have x2 : w2.cell? ⟨wr.heap.size, 2, none⟩ = some (.int .u64 (s.amt : Int)) := hS2.cell 2; clear hb2 hat))
        go_ret
        exact ⟨rfl, hB2⟩
      · have d1 : decide ((1125899906842624 : Int) < (s.amt : Int)) = false := decide_eq_false (by omega)
        have hT := HF.out.tot
        have hfew := HF.out.few
        have k1 := fun (w1 : World) (h1 : Row w1 w1.heap.size A5 (rows ds)) => sum_due ds A5 c5 w1 h1 (by omega) (by omega)
        have k2 := fun (w1 : World) (h1 : Row w1 w1.heap.size A5 (rows ds)) => powe_is ds s A5 c5 w1 h1 (by omega) HF.out.room HF.out.bare (fun x hx => by have := mem_tot hx; omega)
        have hpk : ∀ m, powed ds s = (m, 0) → _ := fun m hm => powed_kept hm HF.out.kept
        obtain ⟨⟨m, y⟩, er⟩ : ∃ r, powed ds s = r := ⟨_, rfl⟩
        rw [er] at k2 hpk
        obtain ⟨T0, eT⟩ : ∃ T0, totDue ds = T0 := ⟨_, rfl⟩
        rw [eT] at k1 hpk hT
        have K1 := Lib.hid k1
        have K2 := Lib.hid k2
        clear k1 k2 er
        by_cases hy : y = 0
        · subst hy
          obtain ⟨ht, hkm, hlm⟩ := hpk m rfl
          have k3 := fun (A6 : Option Addr) (c6 : Nat) (w1 : World) (h1 : Row w1 w1.heap.size A6 (rows m)) => sum_due m A6 c6 w1 h1 (by omega) (by omega)
          obtain ⟨T1, eT1⟩ : ∃ T1, totDue m = T1 := ⟨_, rfl⟩
          rw [eT1] at k3 ht
          have K3 := Lib.hid k3
          have HFm : ∀ (A6 : Option Addr) (c6 : Nat) (w1 : World), Row w1 w1.heap.size A6 (rows m) → m.length ≤ c6 → (A6 = none → c6 = 0) → Far w (k + 1) m A6 c6 w1 := fun A6 c6 w1 h1 h2 h3 => ⟨h1, h2, h3, hkm, by omega, by rw [eT1]; omega⟩
          have HM := Lib.hid HFm
          have e1 : IntKind.u64.wrap ((T1 : Int) - (T0 : Int)) = (s.amt : Int) := by rw [IntKind.wrap_u64]; omega
          have e2 : ((s.amt : Int) != (s.amt : Int)) = false := by simp
          have HROW := Lib.hid HF.out.row
          clear k3 hpk ht hkm hlm eT1 eT hT hfew HFm hbig HF
          go_wp2_with (first
            | (refine load_rec 50 _ rfl rfl _ (Rec.vals s) rfl hat Try.underlying50 size_due ?_)
            | (refine store_rec 50 _ _ rfl rfl _ (Rec.vals s) (Rec.vals Due.zero) 50 rfl rfl (RecAt.new _ _ _) size_due rfl (Rec.one s) ?_; intro w2 hS2 hb2 hsz hkp; clear hsz hkp; have hb2 := rec_made (Below.refl _ _) hb2; have hB2 := Below.then hB hb2; have HROW2 := Lib.hid (HROW.out.kept hb2); have x2 : w2.cell? ⟨wr.heap.size, 2, none⟩ = some (.int .u64 (s.amt : Int)) := hS2.cell 2; clear hb2 hat HROW)
            | (go_at_call 11; refine (K1.out w2 HROW2.out).mono ?_; clear K1; rintro e w3 ⟨rfl, hb3⟩; have hS3 := hS2.up hb3; have HROW3 := Lib.hid (HROW2.out.kept hb3); have hB3 := Below.then hB2 hb3; clear hb3 HROW2 hS2 x2)
            | (refine load_rec 50 _ rfl rfl _ (Rec.vals s) rfl hS3.lies Try.underlying50 size_due ?_)
            | (go_at_call 15; refine (K2.out w3 HROW3.out).mono ?_; clear K2; rintro e w4 ⟨A6, c6, rfl, hc6, hm6, hz6, hr6, hb4⟩; have hS4 := hS3.up hb4; have HR6 := Lib.hid hr6; have HC6 := Lib.hid hc6; have HZ6 := Lib.hid hz6; have hB4 := Below.then hB3 hb4; clear hb4 hr6 hc6 hm6 hz6 HROW3 hS3)
            | (go_at_call 11; refine (K3.out A6 c6 w4 HR6.out).mono ?_; clear K3; rintro e w5 ⟨rfl, hb5⟩; have hS5 := hS4.up hb5; have HR65 := Lib.hid (HR6.out.kept hb5); have hB5 := Below.then hB4 hb5; have x5 : w5.cell? ⟨wr.heap.size, 2, none⟩ = some (.int .u64 (s.amt : Int)) := hS5.cell 2; clear hb5 HR6 hS4))
          go_roundw
          case rel => exact ⟨k + 1, m, A6, c6, by omega, by go_num, rfl, Lib.hid (HM.out A6 c6 w5 HR65.out HC6.out HZ6.out), hB5⟩
          case measure => simp [intOf]; omega
        · have hy0 : ((y : Int) == 0) = false := by simp; omega
          have hy1 : ((y : Int) != 0) = true := by simp; omega
          clear hpk hy eT hT hfew hbig
          have HROW := Lib.hid HF.out.row
          go_wp2_with (first
            | (refine load_rec 50 _ rfl rfl _ (Rec.vals s) rfl hat Try.underlying50 size_due ?_)
            | (refine store_rec 50 _ _ rfl rfl _ (Rec.vals s) (Rec.vals Due.zero) 50 rfl rfl (RecAt.new _ _ _) size_due rfl (Rec.one s) ?_; intro w2 hS2 hb2 hsz hkp; clear hsz hkp; have hb2 := rec_made (Below.refl _ _) hb2; have hB2 := Below.then hB hb2; have HF2 := Lib.hid (HF.out.up hb2); have x2 : w2.cell? ⟨wr.heap.size, 2, none⟩ = some (.int .u64 (s.amt : Int)) := hS2.cell 2; clear hb2 hat HROW)
            | (go_at_call 11; refine (K1.out w2 HF2.out.row).mono ?_; clear K1; rintro e w3 ⟨rfl, hb3⟩; have hS3 := hS2.up hb3; have HF3 := Lib.hid (HF2.out.up hb3); have hB3 := Below.then hB2 hb3; clear hb3 HF2 hS2 x2)
            | (refine load_rec 50 _ rfl rfl _ (Rec.vals s) rfl hS3.lies Try.underlying50 size_due ?_)
            | (go_at_call 15; refine (K2.out w3 HF3.out.row).mono ?_; clear K2; rintro e w4 ⟨A6, c6, rfl, -, -, -, -, hb4⟩; have HF4 := Lib.hid (HF3.out.up hb4); have hB4 := Below.then hB3 hb4; clear hb4 HF3 hS3))
          go_roundw
          case rel => exact ⟨k + 1, ds, A5, c5, by omega, by go_num, rfl, Lib.hid HF4.out.more, hB4⟩
          case measure => simp [intOf]; omega
    · obtain rfl : k = l.length := by omega
      have hT := HF.out.tot
      have hfew := HF.out.few
      clear HR
      go_wp2
      go_loopw [74] (fun iv wr => ∃ k : Nat, k ≤ ds.length ∧ iv = .int .i64 (k : Int) ∧ Hid (Far w l.length ds A5 c5 wr) ∧ Below w.heap.size w wr) (fun iv _ => ds.length - (intOf iv).toNat)
      case atStart => exact ⟨0, Nat.zero_le _, rfl, HF, hB⟩
      case round =>
        obtain ⟨k, hk, rfl, HF2, hBq⟩ := hrel
        clear hB HF
        by_cases hlt : k < ds.length
        · have hs0 : ds[k]? = some ds[k] := List.getElem?_eq_getElem hlt
          have hne := HF2.out.kept.some ds[k] (List.getElem_mem hlt)
          have hri := HF2.out.kept.rise
          obtain ⟨a, hA, hab, hat0⟩ := rows_row HF2.out.row hs0
          have hat : LiesAt wr (a.add (k * 3)) (Rec.vals ds[k]) := hat0
          have hkI : (k : Int) < (ds.length : Int) := by omega
          have hk0 : (0 : Int) ≤ (k : Int) := by omega
          clear hat0 hs0
          have hds : (ds.length : Int) ≤ 60 := by omega
          rcases Nat.eq_zero_or_pos k with rfl | hpos
          · obtain ⟨s, es⟩ : ∃ s, ds[0] = s := ⟨_, rfl⟩
            rw [es] at hat hne
            have z1 : ((s.amt : Int) == 0) = false := by simp; omega
            subst hA
            clear es hri hne hT hfew
            rw [show ((0 : Nat) : Int) = 0 from rfl] at *
            rw [Nat.zero_mul] at hat
            have hat : LiesAt wr a (Rec.vals s) := fun j v hv => by have := hat j v hv; rwa [Addr.add_add, Nat.zero_add] at this
            go_wp2_with (first
              | (refine load_rec 50 _ rfl rfl _ (Rec.vals s) rfl hat Try.underlying50 size_due ?_)
              | (refine store_rec 50 _ _ rfl rfl _ (Rec.vals s) (Rec.vals Due.zero) 50 rfl rfl (RecAt.new _ _ _) size_due rfl (Rec.one s) ?_; intro w2 hS2 hb2 hsz hkp; clear hsz hkp; have hb2 := rec_made (Below.refl _ _) hb2; have HF3 := Lib.hid (HF2.out.up hb2); have hB2 := Below.then hBq hb2; have x1 : w2.cell? ⟨wr.heap.size, 1, none⟩ = some (.int .i64 s.tick) := hS2.cell 1; have x2 : w2.cell? ⟨wr.heap.size, 2, none⟩ = some (.int .u64 (s.amt : Int)) := hS2.cell 2; clear hb2 hat))
            have cells : ∀ w', Below w2.heap.size w2 w' → w'.cell? ⟨wr.heap.size, 1, none⟩ = some (.int .i64 s.tick) ∧ w'.cell? ⟨wr.heap.size, 2, none⟩ = some (.int .u64 (s.amt : Int)) := fun w' h => ⟨(hS2.up h).cell 1, (hS2.up h).cell 2⟩
            clear x1 x2 hS2
            refine region_list [] (fun _ w' => Below w2.heap.size w2 w') (by kernel_rfl) (by kernel_rfl) (Below.refl _ _).drew ?_
            iterate 3 ((refine' SeqS.calm _ (by rfl) (by rfl) (fun w => ?_) ?_; rotate_left; · (go_simp <;> with_reducible rfl)); simp only [Act.put, List.setIfInBounds_toArray, List.set_cons_zero, List.set_cons_succ])
            iterate 9 ((refine SeqS.skip (by rfl) (by rfl) ?_); simp only [Act.put, List.setIfInBounds_toArray, List.set_cons_zero, List.set_cons_succ])
            iterate 3 ((refine' SeqS.calm _ (by rfl) (by rfl) (fun w => ?_) ?_; rotate_left; · (go_simp <;> with_reducible rfl)); simp only [Act.put, List.setIfInBounds_toArray, List.set_cons_zero, List.set_cons_succ])
            refine' SeqS.take _ (by rfl) (by rfl) (fun ph w' hS => ?_) ?_; rotate_left; · (obtain ⟨x1, x2⟩ := cells w' hS; go_simp <;> with_reducible rfl)
            simp only [Act.put, List.setIfInBounds_toArray, List.set_cons_zero, List.set_cons_succ]
            iterate 2 ((refine' SeqS.calm _ (by rfl) (by rfl) (fun w => ?_) ?_; rotate_left; · (go_simp <;> with_reducible rfl)); simp only [Act.put, List.setIfInBounds_toArray, List.set_cons_zero, List.set_cons_succ])
            intro w5 hw5
            have HF5 := Lib.hid (HF3.out.up hw5)
            have hB5 := Below.then hB2 hw5
            clear cells hw5 HF3
            go_wp2
            go_roundw
            case rel => exact ⟨1, by omega, by go_num, HF5, hB5⟩
            case measure => simp [intOf]; omega
          · obtain ⟨j, rfl⟩ : ∃ j, k = j + 1 := ⟨k - 1, by omega⟩
            have hjl : j < ds.length := by omega
            have hji : ds[j]? = some ds[j] := List.getElem?_eq_getElem hjl
            obtain ⟨a', hA', hab', hatj0⟩ := rows_row HF2.out.row hji
            rw [hA] at hA'
            cases hA'
            have hatj : LiesAt wr (a.add (j * 3)) (Rec.vals ds[j]) := hatj0
            have hrise := hri j hlt
            obtain ⟨s, es⟩ : ∃ s, ds[j + 1] = s := ⟨_, rfl⟩
            obtain ⟨r, er⟩ : ∃ r, ds[j] = r := ⟨_, rfl⟩
            rw [es] at hat hne hrise
            rw [er] at hatj hrise
            have z1 : ((s.amt : Int) == 0) = false := by simp; omega
            have z2 : decide (s.tick < r.tick) = false := decide_eq_false (by omega)
            have z3 : decide ((0 : Int) < (j : Int) + 1) = true := decide_eq_true (by omega)
            have e2 : IntKind.i64.wrap (j : Int) = (j : Int) := by rw [IntKind.wrap_i64]; omega
            have hj0 : (0 : Int) ≤ (j : Int) := by omega
            have hjI : (j : Int) < (ds.length : Int) := by omega
            have hj1 : (j : Int) + 1 < (ds.length : Int) := by omega
            have hj2 : (0 : Int) ≤ (j : Int) + 1 := by omega
            have hj3 : (0 : Int) < (j : Int) + 1 := by omega
            have n1 : ((j + 1 : Nat) : Int) = (j : Int) + 1 := by omega
            have q1 := hatj.fld 0 (v := .int .i64 r.tick) rfl
            have Q1 := Lib.hid q1
            subst hA
            rw [n1] at hkI hk0 ⊢
            clear es er hri hne hT hfew hji hatj0 hatj hrise hjl q1 hkI hk0
            go_wp2_with (first
              | (refine load_rec 50 _ rfl rfl _ (Rec.vals s) rfl hat Try.underlying50 size_due ?_)
              | (refine store_rec 50 _ _ rfl rfl _ (Rec.vals s) (Rec.vals Due.zero) 50 rfl rfl (RecAt.new _ _ _) size_due rfl (Rec.one s) ?_; intro w2 hS2 hb2 hsz hkp; clear hsz hkp; have hb2 := rec_made (Below.refl _ _) hb2; have HF3 := Lib.hid (HF2.out.up hb2); have hB2 := Below.then hBq hb2; have x1 : w2.cell? ⟨wr.heap.size, 1, none⟩ = some (.int .i64 s.tick) := hS2.cell 1; have x2 : w2.cell? ⟨wr.heap.size, 2, none⟩ = some (.int .u64 (s.amt : Int)) := hS2.cell 2; have x3 : w2.cell? ⟨(a.add (j * 3)).block, (a.add (j * 3)).off + 1, none⟩ = some (.int .i64 r.tick) := (hb2.cell (World.block_lt_of_cell? wr _ Q1.out)).trans Q1.out; clear hb2 hat Q1))
            have cells : ∀ w', Below w2.heap.size w2 w' → w'.cell? ⟨wr.heap.size, 1, none⟩ = some (.int .i64 s.tick) ∧ w'.cell? ⟨wr.heap.size, 2, none⟩ = some (.int .u64 (s.amt : Int)) ∧ w'.cell? ⟨(a.add (j * 3)).block, (a.add (j * 3)).off + 1, none⟩ = some (.int .i64 r.tick) := fun w' h => ⟨(hS2.up h).cell 1, (hS2.up h).cell 2, (h.cell (World.block_lt_of_cell? w2 _ x3)).trans x3⟩
            clear x1 x2 hS2
            refine region_list [] (fun _ w' => Below w2.heap.size w2 w') (by kernel_rfl) (by kernel_rfl) (Below.refl _ _).drew ?_
            iterate 8 ((refine' SeqS.calm _ (by rfl) (by rfl) (fun w => ?_) ?_; rotate_left; · (go_simp <;> with_reducible rfl)); simp only [Act.put, List.setIfInBounds_toArray, List.set_cons_zero, List.set_cons_succ])
            refine' SeqS.take _ (by rfl) (by rfl) (fun ph w' hS => ?_) ?_; rotate_left; · (obtain ⟨x1, x2, x3⟩ := cells w' hS; go_simp <;> with_reducible rfl)
            simp only [Act.put, List.setIfInBounds_toArray, List.set_cons_zero, List.set_cons_succ]
            refine' SeqS.calm _ (by rfl) (by rfl) (fun w => ?_) ?_; rotate_left; · (go_simp <;> with_reducible rfl)
            simp only [Act.put, List.setIfInBounds_toArray, List.set_cons_zero, List.set_cons_succ]
            refine' SeqS.take _ (by rfl) (by rfl) (fun ph w' hS => ?_) ?_; rotate_left; · (obtain ⟨x1, x2, x3⟩ := cells w' hS; go_simp <;> with_reducible rfl)
            simp only [Act.put, List.setIfInBounds_toArray, List.set_cons_zero, List.set_cons_succ]
            iterate 4 ((refine' SeqS.calm _ (by rfl) (by rfl) (fun w => ?_) ?_; rotate_left; · (go_simp <;> with_reducible rfl)); simp only [Act.put, List.setIfInBounds_toArray, List.set_cons_zero, List.set_cons_succ])
            refine' SeqS.take _ (by rfl) (by rfl) (fun ph w' hS => ?_) ?_; rotate_left; · (obtain ⟨x1, x2, x3⟩ := cells w' hS; go_simp <;> with_reducible rfl)
            simp only [Act.put, List.setIfInBounds_toArray, List.set_cons_zero, List.set_cons_succ]
            iterate 2 ((refine' SeqS.calm _ (by rfl) (by rfl) (fun w => ?_) ?_; rotate_left; · (go_simp <;> with_reducible rfl)); simp only [Act.put, List.setIfInBounds_toArray, List.set_cons_zero, List.set_cons_succ])
            intro w5 hw5
            have HF5 := Lib.hid (HF3.out.up hw5)
            have hB5 := Below.then hB2 hw5
            clear cells hw5 HF3 x3
            go_wp2
            go_roundw
            case rel => exact ⟨j + 1 + 1, by omega, by go_num, HF5, hB5⟩
            case measure => simp [intOf]; omega
        · obtain rfl : k = ds.length := by omega
          have hT2 : totDue ds ≤ 67553994410557440 := by omega
          have hn60 : ds.length ≤ 60 := by omega
          have kp := pripe_is ds now A5 c5 wr HF2.out.row (by omega)
          have hp := totDue_parts now ds
          have hn := len_parts now ds
          have hl1 := fun hj => ripe_last now ds hj
          have hl2 := rest_first now ds
          generalize ripeOf now ds = r1 at kp hp hn hl1
          generalize restOf now ds = r2 at kp hp hn hl2
          have k1 := fun (A : Option Addr) (c : Nat) (w1 : World) (h1 : Row w1 w1.heap.size A (rows r1)) => sum_due r1 A c w1 h1 (by omega) (by omega)
          have k2 := fun (A : Option Addr) (c : Nat) (w1 : World) (h1 : Row w1 w1.heap.size A (rows r2)) => sum_due r2 A c w1 h1 (by omega) (by omega)
          have k3 := fun (w1 : World) (h1 : Row w1 w1.heap.size A5 (rows ds)) => sum_due ds A5 c5 w1 h1 (by omega) hT2
          obtain ⟨R1, eR1⟩ : ∃ R1, totDue r1 = R1 := ⟨_, rfl⟩
          obtain ⟨R2, eR2⟩ : ∃ R2, totDue r2 = R2 := ⟨_, rfl⟩
          obtain ⟨R3, eR3⟩ : ∃ R3, totDue ds = R3 := ⟨_, rfl⟩
          rw [eR1] at k1 hp
          rw [eR2] at k2 hp
          rw [eR3] at k3 hp hT2
          have hsum : IntKind.u64.wrap ((R1 : Int) + (R2 : Int)) = (R3 : Int) := by rw [IntKind.wrap_u64]; omega
          have KP := Lib.hid kp
          have K1 := Lib.hid k1
          have K2 := Lib.hid k2
          have K3 := Lib.hid k3
          clear kp k1 k2 k3 hp eR1 eR2 eR3 hT2 hT hfew hk
          by_cases h1 : r1 ≠ []
          · obtain ⟨q, eq⟩ : ∃ q, r1.length = q + 1 := ⟨r1.length - 1, by have := List.length_pos_iff.2 h1; omega⟩
            have hq : q < r1.length := by omega
            have hlast : r1[q].tick ≤ now := by
              have := hl1 h1 (by omega)
              simpa only [show r1.length - 1 = q by omega] using this
            have hsq : r1[q]? = some r1[q] := List.getElem?_eq_getElem hq
            obtain ⟨s1, es1⟩ : ∃ s1, r1[q] = s1 := ⟨_, rfl⟩
            rw [es1] at hlast hsq
            have z1 : ∀ (A : Option Addr) (w : World), Row w w.heap.size A (rows r1) → ∃ a, A = some a ∧ w.cell? ⟨(a.add (q * 3)).block, (a.add (q * 3)).off + 1, none⟩ = some (.int .i64 s1.tick) := fun A w h => by
              obtain ⟨a, e, -, ha⟩ := rows_row h hsq
              exact ⟨a, e, LiesAt.fld (cs := Rec.vals s1) ha 0 rfl⟩
            have Z1 := Lib.hid z1
            have d1 : decide (s1.tick ≤ now) = true := decide_eq_true hlast
            rw [eq] at KP K1 hn
            have n1 : ((q + 1 : Nat) : Int) = (q : Int) + 1 := by omega
            have e2 : IntKind.i64.wrap ((q : Int) + 1 - 1) = (q : Int) := by rw [IntKind.wrap_i64]; omega
            have j0 : (0 : Int) ≤ (q : Int) := by omega
            have j1 : (q : Int) < (q : Int) + 1 := by omega
            have j2 : ((q : Int) + 1 == 0) = false := by simp; omega
            clear z1 es1 hsq hlast hq eq n1 hl1
            by_cases h2 : r2 ≠ []
            · have hpos : 0 < r2.length := List.length_pos_iff.2 h2
              have hfst := hl2 hpos
              have hs2 : r2[0]? = some r2[0] := List.getElem?_eq_getElem hpos
              obtain ⟨s2, es2⟩ : ∃ s2, r2[0] = s2 := ⟨_, rfl⟩
              rw [es2] at hfst hs2
              have z2 : ∀ (A : Option Addr) (w : World), Row w w.heap.size A (rows r2) → ∃ a, A = some a ∧ w.cell? ⟨a.block, a.off + 1, none⟩ = some (.int .i64 s2.tick) := fun A w h => by
                obtain ⟨a, e, -, ha⟩ := rows_row h hs2
                rw [Nat.zero_mul] at ha
                refine ⟨a, e, ?_⟩
                have := LiesAt.fld (cs := Rec.vals s2) ha 0 (v := .int .i64 s2.tick) rfl
                simpa [Addr.add] using this
              have Z2 := Lib.hid z2
              have d2 : decide (now < s2.tick) = true := decide_eq_true hfst
              obtain ⟨n2, e2n⟩ : ∃ n2, r2.length = n2 := ⟨_, rfl⟩
              rw [e2n] at KP K2 hn hpos
              have j3 : ((n2 : Int) == 0) = false := by simp; omega
              have j4 : (0 : Int) < (n2 : Int) := by omega
              clear z2 es2 hs2 hfst e2n hl2
              have hlen : ((q : Int) + 1 + (n2 : Int) == (ds.length : Int)) = true := by simp; omega
              have q60 : (q : Int) + 1 + (n2 : Int) ≤ 60 := by omega
              have qb : (q : Int) ≤ 60 := by omega
              have nb : (n2 : Int) ≤ 60 := by omega
              clear hpos
              clear hn h1 h2
              go_wp2_with (first
                | (go_at_call 16; refine KP.out.mono ?_; clear KP; rintro e w3 ⟨A1, c1, A2, c2, rfl, hr1, hr2, hb3⟩; have HF3 := Lib.hid (HF2.out.up hb3); have H1 := Lib.hid hr1; have H2 := Lib.hid hr2; have hB3 := Below.then hBq hb3; clear hb3 hr1 hr2 HF2)
                | (go_at_call 11; refine (K1.out A1 c1 w3 H1.out).mono ?_; clear K1; rintro e w4 ⟨rfl, hb4⟩; have HF4 := Lib.hid (HF3.out.up hb4); have H14 := Lib.hid (H1.out.kept hb4); have H24 := Lib.hid (H2.out.kept hb4); have hB4 := Below.then hB3 hb4; clear hb4 H1 H2 HF3)
                | (go_at_call 11; refine (K2.out A2 c2 w4 H24.out).mono ?_; clear K2; rintro e w5 ⟨rfl, hb5⟩; have HF5 := Lib.hid (HF4.out.up hb5); have H15 := Lib.hid (H14.out.kept hb5); have H25 := Lib.hid (H24.out.kept hb5); have hB5 := Below.then hB4 hb5; clear hb5 H14 H24 HF4)
                | (go_at_call 11; refine (K3.out w5 HF5.out.row).mono ?_; clear K3; rintro e w6 ⟨rfl, hb6⟩; have H16 := Lib.hid (H15.out.kept hb6); have H26 := Lib.hid (H25.out.kept hb6); have hB6 := Below.then hB5 hb6; clear hb6 H15 H25 HF5; obtain ⟨a1, rfl, x1⟩ := Z1.out A1 w6 H16.out; obtain ⟨a2, rfl, x2⟩ := Z2.out A2 w6 H26.out; clear H16 H26))
              go_ret
              exact ⟨by first | rfl | simp, hB6⟩
            · obtain rfl : r2 = [] := Classical.not_not.1 h2
              rw [List.length_nil] at KP K2 hn
              (try rw [Nat.add_zero] at hn)
              clear hl2
              have hlen : ((q : Int) + 1 == (ds.length : Int)) = true := by simp; omega
              have q60 : (q : Int) + 1 ≤ 60 := by omega
              have qb : (q : Int) ≤ 60 := by omega
              clear hn h1 h2
              go_wp2_with (first
                | (go_at_call 16; refine KP.out.mono ?_; clear KP; rintro e w3 ⟨A1, c1, A2, c2, rfl, hr1, hr2, hb3⟩; have HF3 := Lib.hid (HF2.out.up hb3); have H1 := Lib.hid hr1; have H2 := Lib.hid hr2; have hB3 := Below.then hBq hb3; clear hb3 hr1 hr2 HF2)
                | (go_at_call 11; refine (K1.out A1 c1 w3 H1.out).mono ?_; clear K1; rintro e w4 ⟨rfl, hb4⟩; have HF4 := Lib.hid (HF3.out.up hb4); have H14 := Lib.hid (H1.out.kept hb4); have H24 := Lib.hid (H2.out.kept hb4); have hB4 := Below.then hB3 hb4; clear hb4 H1 H2 HF3)
                | (go_at_call 11; refine (K2.out A2 c2 w4 H24.out).mono ?_; clear K2; rintro e w5 ⟨rfl, hb5⟩; have HF5 := Lib.hid (HF4.out.up hb5); have H15 := Lib.hid (H14.out.kept hb5); have H25 := Lib.hid (H24.out.kept hb5); have hB5 := Below.then hB4 hb5; clear hb5 H14 H24 HF4)
                | (go_at_call 11; refine (K3.out w5 HF5.out.row).mono ?_; clear K3; rintro e w6 ⟨rfl, hb6⟩; have H16 := Lib.hid (H15.out.kept hb6); have H26 := Lib.hid (H25.out.kept hb6); have hB6 := Below.then hB5 hb6; clear hb6 H15 H25 HF5; obtain ⟨a1, rfl, x1⟩ := Z1.out A1 w6 H16.out; clear H16 H26))
              go_ret
              exact ⟨by first | rfl | simp, hB6⟩
          · obtain rfl : r1 = [] := Classical.not_not.1 h1
            rw [List.length_nil] at KP K1 hn
            rw [Nat.zero_add] at hn
            clear hl1
            by_cases h2 : r2 ≠ []
            · have hpos : 0 < r2.length := List.length_pos_iff.2 h2
              have hfst := hl2 hpos
              have hs2 : r2[0]? = some r2[0] := List.getElem?_eq_getElem hpos
              obtain ⟨s2, es2⟩ : ∃ s2, r2[0] = s2 := ⟨_, rfl⟩
              rw [es2] at hfst hs2
              have z2 : ∀ (A : Option Addr) (w : World), Row w w.heap.size A (rows r2) → ∃ a, A = some a ∧ w.cell? ⟨a.block, a.off + 1, none⟩ = some (.int .i64 s2.tick) := fun A w h => by
                obtain ⟨a, e, -, ha⟩ := rows_row h hs2
                rw [Nat.zero_mul] at ha
                refine ⟨a, e, ?_⟩
                have := LiesAt.fld (cs := Rec.vals s2) ha 0 (v := .int .i64 s2.tick) rfl
                simpa [Addr.add] using this
              have Z2 := Lib.hid z2
              have d2 : decide (now < s2.tick) = true := decide_eq_true hfst
              obtain ⟨n2, e2n⟩ : ∃ n2, r2.length = n2 := ⟨_, rfl⟩
              rw [e2n] at KP K2 hn hpos
              have j3 : ((n2 : Int) == 0) = false := by simp; omega
              have j4 : (0 : Int) < (n2 : Int) := by omega
              clear z2 es2 hs2 hfst e2n hl2
              have hlen : ((n2 : Int) == (ds.length : Int)) = true := by simp; omega
              have q60 : (n2 : Int) ≤ 60 := by omega
              clear hpos
              clear hn h1 h2
              go_wp2_with (first
                | (go_at_call 16; refine KP.out.mono ?_; clear KP; rintro e w3 ⟨A1, c1, A2, c2, rfl, hr1, hr2, hb3⟩; have HF3 := Lib.hid (HF2.out.up hb3); have H1 := Lib.hid hr1; have H2 := Lib.hid hr2; have hB3 := Below.then hBq hb3; clear hb3 hr1 hr2 HF2)
                | (go_at_call 11; refine (K1.out A1 c1 w3 H1.out).mono ?_; clear K1; rintro e w4 ⟨rfl, hb4⟩; have HF4 := Lib.hid (HF3.out.up hb4); have H14 := Lib.hid (H1.out.kept hb4); have H24 := Lib.hid (H2.out.kept hb4); have hB4 := Below.then hB3 hb4; clear hb4 H1 H2 HF3)
                | (go_at_call 11; refine (K2.out A2 c2 w4 H24.out).mono ?_; clear K2; rintro e w5 ⟨rfl, hb5⟩; have HF5 := Lib.hid (HF4.out.up hb5); have H15 := Lib.hid (H14.out.kept hb5); have H25 := Lib.hid (H24.out.kept hb5); have hB5 := Below.then hB4 hb5; clear hb5 H14 H24 HF4)
                | (go_at_call 11; refine (K3.out w5 HF5.out.row).mono ?_; clear K3; rintro e w6 ⟨rfl, hb6⟩; have H16 := Lib.hid (H15.out.kept hb6); have H26 := Lib.hid (H25.out.kept hb6); have hB6 := Below.then hB5 hb6; clear hb6 H15 H25 HF5; obtain ⟨a2, rfl, x2⟩ := Z2.out A2 w6 H26.out; clear H16 H26))
              go_ret
              exact ⟨by first | rfl | simp, hB6⟩
            · obtain rfl : r2 = [] := Classical.not_not.1 h2
              rw [List.length_nil] at KP K2 hn
              (try rw [Nat.add_zero] at hn)
              clear hl2
              have hlen : ((ds.length : Int) == 0) = true := by rw [← hn]; rfl
              have hlen2 : ((0 : Int) == (ds.length : Int)) = true := by rw [← hn]; rfl
              clear hn h1 h2
              go_wp2_with (first
                | (go_at_call 16; refine KP.out.mono ?_; clear KP; rintro e w3 ⟨A1, c1, A2, c2, rfl, hr1, hr2, hb3⟩; have HF3 := Lib.hid (HF2.out.up hb3); have H1 := Lib.hid hr1; have H2 := Lib.hid hr2; have hB3 := Below.then hBq hb3; clear hb3 hr1 hr2 HF2)
                | (go_at_call 11; refine (K1.out A1 c1 w3 H1.out).mono ?_; clear K1; rintro e w4 ⟨rfl, hb4⟩; have HF4 := Lib.hid (HF3.out.up hb4); have H14 := Lib.hid (H1.out.kept hb4); have H24 := Lib.hid (H2.out.kept hb4); have hB4 := Below.then hB3 hb4; clear hb4 H1 H2 HF3)
                | (go_at_call 11; refine (K2.out A2 c2 w4 H24.out).mono ?_; clear K2; rintro e w5 ⟨rfl, hb5⟩; have HF5 := Lib.hid (HF4.out.up hb5); have H15 := Lib.hid (H14.out.kept hb5); have H25 := Lib.hid (H24.out.kept hb5); have hB5 := Below.then hB4 hb5; clear hb5 H14 H24 HF4)
                | (go_at_call 11; refine (K3.out w5 HF5.out.row).mono ?_; clear K3; rintro e w6 ⟨rfl, hb6⟩; have H16 := Lib.hid (H15.out.kept hb6); have H26 := Lib.hid (H25.out.kept hb6); have hB6 := Below.then hB5 hb6; clear hb6 H15 H25 HF5; clear H16 H26))
              go_ret
              exact ⟨by first | rfl | simp, hB6⟩

theorem walk (l : List Due) (A : Option Addr) (c : Nat) (now : Int) (w : World) (hr : Row w w.heap.size A (rows l)) (hx : ∀ s ∈ l, s.amt ≤ 18446744073709551615) (hc : l.length ≤ c) (hm : c ≤ maxLen) (hz : A = none → c = 0) :
    Calls Try.prog 5 #[.slice A l.length c, .int .i64 now] w fun e w' => e = .returned (.bool true) ∧ Below w.heap.size w w' := by
  by_cases h : 60 < l.length
  · exact walk_many l now A c w (Nat.le_trans hc hm) h
  · exact walk_few l now A c w hr (by omega)

theorem own : ownKnob Try.prog.godebug = none := by kernel_rfl
theorem laidOut : laidOutB Try.prog = true := by kernel_rfl

set_option maxRecDepth 100000 in
theorem lifted (os : Os) (started : os.Started) (H : Type) (enc : TypeId × Value → H) :
    ReturnsInHanded {} Try.checked os 5 .any (Rows.poolKeepsSpec.pre6 enc Try.prog Try.f5 Rows.poolKeepsRow.domain false) (Rows.poolKeepsSpec.post enc Try.prog Try.f5 false true false false) := by
  refine returnsInHanded_of_change (C := Try.checked) own started (by kernel_rfl) Try.func5
    (ChangeSpec.witness6 (enc := enc) (C := Try.checked) false ⟨#[], #[.slice none 0 0, .int .i64 0], []⟩ 8 (by kernel_rfl) (by kernel_rfl) (by kernel_rfl) (by kernel_rfl)) ?_
  intro W base args ds gs before hval0 hW hcnd _
  have hval : ∀ (j : Nat) t v, Try.f5.params[j]? = some t → args[j]? = some v → Value.okWide Try.prog W .any base t v := hval0
  have hW' := hW
  obtain ⟨p, q, hA0, hV, rfl, hfz, hnd⟩ := hW
  have hlt : ∀ x ∈ p ++ q, x.block < W.heap.size := fun x hx => hW'.lt x hx
  have hA : DataW.TrodAll enc Try.prog W 0 (fun _ => true) true Try.f5.params.toList args.toList ds p := hA0
  rw [Try.params5] at hA hval
  obtain ⟨v0, vs0, d0, ds0, p0, q0, hargs, rfl, rfl, h0, r0⟩ := trodAll_cons hA
  obtain ⟨v1, vs1, d1, ds1, p1, q1, rfl, rfl, rfl, h1, r1⟩ := trodAll_cons r0
  obtain ⟨rfl, rfl, rfl⟩ := trodAll_nil r1
  obtain rfl : args = #[v0, v1] := by cases args; simp_all
  obtain ⟨rfl, rfl⟩ := trodVars_none hV
  obtain ⟨A0, n0, c0, rfl⟩ := okWide_slice Try.underlying37 (hval 0 37 v0 rfl rfl)
  obtain ⟨l0, hl0, hf0, hc0, hm0, hz0, hr0⟩ := open_dues h0
  subst hl0
  obtain ⟨a1, rfl, rfl, rfl, w1⟩ := open_int Try.underlying3 (hval 1 3 v1 rfl rfl) h1
  clear hA0 hval0
  refine (walk l0 A0 c0 a1 W hr0 hf0 hc0 hm0 hz0).mono fun e W' ⟨he, hg⟩ => ?_
  subst he
  exact ⟨_, rfl, law_post laidOut (by kernel_rfl) rfl rfl Try.underlying4 rfl hW' hg⟩

theorem over : Rows.poolKeepsRow.holds Try.pinned (OpenSpec.ofChange Rows.poolKeepsSpec) :=
  OpenClaim.holds_of_wide 5 Try.f5 rfl rfl rfl rfl rfl rfl rfl ⟨rfl, rfl, rfl, rfl, rfl⟩ rfl rfl rfl rfl rfl (by kernel_rfl) Try.func5 (by kernel_rfl)
    (of_decide_eq_true (by kernel_rfl)) (by unfold Func.isWrapper; first | (rw [if_pos (by decide +kernel)]; kernel_rfl) | (rw [if_neg (by decide +kernel)]; exact ⟨rfl, rfl⟩))
    (fun os started H enc _ => lifted os started H enc)

/-- The statement. -/
theorem proved : Rows.PoolKeepsSaid := over
#print axioms proved
end Go.Proofs.Ytaaildlopknbjaa.PoolKeeps
