/- Law MootOnce (P23.5): nobody votes twice; what was handed in stays; what is closed is open no more, and what is over is never ripe. No condition. -/
import Derived.Test.YtcaejanfhchacaaRows
import Derived.Test.YtcaejanfhchacaaMooN
import Derived.Test.YtcaejanfhchacaaMooE
import Derived.Test.YtcaejanfhchacaaMooP
import Derived.Test.YtcaejanfhchacaaMooQ
import Derived.Test.YtcaejanfhchacaaMooS
import Derived.Test.YtcaejanfhchacaaMooL
namespace Go.Proofs.Ytcaejanfhchacaa.MootOnce
open Go.RowKit Go.ChangeShapes Go.WideShapes Go.ChangeAt Go.Deep
set_option linter.unusedVariables false
set_option linter.unusedSimpArgs false

theorem below_alloc_eq {w w' : World} {o : Obj} (h : w.alloc o = w') : Below w.heap.size w w' := by rw [← h]; exact (Below.refl _ _).alloc (Nat.le_refl _) _
theorem drewn_eq {B : Nat} {a w w' : World} {n : Nat} (hB : Below B a w) (h : w.drewN n = w') : Below B a w' := by rw [← h]; exact below_drewN hB _
theorem wy_zero_new (w : World) : RecAt (w.alloc (.cells (Rec.vals Wy.zero) 24)) w.heap.size (Rec.vals Wy.zero) 24 := RecAt.new w _ _
theorem bools_two (w : World) (T : TypeId) (w' : World) (h : w.alloc (.cells #[.bool true, .bool false] T) = w') : ∀ W, Below w'.heap.size w' W → ∀ j : Nat, j < 2 → ∃ b : Bool, W.cell? ((⟨w.heap.size, 0, none⟩ : Addr).add j) = some (.bool b) := fun W hb j hj => by
  subst h
  have h0 := RecAt.up (RecAt.new w #[.bool true, .bool false] T) hb
  match j, hj with
  | 0, _ => exact ⟨true, h0.cell 0⟩
  | 1, _ => exact ⟨false, h0.cell 1⟩

set_option maxRecDepth 100000 in
set_option maxHeartbeats 2000000 in
theorem walk_wide (p : Par) (x : Hl) (l2 : List Wy) (A2 : Option Addr) (c2 : Nat) (w : World) (hm : HallAt w x) (h : ¬ (shorts x.mots.l ∧ x.mots.l.length ≤ 60)) :
    Calls Try.prog 6 #[.agg p.vals, .agg (Rec.vals x), .slice A2 l2.length c2] w fun e w' => e = .returned (.bool true) ∧ Below w.heap.size w w' := by
  have kf := fun (W : World) (hB : Below w.heap.size w W) => few23_is x.mots.l x.mots.A x.mots.c false W (hm.mots.up hB) (by have := hm.few; omega) ⟨(fun e => by cases e), fun e => absurd e h⟩
  have KF := Lib.hid kf
  clear kf hm h
  go_enter Try.func6, Try.ntmps6
  go_upto_region 1 with fail
  generalize hw0 : World.alloc (World.alloc _ _) _ = w0
  have hP : ParAt w0 w.heap.size p 37 := by rw [← hw0]; exact (ParAt.new w p 37).up ((Below.refl _ _).alloc (Nat.le_refl _) _)
  have hH : RecAt w0 (w.heap.size + 1) (Rec.vals x) 62 := by
    rw [← hw0]
    have := RecAt.new (w.alloc (.cells p.vals 37)) (Rec.vals x) 62
    rw [World.size_alloc] at this
    exact this
  have hB : Below w.heap.size w w0 := by rw [← hw0]; exact ((Below.refl _ _).alloc (Nat.le_refl _) _).alloc (by simp) _
  clear hw0
  go_wp2_with (first
    | (go_at_call 7; refine (moot_awake w0).mono ?_; rintro e w1 ⟨rfl, hb⟩; have hP := hP.up hb; have hH := hH.up hb; have hB := Below.then hB hb; clear hb; have h0 : w1.cell? ⟨w.heap.size + 1, 0, none⟩ = some (.slice x.mots.A x.mots.l.length x.mots.c) := hH.cell 0)
    | (go_at_call 8; refine (KF.out _ hB).mono ?_; clear KF; rintro e w2 ⟨rfl, hb⟩; clear h0; have hP := hP.up hb; have hH := hH.up hb; have hB := Below.then hB hb; clear hb; have h1 : w2.cell? ⟨w.heap.size + 1, 1, none⟩ = some (.slice x.mems.A x.mems.l.length x.mems.c) := hH.cell 1))
  go_ret
  exact ⟨by first | rfl | simp, hB⟩

set_option maxRecDepth 100000 in
set_option maxHeartbeats 2000000 in
theorem walk_many (p : Par) (x : Hl) (l2 : List Wy) (A2 : Option Addr) (c2 : Nat) (w : World) (hm : HallAt w x) (h : shorts x.mots.l) (hk : x.mots.l.length ≤ 60) (hx : 100 < x.mems.l.length) :
    Calls Try.prog 6 #[.agg p.vals, .agg (Rec.vals x), .slice A2 l2.length c2] w fun e w' => e = .returned (.bool true) ∧ Below w.heap.size w w' := by
  have kf := fun (W : World) (hB : Below w.heap.size w W) => few23_is x.mots.l x.mots.A x.mots.c true W (hm.mots.up hB) (by have := hm.few; omega) ⟨fun _ => ⟨h, hk⟩, fun _ => rfl⟩
  have KF := Lib.hid kf
  have d1 : decide ((100 : Int) < (x.mems.l.length : Int)) = true := decide_eq_true (by omega)
  have d2 : decide (100 < x.mems.l.length) = true := decide_eq_true hx
  clear kf hm h hk hx
  go_enter Try.func6, Try.ntmps6
  go_upto_region 1 with fail
  generalize hw0 : World.alloc (World.alloc _ _) _ = w0
  have hP : ParAt w0 w.heap.size p 37 := by rw [← hw0]; exact (ParAt.new w p 37).up ((Below.refl _ _).alloc (Nat.le_refl _) _)
  have hH : RecAt w0 (w.heap.size + 1) (Rec.vals x) 62 := by
    rw [← hw0]
    have := RecAt.new (w.alloc (.cells p.vals 37)) (Rec.vals x) 62
    rw [World.size_alloc] at this
    exact this
  have hB : Below w.heap.size w w0 := by rw [← hw0]; exact ((Below.refl _ _).alloc (Nat.le_refl _) _).alloc (by simp) _
  clear hw0
  go_wp2_with (first
    | (go_at_call 7; refine (moot_awake w0).mono ?_; rintro e w1 ⟨rfl, hb⟩; have hP := hP.up hb; have hH := hH.up hb; have hB := Below.then hB hb; clear hb; have h0 : w1.cell? ⟨w.heap.size + 1, 0, none⟩ = some (.slice x.mots.A x.mots.l.length x.mots.c) := hH.cell 0)
    | (go_at_call 8; refine (KF.out _ hB).mono ?_; clear KF; rintro e w2 ⟨rfl, hb⟩; clear h0; have hP := hP.up hb; have hH := hH.up hb; have hB := Below.then hB hb; clear hb; have h1 : w2.cell? ⟨w.heap.size + 1, 1, none⟩ = some (.slice x.mems.A x.mems.l.length x.mems.c) := hH.cell 1))
  go_ret
  exact ⟨by first | rfl | simp, hB⟩

set_option maxRecDepth 100000 in
set_option maxHeartbeats 2000000 in
theorem walk_long (p : Par) (x : Hl) (l2 : List Wy) (A2 : Option Addr) (c2 : Nat) (w : World) (hm : HallAt w x) (h : shorts x.mots.l) (hk : x.mots.l.length ≤ 60) (hx : ¬ 100 < x.mems.l.length ∧ 60 < l2.length) :
    Calls Try.prog 6 #[.agg p.vals, .agg (Rec.vals x), .slice A2 l2.length c2] w fun e w' => e = .returned (.bool true) ∧ Below w.heap.size w w' := by
  have kf := fun (W : World) (hB : Below w.heap.size w W) => few23_is x.mots.l x.mots.A x.mots.c true W (hm.mots.up hB) (by have := hm.few; omega) ⟨fun _ => ⟨h, hk⟩, fun _ => rfl⟩
  have KF := Lib.hid kf
  have d1 : decide ((100 : Int) < (x.mems.l.length : Int)) = false := decide_eq_false (by omega)
  have d2 : decide (100 < x.mems.l.length) = false := decide_eq_false hx.1
  have d3 : decide ((60 : Int) < (l2.length : Int)) = true := decide_eq_true (by omega)
  have d4 : decide (60 < l2.length) = true := decide_eq_true hx.2
  clear kf hm h hk hx
  go_enter Try.func6, Try.ntmps6
  go_upto_region 1 with fail
  generalize hw0 : World.alloc (World.alloc _ _) _ = w0
  have hP : ParAt w0 w.heap.size p 37 := by rw [← hw0]; exact (ParAt.new w p 37).up ((Below.refl _ _).alloc (Nat.le_refl _) _)
  have hH : RecAt w0 (w.heap.size + 1) (Rec.vals x) 62 := by
    rw [← hw0]
    have := RecAt.new (w.alloc (.cells p.vals 37)) (Rec.vals x) 62
    rw [World.size_alloc] at this
    exact this
  have hB : Below w.heap.size w w0 := by rw [← hw0]; exact ((Below.refl _ _).alloc (Nat.le_refl _) _).alloc (by simp) _
  clear hw0
  go_wp2_with (first
    | (go_at_call 7; refine (moot_awake w0).mono ?_; rintro e w1 ⟨rfl, hb⟩; have hP := hP.up hb; have hH := hH.up hb; have hB := Below.then hB hb; clear hb; have h0 : w1.cell? ⟨w.heap.size + 1, 0, none⟩ = some (.slice x.mots.A x.mots.l.length x.mots.c) := hH.cell 0)
    | (go_at_call 8; refine (KF.out _ hB).mono ?_; clear KF; rintro e w2 ⟨rfl, hb⟩; clear h0; have hP := hP.up hb; have hH := hH.up hb; have hB := Below.then hB hb; clear hb; have h1 : w2.cell? ⟨w.heap.size + 1, 1, none⟩ = some (.slice x.mems.A x.mems.l.length x.mems.c) := hH.cell 1))
  go_ret
  exact ⟨by first | rfl | simp, hB⟩

set_option maxRecDepth 100000 in
set_option maxHeartbeats 4000000 in
theorem walk_held (p : Par) (x : Hl) (l2 : List Wy) (A2 : Option Addr) (c2 : Nat) (w : World) (hm : HallAt w x) (h : shorts x.mots.l) (hk : x.mots.l.length ≤ 60) (hx : x.mems.l.length ≤ 100) (hv : l2.length ≤ 60) (hr2 : Row w w.heap.size A2 (rows l2)) (hp : p.Fits) :
    Calls Try.prog 6 #[.agg p.vals, .agg (Rec.vals x), .slice A2 l2.length c2] w fun e w' => e = .returned (.bool true) ∧ Below w.heap.size w w' := by
  have kf := fun (W : World) (hB : Below w.heap.size w W) => few23_is x.mots.l x.mots.A x.mots.c true W (hm.mots.up hB) (by have := hm.few; omega) ⟨fun _ => ⟨h, hk⟩, fun _ => rfl⟩
  have KF := Lib.hid kf
  have d1 : decide ((100 : Int) < (x.mems.l.length : Int)) = false := decide_eq_false (by omega)
  have d2 : decide (100 < x.mems.l.length) = false := decide_eq_false (by omega)
  have d3 : decide ((60 : Int) < (l2.length : Int)) = false := decide_eq_false (by omega)
  have d4 : decide (60 < l2.length) = false := decide_eq_false (by omega)
  have kp := fun (l : List Mot) (A : Option Addr) (c : Nat) (W : World) (hm : Mots W A c l) hl => lplain23_is l A c W hm hl
  have kc := fun (l : List Mot) (A : Option Addr) (c : Nat) (W : World) (hM : Mots W A c l) (hl : l.length ≤ 60) (hB : Below w.heap.size w W) => (close_is p l A c x.mems.l x.mems.A x.mems.c 1073741824 W hM (by omega) hp (row_kept hm.mems.row hB) (by omega) hm.mem ⟨by decide, by decide⟩).mono (R' := fun e w' => ∃ (l' : List Mot) (A' : Option Addr) (c' : Nat), e = .returned (.slice A' l.length c') ∧ l'.map Mot.pure = (l.map Mot.pure).map (PMot.closed p.quorum p.enact x.mems.l 1073741824) ∧ l'.length = l.length ∧ Mots w' A' c' l' ∧ Below W.heap.size W w') (fun e w' ⟨l', A', c', e1, e2, e3, e4⟩ => by
    have e5 : l'.length = l.length := by have := congrArg List.length e2; simpa using this
    exact ⟨l', A', c', by rw [e1, e5], e2, e5, e3, e4⟩)
  have hm0 := hm.mots
  have KP := Lib.hid kp
  have KC := Lib.hid kc
  have HM0 := Lib.hid hm0
  have HR2 := Lib.hid hr2
  have HK := Lib.hid hk
  have HV := Lib.hid hv
  clear kf kp kc hm h hx hr2 hp hm0 hk hv
  go_enter Try.func6, Try.ntmps6
  go_upto_region 1 with fail
  generalize hw0 : World.alloc (World.alloc _ _) _ = w0
  have hP : ParAt w0 w.heap.size p 37 := by rw [← hw0]; exact (ParAt.new w p 37).up ((Below.refl _ _).alloc (Nat.le_refl _) _)
  have hH : RecAt w0 (w.heap.size + 1) (Rec.vals x) 62 := by
    rw [← hw0]
    have := RecAt.new (w.alloc (.cells p.vals 37)) (Rec.vals x) 62
    rw [World.size_alloc] at this
    exact this
  have hB : Below w.heap.size w w0 := by rw [← hw0]; exact ((Below.refl _ _).alloc (Nat.le_refl _) _).alloc (by simp) _
  clear hw0
  go_wp2_with (first
    | (go_at_call 7; refine (moot_awake w0).mono ?_; rintro e w1 ⟨rfl, hb⟩; have hP := hP.up hb; have hH := hH.up hb; have hB := Below.then hB hb; clear hb; have h0 : w1.cell? ⟨w.heap.size + 1, 0, none⟩ = some (.slice x.mots.A x.mots.l.length x.mots.c) := hH.cell 0)
    | (go_at_call 8; refine (KF.out _ hB).mono ?_; clear KF; rintro e w2 ⟨rfl, hb⟩; clear h0; have hP := hP.up hb; have hH := hH.up hb; have hB := Below.then hB hb; clear hb; have h0 : w2.cell? ⟨w.heap.size + 1, 0, none⟩ = some (.slice x.mots.A x.mots.l.length x.mots.c) := hH.cell 0; have h1 : w2.cell? ⟨w.heap.size + 1, 1, none⟩ = some (.slice x.mems.A x.mems.l.length x.mems.c) := hH.cell 1))
  clear h0 h1
  have HP2 := Lib.hid hP
  have HH2 := Lib.hid hH
  have HM2 := Lib.hid (HM0.out.up hB)
  have HB2 := Lib.hid hB
  clear hP hH hB d1 d2 d3 d4 HM0
  go_loopw [7, 47] (fun v7 iv wr => ∃ (k : Nat) (l' : List Mot) (A' : Option Addr) (c' : Nat), k ≤ l2.length ∧ v7 = .slice A' l'.length c' ∧ iv = .int .i64 (k : Int) ∧ Hid (Mots wr A' c' l') ∧ l'.length ≤ 60 ∧ Below w2.heap.size w2 wr) (fun _ iv _ => l2.length - (intOf iv).toNat)
  case atStart => exact ⟨0, x.mots.l, x.mots.A, x.mots.c, Nat.zero_le _, rfl, rfl, HM2, HK.out, Below.refl _ _⟩
  case round =>
    obtain ⟨k, l, A, c, hk, rfl, rfl, HM, hl, hB⟩ := hrel
    by_cases hlt : k < l2.length
    · obtain ⟨v, hs⟩ : ∃ v, l2[k]? = some v := ⟨_, List.getElem?_eq_getElem hlt⟩
      obtain ⟨a, rfl, hab, hat⟩ := rows_row (row_kept (row_kept HR2.out HB2.out) hB) hs
      have hki : (k : Int) < (l2.length : Int) := by omega
      have hk60 : k < 60 := by have := HV.out; omega
      have hk0 : (0 : Int) ≤ (k : Int) := by omega
      have HL := Lib.hid hl
      have kv := fun (W : World) (hM : Mots W A c l) => vote_is l A c v.i v.mb v.yes W hM (by omega)
      obtain ⟨⟨L, y⟩, hr⟩ : ∃ r, pvote (l.map Mot.pure) v.i v.mb v.yes = r := ⟨_, rfl⟩
      rw [hr] at kv
      have KV := Lib.hid kv
      have HR := Lib.hid hr
      clear hs hab kv hr hl
      by_cases hy : y = 0
      · subst hy
        have kt := fun (b : Bool) (l3 : List Mot) (A3 : Option Addr) (c3 : Nat) (W : World) (hM : Mots W A3 c3 l3) (hp : l3.map Mot.pure = L) => (by
          have h3 : l3.length ≤ 100000 := by
            have e := pvote_len HR.out
            rw [← hp, List.length_map, List.length_map] at e
            have := HL.out
            omega
          have := vote_is l3 A3 c3 v.i v.mb b W hM h3
          rw [hp, pvote_again HR.out] at this
          exact this : Calls Try.prog 9 #[.slice A3 l3.length c3, .int .i64 v.i, .int .i64 v.mb, .bool b] W fun e w' => MotsOf W ([], 231) e w')
        have KT := Lib.hid kt
        clear kt
        go_wp2_with (first
          | ((with_reducible refine slot_is 50 rfl ?_); refine load_rec 24 _ rfl rfl _ (Rec.vals v) rfl hat Try.underlying24 size_wy ?_)
          | (refine store_rec 24 _ _ rfl rfl _ (Rec.vals v) (Rec.vals Wy.zero) 24 rfl rfl (wy_zero_new _) size_wy rfl (Rec.one v) ?_; intro w3 hS hb2 hsz hkp; clear hsz hkp; have hb2 := rec_made (Below.refl _ _) hb2; have hB := Below.then hB hb2; have HM := Lib.hid (HM.out.up hb2); clear hb2 hat)
          | (go_at_call 11; refine (KP.out l _ _ w3 HM.out (by have := HL.out; omega)).mono ?_; rintro e w4 ⟨A10, c10, rfl, hm10, hb⟩; have HM10 := Lib.hid hm10; have HM := Lib.hid (HM.out.up hb); have hS := hS.up hb; have hB := Below.then hB hb; clear hm10 hb; have v0 : w4.cell? ⟨_, 0, none⟩ = some (.int .i64 v.i) := hS.cell 0; have v1 : w4.cell? ⟨_, 1, none⟩ = some (.int .i64 v.mb) := hS.cell 1; have v3 : w4.cell? ⟨_, 3, none⟩ = some (.bool v.yes) := hS.cell 3)
          | (go_at_call 9; refine (KV.out w4 HM.out).mono ?_; rintro e w5 ⟨l11, A11, c11, rfl, hl11, hm11, hb⟩; clear v0 v1 v3 KV; have HM10 := Lib.hid (HM10.out.up hb); have HM := Lib.hid (HM.out.up hb); have hS := hS.up hb; have hB := Below.then hB hb; have HM11 := Lib.hid hm11; have HL11 := Lib.hid hl11; clear hm11 hl11 hb)
          | (go_at_call 11; refine (KP.out l _ _ w5 HM.out (by have := HL.out; omega)).mono ?_; rintro e w6 ⟨A65, c65, rfl, hm65, hb⟩; have HM65 := Lib.hid hm65; have HM10 := Lib.hid (HM10.out.up hb); have HM11 := Lib.hid (HM11.out.up hb); have hS := hS.up hb; have hB := Below.then hB hb; clear hm65 hb HM)
          | (go_at_call 12; refine (rsamelist_is l l _ _ _ _ w6 HM65.out HM10.out rfl (by have := HL.out; omega)).mono ?_; rintro e w7 ⟨rfl, hb⟩; have HM11 := Lib.hid (HM11.out.up hb); have hS := hS.up hb; have hB := Below.then hB hb; clear hb HM65 HM10))
        generalize hw8 : World.alloc _ _ = w8
        have hb := below_alloc_eq hw8
        have hbl := bools_two w7 _ w8 hw8
        have HM11 := Lib.hid (HM11.out.up hb)
        have hS := hS.up hb
        have hB := Below.then hB hb
        clear hw8 hb
        generalize ({ block := w7.heap.size, off := 0, spot := none } : Addr) = a7 at hbl ⊢
        have HBL := Lib.hid hbl
        clear hbl
        go_loopw [73] (fun iv wr => ∃ j : Nat, j ≤ 2 ∧ iv = .int .i64 (j : Int) ∧ Below w8.heap.size w8 wr) (fun iv _ => 2 - (intOf iv).toNat)
        case atStart => exact ⟨0, Nat.zero_le _, rfl, Below.refl _ _⟩
        case round =>
          obtain ⟨j, hj, rfl, hB9⟩ := hrel
          by_cases hlt2 : j < 2
          · obtain ⟨b, hbc⟩ := HBL.out _ hB9 j hlt2
            have hj2 : (j : Int) < 2 := by omega
            have hj0 : (0 : Int) ≤ (j : Int) := by omega
            have hS9 := hS.up hB9
            have HM9 := Lib.hid (HM11.out.up hB9)
            have v0 : wr.cell? ⟨_, 0, none⟩ = some (.int .i64 v.i) := hS9.cell 0
            have v1 : wr.cell? ⟨_, 1, none⟩ = some (.int .i64 v.mb) := hS9.cell 1
            clear hS9
            go_wp2_with (go_at_call 9; refine (KT.out b l11 _ _ _ HM9.out HL11.out).mono ?_; rintro e w10 ⟨l15, A15, c15, rfl, hl15, hm15, hb⟩; have hB10 := Below.then hB9 hb; clear hb hl15 hm15 v0 v1 hbc)
            go_roundw
            case rel => exact ⟨j + 1, by omega, by go_num, hB10⟩
            case measure => simp [intOf]; omega
          · obtain rfl : j = 2 := by omega
            have HM9 := Lib.hid (HM11.out.up hB9)
            have hB10 := Below.then hB hB9
            have hl11 : l11.length ≤ 60 := by
              have e := pvote_len HR.out
              rw [← HL11.out, List.length_map, List.length_map] at e
              have := HL.out
              omega
            clear hS HM11 HBL KT hB hB9
            go_wp2
            go_roundw
            case rel => exact ⟨k + 1, l11, A11, c11, by omega, rfl, by go_num, HM9, hl11, hB10⟩
            case measure => simp [intOf]; omega
      · have dy : decide ((y : Int) = 0) = false := decide_eq_false (by omega)
        have dz : decide (y = 0) = false := decide_eq_false hy
        have dw : ((y : Int) == 0) = false := by simp; exact hy
        go_wp2_with (first
          | ((with_reducible refine slot_is 50 rfl ?_); refine load_rec 24 _ rfl rfl _ (Rec.vals v) rfl hat Try.underlying24 size_wy ?_)
          | (refine store_rec 24 _ _ rfl rfl _ (Rec.vals v) (Rec.vals Wy.zero) 24 rfl rfl (wy_zero_new _) size_wy rfl (Rec.one v) ?_; intro w3 hS hb2 hsz hkp; clear hsz hkp; have hb2 := rec_made (Below.refl _ _) hb2; have hB := Below.then hB hb2; have HM := Lib.hid (HM.out.up hb2); clear hb2 hat)
          | (go_at_call 11; refine (KP.out l _ _ w3 HM.out (by have := HL.out; omega)).mono ?_; rintro e w4 ⟨A10, c10, rfl, hm10, hb⟩; have HM10 := Lib.hid hm10; have HM := Lib.hid (HM.out.up hb); have hS := hS.up hb; have hB := Below.then hB hb; clear hm10 hb; have v0 : w4.cell? ⟨_, 0, none⟩ = some (.int .i64 v.i) := hS.cell 0; have v1 : w4.cell? ⟨_, 1, none⟩ = some (.int .i64 v.mb) := hS.cell 1; have v3 : w4.cell? ⟨_, 3, none⟩ = some (.bool v.yes) := hS.cell 3)
          | (go_at_call 9; refine (KV.out w4 HM.out).mono ?_; rintro e w5 ⟨l11, A11, c11, rfl, hl11, hm11, hb⟩; clear v0 v1 v3 KV hS; have HM10 := Lib.hid (HM10.out.up hb); have HM := Lib.hid (HM.out.up hb); have hB := Below.then hB hb; clear hm11 hl11 hb)
          | (go_at_call 11; refine (KP.out l _ _ w5 HM.out (by have := HL.out; omega)).mono ?_; rintro e w6 ⟨A65, c65, rfl, hm65, hb⟩; have HM65 := Lib.hid hm65; have HM10 := Lib.hid (HM10.out.up hb); have HM := Lib.hid (HM.out.up hb); have hB := Below.then hB hb; clear hm65 hb)
          | (go_at_call 12; refine (rsamelist_is l l _ _ _ _ w6 HM65.out HM10.out rfl (by have := HL.out; omega)).mono ?_; rintro e w7 ⟨rfl, hb⟩; have HM := Lib.hid (HM.out.up hb); have hB := Below.then hB hb; clear hb HM65 HM10))
        go_roundw
        case rel => exact ⟨k + 1, l, A, c, by omega, rfl, by go_num, HM, HL.out, hB⟩
        case measure => simp [intOf]; omega
    · obtain rfl : k = l2.length := by omega
      have hP := HP2.out.up hB
      have hH := HH2.out.up hB
      have hB0 := Below.then HB2.out hB
      have HL := Lib.hid hl
      have h1 : wr.cell? ⟨w.heap.size + 1, 1, none⟩ = some (.slice x.mems.A x.mems.l.length x.mems.c) := hH.cell 1
      clear hlt hk HM2 HP2 HH2 HB2 HR2 HV hB
      go_wp2_with (first
        | ((with_reducible refine slot_is 92 rfl ?_); refine load_par _ rfl rfl _ p _ rfl hP ?_)
        | (go_at_call 20; refine (KC.out l A c wr HM.out hl hB0).mono ?_; clear KC; rintro e w3 ⟨l17, A17, c17, rfl, hl17, hn17, hm17, hb⟩; have HM3 := Lib.hid (HM.out.up hb); have HM17 := Lib.hid hm17; have HL17 := Lib.hid hl17; have HN17 := Lib.hid hn17; have hB0 := Below.then hB0 hb; clear hm17 hl17 hn17 hb hP hH h1 HM))
      clear hl
      go_loopw [104] (fun iv wr => ∃ k : Nat, k ≤ l.length ∧ iv = .int .i64 (k : Int) ∧ Below w3.heap.size w3 wr) (fun iv _ => l.length - (intOf iv).toNat)
      case atStart => exact ⟨0, Nat.zero_le _, rfl, Below.refl _ _⟩
      case round =>
        obtain ⟨k, hk, rfl, hB⟩ := hrel
        by_cases hlt : k < l.length
        · obtain ⟨m, hs⟩ : ∃ m, l[k]? = some m := ⟨_, List.getElem?_eq_getElem hlt⟩
          obtain ⟨n, hs17⟩ : ∃ n, l17[k]? = some n := ⟨_, List.getElem?_eq_getElem (by rw [HN17.out]; exact hlt)⟩
          obtain ⟨a, rfl, hab, hat, -⟩ := (HM3.out.up hB).at hs
          obtain ⟨a17, rfl, hab17, hat17, -⟩ := (HM17.out.up hB).at hs17
          have hki : (k : Int) < (l.length : Int) := by omega
          have hk60 : k < 60 := by have := HL.out; omega
          have hk0 : (0 : Int) ≤ (k : Int) := by omega
          have hnm : n.pure = m.pure.closed p.quorum p.enact x.mems.l 1073741824 := by
            have e := congrArg (fun L : List PMot => L[k]?) HL17.out
            simp only [List.getElem?_map, hs, hs17, Option.map_some, Option.some.injEq] at e
            exact e
          obtain ⟨hc1, hc2⟩ := closed_st p.quorum p.enact x.mems.l 1073741824 m.pure
          rw [← hnm] at hc1 hc2
          have hc1' : n.st = 1 → 1073741824 < n.ends := hc1
          have hc2' : m.st ≠ 1 → n.st = m.st := hc2
          clear hs hs17 hnm hc1 hc2
          by_cases hn : n.st = 1
          · have h1 : m.st = 1 := Decidable.byContradiction fun h => h ((hc2' h).symm.trans hn)
            have he := hc1' hn
            have d1 : decide (n.ends ≤ 1073741824) = false := decide_eq_false (by omega)
            clear hc1' hc2'
            go_upto_region 29 with (first
              | (refine load_rec 40 _ rfl rfl _ (Rec.vals n) rfl hat17 Try.underlying40 size_mot ?_)
              | (refine store_rec 40 _ _ rfl rfl _ (Rec.vals n) (Rec.vals Mot.zero) 40 rfl rfl (RecAt.new _ (Rec.vals Mot.zero) _) size_mot rfl (Rec.one n) ?_; intro w4 hS hb2 hsz hkp; clear hsz hkp; have hb2 := rec_made (Below.refl _ _) hb2; have hat := hat.up hb2; have hB := Below.then hB hb2; clear hb2 hat17))
            have X30 : ∀ w5, Below w4.heap.size w4 w5 → w5.cell? ⟨_, 30, none⟩ = some (.int .i64 1) := fun w5 hb => ((hS.up hb).cell 30).trans (by show some (Value.int .i64 n.st) = _; rw [hn])
            have X28 : ∀ w5, Below w4.heap.size w4 w5 → w5.cell? ⟨_, 28, none⟩ = some (.int .i64 n.ends) := fun w5 hb => (hS.up hb).cell 28
            have Z30 : ∀ w5, Below w4.heap.size w4 w5 → w5.cell? ⟨(a.add (k * 33)).block, (a.add (k * 33)).off + 30, none⟩ = some (.int .i64 1) := fun w5 hb => ((hat.up hb).fld 29 rfl).trans (by show some (Value.int .i64 m.st) = _; rw [h1])
            clear hS hat he h1 hn
            refine region_vary [] 26 (fun w' => Below w4.heap.size w4 w') (by kernel_rfl) (by kernel_rfl) (Below.refl _ _).drew ?_
            simp only [List.take_succ_cons, List.take_zero, List.drop_succ_cons, List.drop_zero]
            refine SeqV.take (fun _ => .pointer (some ⟨wr.heap.size, 30, none⟩)) (fun _ => by rfl) (by rfl) (fun _ _ _ => rfl) (fun val w1 hS hR => ?_) ?_; · (go_simp <;> first | with_reducible rfl | simp [*])
            simp only [Act.put, List.setIfInBounds_toArray, List.set_cons_zero, List.set_cons_succ]
            refine SeqV.take (fun _ => .int .i64 1) (fun _ => by rfl) (by rfl) (fun _ _ _ => rfl) (fun val w1 hS hR => ?_) ?_; · (have x := X30 w1 hS; go_simp <;> with_reducible rfl)
            simp only [Act.put, List.setIfInBounds_toArray, List.set_cons_zero, List.set_cons_succ]
            refine SeqV.take (fun _ => .bool true) (fun _ => by rfl) (by rfl) (fun _ _ _ => rfl) (fun val w1 hS hR => ?_) ?_; · (go_simp <;> first | with_reducible rfl | simp [*])
            simp only [Act.put, List.setIfInBounds_toArray, List.set_cons_zero, List.set_cons_succ]
            refine SeqV.take (fun _ => .bool true) (fun _ => by rfl) (by rfl) (fun _ _ _ => rfl) (fun val w1 hS hR => ?_) ?_; · (go_simp <;> first | with_reducible rfl | simp [*])
            simp only [Act.put, List.setIfInBounds_toArray, List.set_cons_zero, List.set_cons_succ]
            refine SeqV.take (fun _ => .pointer (some ⟨wr.heap.size, 28, none⟩)) (fun _ => by rfl) (by rfl) (fun _ _ _ => rfl) (fun val w1 hS hR => ?_) ?_; · (go_simp <;> first | with_reducible rfl | simp [*])
            simp only [Act.put, List.setIfInBounds_toArray, List.set_cons_zero, List.set_cons_succ]
            refine SeqV.take (fun _ => .int .i64 n.ends) (fun _ => by rfl) (by rfl) (fun _ _ _ => rfl) (fun val w1 hS hR => ?_) ?_; · (have x := X28 w1 hS; go_simp <;> with_reducible rfl)
            simp only [Act.put, List.setIfInBounds_toArray, List.set_cons_zero, List.set_cons_succ]
            refine SeqV.take (fun _ => .bool false) (fun _ => by rfl) (by rfl) (fun _ _ _ => rfl) (fun val w1 hS hR => ?_) ?_; · (go_simp <;> first | with_reducible rfl | simp [*])
            simp only [Act.put, List.setIfInBounds_toArray, List.set_cons_zero, List.set_cons_succ]
            refine SeqV.take (fun _ => .bool false) (fun _ => by rfl) (by rfl) (fun _ _ _ => rfl) (fun val w1 hS hR => ?_) ?_; · (go_simp <;> first | with_reducible rfl | simp [*])
            simp only [Act.put, List.setIfInBounds_toArray, List.set_cons_zero, List.set_cons_succ]
            refine SeqV.take (fun _ => .bool false) (fun _ => by rfl) (by rfl) (fun _ _ _ => rfl) (fun val w1 hS hR => ?_) ?_; · (go_simp <;> first | with_reducible rfl | simp [*])
            simp only [Act.put, List.setIfInBounds_toArray, List.set_cons_zero, List.set_cons_succ]
            refine SeqV.take (fun _ => .slice (some a) l.length c) (fun _ => by rfl) (by rfl) (fun _ _ _ => rfl) (fun val w1 hS hR => ?_) ?_; · (go_simp <;> first | with_reducible rfl | simp [*])
            simp only [Act.put, List.setIfInBounds_toArray, List.set_cons_zero, List.set_cons_succ]
            refine SeqV.take (fun _ => .int .i64 (k : Int)) (fun _ => by rfl) (by rfl) (fun _ _ _ => rfl) (fun val w1 hS hR => ?_) ?_; · (go_simp <;> first | with_reducible rfl | simp [*])
            simp only [Act.put, List.setIfInBounds_toArray, List.set_cons_zero, List.set_cons_succ]
            refine SeqV.take (fun _ => .pointer (some (a.add (k * 33)))) (fun _ => by rfl) (by rfl) (fun _ _ _ => rfl) (fun val w1 hS hR => ?_) ?_; · (go_simp <;> first | with_reducible rfl | simp [*])
            simp only [Act.put, List.setIfInBounds_toArray, List.set_cons_zero, List.set_cons_succ]
            refine SeqV.take (fun _ => .pointer (some ⟨(a.add (k * 33)).block, (a.add (k * 33)).off + 30, none⟩)) (fun _ => by rfl) (by rfl) (fun _ _ _ => rfl) (fun val w1 hS hR => ?_) ?_; · (go_simp <;> first | with_reducible rfl | simp [*])
            simp only [Act.put, List.setIfInBounds_toArray, List.set_cons_zero, List.set_cons_succ]
            refine SeqV.take (fun _ => .int .i64 1) (fun _ => by rfl) (by rfl) (fun _ _ _ => rfl) (fun val w1 hS hR => ?_) ?_; · (have x := Z30 w1 hS; go_simp <;> with_reducible rfl)
            simp only [Act.put, List.setIfInBounds_toArray, List.set_cons_zero, List.set_cons_succ]
            refine SeqV.take (fun _ => .bool false) (fun _ => by rfl) (by rfl) (fun _ _ _ => rfl) (fun val w1 hS hR => ?_) ?_; · (go_simp <;> first | with_reducible rfl | simp [*])
            simp only [Act.put, List.setIfInBounds_toArray, List.set_cons_zero, List.set_cons_succ]
            refine SeqV.take (fun _ => .bool false) (fun _ => by rfl) (by rfl) (fun _ _ _ => rfl) (fun val w1 hS hR => ?_) ?_; · (go_simp <;> first | with_reducible rfl | simp [*])
            simp only [Act.put, List.setIfInBounds_toArray, List.set_cons_zero, List.set_cons_succ]
            refine SeqV.skip (fun _ => by rfl) (by rfl) ?_
            simp only [Act.put, List.setIfInBounds_toArray, List.set_cons_zero, List.set_cons_succ]
            refine SeqV.skip (fun _ => by rfl) (by rfl) ?_
            simp only [Act.put, List.setIfInBounds_toArray, List.set_cons_zero, List.set_cons_succ]
            refine SeqV.skip (fun _ => by rfl) (by rfl) ?_
            simp only [Act.put, List.setIfInBounds_toArray, List.set_cons_zero, List.set_cons_succ]
            refine SeqV.skip (fun _ => by rfl) (by rfl) ?_
            simp only [Act.put, List.setIfInBounds_toArray, List.set_cons_zero, List.set_cons_succ]
            refine SeqV.skip (fun _ => by rfl) (by rfl) ?_
            simp only [Act.put, List.setIfInBounds_toArray, List.set_cons_zero, List.set_cons_succ]
            refine SeqV.skip (fun _ => by rfl) (by rfl) ?_
            simp only [Act.put, List.setIfInBounds_toArray, List.set_cons_zero, List.set_cons_succ]
            refine SeqV.skip (fun _ => by rfl) (by rfl) ?_
            simp only [Act.put, List.setIfInBounds_toArray, List.set_cons_zero, List.set_cons_succ]
            refine SeqV.skip (fun _ => by rfl) (by rfl) ?_
            simp only [Act.put, List.setIfInBounds_toArray, List.set_cons_zero, List.set_cons_succ]
            refine SeqV.take (fun _ => .bool false) (fun _ => by rfl) (by rfl) (fun _ _ _ => rfl) (fun val w1 hS hR => ?_) ?_; · (go_simp <;> first | with_reducible rfl | simp [*])
            simp only [Act.put, List.setIfInBounds_toArray, List.set_cons_zero, List.set_cons_succ]
            refine SeqV.take (fun _ => .bool false) (fun _ => by rfl) (by rfl) (fun _ _ _ => rfl) (fun val w1 hS hR => ?_) ?_; · (go_simp <;> first | with_reducible rfl | simp [*])
            simp only [Act.put, List.setIfInBounds_toArray, List.set_cons_zero, List.set_cons_succ]
            intro val w5 hS5 hR5 hD5
            have hB := Below.then hB hS5
            clear hR5 hD5 hS5 X30 Z30 X28
            refine wpList_nil ?_
            go_wp2
            go_roundw
            case rel => exact ⟨k + 1, by omega, by go_num, hB⟩
            case measure => simp [intOf]; omega
          · have dn : decide (n.st = 1) = false := decide_eq_false hn
            by_cases h1 : m.st = 1
            · clear hc1' hc2'
              go_upto_region 29 with (first
                | (refine load_rec 40 _ rfl rfl _ (Rec.vals n) rfl hat17 Try.underlying40 size_mot ?_)
                | (refine store_rec 40 _ _ rfl rfl _ (Rec.vals n) (Rec.vals Mot.zero) 40 rfl rfl (RecAt.new _ (Rec.vals Mot.zero) _) size_mot rfl (Rec.one n) ?_; intro w4 hS hb2 hsz hkp; clear hsz hkp; have hb2 := rec_made (Below.refl _ _) hb2; have hat := hat.up hb2; have hB := Below.then hB hb2; clear hb2 hat17))
              have X30 : ∀ w5, Below w4.heap.size w4 w5 → w5.cell? ⟨_, 30, none⟩ = some (.int .i64 n.st) := fun w5 hb => (hS.up hb).cell 30
              have Z30 : ∀ w5, Below w4.heap.size w4 w5 → w5.cell? ⟨(a.add (k * 33)).block, (a.add (k * 33)).off + 30, none⟩ = some (.int .i64 1) := fun w5 hb => ((hat.up hb).fld 29 rfl).trans (by show some (Value.int .i64 m.st) = _; rw [h1])
              clear hS hat h1
              refine region_vary [] 26 (fun w' => Below w4.heap.size w4 w') (by kernel_rfl) (by kernel_rfl) (Below.refl _ _).drew ?_
              simp only [List.take_succ_cons, List.take_zero, List.drop_succ_cons, List.drop_zero]
              refine SeqV.take (fun _ => .pointer (some ⟨wr.heap.size, 30, none⟩)) (fun _ => by rfl) (by rfl) (fun _ _ _ => rfl) (fun val w1 hS hR => ?_) ?_; · (go_simp <;> first | with_reducible rfl | simp [*])
              simp only [Act.put, List.setIfInBounds_toArray, List.set_cons_zero, List.set_cons_succ]
              refine SeqV.take (fun _ => .int .i64 n.st) (fun _ => by rfl) (by rfl) (fun _ _ _ => rfl) (fun val w1 hS hR => ?_) ?_; · (have x := X30 w1 hS; go_simp <;> with_reducible rfl)
              simp only [Act.put, List.setIfInBounds_toArray, List.set_cons_zero, List.set_cons_succ]
              refine SeqV.take (fun _ => .bool false) (fun _ => by rfl) (by rfl) (fun _ _ _ => rfl) (fun val w1 hS hR => ?_) ?_; · (go_simp <;> first | with_reducible rfl | simp [*])
              simp only [Act.put, List.setIfInBounds_toArray, List.set_cons_zero, List.set_cons_succ]
              refine SeqV.take (fun _ => .bool false) (fun _ => by rfl) (by rfl) (fun _ _ _ => rfl) (fun val w1 hS hR => ?_) ?_; · (go_simp <;> first | with_reducible rfl | simp [*])
              simp only [Act.put, List.setIfInBounds_toArray, List.set_cons_zero, List.set_cons_succ]
              refine SeqV.skip (fun _ => by rfl) (by rfl) ?_
              simp only [Act.put, List.setIfInBounds_toArray, List.set_cons_zero, List.set_cons_succ]
              refine SeqV.skip (fun _ => by rfl) (by rfl) ?_
              simp only [Act.put, List.setIfInBounds_toArray, List.set_cons_zero, List.set_cons_succ]
              refine SeqV.skip (fun _ => by rfl) (by rfl) ?_
              simp only [Act.put, List.setIfInBounds_toArray, List.set_cons_zero, List.set_cons_succ]
              refine SeqV.take (fun _ => .bool false) (fun _ => by rfl) (by rfl) (fun _ _ _ => rfl) (fun val w1 hS hR => ?_) ?_; · (go_simp <;> first | with_reducible rfl | simp [*])
              simp only [Act.put, List.setIfInBounds_toArray, List.set_cons_zero, List.set_cons_succ]
              refine SeqV.take (fun _ => .bool false) (fun _ => by rfl) (by rfl) (fun _ _ _ => rfl) (fun val w1 hS hR => ?_) ?_; · (go_simp <;> first | with_reducible rfl | simp [*])
              simp only [Act.put, List.setIfInBounds_toArray, List.set_cons_zero, List.set_cons_succ]
              refine SeqV.take (fun _ => .slice (some a) l.length c) (fun _ => by rfl) (by rfl) (fun _ _ _ => rfl) (fun val w1 hS hR => ?_) ?_; · (go_simp <;> first | with_reducible rfl | simp [*])
              simp only [Act.put, List.setIfInBounds_toArray, List.set_cons_zero, List.set_cons_succ]
              refine SeqV.take (fun _ => .int .i64 (k : Int)) (fun _ => by rfl) (by rfl) (fun _ _ _ => rfl) (fun val w1 hS hR => ?_) ?_; · (go_simp <;> first | with_reducible rfl | simp [*])
              simp only [Act.put, List.setIfInBounds_toArray, List.set_cons_zero, List.set_cons_succ]
              refine SeqV.take (fun _ => .pointer (some (a.add (k * 33)))) (fun _ => by rfl) (by rfl) (fun _ _ _ => rfl) (fun val w1 hS hR => ?_) ?_; · (go_simp <;> first | with_reducible rfl | simp [*])
              simp only [Act.put, List.setIfInBounds_toArray, List.set_cons_zero, List.set_cons_succ]
              refine SeqV.take (fun _ => .pointer (some ⟨(a.add (k * 33)).block, (a.add (k * 33)).off + 30, none⟩)) (fun _ => by rfl) (by rfl) (fun _ _ _ => rfl) (fun val w1 hS hR => ?_) ?_; · (go_simp <;> first | with_reducible rfl | simp [*])
              simp only [Act.put, List.setIfInBounds_toArray, List.set_cons_zero, List.set_cons_succ]
              refine SeqV.take (fun _ => .int .i64 1) (fun _ => by rfl) (by rfl) (fun _ _ _ => rfl) (fun val w1 hS hR => ?_) ?_; · (have x := Z30 w1 hS; go_simp <;> with_reducible rfl)
              simp only [Act.put, List.setIfInBounds_toArray, List.set_cons_zero, List.set_cons_succ]
              refine SeqV.take (fun _ => .bool false) (fun _ => by rfl) (by rfl) (fun _ _ _ => rfl) (fun val w1 hS hR => ?_) ?_; · (go_simp <;> first | with_reducible rfl | simp [*])
              simp only [Act.put, List.setIfInBounds_toArray, List.set_cons_zero, List.set_cons_succ]
              refine SeqV.take (fun _ => .bool false) (fun _ => by rfl) (by rfl) (fun _ _ _ => rfl) (fun val w1 hS hR => ?_) ?_; · (go_simp <;> first | with_reducible rfl | simp [*])
              simp only [Act.put, List.setIfInBounds_toArray, List.set_cons_zero, List.set_cons_succ]
              refine SeqV.skip (fun _ => by rfl) (by rfl) ?_
              simp only [Act.put, List.setIfInBounds_toArray, List.set_cons_zero, List.set_cons_succ]
              refine SeqV.skip (fun _ => by rfl) (by rfl) ?_
              simp only [Act.put, List.setIfInBounds_toArray, List.set_cons_zero, List.set_cons_succ]
              refine SeqV.skip (fun _ => by rfl) (by rfl) ?_
              simp only [Act.put, List.setIfInBounds_toArray, List.set_cons_zero, List.set_cons_succ]
              refine SeqV.skip (fun _ => by rfl) (by rfl) ?_
              simp only [Act.put, List.setIfInBounds_toArray, List.set_cons_zero, List.set_cons_succ]
              refine SeqV.skip (fun _ => by rfl) (by rfl) ?_
              simp only [Act.put, List.setIfInBounds_toArray, List.set_cons_zero, List.set_cons_succ]
              refine SeqV.skip (fun _ => by rfl) (by rfl) ?_
              simp only [Act.put, List.setIfInBounds_toArray, List.set_cons_zero, List.set_cons_succ]
              refine SeqV.skip (fun _ => by rfl) (by rfl) ?_
              simp only [Act.put, List.setIfInBounds_toArray, List.set_cons_zero, List.set_cons_succ]
              refine SeqV.skip (fun _ => by rfl) (by rfl) ?_
              simp only [Act.put, List.setIfInBounds_toArray, List.set_cons_zero, List.set_cons_succ]
              refine SeqV.take (fun _ => .bool false) (fun _ => by rfl) (by rfl) (fun _ _ _ => rfl) (fun val w1 hS hR => ?_) ?_; · (go_simp <;> first | with_reducible rfl | simp [*])
              simp only [Act.put, List.setIfInBounds_toArray, List.set_cons_zero, List.set_cons_succ]
              refine SeqV.take (fun _ => .bool false) (fun _ => by rfl) (by rfl) (fun _ _ _ => rfl) (fun val w1 hS hR => ?_) ?_; · (go_simp <;> first | with_reducible rfl | simp [*])
              simp only [Act.put, List.setIfInBounds_toArray, List.set_cons_zero, List.set_cons_succ]
              intro val w5 hS5 hR5 hD5
              have hB := Below.then hB hS5
              clear hR5 hD5 hS5 X30 Z30
              refine wpList_nil ?_
              go_wp2
              go_roundw
              case rel => exact ⟨k + 1, by omega, by go_num, hB⟩
              case measure => simp [intOf]; omega
            · have hnm := hc2' h1
              clear hc1' hc2'
              go_upto_region 29 with (first
                | (refine load_rec 40 _ rfl rfl _ (Rec.vals n) rfl hat17 Try.underlying40 size_mot ?_)
                | (refine store_rec 40 _ _ rfl rfl _ (Rec.vals n) (Rec.vals Mot.zero) 40 rfl rfl (RecAt.new _ (Rec.vals Mot.zero) _) size_mot rfl (Rec.one n) ?_; intro w4 hS hb2 hsz hkp; clear hsz hkp; have hb2 := rec_made (Below.refl _ _) hb2; have hat := hat.up hb2; have hB := Below.then hB hb2; clear hb2 hat17))
              have X30 : ∀ w5, Below w4.heap.size w4 w5 → w5.cell? ⟨_, 30, none⟩ = some (.int .i64 n.st) := fun w5 hb => (hS.up hb).cell 30
              have Z30 : ∀ w5, Below w4.heap.size w4 w5 → w5.cell? ⟨(a.add (k * 33)).block, (a.add (k * 33)).off + 30, none⟩ = some (.int .i64 n.st) := fun w5 hb => ((hat.up hb).fld 29 rfl).trans (by show some (Value.int .i64 m.st) = _; rw [hnm])
              clear hS hat h1 hnm
              refine region_vary [] 26 (fun w' => Below w4.heap.size w4 w') (by kernel_rfl) (by kernel_rfl) (Below.refl _ _).drew ?_
              simp only [List.take_succ_cons, List.take_zero, List.drop_succ_cons, List.drop_zero]
              refine SeqV.take (fun _ => .pointer (some ⟨wr.heap.size, 30, none⟩)) (fun _ => by rfl) (by rfl) (fun _ _ _ => rfl) (fun val w1 hS hR => ?_) ?_; · (go_simp <;> first | with_reducible rfl | simp [*])
              simp only [Act.put, List.setIfInBounds_toArray, List.set_cons_zero, List.set_cons_succ]
              refine SeqV.take (fun _ => .int .i64 n.st) (fun _ => by rfl) (by rfl) (fun _ _ _ => rfl) (fun val w1 hS hR => ?_) ?_; · (have x := X30 w1 hS; go_simp <;> with_reducible rfl)
              simp only [Act.put, List.setIfInBounds_toArray, List.set_cons_zero, List.set_cons_succ]
              refine SeqV.take (fun _ => .bool false) (fun _ => by rfl) (by rfl) (fun _ _ _ => rfl) (fun val w1 hS hR => ?_) ?_; · (go_simp <;> first | with_reducible rfl | simp [*])
              simp only [Act.put, List.setIfInBounds_toArray, List.set_cons_zero, List.set_cons_succ]
              refine SeqV.take (fun _ => .bool false) (fun _ => by rfl) (by rfl) (fun _ _ _ => rfl) (fun val w1 hS hR => ?_) ?_; · (go_simp <;> first | with_reducible rfl | simp [*])
              simp only [Act.put, List.setIfInBounds_toArray, List.set_cons_zero, List.set_cons_succ]
              refine SeqV.skip (fun _ => by rfl) (by rfl) ?_
              simp only [Act.put, List.setIfInBounds_toArray, List.set_cons_zero, List.set_cons_succ]
              refine SeqV.skip (fun _ => by rfl) (by rfl) ?_
              simp only [Act.put, List.setIfInBounds_toArray, List.set_cons_zero, List.set_cons_succ]
              refine SeqV.skip (fun _ => by rfl) (by rfl) ?_
              simp only [Act.put, List.setIfInBounds_toArray, List.set_cons_zero, List.set_cons_succ]
              refine SeqV.take (fun _ => .bool false) (fun _ => by rfl) (by rfl) (fun _ _ _ => rfl) (fun val w1 hS hR => ?_) ?_; · (go_simp <;> first | with_reducible rfl | simp [*])
              simp only [Act.put, List.setIfInBounds_toArray, List.set_cons_zero, List.set_cons_succ]
              refine SeqV.take (fun _ => .bool false) (fun _ => by rfl) (by rfl) (fun _ _ _ => rfl) (fun val w1 hS hR => ?_) ?_; · (go_simp <;> first | with_reducible rfl | simp [*])
              simp only [Act.put, List.setIfInBounds_toArray, List.set_cons_zero, List.set_cons_succ]
              refine SeqV.take (fun _ => .slice (some a) l.length c) (fun _ => by rfl) (by rfl) (fun _ _ _ => rfl) (fun val w1 hS hR => ?_) ?_; · (go_simp <;> first | with_reducible rfl | simp [*])
              simp only [Act.put, List.setIfInBounds_toArray, List.set_cons_zero, List.set_cons_succ]
              refine SeqV.take (fun _ => .int .i64 (k : Int)) (fun _ => by rfl) (by rfl) (fun _ _ _ => rfl) (fun val w1 hS hR => ?_) ?_; · (go_simp <;> first | with_reducible rfl | simp [*])
              simp only [Act.put, List.setIfInBounds_toArray, List.set_cons_zero, List.set_cons_succ]
              refine SeqV.take (fun _ => .pointer (some (a.add (k * 33)))) (fun _ => by rfl) (by rfl) (fun _ _ _ => rfl) (fun val w1 hS hR => ?_) ?_; · (go_simp <;> first | with_reducible rfl | simp [*])
              simp only [Act.put, List.setIfInBounds_toArray, List.set_cons_zero, List.set_cons_succ]
              refine SeqV.take (fun _ => .pointer (some ⟨(a.add (k * 33)).block, (a.add (k * 33)).off + 30, none⟩)) (fun _ => by rfl) (by rfl) (fun _ _ _ => rfl) (fun val w1 hS hR => ?_) ?_; · (go_simp <;> first | with_reducible rfl | simp [*])
              simp only [Act.put, List.setIfInBounds_toArray, List.set_cons_zero, List.set_cons_succ]
              refine SeqV.take (fun _ => .int .i64 n.st) (fun _ => by rfl) (by rfl) (fun _ _ _ => rfl) (fun val w1 hS hR => ?_) ?_; · (have x := Z30 w1 hS; go_simp <;> with_reducible rfl)
              simp only [Act.put, List.setIfInBounds_toArray, List.set_cons_zero, List.set_cons_succ]
              refine SeqV.take (fun _ => .bool true) (fun _ => by rfl) (by rfl) (fun _ _ _ => rfl) (fun val w1 hS hR => ?_) ?_; · (go_simp <;> first | with_reducible rfl | simp [*])
              simp only [Act.put, List.setIfInBounds_toArray, List.set_cons_zero, List.set_cons_succ]
              refine SeqV.take (fun _ => .bool true) (fun _ => by rfl) (by rfl) (fun _ _ _ => rfl) (fun val w1 hS hR => ?_) ?_; · (go_simp <;> first | with_reducible rfl | simp [*])
              simp only [Act.put, List.setIfInBounds_toArray, List.set_cons_zero, List.set_cons_succ]
              refine SeqV.take (fun _ => .pointer (some ⟨wr.heap.size, 30, none⟩)) (fun _ => by rfl) (by rfl) (fun _ _ _ => rfl) (fun val w1 hS hR => ?_) ?_; · (go_simp <;> first | with_reducible rfl | simp [*])
              simp only [Act.put, List.setIfInBounds_toArray, List.set_cons_zero, List.set_cons_succ]
              refine SeqV.take (fun _ => .int .i64 n.st) (fun _ => by rfl) (by rfl) (fun _ _ _ => rfl) (fun val w1 hS hR => ?_) ?_; · (have x := X30 w1 hS; go_simp <;> with_reducible rfl)
              simp only [Act.put, List.setIfInBounds_toArray, List.set_cons_zero, List.set_cons_succ]
              refine SeqV.take (fun _ => .slice (some a) l.length c) (fun _ => by rfl) (by rfl) (fun _ _ _ => rfl) (fun val w1 hS hR => ?_) ?_; · (go_simp <;> first | with_reducible rfl | simp [*])
              simp only [Act.put, List.setIfInBounds_toArray, List.set_cons_zero, List.set_cons_succ]
              refine SeqV.take (fun _ => .int .i64 (k : Int)) (fun _ => by rfl) (by rfl) (fun _ _ _ => rfl) (fun val w1 hS hR => ?_) ?_; · (go_simp <;> first | with_reducible rfl | simp [*])
              simp only [Act.put, List.setIfInBounds_toArray, List.set_cons_zero, List.set_cons_succ]
              refine SeqV.take (fun _ => .pointer (some (a.add (k * 33)))) (fun _ => by rfl) (by rfl) (fun _ _ _ => rfl) (fun val w1 hS hR => ?_) ?_; · (go_simp <;> first | with_reducible rfl | simp [*])
              simp only [Act.put, List.setIfInBounds_toArray, List.set_cons_zero, List.set_cons_succ]
              refine SeqV.take (fun _ => .pointer (some ⟨(a.add (k * 33)).block, (a.add (k * 33)).off + 30, none⟩)) (fun _ => by rfl) (by rfl) (fun _ _ _ => rfl) (fun val w1 hS hR => ?_) ?_; · (go_simp <;> first | with_reducible rfl | simp [*])
              simp only [Act.put, List.setIfInBounds_toArray, List.set_cons_zero, List.set_cons_succ]
              refine SeqV.take (fun _ => .int .i64 n.st) (fun _ => by rfl) (by rfl) (fun _ _ _ => rfl) (fun val w1 hS hR => ?_) ?_; · (have x := Z30 w1 hS; go_simp <;> with_reducible rfl)
              simp only [Act.put, List.setIfInBounds_toArray, List.set_cons_zero, List.set_cons_succ]
              refine SeqV.take (fun _ => .bool false) (fun _ => by rfl) (by rfl) (fun _ _ _ => rfl) (fun val w1 hS hR => ?_) ?_; · (go_simp <;> first | with_reducible rfl | simp [*])
              simp only [Act.put, List.setIfInBounds_toArray, List.set_cons_zero, List.set_cons_succ]
              refine SeqV.take (fun _ => .bool false) (fun _ => by rfl) (by rfl) (fun _ _ _ => rfl) (fun val w1 hS hR => ?_) ?_; · (go_simp <;> first | with_reducible rfl | simp [*])
              simp only [Act.put, List.setIfInBounds_toArray, List.set_cons_zero, List.set_cons_succ]
              refine SeqV.take (fun _ => .bool false) (fun _ => by rfl) (by rfl) (fun _ _ _ => rfl) (fun val w1 hS hR => ?_) ?_; · (go_simp <;> first | with_reducible rfl | simp [*])
              simp only [Act.put, List.setIfInBounds_toArray, List.set_cons_zero, List.set_cons_succ]
              intro val w5 hS5 hR5 hD5
              have hB := Below.then hB hS5
              clear hR5 hD5 hS5 X30 Z30
              refine wpList_nil ?_
              go_wp2
              go_roundw
              case rel => exact ⟨k + 1, by omega, by go_num, hB⟩
              case measure => simp [intOf]; omega
        · obtain rfl : k = l.length := by omega
          have kr := fun (l' : List Mot) (A' : Option Addr) (c' : Nat) (n : Nat) (R : List Int) (W : World) (hM : Mots W A' c' l') (hn : l'.length = n) (hl : n ≤ 60) (hR : ripes (l'.map Mot.pure) 2147483648 true n = R) => (by
            have := ripe_is l' A' c' 2147483648 true W hM (by omega)
            rw [hn, hR] at this
            exact this : Calls Try.prog 26 #[.slice A' n c', .int .i64 2147483648, .bool true] W fun e w' => ∃ A2 c2, e = .returned (.slice A2 R.length c2) ∧ Row w' w'.heap.size A2 (zvals R) ∧ Below W.heap.size W w')
          obtain ⟨R, hR⟩ : ∃ R, ripes (l17.map Mot.pure) 2147483648 true l.length = R := ⟨_, rfl⟩
          have KR := Lib.hid kr
          have HR := Lib.hid hR
          have HM4 := Lib.hid (HM17.out.up hB)
          have hB0 := Below.then hB0 hB
          have HRL : Hid (R.length ≤ 60) := Lib.hid (by rw [← hR]; exact Nat.le_trans (ripes_len _ _ _ _) HL.out)
          clear kr hR hlt hk HM3 HM17 hB
          go_wp2_with (go_at_call 26; refine (KR.out l17 A17 c17 l.length R wr HM4.out HN17.out HL.out HR.out).mono ?_; rintro e w5 ⟨AR, cR, rfl, hrow, hb⟩; have HROW := Lib.hid hrow; have HM5 := Lib.hid (HM4.out.up hb); have hB0 := Below.then hB0 hb; clear hrow hb HM4)
          go_loopw [139] (fun iv wr => ∃ j : Nat, j ≤ R.length ∧ iv = .int .i64 (j : Int) ∧ Below w5.heap.size w5 wr) (fun iv _ => R.length - (intOf iv).toNat)
          case atStart => exact ⟨0, Nat.zero_le _, rfl, Below.refl _ _⟩
          case round =>
            obtain ⟨j, hj, rfl, hB⟩ := hrel
            by_cases hlt : j < R.length
            · obtain ⟨aR, rfl, hab, hc⟩ := (row_kept HROW.out hB).get (k := j) (by rw [zvals_len]; exact hlt)
              have hcb : (zvals R)[j]'(by rw [zvals_len]; exact hlt) = .int .i64 (R[j]) := by simp [zvals]
              rw [hcb] at hc
              obtain ⟨q, m, hq, hql, hm, hrp⟩ := ripes_mem (L := l17.map Mot.pure) (by rw [HR.out]; exact List.getElem_mem hlt : R[j] ∈ ripes (l17.map Mot.pure) 2147483648 true l.length)
              rw [hq] at hc
              have hj2 : (j : Int) < (R.length : Int) := by omega
              have hj60 : j < 60 := by have := HRL.out; omega
              have hj0 : (0 : Int) ≤ (j : Int) := by omega
              have kf := fun (W : World) (hM : Mots W A17 c17 l17) => ((by
                have := finish_is l17 A17 c17 (q : Int) true W hM (by have := HN17.out; have := HL.out; omega)
                rw [pfinish_ok true hm (ripe_st hrp), HN17.out] at this
                exact this : Calls Try.prog 23 #[.slice A17 l.length c17, .int .i64 (q : Int), .bool true] W fun e w' => MotsOf W ((l17.map Mot.pure).set q (m.finished true), 0) e w')).mono (R' := fun e w' => ∃ (l' : List Mot) (A' : Option Addr) (c' : Nat), e = .returned (.tuple #[.slice A' l.length c', .int .i64 0]) ∧ l'.map Mot.pure = (l17.map Mot.pure).set q (m.finished true) ∧ l'.length = l.length ∧ Mots w' A' c' l' ∧ Below W.heap.size W w') (fun e w' ⟨l', A', c', e1, e2, e3, e4⟩ => by
                  have e5 : l'.length = l.length := by have := congrArg List.length e2; simp at this; rw [this]; exact HN17.out
                  exact ⟨l', A', c', by rw [e1, e5]; rfl, e2, e5, e3, e4⟩)
              have hne : ∀ (l' : List Mot) (n : Nat) (z : Int), l'.map Mot.pure = (l17.map Mot.pure).set q (m.finished true) → z ∈ ripes (l'.map Mot.pure) 2147483648 true n → z ≠ (q : Int) := fun l' n z e hz => by
                rw [e] at hz
                exact ripes_done hm hz
              have KF := Lib.hid kf
              have HNE := Lib.hid hne
              have HM6 := Lib.hid (HM5.out.up hB)
              clear kf hne hq hql hm hrp hcb hab
              go_wp2_with (first
                | (go_at_call 23; refine (KF.out _ HM6.out).mono ?_; clear KF; rintro e w7 ⟨l22, A22, c22, rfl, hl22, hn22, hm22, hb⟩; have HM22 := Lib.hid hm22; have HN22 := Lib.hid hn22; have HL22 := Lib.hid hl22; have hB := Below.then hB hb; clear hb hm22 hn22 hl22 hc HM6)
                | (go_at_call 26; refine (KR.out l22 A22 c22 l.length _ w7 HM22.out HN22.out HL.out rfl).mono ?_; rintro e w8 ⟨A2, c2, rfl, hrow2, hb⟩; have HROW2 := Lib.hid hrow2; have hB := Below.then hB hb; clear hb hrow2 HM22))
              have hz60 : (ripes (l22.map Mot.pure) 2147483648 true l.length).length ≤ 60 := Nat.le_trans (ripes_len _ _ _ _) HL.out
              have hz := fun z => HNE.out l22 l.length z HL22.out
              generalize ripes (l22.map Mot.pure) 2147483648 true l.length = R2 at hz hz60 HROW2 ⊢
              have HZ := Lib.hid hz
              clear hz HNE HL22 HN22
              go_loopw [161] (fun iv wr => ∃ i : Nat, i ≤ R2.length ∧ iv = .int .i64 (i : Int) ∧ Below w8.heap.size w8 wr) (fun iv _ => R2.length - (intOf iv).toNat)
              case atStart => exact ⟨0, Nat.zero_le _, rfl, Below.refl _ _⟩
              case round =>
                obtain ⟨i, hi, rfl, hB9⟩ := hrel
                by_cases hlt2 : i < R2.length
                · obtain ⟨a2, rfl, hab2, hc2⟩ := (row_kept HROW2.out hB9).get (k := i) (by rw [zvals_len]; exact hlt2)
                  have hcb2 : (zvals R2)[i]'(by rw [zvals_len]; exact hlt2) = .int .i64 (R2[i]) := by simp [zvals]
                  rw [hcb2] at hc2
                  have hne := HZ.out R2[i] (List.getElem_mem hlt2)
                  generalize R2[i] = z at hc2 hne
                  have e1 : decide (z = (q : Int)) = false := decide_eq_false hne
                  have e2 : (z == (q : Int)) = false := by simpa using hne
                  have hi2 : (i : Int) < (R2.length : Int) := by omega
                  have hi0 : (0 : Int) ≤ (i : Int) := by omega
                  clear hcb2 hab2
                  go_wp2
                  go_roundw
                  case rel => exact ⟨i + 1, by omega, by go_num, hB9⟩
                  case measure => simp [intOf]; omega
                · obtain rfl : i = R2.length := by omega
                  have hB := Below.then hB hB9
                  clear hB9 HZ HROW2
                  go_wp2
                  go_roundw
                  case rel => exact ⟨j + 1, by omega, by go_num, hB⟩
                  case measure => simp [intOf]; omega
            · obtain rfl : j = R.length := by omega
              have hB0 := Below.then hB0 hB
              clear hB
              go_wp2
              go_ret
              exact ⟨by first | rfl | simp, hB0⟩

theorem walk (p : Par) (x : Hl) (l2 : List Wy) (A2 : Option Addr) (c2 : Nat) (w : World) (hp : p.Fits) (hm : HallAt w x) (hr : Row w w.heap.size A2 (rows l2)) (_ : ∀ s ∈ l2, True) (_ : l2.length ≤ c2) (_ : c2 ≤ maxLen) (_ : A2 = none → c2 = 0) :
    Calls Try.prog 6 #[.agg p.vals, .agg (Rec.vals x), .slice A2 l2.length c2] w fun e w' => e = .returned (.bool true) ∧ Below w.heap.size w w' := by
  by_cases h : shorts x.mots.l ∧ x.mots.l.length ≤ 60
  · by_cases h1 : 100 < x.mems.l.length
    · exact walk_many p x l2 A2 c2 w hm h.1 h.2 h1
    · by_cases h2 : 60 < l2.length
      · exact walk_long p x l2 A2 c2 w hm h.1 h.2 ⟨h1, h2⟩
      · exact walk_held p x l2 A2 c2 w hm h.1 h.2 (by omega) (by omega) hr hp
  · exact walk_wide p x l2 A2 c2 w hm h


theorem own : ownKnob Try.prog.godebug = none := by kernel_rfl
theorem laidOut : laidOutB Try.prog = true := by kernel_rfl

set_option maxRecDepth 100000 in
theorem lifted (os : Os) (started : os.Started) (H : Type) (enc : TypeId × Value → H) :
    ReturnsInHanded {} Try.checked os 6 .any (Rows.mootOnceSpec.pre6 enc Try.prog Try.f6 Rows.mootOnceRow.domain false) (Rows.mootOnceSpec.post enc Try.prog Try.f6 false true false false) := by
  refine returnsInHanded_of_change_sized (C := Try.checked) own started (by kernel_rfl) Try.func6
    (ChangeSpec.witness6 (enc := enc) (C := Try.checked) false ⟨#[], #[.agg #[.int .u64 0, .int .u64 0, .int .u64 0, .int .u64 0, .int .u64 0, .int .u64 0, .int .u64 0, .int .u64 0, .int .u64 0, .int .u64 0, .int .u64 0, .int .u64 0, .int .u64 0, .int .u64 0, .int .i64 0, .int .i64 0, .int .i64 0, .int .i64 0, .int .i64 0, .int .i64 0, .int .i64 0, .int .i64 0, .int .i64 0, .int .i64 0], .agg #[.slice none 0 0, .slice none 0 0], .slice none 0 0], []⟩ 8 (by kernel_rfl) (by kernel_rfl) (by kernel_rfl) (by kernel_rfl)) ?_
  intro W base args ds gs before hval0 hW hcnd hsz0 _
  have hval : ∀ (j : Nat) t v, Try.f6.params[j]? = some t → args[j]? = some v → Value.okWide Try.prog W .any base t v := hval0
  have hW' := hW
  obtain ⟨p, q, hA0, hV, rfl, hfz, hnd⟩ := hW
  have hlt : ∀ x ∈ p ++ q, x.block < W.heap.size := fun x hx => hW'.lt x hx
  have hA : DataW.TrodAll enc Try.prog W 0 (fun _ => true) true Try.f6.params.toList args.toList ds p := hA0
  rw [Try.params6] at hA hval
  have hlight : ∀ (j : Nat) t (d : DataW H), (Try.f6.params.toList ++ Rows.mootOnceSpec.plain.varTypes Try.prog)[j]? = some t → (ds ++ gs)[j]? = some d → ∀ k ∈ d.weights Try.prog t, k ≤ reachBytes := fun j t d ht hd k hk => by simpa using List.all_eq_true.1 hsz0 _ (DataW.weights_mem_each ht hd k hk)
  rw [Try.params6] at hlight
  obtain ⟨v0, vs0, d0, ds0, p0, q0, hargs, rfl, rfl, h0, r0⟩ := trodAll_cons hA
  obtain ⟨v1, vs1, d1, ds1, p1, q1, rfl, rfl, rfl, h1, r1⟩ := trodAll_cons r0
  obtain ⟨v2, vs2, d2, ds2, p2, q2, rfl, rfl, rfl, h2, r2⟩ := trodAll_cons r1
  obtain ⟨rfl, rfl, rfl⟩ := trodAll_nil r2
  obtain rfl : args = #[v0, v1, v2] := by cases args; simp_all
  obtain ⟨rfl, rfl⟩ := trodVars_none hV
  obtain ⟨a0, rfl, f0⟩ := open_par (hval 0 37 v0 rfl rfl) h0
  obtain ⟨a1, rfl, f1⟩ := open_hl (hval 1 62 v1 rfl rfl) h1 (hlight 1 _ _ rfl rfl)
  obtain ⟨A2, n2, c2, rfl⟩ := okWide_slice Try.underlying75 (hval 2 75 v2 rfl rfl)
  obtain ⟨l2, hl2, hf2, hc2, hm2, hz2, hr2⟩ := open_wys h2
  subst hl2
  clear hA0 hval0
  refine (walk a0 a1 l2 A2 c2 W f0 f1 hr2 hf2 hc2 hm2 hz2).mono fun e W' ⟨he, hg⟩ => ?_
  subst he
  exact ⟨_, rfl, law_post laidOut (by kernel_rfl) rfl rfl Try.underlying4 rfl hW' hg⟩

theorem over : Rows.mootOnceRow.holds Try.pinned (OpenSpec.ofChange Rows.mootOnceSpec) :=
  OpenClaim.holds_of_wide 6 Try.f6 rfl rfl rfl rfl rfl rfl rfl ⟨rfl, rfl, rfl, rfl, rfl⟩ rfl rfl rfl rfl rfl (by kernel_rfl) Try.func6 (by kernel_rfl)
    (of_decide_eq_true (by kernel_rfl)) (by unfold Func.isWrapper; first | (rw [if_pos (by decide +kernel)]; kernel_rfl) | (rw [if_neg (by decide +kernel)]; exact ⟨rfl, rfl⟩))
    (fun os started H enc _ => lifted os started H enc)

/-- The statement. -/
theorem proved : Rows.MootOnceSaid := over
#print axioms proved

end Go.Proofs.Ytcaejanfhchacaa.MootOnce
