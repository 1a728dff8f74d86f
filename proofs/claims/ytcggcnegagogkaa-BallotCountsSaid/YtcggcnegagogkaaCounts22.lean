/- Law BallotCounts (P22.1): what any votes of any members weigh, on both sides, is exact, or refused. No condition. -/
import Derived.Test.YtcggcnegagogkaaBalP
import Derived.Test.YtcggcnegagogkaaBalR
import Derived.Test.YtcggcnegagogkaaRecQ
import Derived.Test.YtcggcnegagogkaaLawM
import Derived.Test.YtcggcnegagogkaaLawB
import Derived.Test.YtcggcnegagogkaaRows
namespace Go.Proofs.Ytcggcnegagogkaa.BallotCounts
open Go.RowKit Go.ChangeShapes Go.WideShapes Go.ChangeAt Go.Deep
set_option linter.unusedVariables false
set_option linter.unusedSimpArgs false

theorem tly_fields : ∃ fs, Try.prog.underlying 39 = some (.struct fs) ∧ ∀ d : Tly, ∀ f ∈ fs.toList, OneField Try.prog (Rec.vals d) f := ⟨_, Try.underlying39, fun d f hf => by
  simp at hf
  rcases hf with rfl | rfl | rfl
  · exact .inl ⟨_, _, _, Try.underlying26, rfl⟩
  · exact .inl ⟨_, _, _, Try.underlying26, rfl⟩
  · exact .inl ⟨_, _, _, Try.underlying26, rfl⟩⟩

set_option maxRecDepth 100000 in
set_option maxHeartbeats 2000000 in
theorem walk_wide (l : List Mem) (A : Option Addr) (c : Nat) (xs : List Nat) (A2 : Option Addr) (c2 : Nat) (ys : List Nat) (A3 : Option Addr) (c3 : Nat) (w : World) (h : Hid ((decide (l.length ≤ 300) && decide (xs.length ≤ 100) && decide (ys.length ≤ 100)) = false)) :
    Calls Try.prog 3 #[.slice A l.length c, .slice A2 xs.length c2, .slice A3 ys.length c3] w fun e w' => e = .returned (.bool true) ∧ Below w.heap.size w w' := by
  go_enter Try.func3, Try.ntmps3
  go_wp2_with (first
    | (go_at_call 5; refine (ballot_awake _).mono ?_; rintro e w0 ⟨rfl, hb0⟩)
    | (go_at_call 6; refine (few22_is _ _ _ _ _ _ _ _ _ false _ h).mono ?_; rintro e w1 ⟨rfl, hb1⟩))
  go_ret
  exact ⟨rfl, Below.then hb0 hb1⟩

set_option maxRecDepth 100000 in
set_option maxHeartbeats 2000000 in
theorem walk_held (l : List Mem) (A : Option Addr) (c : Nat) (xs : List Nat) (A2 : Option Addr) (c2 : Nat) (ys : List Nat) (A3 : Option Addr) (c3 : Nat) (P N T : Nat) (w : World) (hr : Row w w.heap.size A (rows l)) (hx : Row w w.heap.size A2 (u8s xs)) (hbx : ∀ x ∈ xs, x < 256) (hy : Row w w.heap.size A3 (u8s ys)) (hby : ∀ x ∈ ys, x < 256) (hf : ∀ m ∈ l, m.s.Fits) (h1 : l.length ≤ 300) (h2 : xs.length ≤ 100) (h3 : ys.length ≤ 100)
    (hP : Hid (presents l xs l.length = P)) (hN : Hid (presents l ys l.length = N)) (hT : Hid (actives l l.length = T)) (h : T ≤ 18446744073709551615) :
    Calls Try.prog 3 #[.slice A l.length c, .slice A2 xs.length c2, .slice A3 ys.length c3] w fun e w' => e = .returned (.bool true) ∧ Below w.heap.size w w' := by
  have hl : l.length ≤ 100000 := by omega
  have kf := fun (W : World) => few22_is A l.length c A2 xs.length c2 A3 ys.length c3 true W (Lib.hid (by simp [h1, h2, h3]))
  have kw := fun (W : World) (hB : Below w.heap.size w W) => weigh_is l A c xs A2 c2 P W (row_kept hr hB) (row_kept hx hB) hbx hl hf hP
  have kp := fun (W : World) (hB : Below w.heap.size w W) => lplain_is l A c W (row_kept hr hB) hl
  have ky := fun (A' : Option Addr) (c' : Nat) (W : World) (hB : Below w.heap.size w W) (h : Row W W.heap.size A' (rows l)) => rbweigh_is l A' c' xs A2 c2 P W h (row_kept hx hB) hbx hl hf hP
  have kt := fun (v : Value) (W : World) (h : Num P v W) => told_num P v W.heap.size W h (Nat.le_refl _)
  have ka := fun (A' : Option Addr) (c' : Nat) (W : World) (h : Row W W.heap.size A' (rows l)) => ractive_is l A' c' T W h hl hf hT
  have kn := fun (A' : Option Addr) (c' : Nat) (W : World) (hB : Below w.heap.size w W) (h : Row W W.heap.size A' (rows l)) => rbweigh_is l A' c' ys A3 c3 N W h (row_kept hy hB) hby hl hf hN
  have hPT : P ≤ T := by rw [← hP.out, ← hT.out]; exact presents_le _ _ _
  have hNT : N ≤ T := by rw [← hN.out, ← hT.out]; exact presents_le _ _ _
  have kc := fun (W : World) (hB : Below w.heap.size w W) => count_in l A c xs A2 c2 ys A3 c3 P N T W (row_kept hr hB) (row_kept hx hB) hbx (row_kept hy hB) hby hl hf hP.out hN.out hT.out h
  have ut := fun (v : Value) (W : World) (h' : Num T v W) => uint_fits T v _ W h' (Nat.le_refl _) h
  have up := fun (v : Value) (W : World) (h' : Num P v W) => uint_fits P v _ W h' (Nat.le_refl _) (Nat.le_trans hPT h)
  have un := fun (v : Value) (W : World) (h' : Num N v W) => uint_fits N v _ W h' (Nat.le_refl _) (Nat.le_trans hNT h)
  have d1 : decide ((P : Int) ≤ (T : Int)) = true := decide_eq_true (by omega)
  have d2 : decide (P ≤ T) = true := decide_eq_true hPT
  have d3 : decide ((N : Int) ≤ (T : Int)) = true := decide_eq_true (by omega)
  have d4 : decide (N ≤ T) = true := decide_eq_true hNT
  obtain ⟨X, hX⟩ : ∃ X, tx P = X := ⟨_, rfl⟩
  obtain ⟨Y, hY⟩ : ∃ Y, te P = Y := ⟨_, rfl⟩
  rw [hX, hY] at kw kt
  obtain ⟨fs, hfu, hff⟩ := tly_fields
  have HFF := Lib.hid hff
  have KF := Lib.hid kf
  have KW := Lib.hid kw
  have KP := Lib.hid kp
  have KY := Lib.hid ky
  have KT := Lib.hid kt
  have KC := Lib.hid kc
  have KP2 := Lib.hid kp
  have KA := Lib.hid ka
  have UT := Lib.hid ut
  have KP3 := Lib.hid kp
  have KP4 := Lib.hid kp
  have KY2 := Lib.hid ky
  have KN := Lib.hid kn
  have UP := Lib.hid up
  have UN := Lib.hid un
  clear hff kf kw kp ky kt kc ka ut hr hx hbx hy hby hf h1 h2 h3 hP hN hT h hl hX hY kn up un hPT hNT
  go_enter Try.func3, Try.ntmps3
  go_wp2_with (first
    | (go_at_call 5; refine (ballot_awake _).mono ?_; rintro e w0 ⟨rfl, hb⟩; have hB := hb; clear hb)
    | (go_at_call 6; refine (KF.out _).mono ?_; clear KF; rintro e w1 ⟨rfl, hb⟩; have hB := Below.then hB hb; clear hb)
    | (go_at_call 7; refine (KW.out _ hB).mono ?_; clear KW; rintro e w2 ⟨rfl, hb⟩; have hB := Below.then hB hb; clear hb)
    | (go_at_call 10; refine (KP.out _ hB).mono ?_; clear KP; rintro e w3 ⟨Ap, cp, rfl, hrp, hb⟩; have hB := Below.then hB hb; have HRp := Lib.hid hrp; clear hrp; clear hb)
    | (go_at_call 9; refine (KY.out _ _ _ hB HRp.out).mono ?_; clear KY HRp; rintro e w4 ⟨vp, rfl, hvp, hb⟩; have hB := Below.then hB hb; have HVp := Lib.hid hvp; clear hvp; clear hb)
    | (go_at_call 8; refine (KT.out _ _ HVp.out).mono ?_; clear KT HVp; rintro e w5 ⟨rfl, hb⟩; have hB := Below.then hB hb; clear hb)
    | (go_at_call 11; refine (KC.out _ hB).mono ?_; clear KC; rintro e w6 ⟨rfl, hb⟩; have hB := Below.then hB hb; clear hb)
    | (refine store_rec 39 _ _ rfl rfl _ (Rec.vals (⟨P, N, T⟩ : Tly)) (Rec.vals Tly.zero) 39 rfl rfl (RecAt.new _ (Rec.vals Tly.zero) _) size_tly rfl (Rec.one (⟨P, N, T⟩ : Tly)) ?_; intro w7 hS hb2 hsz hkp; clear hsz hkp; have hb2 := rec_made (Below.refl _ _) hb2; have hB := Below.then hB hb2; clear hb2)
    | (go_at_call 10; refine (KP2.out _ hB).mono ?_; clear KP2; rintro e w3 ⟨At, ct, rfl, hrt, hb⟩; have hB := Below.then hB hb; have hS := hS.up hb; have HRt := Lib.hid hrt; clear hrt; clear hb)
    | (go_at_call 13; refine (KA.out _ _ _ HRt.out).mono ?_; clear KA HRt; rintro e w8 ⟨vt, rfl, hvt, hb⟩; have hB := Below.then hB hb; have hS := hS.up hb; have HVt := Lib.hid hvt; clear hvt; clear hb)
    | (go_at_call 12; refine (UT.out _ _ HVt.out).mono ?_; clear UT HVt; rintro e w9 ⟨rfl, hb⟩; have hB := Below.then hB hb; have hS := hS.up hb; clear hb)
    | (go_at_call 10; refine (KP3.out _ hB).mono ?_; clear KP3; rintro e w3 ⟨Ay, cy, rfl, hry, hb⟩; have hB := Below.then hB hb; have hS := hS.up hb; have HRy := Lib.hid hry; clear hry; clear hb)
    | (go_at_call 9; refine (KY2.out _ _ _ hB HRy.out).mono ?_; clear KY2 HRy; rintro e w4 ⟨vy, rfl, hvy, hb⟩; have hB := Below.then hB hb; have hS := hS.up hb; have HVy := Lib.hid hvy; clear hvy; clear hb)
    | (go_at_call 12; refine (UP.out _ _ HVy.out).mono ?_; clear UP HVy; rintro e w10 ⟨rfl, hb⟩; have hB := Below.then hB hb; have hS := hS.up hb; clear hb)
    | (go_at_call 10; refine (KP4.out _ hB).mono ?_; clear KP4; rintro e w3 ⟨An, cn, rfl, hrn, hb⟩; have hB := Below.then hB hb; have hS := hS.up hb; have HRn := Lib.hid hrn; clear hrn; clear hb)
    | (go_at_call 9; refine (KN.out _ _ _ hB HRn.out).mono ?_; clear KN HRn; rintro e w4 ⟨vn, rfl, hvn, hb⟩; have hB := Below.then hB hb; have hS := hS.up hb; have HVn := Lib.hid hvn; clear hvn; clear hb)
    | (go_at_call 12; refine (UN.out _ _ HVn.out).mono ?_; clear UN HVn; rintro e w11 ⟨rfl, hb⟩; have hB := Below.then hB hb; have hS := hS.up hb; clear hb)
    | ((with_reducible refine slot_is 90 rfl ?_); refine load_rec 39 _ rfl rfl _ (Rec.vals (⟨P, N, T⟩ : Tly)) rfl hS.lies Try.underlying39 size_tly ?_)
    | ((with_reducible refine slot_is 94 rfl ?_); refine build_rec 39 _ rfl rfl (Rec.vals (⟨P, N, T⟩ : Tly)) ?_ ?_; · kernel_rfl)
    | ((with_reducible refine slot_is 95 rfl ?_); refine op_eql_rec _ _ _ rfl rfl (Rec.vals (⟨P, N, T⟩ : Tly)) rfl rfl (by kernel_rfl) hfu (by kernel_rfl) (HFF.out _) ?_))
  go_ret
  exact ⟨by first | rfl | simp, hB⟩

set_option maxRecDepth 100000 in
set_option maxHeartbeats 2000000 in
theorem walk_over (l : List Mem) (A : Option Addr) (c : Nat) (xs : List Nat) (A2 : Option Addr) (c2 : Nat) (ys : List Nat) (A3 : Option Addr) (c3 : Nat) (P N T : Nat) (w : World) (hr : Row w w.heap.size A (rows l)) (hx : Row w w.heap.size A2 (u8s xs)) (hbx : ∀ x ∈ xs, x < 256) (hy : Row w w.heap.size A3 (u8s ys)) (hby : ∀ x ∈ ys, x < 256) (hf : ∀ m ∈ l, m.s.Fits) (h1 : l.length ≤ 300) (h2 : xs.length ≤ 100) (h3 : ys.length ≤ 100)
    (hP : Hid (presents l xs l.length = P)) (hN : Hid (presents l ys l.length = N)) (hT : Hid (actives l l.length = T)) (h : 18446744073709551615 < T) :
    Calls Try.prog 3 #[.slice A l.length c, .slice A2 xs.length c2, .slice A3 ys.length c3] w fun e w' => e = .returned (.bool true) ∧ Below w.heap.size w w' := by
  have hl : l.length ≤ 100000 := by omega
  have kf := fun (W : World) => few22_is A l.length c A2 xs.length c2 A3 ys.length c3 true W (Lib.hid (by simp [h1, h2, h3]))
  have kw := fun (W : World) (hB : Below w.heap.size w W) => weigh_is l A c xs A2 c2 P W (row_kept hr hB) (row_kept hx hB) hbx hl hf hP
  have kp := fun (W : World) (hB : Below w.heap.size w W) => lplain_is l A c W (row_kept hr hB) hl
  have ky := fun (A' : Option Addr) (c' : Nat) (W : World) (hB : Below w.heap.size w W) (h : Row W W.heap.size A' (rows l)) => rbweigh_is l A' c' xs A2 c2 P W h (row_kept hx hB) hbx hl hf hP
  have kt := fun (v : Value) (W : World) (h : Num P v W) => told_num P v W.heap.size W h (Nat.le_refl _)
  have ka := fun (A' : Option Addr) (c' : Nat) (W : World) (h : Row W W.heap.size A' (rows l)) => ractive_is l A' c' T W h hl hf hT
  have kc := fun (W : World) (hB : Below w.heap.size w W) => count_out l A c (.slice A2 xs.length c2) (.slice A3 ys.length c3) W (row_kept hr hB) hl hf (by rw [hT.out]; exact h)
  have ut := fun (v : Value) (W : World) (h' : Num T v W) => uint_big T v _ W h' (Nat.le_refl _) h
  obtain ⟨X, hX⟩ : ∃ X, tx P = X := ⟨_, rfl⟩
  obtain ⟨Y, hY⟩ : ∃ Y, te P = Y := ⟨_, rfl⟩
  rw [hX, hY] at kw kt
  obtain ⟨fs, hfu, hff⟩ := tly_fields
  have HFF := Lib.hid hff
  have KF := Lib.hid kf
  have KW := Lib.hid kw
  have KP := Lib.hid kp
  have KY := Lib.hid ky
  have KT := Lib.hid kt
  have KC := Lib.hid kc
  have KP2 := Lib.hid kp
  have KA := Lib.hid ka
  have UT := Lib.hid ut
  clear hff kf kw kp ky kt kc ka ut hr hx hbx hy hby hf h1 h2 h3 hP hN hT h hl hX hY
  go_enter Try.func3, Try.ntmps3
  go_wp2_with (first
    | (go_at_call 5; refine (ballot_awake _).mono ?_; rintro e w0 ⟨rfl, hb⟩; have hB := hb; clear hb)
    | (go_at_call 6; refine (KF.out _).mono ?_; clear KF; rintro e w1 ⟨rfl, hb⟩; have hB := Below.then hB hb; clear hb)
    | (go_at_call 7; refine (KW.out _ hB).mono ?_; clear KW; rintro e w2 ⟨rfl, hb⟩; have hB := Below.then hB hb; clear hb)
    | (go_at_call 10; refine (KP.out _ hB).mono ?_; clear KP; rintro e w3 ⟨Ap, cp, rfl, hrp, hb⟩; have hB := Below.then hB hb; have HRp := Lib.hid hrp; clear hrp; clear hb)
    | (go_at_call 9; refine (KY.out _ _ _ hB HRp.out).mono ?_; clear KY HRp; rintro e w4 ⟨vp, rfl, hvp, hb⟩; have hB := Below.then hB hb; have HVp := Lib.hid hvp; clear hvp; clear hb)
    | (go_at_call 8; refine (KT.out _ _ HVp.out).mono ?_; clear KT HVp; rintro e w5 ⟨rfl, hb⟩; have hB := Below.then hB hb; clear hb)
    | (go_at_call 11; refine (KC.out _ hB).mono ?_; clear KC; rintro e w6 ⟨rfl, hb⟩; have hB := Below.then hB hb; clear hb)
    | (refine store_rec 39 _ _ rfl rfl _ (Rec.vals Tly.zero) (Rec.vals Tly.zero) 39 rfl rfl (RecAt.new _ (Rec.vals Tly.zero) _) size_tly rfl (Rec.one Tly.zero) ?_; intro w7 hS hb2 hsz hkp; clear hsz hkp; have hb2 := rec_made (Below.refl _ _) hb2; have hB := Below.then hB hb2; clear hb2)
    | (go_at_call 10; refine (KP2.out _ hB).mono ?_; clear KP2; rintro e w3 ⟨At, ct, rfl, hrt, hb⟩; have hB := Below.then hB hb; have hS := hS.up hb; have HRt := Lib.hid hrt; clear hrt; clear hb)
    | (go_at_call 13; refine (KA.out _ _ _ HRt.out).mono ?_; clear KA HRt; rintro e w8 ⟨vt, rfl, hvt, hb⟩; have hB := Below.then hB hb; have hS := hS.up hb; have HVt := Lib.hid hvt; clear hvt; clear hb)
    | (go_at_call 12; refine (UT.out _ _ HVt.out).mono ?_; clear UT HVt; rintro e w9 ⟨rfl, hb⟩; have hB := Below.then hB hb; have hS := hS.up hb; clear hb)
    | ((with_reducible refine slot_is 67 rfl ?_); refine load_rec 39 _ rfl rfl _ (Rec.vals Tly.zero) rfl hS.lies Try.underlying39 size_tly ?_)
    | ((with_reducible refine slot_is 68 rfl ?_); refine build_rec 39 _ rfl rfl (Rec.vals Tly.zero) ?_ ?_; · kernel_rfl)
    | ((with_reducible refine slot_is 69 rfl ?_); refine op_eql_rec _ _ _ rfl rfl (Rec.vals Tly.zero) rfl rfl (by kernel_rfl) hfu (by kernel_rfl) (HFF.out _) ?_))
  go_ret
  exact ⟨by first | rfl | simp, hB⟩

theorem walk (l : List Mem) (A : Option Addr) (c : Nat) (xs : List Nat) (A2 : Option Addr) (c2 : Nat) (ys : List Nat) (A3 : Option Addr) (c3 : Nat) (w : World) (hr : Row w w.heap.size A (rows l)) (hf : ∀ m ∈ l, m.s.Fits) (hc : l.length ≤ c) (hm : c ≤ maxLen) (hz : A = none → c = 0)
    (hx : Row w w.heap.size A2 (u8s xs)) (hbx : ∀ x ∈ xs, x < 256) (hc2 : xs.length ≤ c2) (hm2 : c2 ≤ maxLen) (hz2 : A2 = none → c2 = 0) (hy : Row w w.heap.size A3 (u8s ys)) (hby : ∀ x ∈ ys, x < 256) (hc3 : ys.length ≤ c3) (hm3 : c3 ≤ maxLen) (hz3 : A3 = none → c3 = 0) :
    Calls Try.prog 3 #[.slice A l.length c, .slice A2 xs.length c2, .slice A3 ys.length c3] w fun e w' => e = .returned (.bool true) ∧ Below w.heap.size w w' := by
  by_cases h1 : l.length ≤ 300
  · by_cases h2 : xs.length ≤ 100
    · by_cases h3 : ys.length ≤ 100
      · by_cases h : actives l l.length ≤ 18446744073709551615
        · exact walk_held l A c xs A2 c2 ys A3 c3 _ _ _ w hr hx hbx hy hby hf h1 h2 h3 (Lib.hid rfl) (Lib.hid rfl) (Lib.hid rfl) h
        · exact walk_over l A c xs A2 c2 ys A3 c3 _ _ _ w hr hx hbx hy hby hf h1 h2 h3 (Lib.hid rfl) (Lib.hid rfl) (Lib.hid rfl) (by omega)
      · exact walk_wide l A c xs A2 c2 ys A3 c3 w (Lib.hid (by simp [h3]))
    · exact walk_wide l A c xs A2 c2 ys A3 c3 w (Lib.hid (by simp [h2]))
  · exact walk_wide l A c xs A2 c2 ys A3 c3 w (Lib.hid (by simp [h1]))

theorem own : ownKnob Try.prog.godebug = none := by kernel_rfl
theorem laidOut : laidOutB Try.prog = true := by kernel_rfl

set_option maxRecDepth 100000 in
theorem lifted (os : Os) (started : os.Started) (H : Type) (enc : TypeId × Value → H) :
    ReturnsInHanded {} Try.checked os 3 .any (Rows.ballotCountsSpec.pre6 enc Try.prog Try.f3 Rows.ballotCountsRow.domain false) (Rows.ballotCountsSpec.post enc Try.prog Try.f3 false true false false) := by
  refine returnsInHanded_of_change (C := Try.checked) own started (by kernel_rfl) Try.func3
    (ChangeSpec.witness6 (enc := enc) (C := Try.checked) false ⟨#[], #[.slice none 0 0, .slice none 0 0, .slice none 0 0], []⟩ 8 (by kernel_rfl) (by kernel_rfl) (by kernel_rfl) (by kernel_rfl)) ?_
  intro W base args ds gs before hval0 hW hcnd _
  have hval : ∀ (j : Nat) t v, Try.f3.params[j]? = some t → args[j]? = some v → Value.okWide Try.prog W .any base t v := hval0
  have hW' := hW
  obtain ⟨p, q, hA0, hV, rfl, hfz, hnd⟩ := hW
  have hlt : ∀ x ∈ p ++ q, x.block < W.heap.size := fun x hx => hW'.lt x hx
  have hA : DataW.TrodAll enc Try.prog W 0 (fun _ => true) true Try.f3.params.toList args.toList ds p := hA0
  rw [Try.params3] at hA hval
  obtain ⟨v0, vs0, d0, ds0, p0, q0, hargs, rfl, rfl, h0, r0⟩ := trodAll_cons hA
  obtain ⟨v1, vs1, d1, ds1, p1, q1, rfl, rfl, rfl, h1, r1⟩ := trodAll_cons r0
  obtain ⟨v2, vs2, d2, ds2, p2, q2, rfl, rfl, rfl, h2, r2⟩ := trodAll_cons r1
  obtain ⟨rfl, rfl, rfl⟩ := trodAll_nil r2
  obtain rfl : args = #[v0, v1, v2] := by cases args; simp_all
  obtain ⟨rfl, rfl⟩ := trodVars_none hV
  obtain ⟨A0, n0, c0, rfl⟩ := okWide_slice Try.underlying22 (hval 0 22 v0 rfl rfl)
  obtain ⟨l0, hl0, hf0, hc0, hm0, hz0, hr0⟩ := open_mems h0
  subst hl0
  obtain ⟨A1, n1, c1, rfl⟩ := okWide_slice Try.underlying23 (hval 1 23 v1 rfl rfl)
  obtain ⟨ns1, hl1, hn1, hc1, hm1, hr1, hA1⟩ := open_u8s Try.underlying23 Try.underlying5 (by kernel_rfl) h1
  subst hl1
  obtain ⟨A2, n2, c2, rfl⟩ := okWide_slice Try.underlying23 (hval 2 23 v2 rfl rfl)
  obtain ⟨ns2, hl2, hn2, hc2, hm2, hr2, hA2⟩ := open_u8s Try.underlying23 Try.underlying5 (by kernel_rfl) h2
  subst hl2
  clear hA0 hval0
  refine (walk l0 A0 c0 ns1 A1 c1 ns2 A2 c2 W hr0 hf0 hc0 hm0 hz0 hr1 hn1 hc1 hm1 hA1 hr2 hn2 hc2 hm2 hA2).mono fun e W' ⟨he, hg⟩ => ?_
  subst he
  exact ⟨_, rfl, law_post laidOut (by kernel_rfl) rfl rfl Try.underlying4 rfl hW' hg⟩

theorem over : Rows.ballotCountsRow.holds Try.pinned (OpenSpec.ofChange Rows.ballotCountsSpec) :=
  OpenClaim.holds_of_wide 3 Try.f3 rfl rfl rfl rfl rfl rfl rfl ⟨rfl, rfl, rfl, rfl, rfl⟩ rfl rfl rfl rfl rfl (by kernel_rfl) Try.func3 (by kernel_rfl)
    (of_decide_eq_true (by kernel_rfl)) (by unfold Func.isWrapper; first | (rw [if_pos (by decide +kernel)]; kernel_rfl) | (rw [if_neg (by decide +kernel)]; exact ⟨rfl, rfl⟩))
    (fun os started H enc _ => lifted os started H enc)

/-- The statement. -/
theorem proved : Rows.BallotCountsSaid := over
#print axioms proved
end Go.Proofs.Ytcggcnegagogkaa.BallotCounts
