/- Law BlockBack (P9.4): what is encoded is decoded as it was; cut off it is not all there; what is decoded of any bytes has just these bytes. No condition. -/
import Derived.Test.YtokaclacejhppaaBlkX
import Derived.Test.YtokaclacejhppaaRows
namespace Go.Proofs.Ytokaclacejhppaa.BlockBack
open Go.RowKit Go.ChangeShapes Go.WideShapes Go.ChangeAt
set_option linter.unusedVariables false
set_option linter.unusedSimpArgs false

theorem lies_some {w : World} {S : Nat → Prop} {A : Option Addr} {xs : List Nat} (h : Lies w S A xs) (h0 : 0 < xs.length) : ∃ a, A = some a := by
  obtain ⟨a, ha, _⟩ := h.get h0
  exact ⟨a, ha⟩
theorem lies_cut {w : World} {S : Nat → Prop} {A : Option Addr} {xs : List Nat} (h : Lies w S A xs) (n : Nat) : Lies w S A (xs.take n) := fun k x hx => h k x (by
  rw [List.getElem?_take] at hx
  by_cases hk : k < n
  · rwa [if_pos hk] at hx
  · rw [if_neg hk] at hx; cases hx)
/-- The arguments, in a later world. -/
structure Args (w0 w : World) (l : List De) (A : Option Addr) (ys : List Nat) (B : Option Addr) : Prop where
  deeds : Deeds w (· < w0.heap.size) A l
  bytes : Lies w (· < w0.heap.size) B ys
  below : Below w0.heap.size w0 w
theorem Args.next {w0 w w' : World} {l : List De} {A : Option Addr} {ys : List Nat} {B : Option Addr} (h : Args w0 w l A ys B) (hb : Below w.heap.size w w') : Args w0 w' l A ys B :=
  ⟨h.deeds.next hb, h.bytes.grown (grown_below hb none) (by simp), Below.then h.below hb⟩
theorem Args.all {w0 w : World} {l : List De} {A : Option Addr} {ys : List Nat} {B : Option Addr} (h : Args w0 w l A ys B) : Deeds w (· < w.heap.size) A l := h.deeds.imp (fun k hk _ => hk)
theorem few_yes {l : List De} {A : Option Addr} {c m : Nat} (hs : Short l) (hm : l.length = m) (h70 : m ≤ 70) (S : Nat → Prop) (w : World) (h : Deeds w S A l) :
    Calls Try.prog 6 #[.slice A m c, .int .i64 70] w fun e w' => e = .returned (.bool true) ∧ Below w.heap.size w w' := by
  subst hm
  exact few_ok l 70 S A c w h hs h70 (by decide)
theorem few_not {l : List De} {A : Option Addr} {c m : Nat} (hs : ¬ (Short l ∧ m ≤ 70)) (hm : l.length = m) (hl : m ≤ 9223372036854775807) (S : Nat → Prop) (w : World) (h : Deeds w S A l) :
    Calls Try.prog 6 #[.slice A m c, .int .i64 70] w fun e w' => e = .returned (.bool false) ∧ Below w.heap.size w w' := by
  subst hm
  exact few_no l 70 S A c w h hs hl
theorem plain_n {l : List De} {m : Nat} (hm : l.length = m) (hl : m ≤ 1000) (S : Nat → Prop) (A : Option Addr) (c : Nat) (w : World) (h : Deeds w S A l) :
    Calls Try.prog 9 #[.slice A m c] w fun e w' => ∃ (A' : Option Addr) (c' : Nat), e = .returned (.slice A' m c') ∧ Deeds w' (fun k => S k ∨ w.heap.size ≤ k) A' l ∧ Below w.heap.size w w' := by
  subst hm
  exact bplain_is l S A c w h hl

set_option maxRecDepth 100000 in
set_option maxHeartbeats 4000000 in
theorem walk_many (l : List De) (A : Option Addr) (c m : Nat) (ys : List Nat) (B : Option Addr) (cb q : Nat) (cut : Int) (w : World) (hm : Hid (l.length = m)) (hq : Hid (ys.length = q)) (hW : Args w w l A ys B) (hs : ¬ (Short l ∧ m ≤ 70)) (hl : m ≤ 9223372036854775807) :
    Calls Try.prog 4 #[.slice A m c, .slice B q cb, .int .i64 cut] w fun e w' => e = .returned (.bool true) ∧ Below w.heap.size w w' := by
  have kf := few_not (A := A) (c := c) hs hm.out hl
  clear hs hl
  go_enter Try.func4, Try.ntmps4
  go_wp2_with (first
    | (go_at_call 5; refine (blk_awake _).mono ?_; rintro e w1 ⟨rfl, hb1⟩; have hW1 := hW.next hb1)
    | (go_at_call 6; refine (kf _ _ hW1.deeds).mono ?_; rintro e w2 ⟨rfl, hb2⟩; have hW2 := hW1.next hb2))
  go_ret
  exact ⟨rfl, hW2.below⟩

set_option maxRecDepth 100000 in
set_option maxHeartbeats 4000000 in
theorem walk_long (l : List De) (A : Option Addr) (c m : Nat) (ys : List Nat) (B : Option Addr) (cb q : Nat) (cut : Int) (w : World) (hm : Hid (l.length = m)) (hq : Hid (ys.length = q)) (hW : Args w w l A ys B) (hs : Short l) (h70 : m ≤ 70) (hb : 5000 < q) :
    Calls Try.prog 4 #[.slice A m c, .slice B q cb, .int .i64 cut] w fun e w' => e = .returned (.bool true) ∧ Below w.heap.size w w' := by
  have kf := few_yes (A := A) (c := c) hs hm.out h70
  have dl : decide ((5000 : Int) < (q : Int)) = true := by simp; omega
  clear hs h70 hb
  go_enter Try.func4, Try.ntmps4
  go_wp2_with (first
    | (go_at_call 5; refine (blk_awake _).mono ?_; rintro e w1 ⟨rfl, hb1⟩; have hW1 := hW.next hb1)
    | (go_at_call 6; refine (kf _ _ hW1.deeds).mono ?_; rintro e w2 ⟨rfl, hb2⟩; have hW2 := hW1.next hb2))
  go_ret
  exact ⟨rfl, hW2.below⟩

set_option maxRecDepth 100000 in
set_option maxHeartbeats 4000000 in
theorem walk_neg (l : List De) (A : Option Addr) (c m : Nat) (ys : List Nat) (B : Option Addr) (cb q : Nat) (cut : Int) (w : World) (hm : Hid (l.length = m)) (hq : Hid (ys.length = q)) (hW : Args w w l A ys B) (hs : Short l) (h70 : m ≤ 70) (hb : ¬ 5000 < q) (hc : cut < 0) :
    Calls Try.prog 4 #[.slice A m c, .slice B q cb, .int .i64 cut] w fun e w' => e = .returned (.bool true) ∧ Below w.heap.size w w' := by
  have kf := few_yes (A := A) (c := c) hs hm.out h70
  have dl : decide ((5000 : Int) < (q : Int)) = false := by simp; omega
  have dc : decide (cut < 0) = true := by simp; omega
  clear hs h70 hb hc
  go_enter Try.func4, Try.ntmps4
  go_wp2_with (first
    | (go_at_call 5; refine (blk_awake _).mono ?_; rintro e w1 ⟨rfl, hb1⟩; have hW1 := hW.next hb1)
    | (go_at_call 6; refine (kf _ _ hW1.deeds).mono ?_; rintro e w2 ⟨rfl, hb2⟩; have hW2 := hW1.next hb2))
  go_ret
  exact ⟨rfl, hW2.below⟩

set_option maxRecDepth 100000 in
set_option maxHeartbeats 4000000 in
theorem walk_no_no (l : List De) (A : Option Addr) (c m : Nat) (ys : List Nat) (B : Option Addr) (cb q : Nat) (cut : Int) (w : World) (hm : Hid (l.length = m)) (hq : Hid (ys.length = q)) (hW : Args w w l A ys B) (hs : Short l) (h70 : m ≤ 70) (hb : q ≤ 5000) (hc : 0 ≤ cut) (ea ez : Nat) (hz : ez ≠ 0) (hE : Refuses l ea ez) (da dz : Nat) (hdz : dz ≠ 0) (hB : Fails ys da dz) :
    Calls Try.prog 4 #[.slice A m c, .slice B q cb, .int .i64 cut] w fun e w' => e = .returned (.bool true) ∧ Below w.heap.size w w' := by
  have kf := few_yes (A := A) (c := c) hs hm.out h70
  have dl : decide ((5000 : Int) < (q : Int)) = false := by simp; omega
  have dc : decide (cut < 0) = false := by simp; omega
  have ke := fun w h => hE m w A c hm.out h
  have d1 : ((ez : Int) == 0) = false := by simp; omega
  have kb := fun W S A' c' h => hB q W S A' c' hq.out h
  have d2 : ((dz : Int) != 0) = true := by simp; omega
  have KF := Lib.hid kf
  have KE := Lib.hid ke
  have KB := Lib.hid kb
  clear hs h70 hb hc hE hB hz hdz kf ke kb
  go_enter Try.func4, Try.ntmps4
  go_upto_region 11 with (first
    | (go_at_call 5; refine (blk_awake _).mono ?_; rintro e w1 ⟨rfl, hb1⟩; have hW1 := hW.next hb1)
    | (go_at_call 6; refine (KF.out _ _ hW1.deeds).mono ?_; rintro e w2 ⟨rfl, hb2⟩; have hW2 := hW1.next hb2)
    | (go_at_call 7; refine (KE.out _ hW2.all).mono ?_; rintro e w9 ⟨rfl, hb9⟩; have hW9 := hW2.next hb9))
  go_wp2_with (go_at_call 12; refine (KB.out _ _ _ _ hW9.bytes).mono ?_; rintro e w10 ⟨rfl, hb10⟩; have hW10 := hW9.next hb10)
  go_ret
  exact ⟨rfl, hW10.below⟩

set_option maxRecDepth 100000 in
set_option maxHeartbeats 4000000 in
theorem walk_no_ok (l : List De) (A : Option Addr) (c m : Nat) (ys : List Nat) (B : Option Addr) (cb q : Nat) (cut : Int) (w : World) (hm : Hid (l.length = m)) (hq : Hid (ys.length = q)) (hW : Args w w l A ys B) (hs : Short l) (h70 : m ≤ 70) (hb : q ≤ 5000) (hc : 0 ≤ cut) (ea ez : Nat) (hz : ez ≠ 0) (hE : Refuses l ea ez) (ds : List Dd) (hn : ds.length ≤ 64) (hB : Decodes ys ds) (hR : ∀ l2 : List De, l2.map De.d = ds → Encodes l2 ys) :
    Calls Try.prog 4 #[.slice A m c, .slice B q cb, .int .i64 cut] w fun e w' => e = .returned (.bool true) ∧ Below w.heap.size w w' := by
  have kf := few_yes (A := A) (c := c) hs hm.out h70
  have dl : decide ((5000 : Int) < (q : Int)) = false := by simp; omega
  have dc : decide (cut < 0) = false := by simp; omega
  have ke := fun w h => hE m w A c hm.out h
  have d1 : ((ez : Int) == 0) = false := by simp; omega
  obtain ⟨N, hN⟩ : ∃ N, Hid (ds.length = N) := ⟨_, rfl⟩
  have kb := fun W S A' c' h => hB q N W S A' c' hq.out hN.out h
  have kr := fun l2 h2 hl2 W A' c' h => hR l2 h2 q N W A' c' hl2 hq.out h
  have kt : ∀ (W : World) (S S' : Nat → Prop) (A A' : Option Addr) (c c' : Nat), Lies W S A ys → Lies W S' A' ys → Calls Try.prog 10 #[.slice A q c, .slice A' q c'] W fun e w' => e = .returned (.bool true) ∧ Below W.heap.size W w' := fun W S S' A A' c c' h h' => by
    have k := same_true ys S S' A A' c c' W h h' (by rw [hq.out]; unfold maxLen; omega)
    rwa [hq.out] at k
  have KF := Lib.hid kf
  have KE := Lib.hid ke
  have KB := Lib.hid kb
  have KR := Lib.hid kr
  have KT := Lib.hid kt
  clear hs h70 hb hc hE hB hz hn hR kf ke kb kr kt
  go_enter Try.func4, Try.ntmps4
  go_upto_region 11 with (first
    | (go_at_call 5; refine (blk_awake _).mono ?_; rintro e w1 ⟨rfl, hb1⟩; have hW1 := hW.next hb1)
    | (go_at_call 6; refine (KF.out _ _ hW1.deeds).mono ?_; rintro e w2 ⟨rfl, hb2⟩; have hW2 := hW1.next hb2)
    | (go_at_call 7; refine (KE.out _ hW2.all).mono ?_; rintro e w9 ⟨rfl, hb9⟩; have hW9 := hW2.next hb9))
  go_wp2_with (first
    | (go_at_call 12; refine (KB.out _ _ _ _ hW9.bytes).mono ?_; rintro e w10 ⟨l10, A10, c10, rfl, hl10, hd10, -, hD10, hb10⟩; have hW10 := hW9.next hb10; clear hW9 hb10)
    | (go_at_call 7; refine (KR.out l10 hd10.out hl10.out _ _ _ (hD10.imp (fun k hk _ => hk))).mono ?_; rintro e w11 ⟨v11, rfl, hown11, hb11⟩; obtain ⟨A11, c11, rfl, -, -, -, hL11⟩ := Lies.own hown11; have hW11 := hW10.next hb11; clear hown11 hW10 hD10 hb11)
    | (go_at_call 10; refine (KT.out _ _ _ _ _ _ _ hL11 hW11.bytes).mono ?_; rintro e w12 ⟨rfl, hb12⟩; have hW12 := hW11.next hb12; clear hW11 hL11 hb12))
  go_ret
  exact ⟨rfl, hW12.below⟩

set_option maxRecDepth 100000 in
set_option maxHeartbeats 4000000 in
theorem walk_ok_no (l : List De) (A : Option Addr) (c m : Nat) (ys : List Nat) (B : Option Addr) (cb q : Nat) (cut : Int) (w : World) (hm : Hid (l.length = m)) (hq : Hid (ys.length = q)) (hW : Args w w l A ys B) (hs : Short l) (h70 : m ≤ 70) (hb : q ≤ 5000) (hc : 0 ≤ cut) (hE : Encodes l (blk (l.map De.d))) (hD : Decodes (blk (l.map De.d)) (l.map De.d)) (hF : ∀ j, j < (blk (l.map De.d)).length → ∃ at', Fails ((blk (l.map De.d)).take j) at' 50) (hpos : 0 < (blk (l.map De.d)).length) (h18 : (blk (l.map De.d)).length ≤ 17930) (da dz : Nat) (hdz : dz ≠ 0) (hB : Fails ys da dz) :
    Calls Try.prog 4 #[.slice A m c, .slice B q cb, .int .i64 cut] w fun e w' => e = .returned (.bool true) ∧ Below w.heap.size w w' := by
  have kf := few_yes (A := A) (c := c) hs hm.out h70
  have dl : decide ((5000 : Int) < (q : Int)) = false := by simp; omega
  have dc : decide (cut < 0) = false := by simp; omega
  obtain ⟨bs, hbs⟩ : ∃ bs, Hid (blk (l.map De.d) = bs) := ⟨_, rfl⟩
  rw [hbs.out] at hE hD hF hpos h18
  obtain ⟨n, hn0⟩ : ∃ n, Hid (bs.length = n) := ⟨_, rfl⟩
  rw [hn0.out] at hpos h18
  have ke := fun w h => hE n m w A c hm.out hn0.out h
  have k1 := fun W S A' c' h => hD n m W S A' c' hn0.out (by rw [List.length_map]; exact hm.out) h
  obtain ⟨j, hj⟩ : ∃ j : Nat, cut.tmod (n : Int) = (j : Int) := ⟨(cut.tmod n).toNat, by rw [Int.toNat_of_nonneg]; exact Int.tmod_nonneg _ hc⟩
  have hjn : j < n := by have := Int.tmod_lt_of_pos cut (show (0 : Int) < n by omega); omega
  obtain ⟨ca, hca⟩ := hF j (by rw [hn0.out]; exact hjn)
  have k2 := fun W S A' c' h => hca j W S A' c' (by rw [List.length_take, hn0.out]; omega) h
  have kp := fun l2 hl2 S A' c' w h => plain_n (l := l2) (m := m) hl2 (by omega) S A' c' w h
  have ks := fun l2 r2 hl2 hr2 he S S' A' A'' c' c'' w h h' => bsame_is l2 r2 m hl2 hr2 (by omega) he S S' A' A'' c' c'' w h h'
  have HN := hn0
  have n1 : ((n : Int) == 0) = false := by simp; omega
  have n2 : (n : Int) ≠ 0 := by omega
  have kj1 : (0 : Int) ≤ (j : Int) := by omega
  have kb := fun W S A' c' h => hB q W S A' c' hq.out h
  have d2 : ((dz : Int) != 0) = true := by simp; omega
  have KF := Lib.hid kf
  have KE := Lib.hid ke
  have KB := Lib.hid kb
  have K1 := Lib.hid k1
  have K2 := Lib.hid k2
  have KP := Lib.hid kp
  have KS := Lib.hid ks
  clear hs h70 hb hc hE hB hD hF hpos h18 hca hdz kf ke kb k1 k2 kp ks
  go_enter Try.func4, Try.ntmps4
  go_upto_region 7 with (first
    | (go_at_call 5; refine (blk_awake _).mono ?_; rintro e w1 ⟨rfl, hb1⟩; have hW1 := hW.next hb1)
    | (go_at_call 6; refine (KF.out _ _ hW1.deeds).mono ?_; rintro e w2 ⟨rfl, hb2⟩; have hW2 := hW1.next hb2)
    | (go_at_call 7; refine (KE.out _ hW2.all).mono ?_; rintro e w3 ⟨v3, rfl, hown3, hb3⟩; obtain ⟨A3, c3, rfl, hc3a, hc3b, -, hL3⟩ := Lies.own hown3; have hW3 := hW2.next hb3; obtain ⟨a3, rfl⟩ := lies_some hL3 (by rw [HN.out]; omega); clear hown3))
  clear hW1 hW2 hb1 hb2 hb3
  go_upto_region 8 with (go_at_call 12; refine (K1.out _ _ _ _ hL3).mono ?_; rintro e w4 ⟨l4, A4, c4, rfl, hl4, hd4, -, hD4, hb4⟩)
  have hW4 := hW3.next hb4
  have hL4 := hL3.grown (grown_below hb4 none) (by simp)
  clear hW3 hL3 hb4
  have q1 : j ≤ c3 := by omega
  have q2 : (j : Int) ≤ (c3 : Int) := by omega
  have q3 : (j : Int) ≤ (n : Int) := by omega
  have hJ := lies_cut hL4 j
  go_upto_region 9 with (go_at_call 12; refine (K2.out _ _ _ _ hJ).mono ?_; rintro e w5 ⟨rfl, hb5⟩)
  have hW5 := hW4.next hb5
  have hD5 := hD4.next hb5
  clear hW4 hD4 hL4 hJ hb5 q1 q2 q3
  go_upto_region 11 with (first
    | (go_at_call 9; refine (KP.out l4 hl4.out _ _ _ _ hD5).mono ?_; rintro e w6 ⟨A6, c6, rfl, hP6, hb6⟩; have hW6 := hW5.next hb6; clear hD5 hW5 hb6)
    | (go_at_call 9; refine (KP.out l hm.out _ _ _ _ hW6.deeds).mono ?_; rintro e w7 ⟨A7, c7, rfl, hQ7, hb7⟩; have hW7 := hW6.next hb7; have hP7 := hP6.next hb7; clear hP6 hW6 hb7)
    | (go_at_call 13; refine (KS.out l4 l hl4 hm hd4 _ _ _ _ _ _ _ hP7 hQ7).mono ?_; rintro e w9 ⟨rfl, hb9⟩; have hW9 := hW7.next hb9; clear hP7 hQ7 hW7 hb9))
  go_wp2_with (go_at_call 12; refine (KB.out _ _ _ _ hW9.bytes).mono ?_; rintro e w10 ⟨rfl, hb10⟩; have hW10 := hW9.next hb10)
  go_ret
  exact ⟨rfl, hW10.below⟩

set_option maxRecDepth 100000 in
set_option maxHeartbeats 4000000 in
theorem walk_ok_ok (l : List De) (A : Option Addr) (c m : Nat) (ys : List Nat) (B : Option Addr) (cb q : Nat) (cut : Int) (w : World) (hm : Hid (l.length = m)) (hq : Hid (ys.length = q)) (hW : Args w w l A ys B) (hs : Short l) (h70 : m ≤ 70) (hb : q ≤ 5000) (hc : 0 ≤ cut) (hE : Encodes l (blk (l.map De.d))) (hD : Decodes (blk (l.map De.d)) (l.map De.d)) (hF : ∀ j, j < (blk (l.map De.d)).length → ∃ at', Fails ((blk (l.map De.d)).take j) at' 50) (hpos : 0 < (blk (l.map De.d)).length) (h18 : (blk (l.map De.d)).length ≤ 17930) (ds : List Dd) (hn : ds.length ≤ 64) (hB : Decodes ys ds) (hR : ∀ l2 : List De, l2.map De.d = ds → Encodes l2 ys) :
    Calls Try.prog 4 #[.slice A m c, .slice B q cb, .int .i64 cut] w fun e w' => e = .returned (.bool true) ∧ Below w.heap.size w w' := by
  have kf := few_yes (A := A) (c := c) hs hm.out h70
  have dl : decide ((5000 : Int) < (q : Int)) = false := by simp; omega
  have dc : decide (cut < 0) = false := by simp; omega
  obtain ⟨bs, hbs⟩ : ∃ bs, Hid (blk (l.map De.d) = bs) := ⟨_, rfl⟩
  rw [hbs.out] at hE hD hF hpos h18
  obtain ⟨n, hn0⟩ : ∃ n, Hid (bs.length = n) := ⟨_, rfl⟩
  rw [hn0.out] at hpos h18
  have ke := fun w h => hE n m w A c hm.out hn0.out h
  have k1 := fun W S A' c' h => hD n m W S A' c' hn0.out (by rw [List.length_map]; exact hm.out) h
  obtain ⟨j, hj⟩ : ∃ j : Nat, cut.tmod (n : Int) = (j : Int) := ⟨(cut.tmod n).toNat, by rw [Int.toNat_of_nonneg]; exact Int.tmod_nonneg _ hc⟩
  have hjn : j < n := by have := Int.tmod_lt_of_pos cut (show (0 : Int) < n by omega); omega
  obtain ⟨ca, hca⟩ := hF j (by rw [hn0.out]; exact hjn)
  have k2 := fun W S A' c' h => hca j W S A' c' (by rw [List.length_take, hn0.out]; omega) h
  have kp := fun l2 hl2 S A' c' w h => plain_n (l := l2) (m := m) hl2 (by omega) S A' c' w h
  have ks := fun l2 r2 hl2 hr2 he S S' A' A'' c' c'' w h h' => bsame_is l2 r2 m hl2 hr2 (by omega) he S S' A' A'' c' c'' w h h'
  have HN := hn0
  have n1 : ((n : Int) == 0) = false := by simp; omega
  have n2 : (n : Int) ≠ 0 := by omega
  have kj1 : (0 : Int) ≤ (j : Int) := by omega
  obtain ⟨N, hN⟩ : ∃ N, Hid (ds.length = N) := ⟨_, rfl⟩
  have kb := fun W S A' c' h => hB q N W S A' c' hq.out hN.out h
  have kr := fun l2 h2 hl2 W A' c' h => hR l2 h2 q N W A' c' hl2 hq.out h
  have kt : ∀ (W : World) (S S' : Nat → Prop) (A A' : Option Addr) (c c' : Nat), Lies W S A ys → Lies W S' A' ys → Calls Try.prog 10 #[.slice A q c, .slice A' q c'] W fun e w' => e = .returned (.bool true) ∧ Below W.heap.size W w' := fun W S S' A A' c c' h h' => by
    have k := same_true ys S S' A A' c c' W h h' (by rw [hq.out]; unfold maxLen; omega)
    rwa [hq.out] at k
  have KF := Lib.hid kf
  have KE := Lib.hid ke
  have KB := Lib.hid kb
  have K1 := Lib.hid k1
  have K2 := Lib.hid k2
  have KP := Lib.hid kp
  have KS := Lib.hid ks
  have KR := Lib.hid kr
  have KT := Lib.hid kt
  clear hs h70 hb hc hE hB hD hF hpos h18 hca hn hR kf ke kb k1 k2 kp ks kr kt
  go_enter Try.func4, Try.ntmps4
  go_upto_region 7 with (first
    | (go_at_call 5; refine (blk_awake _).mono ?_; rintro e w1 ⟨rfl, hb1⟩; have hW1 := hW.next hb1)
    | (go_at_call 6; refine (KF.out _ _ hW1.deeds).mono ?_; rintro e w2 ⟨rfl, hb2⟩; have hW2 := hW1.next hb2)
    | (go_at_call 7; refine (KE.out _ hW2.all).mono ?_; rintro e w3 ⟨v3, rfl, hown3, hb3⟩; obtain ⟨A3, c3, rfl, hc3a, hc3b, -, hL3⟩ := Lies.own hown3; have hW3 := hW2.next hb3; obtain ⟨a3, rfl⟩ := lies_some hL3 (by rw [HN.out]; omega); clear hown3))
  clear hW1 hW2 hb1 hb2 hb3
  go_upto_region 8 with (go_at_call 12; refine (K1.out _ _ _ _ hL3).mono ?_; rintro e w4 ⟨l4, A4, c4, rfl, hl4, hd4, -, hD4, hb4⟩)
  have hW4 := hW3.next hb4
  have hL4 := hL3.grown (grown_below hb4 none) (by simp)
  clear hW3 hL3 hb4
  have q1 : j ≤ c3 := by omega
  have q2 : (j : Int) ≤ (c3 : Int) := by omega
  have q3 : (j : Int) ≤ (n : Int) := by omega
  have hJ := lies_cut hL4 j
  go_upto_region 9 with (go_at_call 12; refine (K2.out _ _ _ _ hJ).mono ?_; rintro e w5 ⟨rfl, hb5⟩)
  have hW5 := hW4.next hb5
  have hD5 := hD4.next hb5
  clear hW4 hD4 hL4 hJ hb5 q1 q2 q3
  go_upto_region 11 with (first
    | (go_at_call 9; refine (KP.out l4 hl4.out _ _ _ _ hD5).mono ?_; rintro e w6 ⟨A6, c6, rfl, hP6, hb6⟩; have hW6 := hW5.next hb6; clear hD5 hW5 hb6)
    | (go_at_call 9; refine (KP.out l hm.out _ _ _ _ hW6.deeds).mono ?_; rintro e w7 ⟨A7, c7, rfl, hQ7, hb7⟩; have hW7 := hW6.next hb7; have hP7 := hP6.next hb7; clear hP6 hW6 hb7)
    | (go_at_call 13; refine (KS.out l4 l hl4 hm hd4 _ _ _ _ _ _ _ hP7 hQ7).mono ?_; rintro e w9 ⟨rfl, hb9⟩; have hW9 := hW7.next hb9; clear hP7 hQ7 hW7 hb9))
  go_wp2_with (first
    | (go_at_call 12; refine (KB.out _ _ _ _ hW9.bytes).mono ?_; rintro e w10 ⟨l10, A10, c10, rfl, hl10, hd10, -, hD10, hb10⟩; have hW10 := hW9.next hb10; clear hW9 hb10)
    | (go_at_call 7; refine (KR.out l10 hd10.out hl10.out _ _ _ (hD10.imp (fun k hk _ => hk))).mono ?_; rintro e w11 ⟨v11, rfl, hown11, hb11⟩; obtain ⟨A11, c11, rfl, -, -, -, hL11⟩ := Lies.own hown11; have hW11 := hW10.next hb11; clear hown11 hW10 hD10 hb11)
    | (go_at_call 10; refine (KT.out _ _ _ _ _ _ _ hL11 hW11.bytes).mono ?_; rintro e w12 ⟨rfl, hb12⟩; have hW12 := hW11.next hb12; clear hW11 hL11 hb12))
  go_ret
  exact ⟨rfl, hW12.below⟩

theorem walk (l : List De) (A : Option Addr) (c : Nat) (ys : List Nat) (B : Option Addr) (cb : Nat) (cut : Int) (w : World) (hf : ∀ x ∈ l, x.d.Fits) (hx : Deeds w (· < w.heap.size) A l) (hc : l.length ≤ c) (hm : c ≤ maxLen) (hAn : ∀ x ∈ l, x.B = none → x.c = 0) (hB : Lies w (· < w.heap.size) B ys) (hy : ∀ x ∈ ys, x < 256) (hcb : ys.length ≤ cb) (hmb : cb ≤ maxLen) (hBn : B = none → cb = 0) (h0 : -9223372036854775808 ≤ cut) (h1 : cut ≤ 9223372036854775807) :
    Calls Try.prog 4 #[.slice A l.length c, .slice B ys.length cb, .int .i64 cut] w fun e w' => e = .returned (.bool true) ∧ Below w.heap.size w w' := by
  have hW : Args w w l A ys B := ⟨hx, hB, Below.refl _ _⟩
  by_cases hs : Short l ∧ l.length ≤ 70
  · by_cases hb : 5000 < ys.length
    · exact walk_long l A c _ ys B cb _ cut w rfl rfl hW hs.1 hs.2 hb
    · by_cases hn : cut < 0
      · exact walk_neg l A c _ ys B cb _ cut w rfl rfl hW hs.1 hs.2 hb hn
      · have hD := decode_cases ys (by omega) hy
        rcases encode_cases l hf with ⟨hr, h64⟩ | ⟨ea, ez, hez, hE⟩
        · have hr' : ∀ d ∈ l.map De.d, d.Right := fun d hd => by
            obtain ⟨x, hx, rfl⟩ := List.mem_map.1 hd
            exact hr x hx
          have h64' : (l.map De.d).length ≤ 64 := by rw [List.length_map]; exact h64
          have hl := blk_len hr' h64'
          rcases hD with ⟨ds, g1, g2, g3, g4⟩ | ⟨da, dz, hdz, hF⟩
          · refine walk_ok_ok l A c _ ys B cb _ cut w rfl rfl hW hs.1 hs.2 (by omega) (by omega) (encodes_of hr h64) (decodes_blk hr' h64') (fun j hj => fails_cut hr' h64' hj) hl.1 hl.2 ds g2 g4 (fun l2 h2 => ?_)
            subst h2
            rw [← g3]
            exact encodes_of (fun x hx => g1 _ (List.mem_map_of_mem hx)) (by rwa [List.length_map] at g2)
          · exact walk_ok_no l A c _ ys B cb _ cut w rfl rfl hW hs.1 hs.2 (by omega) (by omega) (encodes_of hr h64) (decodes_blk hr' h64') (fun j hj => fails_cut hr' h64' hj) hl.1 hl.2 da dz hdz hF
        · rcases hD with ⟨ds, g1, g2, g3, g4⟩ | ⟨da, dz, hdz, hF⟩
          · refine walk_no_ok l A c _ ys B cb _ cut w rfl rfl hW hs.1 hs.2 (by omega) (by omega) ea ez hez hE ds g2 g4 (fun l2 h2 => ?_)
            subst h2
            rw [← g3]
            exact encodes_of (fun x hx => g1 _ (List.mem_map_of_mem hx)) (by rwa [List.length_map] at g2)
          · exact walk_no_no l A c _ ys B cb _ cut w rfl rfl hW hs.1 hs.2 (by omega) (by omega) ea ez hez hE da dz hdz hF
  · exact walk_many l A c _ ys B cb _ cut w rfl rfl hW hs (by unfold maxLen at hm; omega)

theorem own : ownKnob Try.prog.godebug = none := by kernel_rfl
theorem laidOut : laidOutB Try.prog = true := by kernel_rfl

set_option maxRecDepth 100000 in
theorem lifted (os : Os) (started : os.Started) (H : Type) (enc : TypeId × Value → H) :
    ReturnsInHanded {} Try.checked os 4 .any (Rows.blockBackSpec.pre6 enc Try.prog Try.f4 Rows.blockBackRow.domain false) (Rows.blockBackSpec.post enc Try.prog Try.f4 false true false false) := by
  refine returnsInHanded_of_change (C := Try.checked) own started (by kernel_rfl) Try.func4
    (ChangeSpec.witness6 (enc := enc) (C := Try.checked) false ⟨#[], #[.slice none 0 0, .slice none 0 0, .int .i64 0], []⟩ 8 (by kernel_rfl) (by kernel_rfl) (by kernel_rfl) (by kernel_rfl)) ?_
  intro W base args ds gs before hval0 hW hcnd _
  have hval : ∀ (j : Nat) t v, Try.f4.params[j]? = some t → args[j]? = some v → Value.okWide Try.prog W .any base t v := hval0
  have hW' := hW
  obtain ⟨p, q, hA0, hV, rfl, hfz, hnd⟩ := hW
  have hlt : ∀ x ∈ p ++ q, x.block < W.heap.size := fun x hx => hW'.lt x hx
  have hA : DataW.TrodAll enc Try.prog W 0 (fun _ => true) true Try.f4.params.toList args.toList ds p := hA0
  rw [Try.params4] at hA hval
  obtain ⟨v0, vs0, d0, ds0, p0, q0, hargs, rfl, rfl, h0, r0⟩ := trodAll_cons hA
  obtain ⟨v1, vs1, d1, ds1, p1, q1, rfl, rfl, rfl, h1, r1⟩ := trodAll_cons r0
  obtain ⟨v2, vs2, d2, ds2, p2, q2, rfl, rfl, rfl, h2, r2⟩ := trodAll_cons r1
  obtain ⟨rfl, rfl, rfl⟩ := trodAll_nil r2
  obtain rfl : args = #[v0, v1, v2] := by cases args; simp_all
  obtain ⟨rfl, rfl⟩ := trodVars_none hV
  obtain ⟨A0, n0, c0, rfl⟩ := okWide_slice Try.underlying22 (hval 0 22 v0 rfl rfl)
  obtain ⟨ds0l, hl0, hf0, hc0, hm0, ho0, hA0⟩ := open_deeds h0
  subst hl0
  obtain ⟨A1, n1, c1, rfl⟩ := okWide_slice Try.underlying25 (hval 1 25 v1 rfl rfl)
  obtain ⟨ns1, hl1, hn1, hc1, hm1, hr1, hA1⟩ := open_u8s Try.underlying25 Try.underlying5 (by kernel_rfl) h1
  subst hl1
  obtain ⟨a2, rfl, rfl, rfl, w2⟩ := open_int Try.underlying3 (hval 2 3 v2 rfl rfl) h2
  have b2 := i64_fits w2
  clear hA0 hval0
  refine (walk ds0l A0 c0 ns1 A1 c1 a2 W hf0 ho0 hc0 hm0 hA0 (Lies.ofRow hr1) hn1 hc1 hm1 hA1 b2.1 b2.2).mono fun e W' ⟨he, hg⟩ => ?_
  subst he
  exact ⟨_, rfl, law_post laidOut (by kernel_rfl) rfl rfl Try.underlying4 rfl hW' hg⟩

theorem over : Rows.blockBackRow.holds Try.pinned (OpenSpec.ofChange Rows.blockBackSpec) :=
  OpenClaim.holds_of_wide 4 Try.f4 rfl rfl rfl rfl rfl rfl rfl ⟨rfl, rfl, rfl, rfl, rfl⟩ rfl rfl rfl rfl rfl (by kernel_rfl) Try.func4 (by kernel_rfl)
    (of_decide_eq_true (by kernel_rfl)) (by unfold Func.isWrapper; first | (rw [if_pos (by decide +kernel)]; kernel_rfl) | (rw [if_neg (by decide +kernel)]; exact ⟨rfl, rfl⟩))
    (fun os started H enc _ => lifted os started H enc)

/-- The statement. -/
theorem proved : Rows.BlockBackSaid := over
#print axioms proved
end Go.Proofs.Ytokaclacejhppaa.BlockBack
