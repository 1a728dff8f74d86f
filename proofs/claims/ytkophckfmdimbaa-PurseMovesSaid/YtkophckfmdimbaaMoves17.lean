/- Law PurseMoves (P17.1): what is pdrawn, ppaid and pmoved, of any purses, is the document's, or refused; what was handed in stays. No condition. -/
import Derived.Test.YtkophckfmdimbaaRows
import Derived.Test.YtkophckfmdimbaaPurC
namespace Go.Proofs.Ytkophckfmdimbaa.PurseMoves
open Go.ChangeShapes Go.WideShapes Go.ChangeAt Go.RowKit
set_option linter.unusedVariables false
set_option linter.unusedSimpArgs false

theorem Answer.short {xs : List Nat} {l : List Nat} {y : Nat} (h : Answer xs (l, y)) (hl : xs.length ≤ 200) : l.length ≤ maxLen := by
  unfold maxLen
  rcases h with ⟨h, _⟩ | ⟨h, _⟩
  · simp only at h; subst h; simp
  · simp only at h; omega

set_option maxRecDepth 100000 in
set_option maxHeartbeats 2000000 in
theorem walk_lo (xs : List Nat) (A : Option Addr) (c : Nat) (f t : Int) (n : Nat) (l1 l2 l3 : List Nat) (y1 y2 y3 : Nat) (w : World) (hr : Row w w.heap.size A (u64s xs)) (hz : A = none → c = 0) (h200 : xs.length ≤ 200)
    (m1 : l1.length ≤ maxLen) (m2 : l2.length ≤ maxLen) (m3 : l3.length ≤ maxLen)
    (kd : (∀ (A : Option Addr) (c : Nat) (u : World), Row u u.heap.size A (u64s xs) → Calls Try.prog 8 #[.slice A xs.length c, .int .i64 f, .int .u64 (n : Int)] u fun e w' => Lists u (l1, y1) e w'))
    (kp : (∀ (A : Option Addr) (c : Nat) (u : World), Row u u.heap.size A (u64s xs) → Calls Try.prog 9 #[.slice A xs.length c, .int .i64 t, .int .u64 (n : Int)] u fun e w' => Lists u (l2, y2) e w'))
    (km : (∀ (A : Option Addr) (c : Nat) (u : World), Row u u.heap.size A (u64s xs) → Calls Try.prog 10 #[.slice A xs.length c, .int .i64 f, .int .i64 t, .int .u64 (n : Int)] u fun e w' => Lists u (l3, y3) e w'))
    (jd : (∀ (A : Option Addr) (c : Nat) (u : World), Row u u.heap.size A (u64s xs) → Calls Try.prog 12 #[.slice A xs.length c, .int .i64 f, .int .u64 (n : Int)] u fun e w' => Lists u (l1, y1) e w'))
    (jp : (∀ (A : Option Addr) (c : Nat) (u : World), Row u u.heap.size A (u64s xs) → Calls Try.prog 13 #[.slice A xs.length c, .int .i64 t, .int .u64 (n : Int)] u fun e w' => Lists u (l2, y2) e w'))
    (jm : (∀ (A : Option Addr) (c : Nat) (u : World), Row u u.heap.size A (u64s xs) → Calls Try.prog 14 #[.slice A xs.length c, .int .i64 f, .int .i64 t, .int .u64 (n : Int)] u fun e w' => Lists u (l3, y3) e w'))
    (h0 : f < 0) :
    Calls Try.prog 3 #[.slice A xs.length c, .agg #[.int .i64 f, .int .i64 t, .int .u64 (n : Int)]] w fun e w' => e = .returned (.bool true) ∧ Below w.heap.size w w' := by
  have kh : ∀ (A : Option Addr) (c : Nat) (u : World), Row u u.heap.size A (u64s xs) → Calls Try.prog 11 #[.slice A xs.length c, .int .i64 f] u fun e w' => e = .returned (.tuple #[.int .u64 0, .int .i64 170]) ∧ u = w' := fun A c u hr => by
    exact phas_no xs A c f u (by unfold NoPurse; omega)
  have hX := WayAt.new w f t n 25
  have hB : Below w.heap.size w (w.alloc (.cells #[.int .i64 f, .int .i64 t, .int .u64 (n : Int)] 25)) := (Below.refl _ _).alloc (Nat.le_refl _) _
  have hr := (hr.below hB).up hB.size
  have HL : Hid (xs.length ≤ 200) := h200
  have HZ : Hid (A = none → c = 0) := hz
  have M1 : Hid (l1.length ≤ maxLen) := m1
  have M2 : Hid (l2.length ≤ maxLen) := m2
  have M3 : Hid (l3.length ≤ maxLen) := m3
  have KD := Lib.hid kd
  have KP := Lib.hid kp
  have KM := Lib.hid km
  have JD := Lib.hid jd
  have JP := Lib.hid jp
  have JM := Lib.hid jm
  have KH := Lib.hid kh
  have h201 : (xs.length : Int) ≤ 200 := by omega
  clear kd kp km jd jp jm kh m1 m2 m3 hz h200
  go_enter Try.func3, Try.ntmps3
  go_wp2_with (first
    | (go_at_call 6; refine (purse_awake _).mono ?_; rintro e w1 ⟨rfl, hb1⟩; have hr := hr.next hb1; have hX := hX.up hb1; have hB := Below.then hB hb1; clear hb1)
    | (go_at_call 7; refine (own17_is xs _ _ c w1 hr (by have := HL.out; omega) HZ.out).mono ?_; rintro e w2 ⟨v, rfl, hown, hb2⟩; obtain ⟨Ag, cg, rfl, hcg, hmg, hg⟩ := Row.of_own hown; have hr := hr.next hb2; have hX := hX.up hb2; have hB := Below.then hB hb2; clear hb2 hown; have x0 := hX.c0; have x1 := hX.c1; have x2 := hX.c2)
    | (go_at_call 8; refine (KD.out Ag cg w2 hg).mono ?_; clear KD; rintro e w3 ⟨A3, c3, rfl, hc3, hm3, hz3, s1, hb3⟩; clear hc3 hm3 hz3; have hr := hr.next hb3; have hg := hg.next hb3; have hX := hX.up hb3; have hB := Below.then hB hb3; clear hb3; have x0 := hX.c0; have x1 := hX.c1; have x2 := hX.c2)
    | (go_at_call 9; refine (KP.out Ag cg w3 hg).mono ?_; clear KP; rintro e w4 ⟨A4, c4, rfl, hc4, hm4, hz4, s2, hb4⟩; clear hc4 hm4 hz4; have hr := hr.next hb4; have hg := hg.next hb4; have s1 := s1.next hb4; have hX := hX.up hb4; have hB := Below.then hB hb4; clear hb4; have x0 := hX.c0; have x1 := hX.c1; have x2 := hX.c2)
    | (go_at_call 10; refine (KM.out Ag cg w4 hg).mono ?_; clear KM; rintro e w5 ⟨A5, c5, rfl, hc5, hm5, hz5, s3, hb5⟩; clear hc5 hm5 hz5; have hr := hr.next hb5; have hg := hg.next hb5; have s1 := s1.next hb5; have s2 := s2.next hb5; have hX := hX.up hb5; have hB := Below.then hB hb5; clear hb5; have x0 := hX.c0; have x1 := hX.c1; have x2 := hX.c2)
    | (go_at_call 11; refine (KH.out Ag cg w5 hg).mono ?_; clear KH; rintro e w' ⟨rfl, rfl⟩)
    | (go_at_call 12; refine (JD.out A c w5 hr).mono ?_; clear JD; rintro e w6 ⟨A6, c6, rfl, hc6, hm6, hz6, s4, hb6⟩; clear hc6 hm6 hz6; have hr := hr.next hb6; have hg := hg.next hb6; have s1 := s1.next hb6; have s2 := s2.next hb6; have s3 := s3.next hb6; have hX := hX.up hb6; have hB := Below.then hB hb6; clear hb6; have x0 := hX.c0; have x1 := hX.c1; have x2 := hX.c2)
    | (go_at_call 13; refine (JP.out A c w6 hr).mono ?_; clear JP; rintro e w7 ⟨A7, c7, rfl, hc7, hm7, hz7, s5, hb7⟩; clear hc7 hm7 hz7; have hr := hr.next hb7; have hg := hg.next hb7; have s1 := s1.next hb7; have s2 := s2.next hb7; have s3 := s3.next hb7; have s4 := s4.next hb7; have hX := hX.up hb7; have hB := Below.then hB hb7; clear hb7; have x0 := hX.c0; have x1 := hX.c1; have x2 := hX.c2)
    | (go_at_call 14; refine (JM.out A c w7 hr).mono ?_; clear JM; rintro e w8 ⟨A8, c8, rfl, hc8, hm8, hz8, s6, hb8⟩; clear hc8 hm8 hz8; have hr := hr.next hb8; have hg := hg.next hb8; have s1 := s1.next hb8; have s2 := s2.next hb8; have s3 := s3.next hb8; have s4 := s4.next hb8; have s5 := s5.next hb8; have hX := hX.up hb8; have hB := Below.then hB hb8; clear hb8; have x0 := hX.c0; have x1 := hX.c1; have x2 := hX.c2)
    | (go_at_call 15; refine (same_words_true l1 A3 A6 c3 c6 w8 s1 s4 M1.out).mono ?_; rintro e w9 ⟨rfl, hb9⟩; clear s1 s4; have s2 := s2.next hb9; have s3 := s3.next hb9; have s5 := s5.next hb9; have s6 := s6.next hb9; have hr := hr.next hb9; have hg := hg.next hb9; have hB := Below.then hB hb9; clear hb9)
    | (go_at_call 15; refine (same_words_true l2 A4 A7 c4 c7 w9 s2 s5 M2.out).mono ?_; rintro e w10 ⟨rfl, hb10⟩; clear s2 s5; have s3 := s3.next hb10; have s6 := s6.next hb10; have hr := hr.next hb10; have hg := hg.next hb10; have hB := Below.then hB hb10; clear hb10)
    | (go_at_call 15; refine (same_words_true l3 A5 A8 c5 c8 w10 s3 s6 M3.out).mono ?_; rintro e w11 ⟨rfl, hb11⟩; clear s3 s6; have hr := hr.next hb11; have hg := hg.next hb11; have hB := Below.then hB hb11; clear hb11)
    | (go_at_call 15; refine (same_words_true xs Ag A cg c w11 hg hr (by have := HL.out; unfold maxLen; omega)).mono ?_; rintro e w12 ⟨rfl, hb12⟩; clear hg hr; have hB := Below.then hB hb12; clear hb12))
  go_ret
  exact ⟨rfl, hB⟩

set_option maxRecDepth 100000 in
set_option maxHeartbeats 2000000 in
theorem walk_hi (xs : List Nat) (A : Option Addr) (c : Nat) (f t : Int) (n : Nat) (l1 l2 l3 : List Nat) (y1 y2 y3 : Nat) (w : World) (hr : Row w w.heap.size A (u64s xs)) (hz : A = none → c = 0) (h200 : xs.length ≤ 200)
    (m1 : l1.length ≤ maxLen) (m2 : l2.length ≤ maxLen) (m3 : l3.length ≤ maxLen)
    (kd : (∀ (A : Option Addr) (c : Nat) (u : World), Row u u.heap.size A (u64s xs) → Calls Try.prog 8 #[.slice A xs.length c, .int .i64 f, .int .u64 (n : Int)] u fun e w' => Lists u (l1, y1) e w'))
    (kp : (∀ (A : Option Addr) (c : Nat) (u : World), Row u u.heap.size A (u64s xs) → Calls Try.prog 9 #[.slice A xs.length c, .int .i64 t, .int .u64 (n : Int)] u fun e w' => Lists u (l2, y2) e w'))
    (km : (∀ (A : Option Addr) (c : Nat) (u : World), Row u u.heap.size A (u64s xs) → Calls Try.prog 10 #[.slice A xs.length c, .int .i64 f, .int .i64 t, .int .u64 (n : Int)] u fun e w' => Lists u (l3, y3) e w'))
    (jd : (∀ (A : Option Addr) (c : Nat) (u : World), Row u u.heap.size A (u64s xs) → Calls Try.prog 12 #[.slice A xs.length c, .int .i64 f, .int .u64 (n : Int)] u fun e w' => Lists u (l1, y1) e w'))
    (jp : (∀ (A : Option Addr) (c : Nat) (u : World), Row u u.heap.size A (u64s xs) → Calls Try.prog 13 #[.slice A xs.length c, .int .i64 t, .int .u64 (n : Int)] u fun e w' => Lists u (l2, y2) e w'))
    (jm : (∀ (A : Option Addr) (c : Nat) (u : World), Row u u.heap.size A (u64s xs) → Calls Try.prog 14 #[.slice A xs.length c, .int .i64 f, .int .i64 t, .int .u64 (n : Int)] u fun e w' => Lists u (l3, y3) e w'))
    (h0 : ¬ f < 0) (h1 : (xs.length : Int) ≤ f) :
    Calls Try.prog 3 #[.slice A xs.length c, .agg #[.int .i64 f, .int .i64 t, .int .u64 (n : Int)]] w fun e w' => e = .returned (.bool true) ∧ Below w.heap.size w w' := by
  have kh : ∀ (A : Option Addr) (c : Nat) (u : World), Row u u.heap.size A (u64s xs) → Calls Try.prog 11 #[.slice A xs.length c, .int .i64 f] u fun e w' => e = .returned (.tuple #[.int .u64 0, .int .i64 170]) ∧ u = w' := fun A c u hr => by
    exact phas_no xs A c f u (by unfold NoPurse; omega)
  have hX := WayAt.new w f t n 25
  have hB : Below w.heap.size w (w.alloc (.cells #[.int .i64 f, .int .i64 t, .int .u64 (n : Int)] 25)) := (Below.refl _ _).alloc (Nat.le_refl _) _
  have hr := (hr.below hB).up hB.size
  have HL : Hid (xs.length ≤ 200) := h200
  have HZ : Hid (A = none → c = 0) := hz
  have M1 : Hid (l1.length ≤ maxLen) := m1
  have M2 : Hid (l2.length ≤ maxLen) := m2
  have M3 : Hid (l3.length ≤ maxLen) := m3
  have KD := Lib.hid kd
  have KP := Lib.hid kp
  have KM := Lib.hid km
  have JD := Lib.hid jd
  have JP := Lib.hid jp
  have JM := Lib.hid jm
  have KH := Lib.hid kh
  have h201 : (xs.length : Int) ≤ 200 := by omega
  clear kd kp km jd jp jm kh m1 m2 m3 hz h200
  go_enter Try.func3, Try.ntmps3
  go_wp2_with (first
    | (go_at_call 6; refine (purse_awake _).mono ?_; rintro e w1 ⟨rfl, hb1⟩; have hr := hr.next hb1; have hX := hX.up hb1; have hB := Below.then hB hb1; clear hb1)
    | (go_at_call 7; refine (own17_is xs _ _ c w1 hr (by have := HL.out; omega) HZ.out).mono ?_; rintro e w2 ⟨v, rfl, hown, hb2⟩; obtain ⟨Ag, cg, rfl, hcg, hmg, hg⟩ := Row.of_own hown; have hr := hr.next hb2; have hX := hX.up hb2; have hB := Below.then hB hb2; clear hb2 hown; have x0 := hX.c0; have x1 := hX.c1; have x2 := hX.c2)
    | (go_at_call 8; refine (KD.out Ag cg w2 hg).mono ?_; clear KD; rintro e w3 ⟨A3, c3, rfl, hc3, hm3, hz3, s1, hb3⟩; clear hc3 hm3 hz3; have hr := hr.next hb3; have hg := hg.next hb3; have hX := hX.up hb3; have hB := Below.then hB hb3; clear hb3; have x0 := hX.c0; have x1 := hX.c1; have x2 := hX.c2)
    | (go_at_call 9; refine (KP.out Ag cg w3 hg).mono ?_; clear KP; rintro e w4 ⟨A4, c4, rfl, hc4, hm4, hz4, s2, hb4⟩; clear hc4 hm4 hz4; have hr := hr.next hb4; have hg := hg.next hb4; have s1 := s1.next hb4; have hX := hX.up hb4; have hB := Below.then hB hb4; clear hb4; have x0 := hX.c0; have x1 := hX.c1; have x2 := hX.c2)
    | (go_at_call 10; refine (KM.out Ag cg w4 hg).mono ?_; clear KM; rintro e w5 ⟨A5, c5, rfl, hc5, hm5, hz5, s3, hb5⟩; clear hc5 hm5 hz5; have hr := hr.next hb5; have hg := hg.next hb5; have s1 := s1.next hb5; have s2 := s2.next hb5; have hX := hX.up hb5; have hB := Below.then hB hb5; clear hb5; have x0 := hX.c0; have x1 := hX.c1; have x2 := hX.c2)
    | (go_at_call 11; refine (KH.out Ag cg w5 hg).mono ?_; clear KH; rintro e w' ⟨rfl, rfl⟩)
    | (go_at_call 12; refine (JD.out A c w5 hr).mono ?_; clear JD; rintro e w6 ⟨A6, c6, rfl, hc6, hm6, hz6, s4, hb6⟩; clear hc6 hm6 hz6; have hr := hr.next hb6; have hg := hg.next hb6; have s1 := s1.next hb6; have s2 := s2.next hb6; have s3 := s3.next hb6; have hX := hX.up hb6; have hB := Below.then hB hb6; clear hb6; have x0 := hX.c0; have x1 := hX.c1; have x2 := hX.c2)
    | (go_at_call 13; refine (JP.out A c w6 hr).mono ?_; clear JP; rintro e w7 ⟨A7, c7, rfl, hc7, hm7, hz7, s5, hb7⟩; clear hc7 hm7 hz7; have hr := hr.next hb7; have hg := hg.next hb7; have s1 := s1.next hb7; have s2 := s2.next hb7; have s3 := s3.next hb7; have s4 := s4.next hb7; have hX := hX.up hb7; have hB := Below.then hB hb7; clear hb7; have x0 := hX.c0; have x1 := hX.c1; have x2 := hX.c2)
    | (go_at_call 14; refine (JM.out A c w7 hr).mono ?_; clear JM; rintro e w8 ⟨A8, c8, rfl, hc8, hm8, hz8, s6, hb8⟩; clear hc8 hm8 hz8; have hr := hr.next hb8; have hg := hg.next hb8; have s1 := s1.next hb8; have s2 := s2.next hb8; have s3 := s3.next hb8; have s4 := s4.next hb8; have s5 := s5.next hb8; have hX := hX.up hb8; have hB := Below.then hB hb8; clear hb8; have x0 := hX.c0; have x1 := hX.c1; have x2 := hX.c2)
    | (go_at_call 15; refine (same_words_true l1 A3 A6 c3 c6 w8 s1 s4 M1.out).mono ?_; rintro e w9 ⟨rfl, hb9⟩; clear s1 s4; have s2 := s2.next hb9; have s3 := s3.next hb9; have s5 := s5.next hb9; have s6 := s6.next hb9; have hr := hr.next hb9; have hg := hg.next hb9; have hB := Below.then hB hb9; clear hb9)
    | (go_at_call 15; refine (same_words_true l2 A4 A7 c4 c7 w9 s2 s5 M2.out).mono ?_; rintro e w10 ⟨rfl, hb10⟩; clear s2 s5; have s3 := s3.next hb10; have s6 := s6.next hb10; have hr := hr.next hb10; have hg := hg.next hb10; have hB := Below.then hB hb10; clear hb10)
    | (go_at_call 15; refine (same_words_true l3 A5 A8 c5 c8 w10 s3 s6 M3.out).mono ?_; rintro e w11 ⟨rfl, hb11⟩; clear s3 s6; have hr := hr.next hb11; have hg := hg.next hb11; have hB := Below.then hB hb11; clear hb11)
    | (go_at_call 15; refine (same_words_true xs Ag A cg c w11 hg hr (by have := HL.out; unfold maxLen; omega)).mono ?_; rintro e w12 ⟨rfl, hb12⟩; clear hg hr; have hB := Below.then hB hb12; clear hb12))
  go_ret
  exact ⟨rfl, hB⟩

set_option maxRecDepth 100000 in
set_option maxHeartbeats 2000000 in
theorem walk_at (xs : List Nat) (A : Option Addr) (c : Nat) (f t : Int) (n : Nat) (l1 l2 l3 : List Nat) (y1 y2 y3 : Nat) (w : World) (hr : Row w w.heap.size A (u64s xs)) (hz : A = none → c = 0) (h200 : xs.length ≤ 200)
    (m1 : l1.length ≤ maxLen) (m2 : l2.length ≤ maxLen) (m3 : l3.length ≤ maxLen)
    (kd : (∀ (A : Option Addr) (c : Nat) (u : World), Row u u.heap.size A (u64s xs) → Calls Try.prog 8 #[.slice A xs.length c, .int .i64 f, .int .u64 (n : Int)] u fun e w' => Lists u (l1, y1) e w'))
    (kp : (∀ (A : Option Addr) (c : Nat) (u : World), Row u u.heap.size A (u64s xs) → Calls Try.prog 9 #[.slice A xs.length c, .int .i64 t, .int .u64 (n : Int)] u fun e w' => Lists u (l2, y2) e w'))
    (km : (∀ (A : Option Addr) (c : Nat) (u : World), Row u u.heap.size A (u64s xs) → Calls Try.prog 10 #[.slice A xs.length c, .int .i64 f, .int .i64 t, .int .u64 (n : Int)] u fun e w' => Lists u (l3, y3) e w'))
    (jd : (∀ (A : Option Addr) (c : Nat) (u : World), Row u u.heap.size A (u64s xs) → Calls Try.prog 12 #[.slice A xs.length c, .int .i64 f, .int .u64 (n : Int)] u fun e w' => Lists u (l1, y1) e w'))
    (jp : (∀ (A : Option Addr) (c : Nat) (u : World), Row u u.heap.size A (u64s xs) → Calls Try.prog 13 #[.slice A xs.length c, .int .i64 t, .int .u64 (n : Int)] u fun e w' => Lists u (l2, y2) e w'))
    (jm : (∀ (A : Option Addr) (c : Nat) (u : World), Row u u.heap.size A (u64s xs) → Calls Try.prog 14 #[.slice A xs.length c, .int .i64 f, .int .i64 t, .int .u64 (n : Int)] u fun e w' => Lists u (l3, y3) e w'))
    (k x : Nat) (a : Addr) (hA : A = some a) (hk : k < xs.length) (hx : xs[k] = x) (hf : f = (k : Int)) :
    Calls Try.prog 3 #[.slice A xs.length c, .agg #[.int .i64 f, .int .i64 t, .int .u64 (n : Int)]] w fun e w' => e = .returned (.bool true) ∧ Below w.heap.size w w' := by
  have kh : ∀ (A : Option Addr) (c : Nat) (u : World), Row u u.heap.size A (u64s xs) → Calls Try.prog 11 #[.slice A xs.length c, .int .i64 f] u fun e w' => e = .returned (.tuple #[.int .u64 (x : Int), .int .i64 0]) ∧ u = w' := fun A c u hr => by
    subst hf; subst hx
    exact phas_ok xs u.heap.size A c k u hr hk
  subst hA
  subst hf
  have HC : Hid (∀ u : World, Row u u.heap.size (some a) (u64s xs) → u.cell? (a.add k) = some (.int .u64 (x : Int))) := Lib.hid (fun u h => by rw [← hx]; exact h.src _ _ (u64s_get hk))
  have h0 : ¬ (k : Int) < 0 := by omega
  have h1 : (k : Int) < (xs.length : Int) := by omega
  have h2 : (0 : Int) ≤ (k : Int) := by omega
  clear hx hk
  have hX := WayAt.new w (k : Int) t n 25
  have hB : Below w.heap.size w (w.alloc (.cells #[.int .i64 (k : Int), .int .i64 t, .int .u64 (n : Int)] 25)) := (Below.refl _ _).alloc (Nat.le_refl _) _
  have hr := (hr.below hB).up hB.size
  have HL : Hid (xs.length ≤ 200) := h200
  have HZ : Hid ((some a) = none → c = 0) := hz
  have M1 : Hid (l1.length ≤ maxLen) := m1
  have M2 : Hid (l2.length ≤ maxLen) := m2
  have M3 : Hid (l3.length ≤ maxLen) := m3
  have KD := Lib.hid kd
  have KP := Lib.hid kp
  have KM := Lib.hid km
  have JD := Lib.hid jd
  have JP := Lib.hid jp
  have JM := Lib.hid jm
  have KH := Lib.hid kh
  have h201 : (xs.length : Int) ≤ 200 := by omega
  clear kd kp km jd jp jm kh m1 m2 m3 hz h200
  go_enter Try.func3, Try.ntmps3
  go_wp2_with (first
    | (go_at_call 6; refine (purse_awake _).mono ?_; rintro e w1 ⟨rfl, hb1⟩; have hr := hr.next hb1; have hX := hX.up hb1; have hB := Below.then hB hb1; clear hb1)
    | (go_at_call 7; refine (own17_is xs _ _ c w1 hr (by have := HL.out; omega) HZ.out).mono ?_; rintro e w2 ⟨v, rfl, hown, hb2⟩; obtain ⟨Ag, cg, rfl, hcg, hmg, hg⟩ := Row.of_own hown; have hr := hr.next hb2; have hX := hX.up hb2; have hB := Below.then hB hb2; clear hb2 hown; have x0 := hX.c0; have x1 := hX.c1; have x2 := hX.c2)
    | (go_at_call 8; refine (KD.out Ag cg w2 hg).mono ?_; clear KD; rintro e w3 ⟨A3, c3, rfl, hc3, hm3, hz3, s1, hb3⟩; clear hc3 hm3 hz3; have hr := hr.next hb3; have hg := hg.next hb3; have hX := hX.up hb3; have hB := Below.then hB hb3; clear hb3; have x0 := hX.c0; have x1 := hX.c1; have x2 := hX.c2)
    | (go_at_call 9; refine (KP.out Ag cg w3 hg).mono ?_; clear KP; rintro e w4 ⟨A4, c4, rfl, hc4, hm4, hz4, s2, hb4⟩; clear hc4 hm4 hz4; have hr := hr.next hb4; have hg := hg.next hb4; have s1 := s1.next hb4; have hX := hX.up hb4; have hB := Below.then hB hb4; clear hb4; have x0 := hX.c0; have x1 := hX.c1; have x2 := hX.c2)
    | (go_at_call 10; refine (KM.out Ag cg w4 hg).mono ?_; clear KM; rintro e w5 ⟨A5, c5, rfl, hc5, hm5, hz5, s3, hb5⟩; clear hc5 hm5 hz5; have hr := hr.next hb5; have hg := hg.next hb5; have s1 := s1.next hb5; have s2 := s2.next hb5; have hX := hX.up hb5; have hB := Below.then hB hb5; clear hb5; have x0 := hX.c0; have x1 := hX.c1; have x2 := hX.c2)
    | (go_at_call 11; refine (KH.out Ag cg w5 hg).mono ?_; clear KH; rintro e w' ⟨rfl, rfl⟩)
    | (go_at_call 12; refine (JD.out (some a) c w5 hr).mono ?_; clear JD; rintro e w6 ⟨A6, c6, rfl, hc6, hm6, hz6, s4, hb6⟩; clear hc6 hm6 hz6; have hr := hr.next hb6; have hg := hg.next hb6; have s1 := s1.next hb6; have s2 := s2.next hb6; have s3 := s3.next hb6; have hX := hX.up hb6; have hB := Below.then hB hb6; clear hb6; have x0 := hX.c0; have x1 := hX.c1; have x2 := hX.c2)
    | (go_at_call 13; refine (JP.out (some a) c w6 hr).mono ?_; clear JP; rintro e w7 ⟨A7, c7, rfl, hc7, hm7, hz7, s5, hb7⟩; clear hc7 hm7 hz7; have hr := hr.next hb7; have hg := hg.next hb7; have s1 := s1.next hb7; have s2 := s2.next hb7; have s3 := s3.next hb7; have s4 := s4.next hb7; have hX := hX.up hb7; have hB := Below.then hB hb7; clear hb7; have x0 := hX.c0; have x1 := hX.c1; have x2 := hX.c2)
    | (go_at_call 14; refine (JM.out (some a) c w7 hr).mono ?_; clear JM; rintro e w8 ⟨A8, c8, rfl, hc8, hm8, hz8, s6, hb8⟩; clear hc8 hm8 hz8; have hr := hr.next hb8; have hg := hg.next hb8; have s1 := s1.next hb8; have s2 := s2.next hb8; have s3 := s3.next hb8; have s4 := s4.next hb8; have s5 := s5.next hb8; have hX := hX.up hb8; have hB := Below.then hB hb8; clear hb8; have x0 := hX.c0; have x1 := hX.c1; have x2 := hX.c2; have hcx := HC.out w8 hr)
    | (go_at_call 15; refine (same_words_true l1 A3 A6 c3 c6 w8 s1 s4 M1.out).mono ?_; rintro e w9 ⟨rfl, hb9⟩; clear s1 s4; have s2 := s2.next hb9; have s3 := s3.next hb9; have s5 := s5.next hb9; have s6 := s6.next hb9; have hr := hr.next hb9; have hg := hg.next hb9; have hB := Below.then hB hb9; clear hb9)
    | (go_at_call 15; refine (same_words_true l2 A4 A7 c4 c7 w9 s2 s5 M2.out).mono ?_; rintro e w10 ⟨rfl, hb10⟩; clear s2 s5; have s3 := s3.next hb10; have s6 := s6.next hb10; have hr := hr.next hb10; have hg := hg.next hb10; have hB := Below.then hB hb10; clear hb10)
    | (go_at_call 15; refine (same_words_true l3 A5 A8 c5 c8 w10 s3 s6 M3.out).mono ?_; rintro e w11 ⟨rfl, hb11⟩; clear s3 s6; have hr := hr.next hb11; have hg := hg.next hb11; have hB := Below.then hB hb11; clear hb11)
    | (go_at_call 15; refine (same_words_true xs Ag (some a) cg c w11 hg hr (by have := HL.out; unfold maxLen; omega)).mono ?_; rintro e w12 ⟨rfl, hb12⟩; clear hg hr; have hB := Below.then hB hb12; clear hb12))
  go_ret
  exact ⟨rfl, hB⟩

set_option maxRecDepth 100000 in
theorem walk_big (xs : List Nat) (A : Option Addr) (c : Nat) (f t : Int) (n : Nat) (w : World) (h : 200 < xs.length) (hl : xs.length ≤ 9223372036854775807) :
    Calls Try.prog 3 #[.slice A xs.length c, .agg #[.int .i64 f, .int .i64 t, .int .u64 (n : Int)]] w fun e w' => e = .returned (.bool true) ∧ Below w.heap.size w w' := by
  have hB : Below w.heap.size w (w.alloc (.cells #[.int .i64 f, .int .i64 t, .int .u64 (n : Int)] 25)) := (Below.refl _ _).alloc (Nat.le_refl _) _
  go_enter Try.func3, Try.ntmps3
  go_wp2_with (go_at_call 6; refine (purse_awake _).mono ?_; rintro e w1 ⟨rfl, hb1⟩)
  go_ret
  exact ⟨rfl, Below.then hB hb1⟩

theorem walk (xs : List Nat) (A : Option Addr) (c : Nat) (f t : Int) (n : Nat) (w : World) (hr : Row w w.heap.size A (u64s xs)) (hx : ∀ x ∈ xs, x ≤ 18446744073709551615) (hc : xs.length ≤ c) (hm : c ≤ maxLen) (hz : A = none → c = 0) (hn : n ≤ 18446744073709551615) :
    Calls Try.prog 3 #[.slice A xs.length c, .agg #[.int .i64 f, .int .i64 t, .int .u64 (n : Int)]] w fun e w' => e = .returned (.bool true) ∧ Below w.heap.size w w' := by
  unfold maxLen at hm
  by_cases h : 200 < xs.length
  · exact walk_big xs A c f t n w h (by omega)
  · have hl : xs.length ≤ 200 := by omega
    have a1 := pdrawn_answer xs f n
    have a2 := ppaid_answer xs t n
    have a3 := pmoved_answer xs f t n
    have k1 : ∀ (A : Option Addr) (c : Nat) (u : World), Row u u.heap.size A (u64s xs) → Calls Try.prog 8 #[.slice A xs.length c, .int .i64 f, .int .u64 (n : Int)] u fun e w' => Lists u (pdrawn xs f n) e w' := fun A c u h => pdraw_is xs f n A c u h (by omega) hx
    have k2 : ∀ (A : Option Addr) (c : Nat) (u : World), Row u u.heap.size A (u64s xs) → Calls Try.prog 9 #[.slice A xs.length c, .int .i64 t, .int .u64 (n : Int)] u fun e w' => Lists u (ppaid xs t n) e w' := fun A c u h => ppay_is xs t n A c u h (by omega) hx hn
    have k3 : ∀ (A : Option Addr) (c : Nat) (u : World), Row u u.heap.size A (u64s xs) → Calls Try.prog 10 #[.slice A xs.length c, .int .i64 f, .int .i64 t, .int .u64 (n : Int)] u fun e w' => Lists u (pmoved xs f t n) e w' := fun A c u h => pmove_is xs f t n A c u h (by omega) hx hn
    have j1 : ∀ (A : Option Addr) (c : Nat) (u : World), Row u u.heap.size A (u64s xs) → Calls Try.prog 12 #[.slice A xs.length c, .int .i64 f, .int .u64 (n : Int)] u fun e w' => Lists u (pdrawn xs f n) e w' := fun A c u h => rpdraw_is xs f n A c u h (by omega) hx
    have j2 : ∀ (A : Option Addr) (c : Nat) (u : World), Row u u.heap.size A (u64s xs) → Calls Try.prog 13 #[.slice A xs.length c, .int .i64 t, .int .u64 (n : Int)] u fun e w' => Lists u (ppaid xs t n) e w' := fun A c u h => rppay_is xs t n A c u h (by omega) hx hn
    have j3 : ∀ (A : Option Addr) (c : Nat) (u : World), Row u u.heap.size A (u64s xs) → Calls Try.prog 14 #[.slice A xs.length c, .int .i64 f, .int .i64 t, .int .u64 (n : Int)] u fun e w' => Lists u (pmoved xs f t n) e w' := fun A c u h => rpmove_is xs f t n A c u h (by omega) hx hn
    obtain ⟨⟨l1, y1⟩, e1⟩ : ∃ r, pdrawn xs f n = r := ⟨_, rfl⟩
    obtain ⟨⟨l2, y2⟩, e2⟩ : ∃ r, ppaid xs t n = r := ⟨_, rfl⟩
    obtain ⟨⟨l3, y3⟩, e3⟩ : ∃ r, pmoved xs f t n = r := ⟨_, rfl⟩
    rw [e1] at a1 k1 j1
    rw [e2] at a2 k2 j2
    rw [e3] at a3 k3 j3
    by_cases h0 : f < 0
    · exact walk_lo xs A c f t n l1 l2 l3 y1 y2 y3 w hr hz hl (Answer.short a1 hl) (Answer.short a2 hl) (Answer.short a3 hl) k1 k2 k3 j1 j2 j3 h0
    · by_cases h1 : (xs.length : Int) ≤ f
      · exact walk_hi xs A c f t n l1 l2 l3 y1 y2 y3 w hr hz hl (Answer.short a1 hl) (Answer.short a2 hl) (Answer.short a3 hl) k1 k2 k3 j1 j2 j3 h0 h1
      · obtain ⟨k, rfl⟩ := Int.eq_ofNat_of_zero_le (show 0 ≤ f by omega)
        have hk : k < xs.length := by omega
        obtain ⟨a, hA, _⟩ := hr.word hk
        exact walk_at xs A c (k : Int) t n l1 l2 l3 y1 y2 y3 w hr hz hl (Answer.short a1 hl) (Answer.short a2 hl) (Answer.short a3 hl) k1 k2 k3 j1 j2 j3 k xs[k] a hA hk rfl rfl

theorem own : ownKnob Try.prog.godebug = none := by kernel_rfl
theorem laidOut : laidOutB Try.prog = true := by kernel_rfl

set_option maxRecDepth 100000 in
theorem lifted (os : Os) (started : os.Started) (H : Type) (enc : TypeId × Value → H) :
    ReturnsInHanded {} Try.checked os 3 .any (Rows.purseMovesSpec.pre6 enc Try.prog Try.f3 Rows.purseMovesRow.domain false) (Rows.purseMovesSpec.post enc Try.prog Try.f3 false true false false) := by
  refine returnsInHanded_of_change (C := Try.checked) own started (by kernel_rfl) Try.func3
    (ChangeSpec.witness6 (enc := enc) (C := Try.checked) false ⟨#[], #[.slice none 0 0, .agg #[.int .i64 0, .int .i64 0, .int .u64 0]], []⟩ 8 (by kernel_rfl) (by kernel_rfl) (by kernel_rfl) (by kernel_rfl)) ?_
  intro W base args ds gs before hval0 hW hcnd _
  have hval : ∀ (j : Nat) t v, Try.f3.params[j]? = some t → args[j]? = some v → Value.okWide Try.prog W .any base t v := hval0
  have hW' := hW
  obtain ⟨p, q, hA0, hV, rfl, hfz, hnd⟩ := hW
  have hlt : ∀ x ∈ p ++ q, x.block < W.heap.size := fun x hx => hW'.lt x hx
  have hA : DataW.TrodAll enc Try.prog W 0 (fun _ => true) true Try.f3.params.toList args.toList ds p := hA0
  rw [Try.params3] at hA hval
  obtain ⟨v0, vs0, d0, ds0, p0, q0, hargs, rfl, rfl, h0, r0⟩ := trodAll_cons hA
  obtain ⟨v1, vs1, d1, ds1, p1, q1, rfl, rfl, rfl, h1, r1⟩ := trodAll_cons r0
  obtain ⟨rfl, rfl, rfl⟩ := trodAll_nil r1
  obtain rfl : args = #[v0, v1] := by cases args; simp_all
  obtain ⟨rfl, rfl⟩ := trodVars_none hV
  obtain ⟨A0, n0, c0, rfl⟩ := okWide_slice Try.underlying22 (hval 0 22 v0 rfl rfl)
  obtain ⟨l0, hl0, hf0, hc0, hm0, hz0, hr0⟩ := open_words Try.underlying22 Try.underlying23 (by kernel_rfl) h0
  subst hl0
  obtain ⟨f1, t1, n1, rfl, hn1⟩ := open_way (hval 1 25 v1 rfl rfl) h1
  clear hA0 hval0
  refine (walk l0 A0 c0 f1 t1 n1 W hr0 hf0 hc0 hm0 hz0 hn1).mono fun e W' ⟨he, hg⟩ => ?_
  subst he
  exact ⟨_, rfl, law_post laidOut (by kernel_rfl) rfl rfl Try.underlying4 rfl hW' hg⟩

theorem over : Rows.purseMovesRow.holds Try.pinned (OpenSpec.ofChange Rows.purseMovesSpec) :=
  OpenClaim.holds_of_wide 3 Try.f3 rfl rfl rfl rfl rfl rfl rfl ⟨rfl, rfl, rfl, rfl, rfl⟩ rfl rfl rfl rfl rfl (by kernel_rfl) Try.func3 (by kernel_rfl)
    (of_decide_eq_true (by kernel_rfl)) (by unfold Func.isWrapper; first | (rw [if_pos (by decide +kernel)]; kernel_rfl) | (rw [if_neg (by decide +kernel)]; exact ⟨rfl, rfl⟩))
    (fun os started H enc _ => lifted os started H enc)

/-- The statement. -/
theorem proved : Rows.PurseMovesSaid := over
#print axioms proved
end Go.Proofs.Ytkophckfmdimbaa.PurseMoves
