/- Layer 23 (moot): a number within bounds, a place's motion, whose bit there is, when something is due. By contracts. -/
import Derived.Test.YtcaejanfhchacaaMooM
import Derived.Test.YtcaejanfhchacaaMotW
import Derived.Test.YtcaejanfhchacaaBitC
namespace Go.Proofs.Ytcaejanfhchacaa
open Go.RowKit
set_option linter.unusedVariables false
set_option linter.unusedSimpArgs false

/-- Whether a number is from its least to its most. -/
def inB (n lo hi : Int) : Bool := decide (lo ≤ n) && decide (n ≤ hi)
theorem inB_yes {n lo hi : Int} (h : lo ≤ n ∧ n ≤ hi) : inB n lo hi = true := by simp [inB, h]
theorem inB_no {n lo hi : Int} (h : ¬ (lo ≤ n ∧ n ≤ hi)) : inB n lo hi = false := by
  unfold inB
  by_cases h1 : lo ≤ n
  · have : ¬ n ≤ hi := fun h2 => h ⟨h1, h2⟩
    simp [this]
  · simp [h1]

theorem mwithin_is (n lo hi : Int) (w : World) :
    Calls Try.prog 30 #[.int .i64 n, .int .i64 lo, .int .i64 hi] w fun e w' => e = .returned (.bool (inB n lo hi)) ∧ w = w' := by
  unfold inB
  by_cases h1 : lo ≤ n
  · have d1 : decide (lo ≤ n) = true := decide_eq_true h1
    by_cases h2 : n ≤ hi
    · have d2 : decide (n ≤ hi) = true := decide_eq_true h2
      go_enter Try.func30, Try.ntmps30
      go_wp2
      go_ret
      exact ⟨by simp [d1, d2], rfl⟩
    · have d2 : decide (n ≤ hi) = false := decide_eq_false h2
      go_enter Try.func30, Try.ntmps30
      go_wp2
      go_ret
      exact ⟨by simp [d1, d2], rfl⟩
  · have d1 : decide (lo ≤ n) = false := decide_eq_false h1
    go_enter Try.func30, Try.ntmps30
    go_wp2
    go_ret
    exact ⟨by simp [d1], rfl⟩
theorem rin23_is (n lo hi : Int) (w : World) :
    Calls Try.prog 36 #[.int .i64 n, .int .i64 lo, .int .i64 hi] w fun e w' => e = .returned (.bool (inB n lo hi)) ∧ w = w' := by
  unfold inB
  by_cases h1 : lo ≤ n
  · have d1 : decide (lo ≤ n) = true := decide_eq_true h1
    by_cases h2 : n ≤ hi
    · have d2 : decide (n ≤ hi) = true := decide_eq_true h2
      go_enter Try.func36, Try.ntmps36
      go_wp2
      go_ret
      exact ⟨by simp [d1, d2], rfl⟩
    · have d2 : decide (n ≤ hi) = false := decide_eq_false h2
      go_enter Try.func36, Try.ntmps36
      go_wp2
      go_ret
      exact ⟨by simp [d1, d2], rfl⟩
  · have d1 : decide (lo ≤ n) = false := decide_eq_false h1
    go_enter Try.func36, Try.ntmps36
    go_wp2
    go_ret
    exact ⟨by simp [d1], rfl⟩

/-- Whether votes are long enough for a member's bit. -/
theorem mhas_is (xs : List Nat) (A : Option Addr) (c k : Nat) (w : World) (hk : k ≤ 127) (hx : xs.length ≤ 140737488355328) :
    Calls Try.prog 31 #[.slice A xs.length c, .int .i64 (k : Int)] w fun e w' => e = .returned (.bool (decide (k / 8 < xs.length))) ∧ w = w' := by
  have ks := size_ok (k + 1) w (by omega)
  have e1 : ((k + 1 : Nat) : Int) = (k : Int) + 1 := by omega
  have e2 : (k + 1 + 7) / 8 = k / 8 + 1 := by omega
  rw [e1, e2] at ks
  obtain ⟨q, hq⟩ : ∃ q, k / 8 + 1 = q := ⟨_, rfl⟩
  rw [hq] at ks
  have hd : decide (k / 8 < xs.length) = decide (q ≤ xs.length) := by
    apply decide_eq_decide.2
    omega
  rw [hd]
  by_cases h : q ≤ xs.length
  · have h1 : decide ((q : Int) ≤ (xs.length : Int)) = true := decide_eq_true (by omega)
    rw [decide_eq_true h]
    clear hq hd
    go_enter Try.func31, Try.ntmps31
    go_wp2_with (go_at_call 65; refine ks.mono ?_; clear ks; rintro e w' ⟨rfl, rfl⟩)
    go_ret
    exact ⟨by first | rfl | simp, rfl⟩
  · have h1 : decide ((q : Int) ≤ (xs.length : Int)) = false := decide_eq_false (by omega)
    rw [decide_eq_false h]
    clear hq hd
    go_enter Try.func31, Try.ntmps31
    go_wp2_with (go_at_call 65; refine ks.mono ?_; clear ks; rintro e w' ⟨rfl, rfl⟩)
    go_ret
    exact ⟨by first | rfl | simp, rfl⟩

set_option maxRecDepth 100000 in
set_option maxHeartbeats 1000000 in
theorem at_no (l : List Mot) (A : Option Addr) (c : Nat) (i st y : Int) (w : World) (hl : l.length ≤ 100000) (h : motAt l i = none) :
    Calls Try.prog 29 #[.slice A l.length c, .int .i64 i, .int .i64 st, .int .i64 y] w fun e w' => e = .returned (.tuple #[.agg (Rec.vals Mot.zero), .int .i64 230]) ∧ Below w.heap.size w w' := by
  have hi := motAt_none h
  have kw := fun W => mwithin_is i 0 ((l.length : Int) - 1) W
  rw [inB_no (by omega)] at kw
  have hN : RecAt (w.alloc (.cells (Rec.vals Mot.zero) 40)) w.heap.size (Rec.vals Mot.zero) 40 := RecAt.new _ _ _
  have hB : Below w.heap.size w (w.alloc (.cells (Rec.vals Mot.zero) 40)) := (Below.refl _ _).alloc (Nat.le_refl _) _
  clear hi h
  go_enter Try.func29, Try.ntmps29
  go_wp2_with (first
    | (go_at_call 30; refine (kw _).mono ?_; clear kw; rintro e w' ⟨rfl, rfl⟩)
    | ((with_reducible refine slot_is 16 rfl ?_); refine build_rec 40 _ rfl rfl (Rec.vals Mot.zero) ?_ ?_; · kernel_rfl)
    | (refine store_rec 40 _ _ rfl rfl _ (Rec.vals Mot.zero) (Rec.vals Mot.zero) 40 rfl rfl hN size_mot rfl (Rec.one Mot.zero) ?_; intro w5 hR hb5 hz5 hk5; have hB := hB.trans hb5; clear hz5 hk5 hb5))
  refine bodyPost_ret (res_rec2 _ Try.results29 rfl hR Try.underlying40 size_mot) rfl ⟨by first | rfl | simp, hB⟩

set_option maxRecDepth 100000 in
set_option maxHeartbeats 1000000 in
theorem at_other (l : List Mot) (A : Option Addr) (c : Nat) (j : Nat) (m : Mot) (st y : Int) (w : World) (hm : Mots w A c l) (hl : l.length ≤ 100000) (h : l[j]? = some m) (hs : ¬ m.st = st) :
    Calls Try.prog 29 #[.slice A l.length c, .int .i64 (j : Int), .int .i64 st, .int .i64 y] w fun e w' => e = .returned (.tuple #[.agg (Rec.vals Mot.zero), .int .i64 y]) ∧ Below w.heap.size w w' := by
  have hj := (List.getElem?_eq_some_iff.1 h).1
  have kw := fun W => mwithin_is (j : Int) 0 ((l.length : Int) - 1) W
  rw [inB_yes (by omega)] at kw
  have hjI : (j : Int) < (l.length : Int) := by omega
  have hj0 : (0 : Int) ≤ (j : Int) := by omega
  have b1 : (m.st == st) = false := by simp [hs]
  have b2 : (m.st != st) = true := by simp [hs]
  have HM := Lib.hid hm
  clear hm hs
  go_enter Try.func29, Try.ntmps29
  go_upto_region 1 with fail
  generalize hw0 : World.alloc _ _ = w0
  have hN : RecAt w0 w.heap.size (Rec.vals Mot.zero) 40 := by rw [← hw0]; exact RecAt.new w (Rec.vals Mot.zero) 40
  have hB : Below w.heap.size w w0 := by rw [← hw0]; exact (Below.refl _ _).alloc (Nat.le_refl _) _
  clear hw0
  obtain ⟨a, rfl, hab, hat, hM⟩ := (HM.out.up hB).at h
  have x7 : w0.cell? ⟨(a.add (j * 33)).block, (a.add (j * 33)).off + 30, none⟩ = some (.int .i64 m.st) := hat.fld 29 rfl
  clear h hM hab
  go_wp2_with (first
    | (go_at_call 30; refine (kw _).mono ?_; clear kw; rintro e w' ⟨rfl, rfl⟩)
    | ((with_reducible refine slot_is 24 rfl ?_); refine build_rec 40 _ rfl rfl (Rec.vals Mot.zero) ?_ ?_; · kernel_rfl)
    | (refine store_rec 40 _ _ rfl rfl _ (Rec.vals Mot.zero) (Rec.vals Mot.zero) 40 rfl rfl hN size_mot rfl (Rec.one Mot.zero) ?_; intro w5 hR hb5 hz5 hk5; have hB := hB.trans hb5; clear hz5 hk5 hb5))
  refine bodyPost_ret (res_rec2 _ Try.results29 rfl hR Try.underlying40 size_mot) rfl ⟨by first | rfl | simp, hB⟩

set_option maxRecDepth 100000 in
set_option maxHeartbeats 1000000 in
theorem at_ok (l : List Mot) (A : Option Addr) (c : Nat) (j : Nat) (m : Mot) (y : Int) (w : World) (hm : Mots w A c l) (hl : l.length ≤ 100000) (h : l[j]? = some m) :
    Calls Try.prog 29 #[.slice A l.length c, .int .i64 (j : Int), .int .i64 m.st, .int .i64 y] w fun e w' => e = .returned (.tuple #[.agg (Rec.vals m), .int .i64 0]) ∧ Below w.heap.size w w' := by
  have hj := (List.getElem?_eq_some_iff.1 h).1
  have kw := fun W => mwithin_is (j : Int) 0 ((l.length : Int) - 1) W
  rw [inB_yes (by omega)] at kw
  have hjI : (j : Int) < (l.length : Int) := by omega
  have hj0 : (0 : Int) ≤ (j : Int) := by omega
  have HM := Lib.hid hm
  clear hm
  go_enter Try.func29, Try.ntmps29
  go_upto_region 1 with fail
  generalize hw0 : World.alloc _ _ = w0
  have hN : RecAt w0 w.heap.size (Rec.vals Mot.zero) 40 := by rw [← hw0]; exact RecAt.new w (Rec.vals Mot.zero) 40
  have hB : Below w.heap.size w w0 := by rw [← hw0]; exact (Below.refl _ _).alloc (Nat.le_refl _) _
  clear hw0
  obtain ⟨a, rfl, hab, hat, hM⟩ := (HM.out.up hB).at h
  have x7 : w0.cell? ⟨(a.add (j * 33)).block, (a.add (j * 33)).off + 30, none⟩ = some (.int .i64 m.st) := hat.fld 29 rfl
  clear h hM hab
  go_wp2_with (first
    | (go_at_call 30; refine (kw _).mono ?_; clear kw; rintro e w' ⟨rfl, rfl⟩)
    | ((with_reducible refine slot_is 29 rfl ?_); refine load_rec 40 _ rfl rfl _ (Rec.vals m) rfl hat Try.underlying40 size_mot ?_)
    | (refine store_rec 40 _ _ rfl rfl _ (Rec.vals m) (Rec.vals Mot.zero) 40 rfl rfl hN size_mot rfl (Rec.one m) ?_; intro w5 hR hb5 hz5 hk5; have hB := hB.trans hb5; clear hz5 hk5 hb5))
  refine bodyPost_ret (res_rec2 _ Try.results29 rfl hR Try.underlying40 size_mot) rfl ⟨by first | rfl | simp, hB⟩

/-- When something is due that passes in an epoch. -/
theorem due_is (e n : Int) (w : World) (he : 0 ≤ e ∧ e ≤ 1073741824) (hn : -9223372036854775808 ≤ n ∧ n ≤ 9223372036854775807) :
    Calls Try.prog 57 #[.int .i64 e, .int .i64 n] w fun r w' => r = .returned (.int .i64 (dueOf e n)) ∧ w = w' := by
  unfold dueOf
  by_cases h1 : 0 < n
  · have d1 : decide (0 < n) = true := decide_eq_true h1
    have d2 : decide (n < 0) = false := decide_eq_false (by omega)
    have w1 : IntKind.i64.wrap (2147483647 - n) = 2147483647 - n := IntWalk.i64_in _ (by omega)
    by_cases h2 : 2147483647 - n < e
    · have d3 : decide (2147483647 - n < e) = true := decide_eq_true h2
      rw [Int.min_eq_right (by omega)]
      clear h2 h1
      go_enter Try.func57, Try.ntmps57
      go_wp2
      go_ret
      exact ⟨by first | rfl | simp, rfl⟩
    · have d3 : decide (2147483647 - n < e) = false := decide_eq_false h2
      have w2 : IntKind.i64.wrap (e + n) = e + n := IntWalk.i64_in _ (by omega)
      have h3 : e + n ≤ 2147483647 := by omega
      rw [Int.min_eq_left h3]
      clear h2 h1
      go_enter Try.func57, Try.ntmps57
      go_wp2
      go_ret
      exact ⟨by first | rfl | simp [Int.min_eq_left h3] | (rw [Int.min_eq_left h3]), rfl⟩
  · have d1 : decide (0 < n) = false := decide_eq_false h1
    have w2 : IntKind.i64.wrap (e + n) = e + n := IntWalk.i64_in _ (by omega)
    have h3 : e + n ≤ 2147483647 := by omega
    rw [Int.min_eq_left h3]
    by_cases h2 : n < 0
    · have d2 : decide (n < 0) = true := decide_eq_true h2
      have w1 : IntKind.i64.wrap (-9223372036854775808 - n) = -9223372036854775808 - n := IntWalk.i64_in _ (by omega)
      have d3 : decide (e < -9223372036854775808 - n) = false := decide_eq_false (by omega)
      clear h2 h1
      go_enter Try.func57, Try.ntmps57
      go_wp2
      go_ret
      exact ⟨by first | rfl | simp [Int.min_eq_left h3] | (rw [Int.min_eq_left h3]), rfl⟩
    · have d2 : decide (n < 0) = false := decide_eq_false h2
      clear h2 h1
      go_enter Try.func57, Try.ntmps57
      go_wp2
      go_ret
      exact ⟨by first | rfl | simp [Int.min_eq_left h3] | (rw [Int.min_eq_left h3]), rfl⟩
end Go.Proofs.Ytcaejanfhchacaa
