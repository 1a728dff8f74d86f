/- Layer 23 (moot): the document's: what passes, motions counted. By contracts. -/
import Derived.Test.YtcaejanfhchacaaMooC
import Derived.Test.YtcaejanfhchacaaMooW
import Derived.Test.YtcaejanfhchacaaMooR
import Derived.Test.YtcaejanfhchacaaBalR
import Derived.Test.YtcaejanfhchacaaNum
import Derived.Test.YtcaejanfhchacaaSeqV
import Derived.Test.YtcaejanfhchacaaParL
namespace Go.Proofs.Ytcaejanfhchacaa
open Go.RowKit
set_option linter.unusedVariables false
set_option linter.unusedSimpArgs false

theorem num_plus (a b : Nat) (va vb : Value) (w : World) (ha : Num a va w) (hb : Num b vb w) (hla : a ≤ 1000000000000000000000000000) (hlb : b ≤ 1000000000000000000000000000) :
    Calls Try.prog 98 #[va, vb] w fun e w' => ∃ v, e = .returned v ∧ Num (a + b) v w' ∧ Below w.heap.size w w' :=
  (add_nat a b va vb _ w ha hb (Nat.le_refl _) (digs_small hla) (digs_small hlb)).mono (by rintro e w' ⟨v, h1, h2, _, h3⟩; exact ⟨v, h1, h2, h3⟩)
theorem num_times (a b : Nat) (va vb : Value) (w : World) (ha : Num a va w) (hb : Num b vb w) (hla : a ≤ 1000000000000000000000000000) (hlb : b ≤ 1000000000000000000000000000) :
    Calls Try.prog 90 #[va, vb] w fun e w' => ∃ v, e = .returned v ∧ Num (a * b) v w' ∧ Below w.heap.size w w' :=
  (mul_nat a b va vb _ w ha hb (Nat.le_refl _) (Nat.le_trans (digs_len (k := 28) (by omega)) (by omega)) (Nat.le_trans (digs_len (k := 28) (by omega)) (by omega))).mono (by rintro e w' ⟨v, h1, h2, _, h3⟩; exact ⟨v, h1, h2, h3⟩)

set_option maxRecDepth 100000 in
set_option maxHeartbeats 2000000 in
theorem rpasses_over (q : Int) (y n t : Nat) (w : World) (hy : y ≤ 18446744073709551615) (hn : n ≤ 18446744073709551615) (ht : t ≤ 18446744073709551615) (h : ¬ y + n ≤ 18446744073709551615) :
    Calls Try.prog 61 #[.int .i64 q, .int .u64 (y : Int), .int .u64 (n : Int), .int .u64 (t : Int)] w fun e w' => e = .returned (.bool false) ∧ Below w.heap.size w w' := by
  have KY := Lib.hid (fun (W : World) => num_word y W hy)
  have KN := Lib.hid (fun (W : World) => num_word n W hn)
  have KA := Lib.hid (fun (va vb : Value) (W : World) (ha : Num y va W) (hb : Num n vb W) => num_plus y n va vb W ha hb (by omega) (by omega))
  have KU := Lib.hid (fun (v : Value) (W : World) (h : Num (y + n) v W) => num_uint (y + n) v W h)
  obtain ⟨tb, htb⟩ : ∃ x, tx (y + n) = x := ⟨_, rfl⟩
  rw [htb] at KU
  have g1 : decide (y + n ≤ 18446744073709551615) = false := decide_eq_false h
  rw [g1] at KU
  clear h htb g1 hy hn ht
  go_enter Try.func61, Try.ntmps61
  go_wp2_with (first
    | (go_at_call 91; refine (KY.out _).mono ?_; clear KY; rintro e w1 ⟨v1, rfl, hv1, hb⟩; have hB := hb; clear hb)
    | (go_at_call 91; refine (KN.out _).mono ?_; clear KN; rintro e w2 ⟨v2, rfl, hv2, hb⟩; have hv1 := hv1.up hb; have hB := Below.then hB hb; clear hb)
    | (go_at_call 98; refine (KA.out _ _ _ hv1 hv2).mono ?_; clear KA hv1 hv2; rintro e w3 ⟨v3, rfl, hv3, hb⟩; obtain ⟨A3, c3, e3, h3⟩ := id hv3; obtain ⟨n3, hn3⟩ : ∃ n3, (digs (y + n)).length = n3 := ⟨_, rfl⟩; rw [hn3] at e3; subst e3; have hB := Below.then hB hb; clear hb h3 hn3)
    | (refine store_rec 109 _ _ rfl rfl _ #[.slice A3 n3 c3] #[.slice none 0 0] 109 rfl rfl (RecAt.new _ _ _) size_nat21 rfl (one_slice _ _ _) ?_; intro w4 hS hb hz4 hk4; clear hz4 hk4; have hb := rec_made (Below.refl _ _) hb; have hv3 := hv3.up hb; have hB := Below.then hB hb; clear hb)
    | ((with_reducible refine slot_is 20 rfl ?_); refine load_rec 109 _ rfl rfl _ #[.slice A3 n3 c3] rfl hS.lies Try.underlying109 size_nat21 ?_)
    | (go_at_call 58; refine (KU.out _ _ hv3).mono ?_; clear KU; rintro e w5 ⟨rfl, hb⟩; have hS := hS.up hb; have hv3 := hv3.up hb; have hB := Below.then hB hb; clear hb))
  go_ret
  exact ⟨by first | rfl | simp, hB⟩

set_option maxRecDepth 100000 in
set_option maxHeartbeats 2000000 in
theorem rpasses_none (q : Int) (y n t : Nat) (w : World) (hy : y ≤ 18446744073709551615) (hn : n ≤ 18446744073709551615) (ht : t ≤ 18446744073709551615) (h : y + n ≤ 18446744073709551615) (h0 : t = 0) :
    Calls Try.prog 61 #[.int .i64 q, .int .u64 (y : Int), .int .u64 (n : Int), .int .u64 (t : Int)] w fun e w' => e = .returned (.bool false) ∧ Below w.heap.size w w' := by
  have KY := Lib.hid (fun (W : World) => num_word y W hy)
  have KN := Lib.hid (fun (W : World) => num_word n W hn)
  have KA := Lib.hid (fun (va vb : Value) (W : World) (ha : Num y va W) (hb : Num n vb W) => num_plus y n va vb W ha hb (by omega) (by omega))
  have KU := Lib.hid (fun (v : Value) (W : World) (h : Num (y + n) v W) => num_uint (y + n) v W h)
  obtain ⟨tb, htb⟩ : ∃ x, tx (y + n) = x := ⟨_, rfl⟩
  rw [htb] at KU
  have g1 : decide (y + n ≤ 18446744073709551615) = true := decide_eq_true h
  rw [g1] at KU
  subst h0
  rw [show ((0 : Nat) : Int) = 0 from rfl]
  clear h htb g1 hy hn ht
  go_enter Try.func61, Try.ntmps61
  go_wp2_with (first
    | (go_at_call 91; refine (KY.out _).mono ?_; clear KY; rintro e w1 ⟨v1, rfl, hv1, hb⟩; have hB := hb; clear hb)
    | (go_at_call 91; refine (KN.out _).mono ?_; clear KN; rintro e w2 ⟨v2, rfl, hv2, hb⟩; have hv1 := hv1.up hb; have hB := Below.then hB hb; clear hb)
    | (go_at_call 98; refine (KA.out _ _ _ hv1 hv2).mono ?_; clear KA hv1 hv2; rintro e w3 ⟨v3, rfl, hv3, hb⟩; obtain ⟨A3, c3, e3, h3⟩ := id hv3; obtain ⟨n3, hn3⟩ : ∃ n3, (digs (y + n)).length = n3 := ⟨_, rfl⟩; rw [hn3] at e3; subst e3; have hB := Below.then hB hb; clear hb h3 hn3)
    | (refine store_rec 109 _ _ rfl rfl _ #[.slice A3 n3 c3] #[.slice none 0 0] 109 rfl rfl (RecAt.new _ _ _) size_nat21 rfl (one_slice _ _ _) ?_; intro w4 hS hb hz4 hk4; clear hz4 hk4; have hb := rec_made (Below.refl _ _) hb; have hv3 := hv3.up hb; have hB := Below.then hB hb; clear hb)
    | ((with_reducible refine slot_is 20 rfl ?_); refine load_rec 109 _ rfl rfl _ #[.slice A3 n3 c3] rfl hS.lies Try.underlying109 size_nat21 ?_)
    | (go_at_call 58; refine (KU.out _ _ hv3).mono ?_; clear KU; rintro e w5 ⟨rfl, hb⟩; have hS := hS.up hb; have hv3 := hv3.up hb; have hB := Below.then hB hb; clear hb))
  go_ret
  exact ⟨by first | rfl | simp, hB⟩

set_option maxRecDepth 100000 in
set_option maxHeartbeats 2000000 in
theorem rpasses_few (q : Int) (y n t : Nat) (w : World) (hy : y ≤ 18446744073709551615) (hn : n ≤ 18446744073709551615) (ht : t ≤ 18446744073709551615) (h : y + n ≤ 18446744073709551615) (h0 : 0 < t) (h1 : y ≤ n) :
    Calls Try.prog 61 #[.int .i64 q, .int .u64 (y : Int), .int .u64 (n : Int), .int .u64 (t : Int)] w fun e w' => e = .returned (.bool false) ∧ Below w.heap.size w w' := by
  have KY := Lib.hid (fun (W : World) => num_word y W hy)
  have KN := Lib.hid (fun (W : World) => num_word n W hn)
  have KA := Lib.hid (fun (va vb : Value) (W : World) (ha : Num y va W) (hb : Num n vb W) => num_plus y n va vb W ha hb (by omega) (by omega))
  have KU := Lib.hid (fun (v : Value) (W : World) (h : Num (y + n) v W) => num_uint (y + n) v W h)
  obtain ⟨tb, htb⟩ : ∃ x, tx (y + n) = x := ⟨_, rfl⟩
  rw [htb] at KU
  have g1 : decide (y + n ≤ 18446744073709551615) = true := decide_eq_true h
  rw [g1] at KU
  have z1 : ((t : Int) == 0) = false := by simp; omega
  have z2 : (t == 0) = false := by simp; omega
  have d1 : decide ((y : Int) ≤ (n : Int)) = true := decide_eq_true (by omega)
  have d2 : decide (y ≤ n) = true := decide_eq_true h1
  clear h h0 h1 htb g1 hy hn ht
  go_enter Try.func61, Try.ntmps61
  go_wp2_with (first
    | (go_at_call 91; refine (KY.out _).mono ?_; clear KY; rintro e w1 ⟨v1, rfl, hv1, hb⟩; have hB := hb; clear hb)
    | (go_at_call 91; refine (KN.out _).mono ?_; clear KN; rintro e w2 ⟨v2, rfl, hv2, hb⟩; have hv1 := hv1.up hb; have hB := Below.then hB hb; clear hb)
    | (go_at_call 98; refine (KA.out _ _ _ hv1 hv2).mono ?_; clear KA hv1 hv2; rintro e w3 ⟨v3, rfl, hv3, hb⟩; obtain ⟨A3, c3, e3, h3⟩ := id hv3; obtain ⟨n3, hn3⟩ : ∃ n3, (digs (y + n)).length = n3 := ⟨_, rfl⟩; rw [hn3] at e3; subst e3; have hB := Below.then hB hb; clear hb h3 hn3)
    | (refine store_rec 109 _ _ rfl rfl _ #[.slice A3 n3 c3] #[.slice none 0 0] 109 rfl rfl (RecAt.new _ _ _) size_nat21 rfl (one_slice _ _ _) ?_; intro w4 hS hb hz4 hk4; clear hz4 hk4; have hb := rec_made (Below.refl _ _) hb; have hv3 := hv3.up hb; have hB := Below.then hB hb; clear hb)
    | ((with_reducible refine slot_is 20 rfl ?_); refine load_rec 109 _ rfl rfl _ #[.slice A3 n3 c3] rfl hS.lies Try.underlying109 size_nat21 ?_)
    | (go_at_call 58; refine (KU.out _ _ hv3).mono ?_; clear KU; rintro e w5 ⟨rfl, hb⟩; have hS := hS.up hb; have hv3 := hv3.up hb; have hB := Below.then hB hb; clear hb))
  go_ret
  exact ⟨by first | rfl | simp, hB⟩

set_option maxRecDepth 100000 in
set_option maxHeartbeats 2000000 in
theorem rpasses_minus (q : Int) (y n t : Nat) (w : World) (hy : y ≤ 18446744073709551615) (hn : n ≤ 18446744073709551615) (ht : t ≤ 18446744073709551615) (h : y + n ≤ 18446744073709551615) (h0 : 0 < t) (h1 : n < y) (h2 : q < 0) :
    Calls Try.prog 61 #[.int .i64 q, .int .u64 (y : Int), .int .u64 (n : Int), .int .u64 (t : Int)] w fun e w' => e = .returned (.bool false) ∧ Below w.heap.size w w' := by
  have KY := Lib.hid (fun (W : World) => num_word y W hy)
  have KN := Lib.hid (fun (W : World) => num_word n W hn)
  have KA := Lib.hid (fun (va vb : Value) (W : World) (ha : Num y va W) (hb : Num n vb W) => num_plus y n va vb W ha hb (by omega) (by omega))
  have KU := Lib.hid (fun (v : Value) (W : World) (h : Num (y + n) v W) => num_uint (y + n) v W h)
  obtain ⟨tb, htb⟩ : ∃ x, tx (y + n) = x := ⟨_, rfl⟩
  rw [htb] at KU
  have g1 : decide (y + n ≤ 18446744073709551615) = true := decide_eq_true h
  rw [g1] at KU
  have z1 : ((t : Int) == 0) = false := by simp; omega
  have z2 : (t == 0) = false := by simp; omega
  have d1 : decide ((y : Int) ≤ (n : Int)) = false := decide_eq_false (by omega)
  have d2 : decide (y ≤ n) = false := decide_eq_false (by omega)
  have d3 : decide (q < 0) = true := decide_eq_true h2
  clear h h0 h1 h2 htb g1 hy hn ht
  go_enter Try.func61, Try.ntmps61
  go_wp2_with (first
    | (go_at_call 91; refine (KY.out _).mono ?_; clear KY; rintro e w1 ⟨v1, rfl, hv1, hb⟩; have hB := hb; clear hb)
    | (go_at_call 91; refine (KN.out _).mono ?_; clear KN; rintro e w2 ⟨v2, rfl, hv2, hb⟩; have hv1 := hv1.up hb; have hB := Below.then hB hb; clear hb)
    | (go_at_call 98; refine (KA.out _ _ _ hv1 hv2).mono ?_; clear KA hv1 hv2; rintro e w3 ⟨v3, rfl, hv3, hb⟩; obtain ⟨A3, c3, e3, h3⟩ := id hv3; obtain ⟨n3, hn3⟩ : ∃ n3, (digs (y + n)).length = n3 := ⟨_, rfl⟩; rw [hn3] at e3; subst e3; have hB := Below.then hB hb; clear hb h3 hn3)
    | (refine store_rec 109 _ _ rfl rfl _ #[.slice A3 n3 c3] #[.slice none 0 0] 109 rfl rfl (RecAt.new _ _ _) size_nat21 rfl (one_slice _ _ _) ?_; intro w4 hS hb hz4 hk4; clear hz4 hk4; have hb := rec_made (Below.refl _ _) hb; have hv3 := hv3.up hb; have hB := Below.then hB hb; clear hb)
    | ((with_reducible refine slot_is 20 rfl ?_); refine load_rec 109 _ rfl rfl _ #[.slice A3 n3 c3] rfl hS.lies Try.underlying109 size_nat21 ?_)
    | (go_at_call 58; refine (KU.out _ _ hv3).mono ?_; clear KU; rintro e w5 ⟨rfl, hb⟩; have hS := hS.up hb; have hv3 := hv3.up hb; have hB := Below.then hB hb; clear hb))
  go_ret
  exact ⟨by first | rfl | simp, hB⟩

set_option maxRecDepth 100000 in
set_option maxHeartbeats 2000000 in
theorem rpasses_weigh (q : Int) (y n t : Nat) (w : World) (hy : y ≤ 18446744073709551615) (hn : n ≤ 18446744073709551615) (ht : t ≤ 18446744073709551615) (h : y + n ≤ 18446744073709551615) (h0 : 0 < t) (h1 : n < y) (h2 : 0 ≤ q) (h3q : q ≤ 9223372036854775807) :
    Calls Try.prog 61 #[.int .i64 q, .int .u64 (y : Int), .int .u64 (n : Int), .int .u64 (t : Int)] w fun e w' => e = .returned (.bool (!decide ((y + n) * 10000 < q.toNat * t))) ∧ Below w.heap.size w w' := by
  have KY := Lib.hid (fun (W : World) => num_word y W hy)
  have KN := Lib.hid (fun (W : World) => num_word n W hn)
  have KA := Lib.hid (fun (va vb : Value) (W : World) (ha : Num y va W) (hb : Num n vb W) => num_plus y n va vb W ha hb (by omega) (by omega))
  have KU := Lib.hid (fun (v : Value) (W : World) (h : Num (y + n) v W) => num_uint (y + n) v W h)
  obtain ⟨tb, htb⟩ : ∃ x, tx (y + n) = x := ⟨_, rfl⟩
  rw [htb] at KU
  have g1 : decide (y + n ≤ 18446744073709551615) = true := decide_eq_true h
  rw [g1] at KU
  have z1 : ((t : Int) == 0) = false := by simp; omega
  have z2 : (t == 0) = false := by simp; omega
  have d1 : decide ((y : Int) ≤ (n : Int)) = false := decide_eq_false (by omega)
  have d2 : decide (y ≤ n) = false := decide_eq_false (by omega)
  obtain ⟨p, rfl⟩ : ∃ p : Nat, q = (p : Int) := Int.eq_ofNat_of_zero_le h2
  have d3 : decide ((p : Int) < 0) = false := decide_eq_false (by omega)
  have d3' : ((p : Int) < 0) = False := eq_false (by omega)
  have hp : p < 18446744073709551616 := by omega
  have e1 : IntKind.u64.wrap (p : Int) = (p : Int) := IntWalk.u64_in _ (by omega)
  have KT := Lib.hid (fun (W : World) => num_word 10000 W (by omega))
  rw [show ((10000 : Nat) : Int) = 10000 from rfl] at KT
  have KM := Lib.hid (fun (va vb : Value) (W : World) (ha : Num (y + n) va W) (hb : Num 10000 vb W) => num_times (y + n) 10000 va vb W ha hb (by omega) (by omega))
  have KP := Lib.hid (fun (W : World) => num_word p W (by omega))
  have KQ := Lib.hid (fun (W : World) => num_word t W ht)
  have KM2 := Lib.hid (fun (va vb : Value) (W : World) (ha : Num p va W) (hb : Num t vb W) => num_times p t va vb W ha hb (by omega) (by omega))
  have KC := Lib.hid (fun (va vb : Value) (W : World) (ha : Num ((y + n) * 10000) va W) (hb : Num (p * t) vb W) => cmp_any _ _ va vb _ W ha hb (Nat.le_refl _))
  have hz : decide (0 ≤ cmpZ ((y + n) * 10000) (p * t)) = !decide ((y + n) * 10000 < (p : Int).toNat * t) := by
    rw [Int.toNat_natCast]
    unfold cmpZ
    by_cases g : (y + n) * 10000 < p * t
    · rw [if_pos g, decide_eq_true g]; rfl
    · rw [if_neg g, decide_eq_false g]
      split <;> rfl
  obtain ⟨cz, hcz⟩ : ∃ cz, cmpZ ((y + n) * 10000) (p * t) = cz := ⟨_, rfl⟩
  rw [hcz] at KC hz
  rw [← hz]
  have HM1 := Lib.hid (show (digs ((y + n) * 10000)).length = (digs ((y + n) * 10000)).length from rfl)
  clear h h0 h1 h2 htb g1 hy hn ht hp hz hcz HM1 h3q
  go_enter Try.func61, Try.ntmps61
  go_wp2_with (first
    | (go_at_call 91; refine (KY.out _).mono ?_; clear KY; rintro e w1 ⟨v1, rfl, hv1, hb⟩; have hB := hb; clear hb)
    | (go_at_call 91; refine (KN.out _).mono ?_; clear KN; rintro e w2 ⟨v2, rfl, hv2, hb⟩; have hv1 := hv1.up hb; have hB := Below.then hB hb; clear hb)
    | (go_at_call 98; refine (KA.out _ _ _ hv1 hv2).mono ?_; clear KA hv1 hv2; rintro e w3 ⟨v3, rfl, hv3, hb⟩; obtain ⟨A3, c3, e3, h3⟩ := id hv3; obtain ⟨n3, hn3⟩ : ∃ n3, (digs (y + n)).length = n3 := ⟨_, rfl⟩; rw [hn3] at e3; subst e3; have hB := Below.then hB hb; clear hb h3 hn3)
    | (refine store_rec 109 _ _ rfl rfl _ #[.slice A3 n3 c3] #[.slice none 0 0] 109 rfl rfl (RecAt.new _ _ _) size_nat21 rfl (one_slice _ _ _) ?_; intro w4 hS hb hz4 hk4; clear hz4 hk4; have hb := rec_made (Below.refl _ _) hb; have hv3 := hv3.up hb; have hB := Below.then hB hb; clear hb)
    | ((with_reducible refine slot_is 20 rfl ?_); refine load_rec 109 _ rfl rfl _ #[.slice A3 n3 c3] rfl hS.lies Try.underlying109 size_nat21 ?_)
    | (go_at_call 58; refine (KU.out _ _ hv3).mono ?_; clear KU; rintro e w5 ⟨rfl, hb⟩; have hS := hS.up hb; have hv3 := hv3.up hb; have hB := Below.then hB hb; clear hb))
  have CG : ∀ w1, Below w5.heap.size w5 w1 → LiesAt w1 ⟨w3.heap.size, 0, none⟩ #[.slice A3 n3 c3] := fun w1 hb => (hS.up hb).lies
  have NG : ∀ w1, Below w5.heap.size w5 w1 → Num (y + n) (.agg #[.slice A3 n3 c3]) w1 := fun w1 hb => hv3.up hb
  refine region_vary [3] 4 (fun w' => Below w5.heap.size w5 w') (by kernel_rfl) (by kernel_rfl) (Below.refl _ _).drew ?_
  simp only [List.take_succ_cons, List.take_zero, List.drop_succ_cons, List.drop_zero]
  refine SeqV.take (fun _ => .agg #[.slice A3 n3 c3]) (fun _ => by rfl) (by rfl) (fun _ _ _ => rfl) (fun val w1 hS hR => exec_load_rec 109 _ rfl _ #[.slice A3 n3 c3] rfl (CG w1 hS) Try.underlying109 size_nat21) ?_
  simp only [Act.put, List.setIfInBounds_toArray, List.set_cons_zero, List.set_cons_succ]
  refine SeqV.make (f := 91) (args := fun val => #[.int .u64 10000]) (fun _ v w1 => Num 10000 v w1) (fun val w1 hS hR => ?_) (fun _ => by rfl) (by rfl) (fun _ _ _ v w1 h => h) (fun _ v w1 w2 h hb => h.up hb) (fun val w1 => ?_) ?_
  · exact num_of hS (KT.out w1)
  · go_simp
  simp only [Act.put, List.setIfInBounds_toArray, List.set_cons_zero, List.set_cons_succ]
  refine SeqV.make (f := 90) (args := fun val => #[.agg #[.slice A3 n3 c3], val 1]) (fun _ v w1 => Num ((y + n) * 10000) v w1) (fun val w1 hS hR => ?_) (fun _ => by rfl) (by rfl) (fun _ _ _ v w1 h => h) (fun _ v w1 w2 h hb => h.up hb) (fun val w1 => ?_) ?_
  · exact num_of hS (KM.out _ _ w1 (NG w1 hS) (hR 1 (by kernel_rfl)))
  · go_simp
  simp only [Act.put, List.setIfInBounds_toArray, List.set_cons_zero, List.set_cons_succ]
  refine SeqV.new (w5.heap.size) (.cells #[.slice none 0 0] 109) (fun _ => by rfl) (fun w1 hS => hS.size) (fun w1 hS => hS.alloc hS.size _) (fun val w1 => ?_) ?_; · go_simp
  simp only [Act.put, List.setIfInBounds_toArray, List.set_cons_zero, List.set_cons_succ]
  intro val w6 hS1 hR1 hD1
  have hv : Num ((y + n) * 10000) (val 2) w6 := hR1 2 (by decide)
  obtain ⟨g, eg, hg0, hg⟩ : ∃ g, val 3 = .pointer (some ⟨g, 0, none⟩) ∧ w5.heap.size ≤ g ∧ RecAt w6 g #[.slice none 0 0] 109 := hR1 3 (by decide)
  obtain ⟨A6, c6, e6, h6⟩ := id hv
  obtain ⟨n6, hn6⟩ : ∃ n6, (digs ((y + n) * 10000)).length = n6 := ⟨_, rfl⟩
  rw [hn6] at e6
  simp only [e6, eg]
  rw [e6] at hv
  have hB6 := Below.then hB hS1
  have hgw : w.heap.size ≤ g := Nat.le_trans hB.size hg0
  clear hR1 hD1 h6 hn6 hS1 eg CG NG KT KM hS hv3 e6
  go_wp2_with (first
    | (refine store_rec 109 _ _ rfl rfl _ #[.slice A6 n6 c6] #[.slice none 0 0] 109 rfl rfl hg size_nat21 rfl (one_slice _ _ _) ?_; intro w7 hG hb2 hz2 hk2; have hv := Num.off hv hg hk2 hz2; have hB := hB6.trans (hb2.mono hgw); clear hb2 hz2 hk2)
    | (go_at_call 91; refine (KP.out _).mono ?_; clear KP; rintro e w8 ⟨v8, rfl, hv8, hb⟩; have hG := hG.up hb; have hv := hv.up hb; have hB := Below.then hB hb; clear hb)
    | (go_at_call 91; refine (KQ.out _).mono ?_; clear KQ; rintro e w9 ⟨v9, rfl, hv9, hb⟩; have hG := hG.up hb; have hv := hv.up hb; have hv8 := hv8.up hb; have hB := Below.then hB hb; clear hb)
    | (go_at_call 90; refine (KM2.out _ _ _ hv8 hv9).mono ?_; clear KM2 hv8 hv9; rintro e wa ⟨va, rfl, hva, hb⟩; obtain ⟨Aa, ca, ea, ha⟩ := id hva; obtain ⟨na, hna⟩ : ∃ na, (digs (p * t)).length = na := ⟨_, rfl⟩; rw [hna] at ea; subst ea; have hG := hG.up hb; have hv := hv.up hb; have hB := Below.then hB hb; clear hb ha hna)
    | (refine store_rec 109 _ _ rfl rfl _ #[.slice Aa na ca] #[.slice none 0 0] 109 rfl rfl (RecAt.new _ _ _) size_nat21 rfl (one_slice _ _ _) ?_; intro wb hH hb hzb hkb; clear hzb hkb; have hb := rec_made (Below.refl _ _) hb; have hG := hG.up hb; have hv := hv.up hb; have hva := hva.up hb; have hB := Below.then hB hb; clear hb)
    | ((with_reducible refine slot_is 48 rfl ?_); refine load_rec 109 _ rfl rfl _ #[.slice A6 n6 c6] rfl hG.lies Try.underlying109 size_nat21 ?_)
    | ((with_reducible refine slot_is 49 rfl ?_); refine load_rec 109 _ rfl rfl _ #[.slice Aa na ca] rfl hH.lies Try.underlying109 size_nat21 ?_)
    | (go_at_call 92; refine (KC.out _ _ _ hv hva).mono ?_; clear KC; rintro e wc ⟨rfl, hb⟩; have hB := Below.then hB hb; clear hb))
  go_ret
  exact ⟨by first | rfl | simp, hB⟩

theorem rpasses_is (q : Int) (t : Tly) (w : World) (hf : t.Fits) (hq : q ≤ 9223372036854775807) :
    Calls Try.prog 61 #[.int .i64 q, .int .u64 (t.yes : Int), .int .u64 (t.no : Int), .int .u64 (t.act : Int)] w fun e w' => e = .returned (.bool (passes q t)) ∧ Below w.heap.size w w' := by
  unfold passes
  by_cases h : t.yes + t.no ≤ 18446744073709551615
  · by_cases h0 : 0 < t.act
    · by_cases h1 : t.no < t.yes
      · by_cases h2 : 0 ≤ q
        · rw [decide_eq_true h, decide_eq_true h0, decide_eq_true h1, decide_eq_true h2]
          simp only [Bool.true_and]
          exact rpasses_weigh q t.yes t.no t.act w hf.yes hf.no hf.act h h0 h1 h2 hq
        · rw [decide_eq_false h2]
          simp only [Bool.and_false, Bool.false_and]
          exact rpasses_minus q t.yes t.no t.act w hf.yes hf.no hf.act h h0 h1 (by omega)
      · rw [decide_eq_false h1]
        simp only [Bool.and_false, Bool.false_and]
        exact rpasses_few q t.yes t.no t.act w hf.yes hf.no hf.act h h0 (by omega)
    · rw [decide_eq_false h0]
      simp only [Bool.and_false, Bool.false_and]
      exact rpasses_none q t.yes t.no t.act w hf.yes hf.no hf.act h (by omega)
  · rw [decide_eq_false h]
    simp only [Bool.false_and]
    exact rpasses_over q t.yes t.no t.act w hf.yes hf.no hf.act h

/-- Motions that are being counted: the parameters' box, the list of its own, what has been counted. -/
structure Cl (w W : World) (p : Par) (l N : List Mot) (k : Nat) (A : Option Addr) (c : Nat) : Prop where
  par : ParAt W w.heap.size p 43
  row : W.ownsRow (w.heap.size + 1) 45 33 (.slice A l.length c) l.length (rows (N ++ l.drop k))
  each : ∀ m ∈ N, MotAt w m
  below : Below w.heap.size w W
theorem Cl.up {w W W' : World} {p : Par} {l N : List Mot} {k : Nat} {A : Option Addr} {c : Nat} (h : Cl w W p l N k A c) (hb : Below W.heap.size W W') : Cl w W' p l N k A c :=
  ⟨h.par.up hb, own_kept h.row hb, h.each, Below.then h.below hb⟩
/-- The motion's own box is written. -/
theorem Cl.box {w W W' : World} {p : Par} {l N : List Mot} {k g : Nat} {A : Option Addr} {c : Nat} {cs : Array Value} (h : Cl w W p l N k A c) (hS : RecAt W g cs 45) (hg : w.heap.size < g) (hB : Below g W W') (hk : ∀ j, j ≠ g → W'.heap[j]? = W.heap[j]?) (hr : ∀ q, A = some q → q.block ≠ g) : Cl w W' p l N k A c :=
  ⟨(hk _ (by omega)).trans h.par, own_apart h.row (grown_but hB hk) (fun q e => by
    rcases A with _ | a
    · cases e
    · have h1 := hr a rfl
      have h2 : q = a.block := by
        obtain ⟨g2, hg2, _⟩ : ∃ g2, Value.slice (some a) l.length c = .slice (some ⟨g2, 0, none⟩) l.length c ∧ True := by
          rcases h.row.2 with ⟨h1, _⟩ | ⟨g2, cap, cur, h1, _⟩
          · cases h1
          · simp only [Value.slice.injEq, Option.some.injEq] at h1
            exact ⟨g2, by rw [h1.1], trivial⟩
        simp only [Value.slice.injEq, Option.some.injEq] at hg2
        rw [hg2.1] at e ⊢
        simp only [Value.ownBlock, Option.some.injEq] at e
        exact e.symm
      simp only [ne_eq, Option.some.injEq]
      omega), h.each, h.below.trans (hB.mono (Nat.le_of_lt hg))⟩
theorem drop_cons_at {α : Type} {N l : List α} {k : Nat} {m : α} (h : l[k]? = some m) : N ++ l.drop k = (N ++ [m]) ++ l.drop (k + 1) := by
  obtain ⟨hk, e⟩ := List.getElem?_eq_some_iff.1 h
  rw [List.drop_eq_getElem_cons hk, e, List.append_assoc]
  rfl

set_option maxRecDepth 100000 in
set_option maxHeartbeats 8000000 in
/-- Motions counted, by the document. -/
theorem rclose_is (p : Par) (l : List Mot) (A : Option Addr) (c : Nat) (mems : List Mem) (AM : Option Addr) (cM : Nat) (ep : Int) (w : World) (hm : Mots w A c l) (hl : l.length ≤ 100000) (he : 0 ≤ p.enact ∧ p.enact ≤ 2147483647) (hq : p.quorum ≤ 9223372036854775807) (hr : Row w w.heap.size AM (rows mems)) (hlm : mems.length ≤ 100000) (hf : ∀ m ∈ mems, m.s.Fits) (hep : 0 ≤ ep ∧ ep ≤ 1073741824) :
    Calls Try.prog 21 #[.agg p.vals, .slice A l.length c, .slice AM mems.length cM, .int .i64 ep] w fun e w' => JustMots w ((l.map Mot.pure).map (PMot.closed p.quorum p.enact mems ep)) e w' := by
  have KO := Lib.hid (fun (W : World) (hB : Below w.heap.size w W) => rown_is l A c W (hm.up hB) hl)
  obtain ⟨T, hT⟩ : ∃ T, actives mems mems.length = T := ⟨_, rfl⟩
  have KA := Lib.hid (fun (W : World) (hB : Below w.heap.size w W) => ractive_is mems AM cM T W (row_kept hr hB) hlm hf (Lib.hid hT))
  have KW := Lib.hid (fun (b : BV) (W : World) (hB : Below w.heap.size w W) (hb : BvAt W b) => rbweigh_is mems AM cM b.bs b.row b.cap _ W (row_kept hr hB) hb.sl.row hb.all hlm hf (Lib.hid rfl))
  have HM := Lib.hid hm
  have HT := Lib.hid hT
  have HL := Lib.hid hl
  clear hm hr hf hT
  go_enter Try.func21, Try.ntmps21
  go_upto_region 1 with fail
  generalize hw0 : World.alloc _ _ = w0
  have hB0 : Below w.heap.size w w0 := by rw [← hw0]; exact (Below.refl _ _).alloc (Nat.le_refl _) _
  have hP0 : ParAt w0 w.heap.size p 43 := by rw [← hw0]; exact ParAt.new w p 43
  have hz0 : w0.heap.size = w.heap.size + 1 := by rw [← hw0]; simp
  clear hw0
  go_wp2_with (go_at_call 39; refine (KO.out w0 hB0).mono ?_; clear KO; rintro e w1 ⟨v9, rfl, ho9, hb9⟩; obtain ⟨A9, c9, rfl⟩ := own_slice ho9)
  have HC : Hid (Cl w w1 p l [] 0 A9 c9) := Lib.hid ⟨hP0.up hb9, by rw [← hz0]; exact ho9, fun m h => (by cases h), Below.then hB0 hb9⟩
  clear ho9 hb9 hP0 hz0 hB0
  go_loopw [10] (fun iv wr => ∃ (k : Nat) (N : List Mot), k ≤ l.length ∧ iv = .int .i64 (k : Int) ∧ Hid (N.length = k) ∧ Hid (N.map Mot.pure = ((l.map Mot.pure).map (PMot.closed p.quorum p.enact mems ep)).take k) ∧ Hid (Cl w wr p l N k A9 c9)) (fun iv _ => l.length - (intOf iv).toNat)
  case atStart => exact ⟨0, [], Nat.zero_le _, rfl, Lib.hid rfl, Lib.hid rfl, HC⟩
  case round =>
    obtain ⟨k, N, hk, rfl, HNL, HNP, HCr⟩ := hrel
    clear HC
    by_cases hlt : k < l.length
    · obtain ⟨m, hx⟩ : ∃ m, l[k]? = some m := ⟨_, List.getElem?_eq_getElem hlt⟩
      obtain ⟨a, rfl, hab, hat, -⟩ := (HM.out.up HCr.out.below).at hx
      have hMA := HM.out.each m (List.mem_of_getElem? hx)
      obtain ⟨g, hg, hgL⟩ := own_some HCr.out.row (by omega)
      subst hg
      have hki : (k : Int) < (l.length : Int) := by omega
      have hk0 : (0 : Int) ≤ (k : Int) := by omega
      have HX := Lib.hid hx
      have HMA := Lib.hid hMA
      have HD := Lib.hid (drop_cons_at (N := N) hx)
      have hgr : g < wr.heap.size := (HCr.out.row.lt g rfl).2
      have hnext : ∀ q : PMot, PMot.closed p.quorum p.enact mems ep m.pure = q → ∀ y : Mot, y.pure = q → (N ++ [y]).map Mot.pure = ((l.map Mot.pure).map (PMot.closed p.quorum p.enact mems ep)).take (k + 1) := fun q hq y hy => by
        rw [List.take_add_one, List.getElem?_map, List.getElem?_map, HX.out, List.map_append, HNP.out]
        show _ ++ [y.pure] = _ ++ [PMot.closed p.quorum p.enact mems ep m.pure]
        rw [hy, hq]
      have HN1 := Lib.hid (show ∀ y : Mot, (N ++ [y]).length = k + 1 from fun y => by rw [List.length_append, HNL.out]; rfl)
      clear hx hab hMA
      by_cases hst : m.st = 1
      · by_cases hen : m.ends ≤ ep
        · by_cases hTm : T ≤ 18446744073709551615
          · cases hpas : passes p.quorum ⟨presents mems m.yes.bs mems.length, presents mems m.no.bs mems.length, T⟩ with
            | false =>
              have HCX := Lib.hid (mid_at (N := N) HNL.out HX.out)
              have hcar : m.pure.carried p.quorum mems = false := by unfold PMot.carried; rw [HT.out, decide_eq_true hTm, Bool.true_and]; exact hpas
              have HP2 := Lib.hid (hnext _ rfl (⟨m.acct, m.what, m.p, m.dest, m.amt, m.ends, m.due, 4, m.yes, m.no⟩ : Mot) (by unfold PMot.closed; rw [if_pos ⟨hst, hen⟩, if_neg (by rw [hcar]; simp)]; rfl))
              have UT := Lib.hid (fun (v : Value) (W : World) (h : Num T v W) => num_uint T v W h)
              rw [decide_eq_true hTm, tx_in hTm] at UT
              have hYT : presents mems m.yes.bs mems.length ≤ T := by rw [← HT.out]; exact presents_le _ _ _
              have hNT : presents mems m.no.bs mems.length ≤ T := by rw [← HT.out]; exact presents_le _ _ _
              obtain ⟨Yy, hYy⟩ : ∃ x, presents mems m.yes.bs mems.length = x := ⟨_, rfl⟩
              obtain ⟨Nn, hNn⟩ : ∃ x, presents mems m.no.bs mems.length = x := ⟨_, rfl⟩
              rw [hYy] at hYT hpas
              rw [hNn] at hNT hpas
              have UY := Lib.hid (fun (v : Value) (W : World) (h : Num Yy v W) => num_uint Yy v W h)
              have UN := Lib.hid (fun (v : Value) (W : World) (h : Num Nn v W) => num_uint Nn v W h)
              rw [decide_eq_true (show Yy ≤ 18446744073709551615 by omega), tx_in (show Yy ≤ 18446744073709551615 by omega)] at UY
              rw [decide_eq_true (show Nn ≤ 18446744073709551615 by omega), tx_in (show Nn ≤ 18446744073709551615 by omega)] at UN
              have KP := Lib.hid (fun (W : World) => rpasses_is p.quorum ⟨Yy, Nn, T⟩ W ⟨by show Yy ≤ _; omega, by show Nn ≤ _; omega, hTm⟩ hq)
              rw [hpas] at KP
              have KY := Lib.hid (fun (W : World) (hB : Below w.heap.size w W) (hb : BvAt W m.yes) => KW.out m.yes W hB hb)
              have KN := Lib.hid (fun (W : World) (hB : Below w.heap.size w W) (hb : BvAt W m.no) => KW.out m.no W hB hb)
              rw [hYy] at KY
              rw [hNn] at KN
              have hen2 : decide (ep < m.ends) = false := decide_eq_false (by omega)
              have st1 : (Rec.vals m)[30]? = some (.int .i64 1) := by show some (Value.int .i64 m.st) = _; rw [hst]
              clear hnext HNP hYy hNn hcar hTm KW hYT hNT hpas hen hst
              go_wp2_with (first
                | (refine load_rec 45 _ rfl rfl _ (Rec.vals m) rfl hat Try.underlying45 size_rmot ?_)
                | (refine store_rec 45 _ _ rfl rfl _ (Rec.vals m) (Rec.vals Mot.zero) 45 rfl rfl (RecAt.new _ (Rec.vals Mot.zero) _) size_rmot rfl (Rec.one m) ?_; intro w2 hS hb hsz hkp; clear hsz hkp; have hb := rec_made (Below.refl _ _) hb; have HC2 := Lib.hid (HCr.out.up hb); clear hb hat; have k30 : w2.cell? ⟨wr.heap.size, 30, none⟩ = some (.int .i64 1) := (hS.cell 30).trans st1; have k28 : w2.cell? ⟨wr.heap.size, 28, none⟩ = some (.int .i64 m.ends) := hS.cell 28; have HC2s := Lib.hid (show w.heap.size < wr.heap.size from Nat.lt_of_le_of_lt (Nat.le_of_succ_le hgL) hgr))
                | (go_at_call 59; refine (KA.out _ HC2.out.below).mono ?_; clear KA; rintro e w3 ⟨v3, rfl, hv3, hb⟩; have HC2 := Lib.hid (HC2.out.up hb); have hS := hS.up hb; clear hb; clear k30 k28)
                | (go_at_call 58; refine (UT.out _ _ hv3).mono ?_; clear UT hv3; rintro e w4 ⟨rfl, hb⟩; have HC2 := Lib.hid (HC2.out.up hb); have hS := hS.up hb; clear hb; have k31 : w4.cell? ⟨wr.heap.size, 31, none⟩ = some (.slice m.yes.row m.yes.bs.length m.yes.cap) := hS.cell 31)
                | (go_at_call 60; refine (KY.out _ HC2.out.below (HMA.out.yes.up HC2.out.below)).mono ?_; clear KY; rintro e w5 ⟨v5, rfl, hv5, hb⟩; have HC2 := Lib.hid (HC2.out.up hb); have hS := hS.up hb; clear hb; clear k31)
                | (go_at_call 58; refine (UY.out _ _ hv5).mono ?_; clear UY hv5; rintro e w6 ⟨rfl, hb⟩; have HC2 := Lib.hid (HC2.out.up hb); have hS := hS.up hb; clear hb; have k32 : w6.cell? ⟨wr.heap.size, 32, none⟩ = some (.slice m.no.row m.no.bs.length m.no.cap) := hS.cell 32)
                | (go_at_call 60; refine (KN.out _ HC2.out.below (HMA.out.no.up HC2.out.below)).mono ?_; clear KN; rintro e w7 ⟨v7, rfl, hv7, hb⟩; have HC2 := Lib.hid (HC2.out.up hb); have hS := hS.up hb; clear hb; clear k32)
                | (go_at_call 58; refine (UN.out _ _ hv7).mono ?_; clear UN hv7; rintro e w8 ⟨rfl, hb⟩; have HC2 := Lib.hid (HC2.out.up hb); have hS := hS.up hb; clear hb; have k23 : w8.cell? ⟨w.heap.size, 23, none⟩ = some (.int .i64 p.quorum) := HC2.out.par.cell 23)
                | (go_at_call 61; refine (KP.out _).mono ?_; clear KP; rintro e w9 ⟨rfl, hb⟩; have HC2 := Lib.hid (HC2.out.up hb); have hS := hS.up hb; clear hb; clear k23)
                | (refine store_slot 3 _ _ rfl rfl _ 30 (Rec.vals m) (Rec.vals (⟨m.acct, m.what, m.p, m.dest, m.amt, m.ends, m.due, 4, m.yes, m.no⟩ : Mot)) 45 (.int .i64 4) rfl rfl hS (by show 30 < 33; decide) rfl rfl size_int23 rfl ?_; intro wa hS3 hb4 hz4 hk4; have HC2 := Lib.hid (HC2.out.box hS (by have := HC2s.out; omega) hb4 hk4 (fun q e => by cases e; show g ≠ _; omega)); have hS := hS3; clear hS3 hb4 hz4 hk4 )
                | ((with_reducible refine slot_is 83 rfl ?_); refine load_rec 45 _ rfl rfl _ (Rec.vals (⟨m.acct, m.what, m.p, m.dest, m.amt, m.ends, m.due, 4, m.yes, m.no⟩ : Mot)) rfl hS.lies Try.underlying45 size_rmot ?_)
                | (refine store_row_rec 45 _ _ rfl rfl g k _ _ _ _ (N ++ l.drop k) m (⟨m.acct, m.what, m.p, m.dest, m.amt, m.ends, m.due, 4, m.yes, m.no⟩ : Mot) rfl rfl HC2.out.row HCX.out size_rmot ?_; intro wz hoz hgz hzz))
              have hbz : Below (w.heap.size + 1) wa wz := grown_to hgz hgL (Nat.le_trans (Nat.succ_le_of_lt (Nat.lt_of_lt_of_le HC2s.out (Nat.le_of_lt hS.lt))) (Nat.le_refl _))
              rw [mid_put HNL.out (show k < l.length by omega)] at hoz
              have HCz : Hid (Cl w wz p l (N ++ [(⟨m.acct, m.what, m.p, m.dest, m.amt, m.ends, m.due, 4, m.yes, m.no⟩ : Mot)]) (k + 1) (some ⟨g, 0, none⟩) c9) := Lib.hid ⟨HC2.out.par.below hbz (Nat.lt_succ_self _), hoz, fun x hx => by
                rcases List.mem_append.1 hx with h | h
                · exact HC2.out.each x h
                · simp only [List.mem_cons, List.not_mem_nil, or_false] at h
                  rw [h]; exact ⟨HMA.out.yes, HMA.out.no, HMA.out.amt, HMA.out.par⟩, HC2.out.below.trans (hbz.mono (Nat.le_succ _))⟩
              clear hbz hoz hgz hzz HC2 HMA hS
              go_wp2
              go_roundw
              case rel => exact ⟨k + 1, N ++ [(⟨m.acct, m.what, m.p, m.dest, m.amt, m.ends, m.due, 4, m.yes, m.no⟩ : Mot)], by omega, by go_num, Lib.hid (HN1.out _), HP2, HCz⟩
              case measure => simp [intOf]; omega
            | true =>
              by_cases hsm : ep + p.enact ≤ 2147483647
              · skip
                have HCX := Lib.hid (mid_at (N := N) HNL.out HX.out)
                have hcar : m.pure.carried p.quorum mems = true := by unfold PMot.carried; rw [HT.out, decide_eq_true hTm, Bool.true_and]; exact hpas
                have hdue : dueOf ep p.enact = (ep + p.enact) := by unfold dueOf; exact Int.min_eq_left hsm
                obtain ⟨dd, hdd⟩ : ∃ dd, ep + p.enact = dd := ⟨_, rfl⟩
                have wdd : IntKind.i64.wrap (ep + p.enact) = dd := by rw [IntWalk.i64_in _ (by omega)]; exact hdd
                rw [hdd] at hdue
                have ddl : decide (2147483647 < dd) = false := decide_eq_false (by omega)
                have HP2 := Lib.hid (hnext _ rfl (⟨m.acct, m.what, m.p, m.dest, m.amt, m.ends, dd, 2, m.yes, m.no⟩ : Mot) (by unfold PMot.closed; rw [if_pos ⟨hst, hen⟩, if_pos hcar, hdue]; rfl))
                have UT := Lib.hid (fun (v : Value) (W : World) (h : Num T v W) => num_uint T v W h)
                rw [decide_eq_true hTm, tx_in hTm] at UT
                have hYT : presents mems m.yes.bs mems.length ≤ T := by rw [← HT.out]; exact presents_le _ _ _
                have hNT : presents mems m.no.bs mems.length ≤ T := by rw [← HT.out]; exact presents_le _ _ _
                obtain ⟨Yy, hYy⟩ : ∃ x, presents mems m.yes.bs mems.length = x := ⟨_, rfl⟩
                obtain ⟨Nn, hNn⟩ : ∃ x, presents mems m.no.bs mems.length = x := ⟨_, rfl⟩
                rw [hYy] at hYT hpas
                rw [hNn] at hNT hpas
                have UY := Lib.hid (fun (v : Value) (W : World) (h : Num Yy v W) => num_uint Yy v W h)
                have UN := Lib.hid (fun (v : Value) (W : World) (h : Num Nn v W) => num_uint Nn v W h)
                rw [decide_eq_true (show Yy ≤ 18446744073709551615 by omega), tx_in (show Yy ≤ 18446744073709551615 by omega)] at UY
                rw [decide_eq_true (show Nn ≤ 18446744073709551615 by omega), tx_in (show Nn ≤ 18446744073709551615 by omega)] at UN
                have KP := Lib.hid (fun (W : World) => rpasses_is p.quorum ⟨Yy, Nn, T⟩ W ⟨by show Yy ≤ _; omega, by show Nn ≤ _; omega, hTm⟩ hq)
                rw [hpas] at KP
                have KY := Lib.hid (fun (W : World) (hB : Below w.heap.size w W) (hb : BvAt W m.yes) => KW.out m.yes W hB hb)
                have KN := Lib.hid (fun (W : World) (hB : Below w.heap.size w W) (hb : BvAt W m.no) => KW.out m.no W hB hb)
                rw [hYy] at KY
                rw [hNn] at KN
                have hen2 : decide (ep < m.ends) = false := decide_eq_false (by omega)
                have st1 : (Rec.vals m)[30]? = some (.int .i64 1) := by show some (Value.int .i64 m.st) = _; rw [hst]
                clear hnext HNP hYy hNn hcar hTm KW hYT hNT hpas hdue hdd hsm hen hst
                go_wp2_with (first
                  | (refine load_rec 45 _ rfl rfl _ (Rec.vals m) rfl hat Try.underlying45 size_rmot ?_)
                  | (refine store_rec 45 _ _ rfl rfl _ (Rec.vals m) (Rec.vals Mot.zero) 45 rfl rfl (RecAt.new _ (Rec.vals Mot.zero) _) size_rmot rfl (Rec.one m) ?_; intro w2 hS hb hsz hkp; clear hsz hkp; have hb := rec_made (Below.refl _ _) hb; have HC2 := Lib.hid (HCr.out.up hb); clear hb hat; have k30 : w2.cell? ⟨wr.heap.size, 30, none⟩ = some (.int .i64 1) := (hS.cell 30).trans st1; have k28 : w2.cell? ⟨wr.heap.size, 28, none⟩ = some (.int .i64 m.ends) := hS.cell 28; have HC2s := Lib.hid (show w.heap.size < wr.heap.size from Nat.lt_of_le_of_lt (Nat.le_of_succ_le hgL) hgr))
                  | (go_at_call 59; refine (KA.out _ HC2.out.below).mono ?_; clear KA; rintro e w3 ⟨v3, rfl, hv3, hb⟩; have HC2 := Lib.hid (HC2.out.up hb); have hS := hS.up hb; clear hb; clear k30 k28)
                  | (go_at_call 58; refine (UT.out _ _ hv3).mono ?_; clear UT hv3; rintro e w4 ⟨rfl, hb⟩; have HC2 := Lib.hid (HC2.out.up hb); have hS := hS.up hb; clear hb; have k31 : w4.cell? ⟨wr.heap.size, 31, none⟩ = some (.slice m.yes.row m.yes.bs.length m.yes.cap) := hS.cell 31)
                  | (go_at_call 60; refine (KY.out _ HC2.out.below (HMA.out.yes.up HC2.out.below)).mono ?_; clear KY; rintro e w5 ⟨v5, rfl, hv5, hb⟩; have HC2 := Lib.hid (HC2.out.up hb); have hS := hS.up hb; clear hb; clear k31)
                  | (go_at_call 58; refine (UY.out _ _ hv5).mono ?_; clear UY hv5; rintro e w6 ⟨rfl, hb⟩; have HC2 := Lib.hid (HC2.out.up hb); have hS := hS.up hb; clear hb; have k32 : w6.cell? ⟨wr.heap.size, 32, none⟩ = some (.slice m.no.row m.no.bs.length m.no.cap) := hS.cell 32)
                  | (go_at_call 60; refine (KN.out _ HC2.out.below (HMA.out.no.up HC2.out.below)).mono ?_; clear KN; rintro e w7 ⟨v7, rfl, hv7, hb⟩; have HC2 := Lib.hid (HC2.out.up hb); have hS := hS.up hb; clear hb; clear k32)
                  | (go_at_call 58; refine (UN.out _ _ hv7).mono ?_; clear UN hv7; rintro e w8 ⟨rfl, hb⟩; have HC2 := Lib.hid (HC2.out.up hb); have hS := hS.up hb; clear hb; have k23 : w8.cell? ⟨w.heap.size, 23, none⟩ = some (.int .i64 p.quorum) := HC2.out.par.cell 23)
                  | (go_at_call 61; refine (KP.out _).mono ?_; clear KP; rintro e w9 ⟨rfl, hb⟩; have HC2 := Lib.hid (HC2.out.up hb); have hS := hS.up hb; clear hb; clear k23)
                  | (refine store_slot 3 _ _ rfl rfl _ 30 (Rec.vals m) (Rec.vals (⟨m.acct, m.what, m.p, m.dest, m.amt, m.ends, m.due, 2, m.yes, m.no⟩ : Mot)) 45 (.int .i64 2) rfl rfl hS (by show 30 < 33; decide) rfl rfl size_int23 rfl ?_; intro wa hS3 hb4 hz4 hk4; have HC2 := Lib.hid (HC2.out.box hS (by have := HC2s.out; omega) hb4 hk4 (fun q e => by cases e; show g ≠ _; omega)); have hS := hS3; clear hS3 hb4 hz4 hk4; have k22 : wa.cell? ⟨w.heap.size, 22, none⟩ = some (.int .i64 p.enact) := HC2.out.par.cell 22)
                  | (refine store_slot 3 _ _ rfl rfl _ 29 (Rec.vals (⟨m.acct, m.what, m.p, m.dest, m.amt, m.ends, m.due, 2, m.yes, m.no⟩ : Mot)) (Rec.vals (⟨m.acct, m.what, m.p, m.dest, m.amt, m.ends, dd, 2, m.yes, m.no⟩ : Mot)) 45 (.int .i64 dd) rfl rfl hS (by show 29 < 33; decide) rfl rfl size_int23 rfl ?_; intro wb hS3 hb4 hz4 hk4; have HC2 := Lib.hid (HC2.out.box hS (by have := HC2s.out; omega) hb4 hk4 (fun q e => by cases e; show g ≠ _; omega)); have hS := hS3; clear hS3 hb4 hz4 hk4 k22; have k29 : wb.cell? ⟨wr.heap.size, 29, none⟩ = some (.int .i64 dd) := hS.cell 29)
                  | ((with_reducible refine slot_is 83 rfl ?_); refine load_rec 45 _ rfl rfl _ (Rec.vals (⟨m.acct, m.what, m.p, m.dest, m.amt, m.ends, dd, 2, m.yes, m.no⟩ : Mot)) rfl hS.lies Try.underlying45 size_rmot ?_)
                  | (refine store_row_rec 45 _ _ rfl rfl g k _ _ _ _ (N ++ l.drop k) m (⟨m.acct, m.what, m.p, m.dest, m.amt, m.ends, dd, 2, m.yes, m.no⟩ : Mot) rfl rfl HC2.out.row HCX.out size_rmot ?_; intro wz hoz hgz hzz))
                have hbz : Below (w.heap.size + 1) wb wz := grown_to hgz hgL (Nat.le_trans (Nat.succ_le_of_lt (Nat.lt_of_lt_of_le HC2s.out (Nat.le_of_lt hS.lt))) (Nat.le_refl _))
                rw [mid_put HNL.out (show k < l.length by omega)] at hoz
                have HCz : Hid (Cl w wz p l (N ++ [(⟨m.acct, m.what, m.p, m.dest, m.amt, m.ends, dd, 2, m.yes, m.no⟩ : Mot)]) (k + 1) (some ⟨g, 0, none⟩) c9) := Lib.hid ⟨HC2.out.par.below hbz (Nat.lt_succ_self _), hoz, fun x hx => by
                  rcases List.mem_append.1 hx with h | h
                  · exact HC2.out.each x h
                  · simp only [List.mem_cons, List.not_mem_nil, or_false] at h
                    rw [h]; exact ⟨HMA.out.yes, HMA.out.no, HMA.out.amt, HMA.out.par⟩, HC2.out.below.trans (hbz.mono (Nat.le_succ _))⟩
                clear hbz hoz hgz hzz HC2 HMA hS
                go_wp2
                go_roundw
                case rel => exact ⟨k + 1, N ++ [(⟨m.acct, m.what, m.p, m.dest, m.amt, m.ends, dd, 2, m.yes, m.no⟩ : Mot)], by omega, by go_num, Lib.hid (HN1.out _), HP2, HCz⟩
                case measure => simp [intOf]; omega
              · skip
                have HCX := Lib.hid (mid_at (N := N) HNL.out HX.out)
                have hcar : m.pure.carried p.quorum mems = true := by unfold PMot.carried; rw [HT.out, decide_eq_true hTm, Bool.true_and]; exact hpas
                have hdue : dueOf ep p.enact = 2147483647 := by unfold dueOf; exact Int.min_eq_right (by omega)
                obtain ⟨dd, hdd⟩ : ∃ dd, ep + p.enact = dd := ⟨_, rfl⟩
                have wdd : IntKind.i64.wrap (ep + p.enact) = dd := by rw [IntWalk.i64_in _ (by omega)]; exact hdd
                have ddl : decide (2147483647 < dd) = true := decide_eq_true (by omega)
                have HP2 := Lib.hid (hnext _ rfl (⟨m.acct, m.what, m.p, m.dest, m.amt, m.ends, 2147483647, 2, m.yes, m.no⟩ : Mot) (by unfold PMot.closed; rw [if_pos ⟨hst, hen⟩, if_pos hcar, hdue]; rfl))
                have UT := Lib.hid (fun (v : Value) (W : World) (h : Num T v W) => num_uint T v W h)
                rw [decide_eq_true hTm, tx_in hTm] at UT
                have hYT : presents mems m.yes.bs mems.length ≤ T := by rw [← HT.out]; exact presents_le _ _ _
                have hNT : presents mems m.no.bs mems.length ≤ T := by rw [← HT.out]; exact presents_le _ _ _
                obtain ⟨Yy, hYy⟩ : ∃ x, presents mems m.yes.bs mems.length = x := ⟨_, rfl⟩
                obtain ⟨Nn, hNn⟩ : ∃ x, presents mems m.no.bs mems.length = x := ⟨_, rfl⟩
                rw [hYy] at hYT hpas
                rw [hNn] at hNT hpas
                have UY := Lib.hid (fun (v : Value) (W : World) (h : Num Yy v W) => num_uint Yy v W h)
                have UN := Lib.hid (fun (v : Value) (W : World) (h : Num Nn v W) => num_uint Nn v W h)
                rw [decide_eq_true (show Yy ≤ 18446744073709551615 by omega), tx_in (show Yy ≤ 18446744073709551615 by omega)] at UY
                rw [decide_eq_true (show Nn ≤ 18446744073709551615 by omega), tx_in (show Nn ≤ 18446744073709551615 by omega)] at UN
                have KP := Lib.hid (fun (W : World) => rpasses_is p.quorum ⟨Yy, Nn, T⟩ W ⟨by show Yy ≤ _; omega, by show Nn ≤ _; omega, hTm⟩ hq)
                rw [hpas] at KP
                have KY := Lib.hid (fun (W : World) (hB : Below w.heap.size w W) (hb : BvAt W m.yes) => KW.out m.yes W hB hb)
                have KN := Lib.hid (fun (W : World) (hB : Below w.heap.size w W) (hb : BvAt W m.no) => KW.out m.no W hB hb)
                rw [hYy] at KY
                rw [hNn] at KN
                have hen2 : decide (ep < m.ends) = false := decide_eq_false (by omega)
                have st1 : (Rec.vals m)[30]? = some (.int .i64 1) := by show some (Value.int .i64 m.st) = _; rw [hst]
                clear hnext HNP hYy hNn hcar hTm KW hYT hNT hpas hdue hdd hsm hen hst
                go_wp2_with (first
                  | (refine load_rec 45 _ rfl rfl _ (Rec.vals m) rfl hat Try.underlying45 size_rmot ?_)
                  | (refine store_rec 45 _ _ rfl rfl _ (Rec.vals m) (Rec.vals Mot.zero) 45 rfl rfl (RecAt.new _ (Rec.vals Mot.zero) _) size_rmot rfl (Rec.one m) ?_; intro w2 hS hb hsz hkp; clear hsz hkp; have hb := rec_made (Below.refl _ _) hb; have HC2 := Lib.hid (HCr.out.up hb); clear hb hat; have k30 : w2.cell? ⟨wr.heap.size, 30, none⟩ = some (.int .i64 1) := (hS.cell 30).trans st1; have k28 : w2.cell? ⟨wr.heap.size, 28, none⟩ = some (.int .i64 m.ends) := hS.cell 28; have HC2s := Lib.hid (show w.heap.size < wr.heap.size from Nat.lt_of_le_of_lt (Nat.le_of_succ_le hgL) hgr))
                  | (go_at_call 59; refine (KA.out _ HC2.out.below).mono ?_; clear KA; rintro e w3 ⟨v3, rfl, hv3, hb⟩; have HC2 := Lib.hid (HC2.out.up hb); have hS := hS.up hb; clear hb; clear k30 k28)
                  | (go_at_call 58; refine (UT.out _ _ hv3).mono ?_; clear UT hv3; rintro e w4 ⟨rfl, hb⟩; have HC2 := Lib.hid (HC2.out.up hb); have hS := hS.up hb; clear hb; have k31 : w4.cell? ⟨wr.heap.size, 31, none⟩ = some (.slice m.yes.row m.yes.bs.length m.yes.cap) := hS.cell 31)
                  | (go_at_call 60; refine (KY.out _ HC2.out.below (HMA.out.yes.up HC2.out.below)).mono ?_; clear KY; rintro e w5 ⟨v5, rfl, hv5, hb⟩; have HC2 := Lib.hid (HC2.out.up hb); have hS := hS.up hb; clear hb; clear k31)
                  | (go_at_call 58; refine (UY.out _ _ hv5).mono ?_; clear UY hv5; rintro e w6 ⟨rfl, hb⟩; have HC2 := Lib.hid (HC2.out.up hb); have hS := hS.up hb; clear hb; have k32 : w6.cell? ⟨wr.heap.size, 32, none⟩ = some (.slice m.no.row m.no.bs.length m.no.cap) := hS.cell 32)
                  | (go_at_call 60; refine (KN.out _ HC2.out.below (HMA.out.no.up HC2.out.below)).mono ?_; clear KN; rintro e w7 ⟨v7, rfl, hv7, hb⟩; have HC2 := Lib.hid (HC2.out.up hb); have hS := hS.up hb; clear hb; clear k32)
                  | (go_at_call 58; refine (UN.out _ _ hv7).mono ?_; clear UN hv7; rintro e w8 ⟨rfl, hb⟩; have HC2 := Lib.hid (HC2.out.up hb); have hS := hS.up hb; clear hb; have k23 : w8.cell? ⟨w.heap.size, 23, none⟩ = some (.int .i64 p.quorum) := HC2.out.par.cell 23)
                  | (go_at_call 61; refine (KP.out _).mono ?_; clear KP; rintro e w9 ⟨rfl, hb⟩; have HC2 := Lib.hid (HC2.out.up hb); have hS := hS.up hb; clear hb; clear k23)
                  | (refine store_slot 3 _ _ rfl rfl _ 30 (Rec.vals m) (Rec.vals (⟨m.acct, m.what, m.p, m.dest, m.amt, m.ends, m.due, 2, m.yes, m.no⟩ : Mot)) 45 (.int .i64 2) rfl rfl hS (by show 30 < 33; decide) rfl rfl size_int23 rfl ?_; intro wa hS3 hb4 hz4 hk4; have HC2 := Lib.hid (HC2.out.box hS (by have := HC2s.out; omega) hb4 hk4 (fun q e => by cases e; show g ≠ _; omega)); have hS := hS3; clear hS3 hb4 hz4 hk4; have k22 : wa.cell? ⟨w.heap.size, 22, none⟩ = some (.int .i64 p.enact) := HC2.out.par.cell 22)
                  | (refine store_slot 3 _ _ rfl rfl _ 29 (Rec.vals (⟨m.acct, m.what, m.p, m.dest, m.amt, m.ends, m.due, 2, m.yes, m.no⟩ : Mot)) (Rec.vals (⟨m.acct, m.what, m.p, m.dest, m.amt, m.ends, dd, 2, m.yes, m.no⟩ : Mot)) 45 (.int .i64 dd) rfl rfl hS (by show 29 < 33; decide) rfl rfl size_int23 rfl ?_; intro wb hS3 hb4 hz4 hk4; have HC2 := Lib.hid (HC2.out.box hS (by have := HC2s.out; omega) hb4 hk4 (fun q e => by cases e; show g ≠ _; omega)); have hS := hS3; clear hS3 hb4 hz4 hk4 k22; have k29 : wb.cell? ⟨wr.heap.size, 29, none⟩ = some (.int .i64 dd) := hS.cell 29)
                  | (refine store_slot 3 _ _ rfl rfl _ 29 (Rec.vals (⟨m.acct, m.what, m.p, m.dest, m.amt, m.ends, dd, 2, m.yes, m.no⟩ : Mot)) (Rec.vals (⟨m.acct, m.what, m.p, m.dest, m.amt, m.ends, 2147483647, 2, m.yes, m.no⟩ : Mot)) 45 (.int .i64 2147483647) rfl rfl hS (by show 29 < 33; decide) rfl rfl size_int23 rfl ?_; intro wc hS3 hb4 hz4 hk4; have HC2 := Lib.hid (HC2.out.box hS (by have := HC2s.out; omega) hb4 hk4 (fun q e => by cases e; show g ≠ _; omega)); have hS := hS3; clear hS3 hb4 hz4 hk4 k29)
                  | ((with_reducible refine slot_is 83 rfl ?_); refine load_rec 45 _ rfl rfl _ (Rec.vals (⟨m.acct, m.what, m.p, m.dest, m.amt, m.ends, 2147483647, 2, m.yes, m.no⟩ : Mot)) rfl hS.lies Try.underlying45 size_rmot ?_)
                  | (refine store_row_rec 45 _ _ rfl rfl g k _ _ _ _ (N ++ l.drop k) m (⟨m.acct, m.what, m.p, m.dest, m.amt, m.ends, 2147483647, 2, m.yes, m.no⟩ : Mot) rfl rfl HC2.out.row HCX.out size_rmot ?_; intro wz hoz hgz hzz))
                have hbz : Below (w.heap.size + 1) wc wz := grown_to hgz hgL (Nat.le_trans (Nat.succ_le_of_lt (Nat.lt_of_lt_of_le HC2s.out (Nat.le_of_lt hS.lt))) (Nat.le_refl _))
                rw [mid_put HNL.out (show k < l.length by omega)] at hoz
                have HCz : Hid (Cl w wz p l (N ++ [(⟨m.acct, m.what, m.p, m.dest, m.amt, m.ends, 2147483647, 2, m.yes, m.no⟩ : Mot)]) (k + 1) (some ⟨g, 0, none⟩) c9) := Lib.hid ⟨HC2.out.par.below hbz (Nat.lt_succ_self _), hoz, fun x hx => by
                  rcases List.mem_append.1 hx with h | h
                  · exact HC2.out.each x h
                  · simp only [List.mem_cons, List.not_mem_nil, or_false] at h
                    rw [h]; exact ⟨HMA.out.yes, HMA.out.no, HMA.out.amt, HMA.out.par⟩, HC2.out.below.trans (hbz.mono (Nat.le_succ _))⟩
                clear hbz hoz hgz hzz HC2 HMA hS
                go_wp2
                go_roundw
                case rel => exact ⟨k + 1, N ++ [(⟨m.acct, m.what, m.p, m.dest, m.amt, m.ends, 2147483647, 2, m.yes, m.no⟩ : Mot)], by omega, by go_num, Lib.hid (HN1.out _), HP2, HCz⟩
                case measure => simp [intOf]; omega
          · skip
            have HCX := Lib.hid (mid_at (N := N) HNL.out HX.out)
            have hcar : m.pure.carried p.quorum mems = false := by unfold PMot.carried; rw [HT.out, decide_eq_false hTm, Bool.false_and]
            have HP2 := Lib.hid (hnext _ rfl (⟨m.acct, m.what, m.p, m.dest, m.amt, m.ends, m.due, 4, m.yes, m.no⟩ : Mot) (by unfold PMot.closed; rw [if_pos ⟨hst, hen⟩, if_neg (by rw [hcar]; simp)]; rfl))
            have UT := Lib.hid (fun (v : Value) (W : World) (h : Num T v W) => num_uint T v W h)
            rw [decide_eq_false hTm] at UT
            obtain ⟨ta, hta⟩ : ∃ x, tx T = x := ⟨_, rfl⟩
            rw [hta] at UT
            obtain ⟨Yy, hYy⟩ : ∃ x, presents mems m.yes.bs mems.length = x := ⟨_, rfl⟩
            obtain ⟨Nn, hNn⟩ : ∃ x, presents mems m.no.bs mems.length = x := ⟨_, rfl⟩
            have UY := Lib.hid (fun (v : Value) (W : World) (h : Num Yy v W) => num_uint Yy v W h)
            have UN := Lib.hid (fun (v : Value) (W : World) (h : Num Nn v W) => num_uint Nn v W h)
            obtain ⟨ty, hty⟩ : ∃ x, tx Yy = x := ⟨_, rfl⟩
            obtain ⟨tn, htn⟩ : ∃ x, tx Nn = x := ⟨_, rfl⟩
            obtain ⟨by1, hby⟩ : ∃ x, decide (Yy ≤ 18446744073709551615) = x := ⟨_, rfl⟩
            obtain ⟨bn1, hbn⟩ : ∃ x, decide (Nn ≤ 18446744073709551615) = x := ⟨_, rfl⟩
            rw [hty, hby] at UY
            rw [htn, hbn] at UN
            have KY := Lib.hid (fun (W : World) (hB : Below w.heap.size w W) (hb : BvAt W m.yes) => KW.out m.yes W hB hb)
            have KN := Lib.hid (fun (W : World) (hB : Below w.heap.size w W) (hb : BvAt W m.no) => KW.out m.no W hB hb)
            rw [hYy] at KY
            rw [hNn] at KN
            have hen2 : decide (ep < m.ends) = false := decide_eq_false (by omega)
            have st1 : (Rec.vals m)[30]? = some (.int .i64 1) := by show some (Value.int .i64 m.st) = _; rw [hst]
            clear hnext HNP hYy hNn hcar hTm KW hta hty htn hby hbn hen hst
            go_wp2_with (first
              | (refine load_rec 45 _ rfl rfl _ (Rec.vals m) rfl hat Try.underlying45 size_rmot ?_)
              | (refine store_rec 45 _ _ rfl rfl _ (Rec.vals m) (Rec.vals Mot.zero) 45 rfl rfl (RecAt.new _ (Rec.vals Mot.zero) _) size_rmot rfl (Rec.one m) ?_; intro w2 hS hb hsz hkp; clear hsz hkp; have hb := rec_made (Below.refl _ _) hb; have HC2 := Lib.hid (HCr.out.up hb); clear hb hat; have k30 : w2.cell? ⟨wr.heap.size, 30, none⟩ = some (.int .i64 1) := (hS.cell 30).trans st1; have k28 : w2.cell? ⟨wr.heap.size, 28, none⟩ = some (.int .i64 m.ends) := hS.cell 28; have HC2s := Lib.hid (show w.heap.size < wr.heap.size from Nat.lt_of_le_of_lt (Nat.le_of_succ_le hgL) hgr))
              | (go_at_call 59; refine (KA.out _ HC2.out.below).mono ?_; clear KA; rintro e w3 ⟨v3, rfl, hv3, hb⟩; have HC2 := Lib.hid (HC2.out.up hb); have hS := hS.up hb; clear hb; clear k30 k28)
              | (go_at_call 58; refine (UT.out _ _ hv3).mono ?_; clear UT hv3; rintro e w4 ⟨rfl, hb⟩; have HC2 := Lib.hid (HC2.out.up hb); have hS := hS.up hb; clear hb; have k31 : w4.cell? ⟨wr.heap.size, 31, none⟩ = some (.slice m.yes.row m.yes.bs.length m.yes.cap) := hS.cell 31)
              | (go_at_call 60; refine (KY.out _ HC2.out.below (HMA.out.yes.up HC2.out.below)).mono ?_; clear KY; rintro e w5 ⟨v5, rfl, hv5, hb⟩; have HC2 := Lib.hid (HC2.out.up hb); have hS := hS.up hb; clear hb; clear k31)
              | (go_at_call 58; refine (UY.out _ _ hv5).mono ?_; clear UY hv5; rintro e w6 ⟨rfl, hb⟩; have HC2 := Lib.hid (HC2.out.up hb); have hS := hS.up hb; clear hb; have k32 : w6.cell? ⟨wr.heap.size, 32, none⟩ = some (.slice m.no.row m.no.bs.length m.no.cap) := hS.cell 32)
              | (go_at_call 60; refine (KN.out _ HC2.out.below (HMA.out.no.up HC2.out.below)).mono ?_; clear KN; rintro e w7 ⟨v7, rfl, hv7, hb⟩; have HC2 := Lib.hid (HC2.out.up hb); have hS := hS.up hb; clear hb; clear k32)
              | (go_at_call 58; refine (UN.out _ _ hv7).mono ?_; clear UN hv7; rintro e w8 ⟨rfl, hb⟩; have HC2 := Lib.hid (HC2.out.up hb); have hS := hS.up hb; clear hb; have k23 : w8.cell? ⟨w.heap.size, 23, none⟩ = some (.int .i64 p.quorum) := HC2.out.par.cell 23)
              | (refine store_slot 3 _ _ rfl rfl _ 30 (Rec.vals m) (Rec.vals (⟨m.acct, m.what, m.p, m.dest, m.amt, m.ends, m.due, 4, m.yes, m.no⟩ : Mot)) 45 (.int .i64 4) rfl rfl hS (by show 30 < 33; decide) rfl rfl size_int23 rfl ?_; intro wa hS3 hb4 hz4 hk4; have HC2 := Lib.hid (HC2.out.box hS (by have := HC2s.out; omega) hb4 hk4 (fun q e => by cases e; show g ≠ _; omega)); have hS := hS3; clear hS3 hb4 hz4 hk4 )
              | ((with_reducible refine slot_is 83 rfl ?_); refine load_rec 45 _ rfl rfl _ (Rec.vals (⟨m.acct, m.what, m.p, m.dest, m.amt, m.ends, m.due, 4, m.yes, m.no⟩ : Mot)) rfl hS.lies Try.underlying45 size_rmot ?_)
              | (refine store_row_rec 45 _ _ rfl rfl g k _ _ _ _ (N ++ l.drop k) m (⟨m.acct, m.what, m.p, m.dest, m.amt, m.ends, m.due, 4, m.yes, m.no⟩ : Mot) rfl rfl HC2.out.row HCX.out size_rmot ?_; intro wz hoz hgz hzz))
            have hbz : Below (w.heap.size + 1) wa wz := grown_to hgz hgL (Nat.le_trans (Nat.succ_le_of_lt (Nat.lt_of_lt_of_le HC2s.out (Nat.le_of_lt hS.lt))) (Nat.le_refl _))
            rw [mid_put HNL.out (show k < l.length by omega)] at hoz
            have HCz : Hid (Cl w wz p l (N ++ [(⟨m.acct, m.what, m.p, m.dest, m.amt, m.ends, m.due, 4, m.yes, m.no⟩ : Mot)]) (k + 1) (some ⟨g, 0, none⟩) c9) := Lib.hid ⟨HC2.out.par.below hbz (Nat.lt_succ_self _), hoz, fun x hx => by
              rcases List.mem_append.1 hx with h | h
              · exact HC2.out.each x h
              · simp only [List.mem_cons, List.not_mem_nil, or_false] at h
                rw [h]; exact ⟨HMA.out.yes, HMA.out.no, HMA.out.amt, HMA.out.par⟩, HC2.out.below.trans (hbz.mono (Nat.le_succ _))⟩
            clear hbz hoz hgz hzz HC2 HMA hS
            go_wp2
            go_roundw
            case rel => exact ⟨k + 1, N ++ [(⟨m.acct, m.what, m.p, m.dest, m.amt, m.ends, m.due, 4, m.yes, m.no⟩ : Mot)], by omega, by go_num, Lib.hid (HN1.out _), HP2, HCz⟩
            case measure => simp [intOf]; omega
        · skip
          have hen2 : decide (ep < m.ends) = true := decide_eq_true (by omega)
          have st1 : (Rec.vals m)[30]? = some (.int .i64 1) := by show some (Value.int .i64 m.st) = _; rw [hst]
          have HP2 := Lib.hid (hnext _ rfl m (by unfold PMot.closed; rw [if_neg (fun h => hen h.2)]))
          clear hnext HNP
          go_wp2_with (first
            | (refine load_rec 45 _ rfl rfl _ (Rec.vals m) rfl hat Try.underlying45 size_rmot ?_)
            | (refine store_rec 45 _ _ rfl rfl _ (Rec.vals m) (Rec.vals Mot.zero) 45 rfl rfl (RecAt.new _ (Rec.vals Mot.zero) _) size_rmot rfl (Rec.one m) ?_; intro w2 hS hb hsz hkp; clear hsz hkp; have hb := rec_made (Below.refl _ _) hb; have HC2 := Lib.hid (HCr.out.up hb); clear hb hat; have k30 : w2.cell? ⟨wr.heap.size, 30, none⟩ = some (.int .i64 1) := (hS.cell 30).trans st1; have k28 : w2.cell? ⟨wr.heap.size, 28, none⟩ = some (.int .i64 m.ends) := hS.cell 28))
          go_roundw
          case rel => exact ⟨k + 1, N ++ [m], by omega, by go_num, Lib.hid (HN1.out m), HP2, Lib.hid ⟨HC2.out.par, by rw [← HD.out]; exact HC2.out.row, fun x hx => by
            rcases List.mem_append.1 hx with h | h
            · exact HC2.out.each x h
            · simp only [List.mem_cons, List.not_mem_nil, or_false] at h
              rw [h]; exact HMA.out, HC2.out.below⟩⟩
          case measure => simp [intOf]; omega
      · skip
        have b1 : (m.st == 1) = false := by simp [hst]
        have b2 : (m.st != 1) = true := by simp [hst]
        have HP2 := Lib.hid (hnext _ rfl m (by unfold PMot.closed; rw [if_neg (fun h => hst h.1)]))
        clear hnext HNP
        go_wp2_with (first
          | (refine load_rec 45 _ rfl rfl _ (Rec.vals m) rfl hat Try.underlying45 size_rmot ?_)
          | (refine store_rec 45 _ _ rfl rfl _ (Rec.vals m) (Rec.vals Mot.zero) 45 rfl rfl (RecAt.new _ (Rec.vals Mot.zero) _) size_rmot rfl (Rec.one m) ?_; intro w2 hS hb hsz hkp; clear hsz hkp; have hb := rec_made (Below.refl _ _) hb; have HC2 := Lib.hid (HCr.out.up hb); clear hb hat; have k30 : w2.cell? ⟨wr.heap.size, 30, none⟩ = some (.int .i64 m.st) := hS.cell 30; have k28 : w2.cell? ⟨wr.heap.size, 28, none⟩ = some (.int .i64 m.ends) := hS.cell 28))
        go_roundw
        case rel => exact ⟨k + 1, N ++ [m], by omega, by go_num, Lib.hid (HN1.out m), HP2, Lib.hid ⟨HC2.out.par, by rw [← HD.out]; exact HC2.out.row, fun x hx => by
          rcases List.mem_append.1 hx with h | h
          · exact HC2.out.each x h
          · simp only [List.mem_cons, List.not_mem_nil, or_false] at h
            rw [h]; exact HMA.out, HC2.out.below⟩⟩
        case measure => simp [intOf]; omega
    · obtain rfl : k = l.length := by omega
      have hC := HCr.out
      have hrow := hC.row
      rw [List.drop_length, List.append_nil] at hrow
      have hP := HNP.out
      rw [List.take_of_length_le (by simp)] at hP
      have hNL := HNL.out
      have hS := own_sl (b := 296) hrow (by omega)
      clear HNP
      go_wp2
      go_ret
      exact ⟨N, A9, c9, by first | (rw [hNL]; rfl) | (rw [hNL]; simp), hP, ⟨by rw [hNL]; exact hS.le, hS.most, hS.none, hS.row, fun m hm => (hC.each m hm).up hC.below⟩, hC.below⟩
end Go.Proofs.Ytcaejanfhchacaa
