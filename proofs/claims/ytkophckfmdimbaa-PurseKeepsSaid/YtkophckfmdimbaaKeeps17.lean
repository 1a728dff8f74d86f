/- Law PurseKeeps (P17.3): what is pmoved is lost nowhere; from an account to itself nothing changes; back again it is what was. No condition. -/
import Derived.Test.YtkophckfmdimbaaRows
import Derived.Test.YtkophckfmdimbaaPurC
import Derived.Test.YtkophckfmdimbaaSeqV
namespace Go.Proofs.Ytkophckfmdimbaa.PurseKeeps
open Go.ChangeShapes Go.WideShapes Go.ChangeAt Go.RowKit
set_option linter.unusedVariables false
set_option linter.unusedSimpArgs false

theorem keeps_set {xs : List Nat} {k m n q : Nat} (hk : k < xs.length) (hm : m < xs.length) (hq : q < xs.length) (h1 : q ≠ k) (h2 : q ≠ m) (x y : Nat) : ((xs.set k x).set m y)[q]'(by simpa using hq) = xs[q] := by
  rw [List.getElem_set_ne (fun e => h2 e.symm), List.getElem_set_ne (fun e => h1 e.symm)]

/-- From an account to itself. -/
theorem self_is {xs : List Nat} {k n : Nat} (hk : k < xs.length) (hn : n ≤ xs[k]) : (xs.set k (xs[k] - n)).set k ((xs.set k (xs[k] - n)).getD k 0 + n) = xs := by
  have e : (xs.set k (xs[k] - n)).getD k 0 = xs[k] - n := by simp [hk]
  rw [e, List.set_set, Nat.sub_add_cancel hn]
  exact List.set_getElem_self hk
/-- Back again. -/
theorem back_is {xs : List Nat} {k m n : Nat} (hk : k < xs.length) (hm : m < xs.length) (hkm : k ≠ m) (hn : n ≤ xs[k]) :
    pmoved ((xs.set k (xs[k] - n)).set m (xs[m] + n)) (m : Int) (k : Int) n = if 4611686018427387904 < xs[k] then ([], 10) else (xs, 0) := by
  have hk' : k < ((xs.set k (xs[k] - n)).set m (xs[m] + n)).length := by simpa using hk
  have hm' : m < ((xs.set k (xs[k] - n)).set m (xs[m] + n)).length := by simpa using hm
  have em : ((xs.set k (xs[k] - n)).set m (xs[m] + n))[m] = xs[m] + n := by rw [List.getElem_set_self]
  have hd : pdrawn ((xs.set k (xs[k] - n)).set m (xs[m] + n)) (m : Int) n = (xs.set k (xs[k] - n), 0) := by
    rw [pdrawn_ok hm' (by rw [em]; omega), em, List.set_set, Nat.add_sub_cancel]
    have e : (xs.set k (xs[k] - n)).set m xs[m] = xs.set k (xs[k] - n) := by
      have h : (xs.set k (xs[k] - n))[m]'(by simpa using hm) = xs[m] := List.getElem_set_ne hkm _
      conv => lhs; rw [← h]
      exact List.set_getElem_self _
    rw [e]
  have hk2 : k < (xs.set k (xs[k] - n)).length := by simpa using hk
  have ek : (xs.set k (xs[k] - n))[k] + n = xs[k] := by rw [List.getElem_set_self]; omega
  rw [pmoved_paid (purse_is hk') (by rw [hd]), hd]
  by_cases h : 4611686018427387904 < xs[k]
  · rw [if_pos h, ppaid_over hk2 (by rw [ek]; exact h)]
  · rw [if_neg h, ppaid_ok hk2 (by rw [ek]; exact h), ek, List.set_set, List.set_getElem_self]

set_option maxRecDepth 100000 in
theorem walk_big (xs : List Nat) (A : Option Addr) (c : Nat) (f t : Int) (n : Nat) (w : World) (h : 200 < xs.length) (hl : xs.length ≤ 9223372036854775807) :
    Calls Try.prog 5 #[.slice A xs.length c, .agg #[.int .i64 f, .int .i64 t, .int .u64 (n : Int)]] w fun e w' => e = .returned (.bool true) ∧ Below w.heap.size w w' := by
  have hB : Below w.heap.size w (w.alloc (.cells #[.int .i64 f, .int .i64 t, .int .u64 (n : Int)] 25)) := (Below.refl _ _).alloc (Nat.le_refl _) _
  go_enter Try.func5, Try.ntmps5
  go_wp2_with (go_at_call 6; refine (purse_awake _).mono ?_; rintro e w1 ⟨rfl, hb1⟩)
  go_ret
  exact ⟨rfl, Below.then hB hb1⟩

set_option maxRecDepth 100000 in
set_option maxHeartbeats 2000000 in
theorem walk_err (xs : List Nat) (A : Option Addr) (c : Nat) (f t : Int) (n y : Nat) (w : World) (hr : Row w w.heap.size A (u64s xs)) (h200 : xs.length ≤ 200) (hy : y ≠ 0)
    (km : ∀ (A : Option Addr) (c : Nat) (u : World), Row u u.heap.size A (u64s xs) → Calls Try.prog 10 #[.slice A xs.length c, .int .i64 f, .int .i64 t, .int .u64 (n : Int)] u fun e w' => ∃ A c, e = .returned (.tuple #[.slice A 0 c, .int .i64 (y : Int)]) ∧ Below u.heap.size u w') :
    Calls Try.prog 5 #[.slice A xs.length c, .agg #[.int .i64 f, .int .i64 t, .int .u64 (n : Int)]] w fun e w' => e = .returned (.bool true) ∧ Below w.heap.size w w' := by
  have hX := WayAt.new w f t n 25
  have hB : Below w.heap.size w (w.alloc (.cells #[.int .i64 f, .int .i64 t, .int .u64 (n : Int)] 25)) := (Below.refl _ _).alloc (Nat.le_refl _) _
  have hr := (hr.below hB).up hB.size
  have KM := Lib.hid km
  have h201 : (xs.length : Int) ≤ 200 := by omega
  have y0 : ((y : Int) == 0) = false := by simp; omega
  have y1 : ((y : Int) != 0) = true := by simp; omega
  clear km hy h200
  go_enter Try.func5, Try.ntmps5
  go_wp2_with (first
    | (go_at_call 6; refine (purse_awake _).mono ?_; rintro e w1 ⟨rfl, hb1⟩; have hr := hr.next hb1; have hX := hX.up hb1; have hB := Below.then hB hb1; clear hb1; have x0 := hX.c0; have x1 := hX.c1; have x2 := hX.c2)
    | (go_at_call 10; refine (KM.out A c w1 hr).mono ?_; clear KM; rintro e w2 ⟨A2, c2, rfl, hb2⟩; have hB := Below.then hB hb2))
  go_ret
  exact ⟨rfl, hB⟩

set_option maxRecDepth 100000 in
set_option maxHeartbeats 2000000 in
theorem walk_self (xs : List Nat) (a : Addr) (c : Nat) (k n : Nat) (w : World) (hr : Row w w.heap.size (some a) (u64s xs)) (h200 : xs.length ≤ 200) (hk : k < xs.length)
    (km : ∀ (A : Option Addr) (c : Nat) (u : World), Row u u.heap.size A (u64s xs) → Calls Try.prog 10 #[.slice A xs.length c, .int .i64 (k : Int), .int .i64 (k : Int), .int .u64 (n : Int)] u fun e w' => ∃ A c, e = .returned (.tuple #[.slice A xs.length c, .int .i64 0]) ∧ Row w' w'.heap.size A (u64s xs) ∧ Below u.heap.size u w') :
    Calls Try.prog 5 #[.slice (some a) xs.length c, .agg #[.int .i64 (k : Int), .int .i64 (k : Int), .int .u64 (n : Int)]] w fun e w' => e = .returned (.bool true) ∧ Below w.heap.size w w' := by
  have hX := WayAt.new w (k : Int) (k : Int) n 25
  have hB : Below w.heap.size w (w.alloc (.cells #[.int .i64 (k : Int), .int .i64 (k : Int), .int .u64 (n : Int)] 25)) := (Below.refl _ _).alloc (Nat.le_refl _) _
  have hr := (hr.below hB).up hB.size
  have KM := Lib.hid km
  have h201 : (xs.length : Int) ≤ 200 := by omega
  have HL : Hid (xs.length ≤ maxLen) := by show _ ≤ _; unfold maxLen; omega
  obtain ⟨m, hmk⟩ : ∃ m, m = k := ⟨_, rfl⟩
  have HM := Lib.hid hmk
  have HK := Lib.hid hk
  have CL : Hid (∀ (e2 : Addr) (u : World), Row u u.heap.size (some e2) (u64s xs) → Row u u.heap.size (some a) (u64s xs) → ∀ q, q < xs.length → ∃ y : Nat, u.cell? (e2.add q) = some (.int .u64 (y : Int)) ∧ u.cell? (a.add q) = some (.int .u64 (y : Int))) :=
    Lib.hid (fun e2 u h1 h2 q hq => ⟨xs[q], h1.src _ _ (u64s_get hq), h2.src _ _ (u64s_get hq)⟩)
  have a0 : ¬ (k : Int) < 0 := by omega
  have a1 : (k : Int) < (xs.length : Int) := by omega
  have a2 : (0 : Int) ≤ (k : Int) := by omega
  clear km h200 hk hmk
  go_enter Try.func5, Try.ntmps5
  go_wp2_with (first
    | (go_at_call 6; refine (purse_awake _).mono ?_; rintro e w1 ⟨rfl, hb1⟩; have hr := hr.next hb1; have hX := hX.up hb1; have hB := Below.then hB hb1; clear hb1; have x0 := hX.c0; have x1 := hX.c1; have x2 := hX.c2)
    | (go_at_call 10; refine (KM.out (some a) c w1 hr).mono ?_; clear KM; rintro e w2 ⟨A2, c2, rfl, hl, hb2⟩; have hr := hr.next hb2; have hX := hX.up hb2; have hB := Below.then hB hb2; clear hb2; have x0 := hX.c0; have x1 := hX.c1; have x2 := hX.c2))
  obtain ⟨e2, rfl, _⟩ := hl.word HK.out
  go_loop [63] (fun i => ∃ q : Nat, q ≤ xs.length ∧ i = .int .i64 (q : Int)) (fun i => xs.length - (intOf i).toNat)
  case atStart => exact ⟨0, Nat.zero_le _, rfl⟩
  case round =>
    obtain ⟨q, hq, rfl⟩ := hrel
    by_cases hlt : q < xs.length
    · obtain ⟨y, hcl, hcx⟩ := CL.out e2 w2 hl hr q hlt
      have q0 : (0 : Int) ≤ (q : Int) := by omega
      have q1 : (q : Int) < (xs.length : Int) := by omega
      by_cases hqk : q = k
      · subst hqk
        clear hcx
        go_wp2
        go_round
        case rel => exact ⟨q + 1, by omega, by go_num⟩
        case measure => simp [intOf]; omega
      · have n0 : ((q : Int) == (k : Int)) = false := by simp; omega
        have n1 : ((q : Int) != (k : Int)) = true := by simp; omega
        go_wp2
        go_round
        case rel => exact ⟨q + 1, by omega, by go_num⟩
        case measure => simp [intOf]; omega
    · obtain rfl : q = xs.length := by omega
      go_wp2_with (go_at_call 15; refine (same_words_true xs (some e2) (some a) c2 c w2 hl hr HL.out).mono ?_; rintro e w3 ⟨rfl, hb3⟩; have hB := Below.then hB hb3; clear hb3)
      go_ret
      exact ⟨rfl, hB⟩

set_option maxRecDepth 100000 in
set_option maxHeartbeats 2000000 in
theorem walk_back (xs l : List Nat) (a : Addr) (c : Nat) (k m n x z lo hi : Nat) (w : World) (hr : Row w w.heap.size (some a) (u64s xs)) (h200 : xs.length ≤ 200) (hk : k < xs.length) (hm : m < xs.length) (hkm : k ≠ m)
    (hll : l.length = xs.length) (gx : xs[k] = x) (gz : xs[m] = z) (gl : l[k]'(by rw [hll]; exact hk) = lo) (gh : l[m]'(by rw [hll]; exact hm) = hi) (hx : x ≤ 18446744073709551615) (hlo : lo + n = x) (hhi : z + n = hi) (hh : hi ≤ 18446744073709551615) 
    (hall : ∀ q (hq : q < xs.length), q ≠ k → q ≠ m → l[q]'(by rw [hll]; exact hq) = xs[q])
    (km : ∀ (A : Option Addr) (c : Nat) (u : World), Row u u.heap.size A (u64s xs) → Calls Try.prog 10 #[.slice A xs.length c, .int .i64 (k : Int), .int .i64 (m : Int), .int .u64 (n : Int)] u fun e w' => ∃ A c, e = .returned (.tuple #[.slice A xs.length c, .int .i64 0]) ∧ Row w' w'.heap.size A (u64s l) ∧ Below u.heap.size u w')
    (kb : ∀ (A : Option Addr) (c : Nat) (u : World), Row u u.heap.size A (u64s l) → Calls Try.prog 10 #[.slice A xs.length c, .int .i64 (m : Int), .int .i64 (k : Int), .int .u64 (n : Int)] u fun e w' => ∃ A c, e = .returned (.tuple #[.slice A xs.length c, .int .i64 0]) ∧ Row w' w'.heap.size A (u64s xs) ∧ Below u.heap.size u w') :
    Calls Try.prog 5 #[.slice (some a) xs.length c, .agg #[.int .i64 (k : Int), .int .i64 (m : Int), .int .u64 (n : Int)]] w fun e w' => e = .returned (.bool true) ∧ Below w.heap.size w w' := by
  have hX := WayAt.new w (k : Int) (m : Int) n 25
  have hB : Below w.heap.size w (w.alloc (.cells #[.int .i64 (k : Int), .int .i64 (m : Int), .int .u64 (n : Int)] 25)) := (Below.refl _ _).alloc (Nat.le_refl _) _
  have hr := (hr.below hB).up hB.size
  have KM := Lib.hid km
  have KB := Lib.hid kb
  have h201 : (xs.length : Int) ≤ 200 := by omega
  have HL : Hid (xs.length ≤ maxLen) := by show _ ≤ _; unfold maxLen; omega
  have HK := Lib.hid hk
  have HM := Lib.hid hm
  have CL : Hid (∀ (e2 : Addr) (u : World), Row u u.heap.size (some e2) (u64s l) → Row u u.heap.size (some a) (u64s xs) → ∀ q, q < xs.length → ∃ y : Nat, u.cell? (e2.add q) = some (.int .u64 (y : Int)) ∧ (q ≠ k → q ≠ m → u.cell? (a.add q) = some (.int .u64 (y : Int)))) :=
    Lib.hid (fun e2 u h1 h2 q hq => ⟨l[q]'(by rw [hll]; exact hq), h1.src _ _ (u64s_get _), fun h3 h4 => by rw [hall q hq h3 h4]; exact h2.src _ _ (u64s_get hq)⟩)
  have CC : Hid (∀ (e2 : Addr) (u : World), Row u u.heap.size (some e2) (u64s l) → Row u u.heap.size (some a) (u64s xs) → u.cell? (a.add k) = some (.int .u64 (x : Int)) ∧ u.cell? (e2.add k) = some (.int .u64 (lo : Int)) ∧ u.cell? (e2.add m) = some (.int .u64 (hi : Int)) ∧ u.cell? (a.add m) = some (.int .u64 (z : Int))) :=
    Lib.hid (fun e2 u h1 h2 => ⟨by rw [← gx]; exact h2.src _ _ (u64s_get hk), by rw [← gl]; exact h1.src _ _ (u64s_get _), by rw [← gh]; exact h1.src _ _ (u64s_get _), by rw [← gz]; exact h2.src _ _ (u64s_get hm)⟩)
  have HLL := Lib.hid hll
  have v0 : IntKind.u64.wrap ((x : Int) - (lo : Int)) = (n : Int) := by rw [IntKind.wrap_u64]; omega
  have v1 : IntKind.u64.wrap ((hi : Int) - (z : Int)) = (n : Int) := by rw [IntKind.wrap_u64]; omega

  have a0 : ¬ (k : Int) < 0 := by omega
  have a1 : (k : Int) < (xs.length : Int) := by omega
  have a2 : (0 : Int) ≤ (k : Int) := by omega
  have b0 : ¬ (m : Int) < 0 := by omega
  have b1 : (m : Int) < (xs.length : Int) := by omega
  have b2 : (0 : Int) ≤ (m : Int) := by omega
  have c0 : ((k : Int) == (m : Int)) = false := by simp; omega
  clear km kb h200 hk hm hkm hll gx gz gl gh hx hlo hhi hh hall
  go_enter Try.func5, Try.ntmps5
  go_wp2_with (first
    | (go_at_call 6; refine (purse_awake _).mono ?_; rintro e w1 ⟨rfl, hb1⟩; have hr := hr.next hb1; have hX := hX.up hb1; have hB := Below.then hB hb1; clear hb1; have x0 := hX.c0; have x1 := hX.c1; have x2 := hX.c2)
    | (go_at_call 10; refine (KM.out (some a) c w1 hr).mono ?_; clear KM; rintro e w2 ⟨A2, c2, rfl, hl, hb2⟩; have hr := hr.next hb2; have hX := hX.up hb2; have hB := Below.then hB hb2; clear hb2; have x0 := hX.c0; have x1 := hX.c1; have x2 := hX.c2))
  obtain ⟨e2, rfl, _⟩ := hl.word (k := k) (by rw [HLL.out]; exact HK.out)
  go_loop [63] (fun i => ∃ q : Nat, q ≤ xs.length ∧ i = .int .i64 (q : Int)) (fun i => xs.length - (intOf i).toNat)
  case atStart => exact ⟨0, Nat.zero_le _, rfl⟩
  case round =>
    obtain ⟨q, hq, rfl⟩ := hrel
    by_cases hlt : q < xs.length
    · obtain ⟨y, hcl, hcx⟩ := CL.out e2 w2 hl hr q hlt
      have q0 : (0 : Int) ≤ (q : Int) := by omega
      have q1 : (q : Int) < (xs.length : Int) := by omega
      by_cases hqk : q = k
      · subst hqk
        clear hcx
        go_wp2
        go_round
        case rel => exact ⟨q + 1, by omega, by go_num⟩
        case measure => simp [intOf]; omega
      · have n0 : ((q : Int) == (k : Int)) = false := by simp; omega
        have n1 : ((q : Int) != (k : Int)) = true := by simp; omega
        by_cases hqm : q = m
        · subst hqm
          clear hcx
          go_wp2
          go_round
          case rel => exact ⟨q + 1, by omega, by go_num⟩
          case measure => simp [intOf]; omega
        · have n2 : ((q : Int) == (m : Int)) = false := by simp; omega
          have n3 : ((q : Int) != (m : Int)) = true := by simp; omega
          have hcx := hcx hqk hqm
          go_wp2
          go_round
          case rel => exact ⟨q + 1, by omega, by go_num⟩
          case measure => simp [intOf]; omega
    · obtain rfl : q = xs.length := by omega
      go_wp2_with (go_at_call 10; refine (KB.out (some e2) c2 w2 hl).mono ?_; clear KB; rintro e w3 ⟨A3, c3, rfl, hs3, hb3⟩; have hr := hr.next hb3; have hl := hl.next hb3; have hX := hX.up hb3; have hB := Below.then hB hb3; clear hb3; clear x0 x1 x2)
      have cells : ∀ w', Below w3.heap.size w3 w' → w'.cell? ⟨w.heap.size, 0, none⟩ = some (.int .i64 (k : Int)) ∧ w'.cell? ⟨w.heap.size, 1, none⟩ = some (.int .i64 (m : Int)) ∧ w'.cell? ⟨w.heap.size, 2, none⟩ = some (.int .u64 (n : Int)) ∧ w'.cell? (a.add k) = some (.int .u64 (x : Int)) ∧ w'.cell? (e2.add k) = some (.int .u64 (lo : Int)) ∧ w'.cell? (e2.add m) = some (.int .u64 (hi : Int)) ∧ w'.cell? (a.add m) = some (.int .u64 (z : Int)) :=
        fun w' h => ⟨(hX.up h).c0, (hX.up h).c1, (hX.up h).c2, CC.out e2 w' (hl.next h) (hr.next h)⟩
      have rows : ∀ w2, Below w3.heap.size w3 w2 → Row w2 w2.heap.size A3 (u64s xs) ∧ Row w2 w2.heap.size (some a) (u64s xs) := fun w2 h => ⟨hs3.next h, hr.next h⟩
      refine region_list [] (fun _ w' => Below w3.heap.size w3 w') (by kernel_rfl) (by kernel_rfl) (Below.refl _ _).drew ?_
      iterate 2 ((refine' SeqS.calm _ (by rfl) (by rfl) (fun w => ?_) ?_; rotate_left; · (go_simp <;> with_reducible rfl)); simp only [Act.put, List.setIfInBounds_toArray, List.set_cons_zero, List.set_cons_succ])
      refine' SeqS.take _ (by rfl) (by rfl) (fun ph w' hS => ?_) ?_; rotate_left; · (obtain ⟨x0, x1, x2, d0, d1, d2, d3⟩ := cells w' hS; go_simp <;> with_reducible rfl)
      simp only [Act.put, List.setIfInBounds_toArray, List.set_cons_zero, List.set_cons_succ]
      refine' SeqS.calm _ (by rfl) (by rfl) (fun w => ?_) ?_; rotate_left; · (go_simp <;> with_reducible rfl)
      simp only [Act.put, List.setIfInBounds_toArray, List.set_cons_zero, List.set_cons_succ]
      refine' SeqS.take _ (by rfl) (by rfl) (fun ph w' hS => ?_) ?_; rotate_left; · (obtain ⟨x0, x1, x2, d0, d1, d2, d3⟩ := cells w' hS; go_simp <;> with_reducible rfl)
      simp only [Act.put, List.setIfInBounds_toArray, List.set_cons_zero, List.set_cons_succ]
      iterate 2 ((refine' SeqS.calm _ (by rfl) (by rfl) (fun w => ?_) ?_; rotate_left; · (go_simp <;> with_reducible rfl)); simp only [Act.put, List.setIfInBounds_toArray, List.set_cons_zero, List.set_cons_succ])
      refine' SeqS.take _ (by rfl) (by rfl) (fun ph w' hS => ?_) ?_; rotate_left; · (obtain ⟨x0, x1, x2, d0, d1, d2, d3⟩ := cells w' hS; go_simp <;> with_reducible rfl)
      simp only [Act.put, List.setIfInBounds_toArray, List.set_cons_zero, List.set_cons_succ]
      refine' SeqS.calm _ (by rfl) (by rfl) (fun w => ?_) ?_; rotate_left; · (go_simp <;> with_reducible rfl)
      simp only [Act.put, List.setIfInBounds_toArray, List.set_cons_zero, List.set_cons_succ]
      refine' SeqS.take _ (by rfl) (by rfl) (fun ph w' hS => ?_) ?_; rotate_left; · (obtain ⟨x0, x1, x2, d0, d1, d2, d3⟩ := cells w' hS; go_simp <;> with_reducible rfl)
      simp only [Act.put, List.setIfInBounds_toArray, List.set_cons_zero, List.set_cons_succ]
      iterate 2 ((refine' SeqS.calm _ (by rfl) (by rfl) (fun w => ?_) ?_; rotate_left; · (go_simp <;> with_reducible rfl)); simp only [Act.put, List.setIfInBounds_toArray, List.set_cons_zero, List.set_cons_succ])
      refine' SeqS.take _ (by rfl) (by rfl) (fun ph w' hS => ?_) ?_; rotate_left; · (obtain ⟨x0, x1, x2, d0, d1, d2, d3⟩ := cells w' hS; go_simp <;> with_reducible rfl)
      simp only [Act.put, List.setIfInBounds_toArray, List.set_cons_zero, List.set_cons_succ]
      iterate 4 ((refine' SeqS.calm _ (by rfl) (by rfl) (fun w => ?_) ?_; rotate_left; · (go_simp <;> with_reducible rfl)); simp only [Act.put, List.setIfInBounds_toArray, List.set_cons_zero, List.set_cons_succ])
      refine' SeqS.take _ (by rfl) (by rfl) (fun ph w' hS => ?_) ?_; rotate_left; · (obtain ⟨x0, x1, x2, d0, d1, d2, d3⟩ := cells w' hS; go_simp <;> with_reducible rfl)
      simp only [Act.put, List.setIfInBounds_toArray, List.set_cons_zero, List.set_cons_succ]
      refine' SeqS.calm _ (by rfl) (by rfl) (fun w => ?_) ?_; rotate_left; · (go_simp <;> with_reducible rfl)
      simp only [Act.put, List.setIfInBounds_toArray, List.set_cons_zero, List.set_cons_succ]
      refine' SeqS.take _ (by rfl) (by rfl) (fun ph w' hS => ?_) ?_; rotate_left; · (obtain ⟨x0, x1, x2, d0, d1, d2, d3⟩ := cells w' hS; go_simp <;> with_reducible rfl)
      simp only [Act.put, List.setIfInBounds_toArray, List.set_cons_zero, List.set_cons_succ]
      iterate 2 ((refine' SeqS.calm _ (by rfl) (by rfl) (fun w => ?_) ?_; rotate_left; · (go_simp <;> with_reducible rfl)); simp only [Act.put, List.setIfInBounds_toArray, List.set_cons_zero, List.set_cons_succ])
      refine' SeqS.take _ (by rfl) (by rfl) (fun ph w' hS => ?_) ?_; rotate_left; · (obtain ⟨x0, x1, x2, d0, d1, d2, d3⟩ := cells w' hS; go_simp <;> with_reducible rfl)
      simp only [Act.put, List.setIfInBounds_toArray, List.set_cons_zero, List.set_cons_succ]
      refine' SeqS.calm _ (by rfl) (by rfl) (fun w => ?_) ?_; rotate_left; · (go_simp <;> with_reducible rfl)
      simp only [Act.put, List.setIfInBounds_toArray, List.set_cons_zero, List.set_cons_succ]
      refine' SeqS.take _ (by rfl) (by rfl) (fun ph w' hS => ?_) ?_; rotate_left; · (obtain ⟨x0, x1, x2, d0, d1, d2, d3⟩ := cells w' hS; go_simp <;> with_reducible rfl)
      simp only [Act.put, List.setIfInBounds_toArray, List.set_cons_zero, List.set_cons_succ]
      iterate 2 ((refine' SeqS.calm _ (by rfl) (by rfl) (fun w => ?_) ?_; rotate_left; · (go_simp <;> with_reducible rfl)); simp only [Act.put, List.setIfInBounds_toArray, List.set_cons_zero, List.set_cons_succ])
      refine' SeqS.take _ (by rfl) (by rfl) (fun ph w' hS => ?_) ?_; rotate_left; · (obtain ⟨x0, x1, x2, d0, d1, d2, d3⟩ := cells w' hS; go_simp <;> with_reducible rfl)
      simp only [Act.put, List.setIfInBounds_toArray, List.set_cons_zero, List.set_cons_succ]
      iterate 8 ((refine' SeqS.calm _ (by rfl) (by rfl) (fun w => ?_) ?_; rotate_left; · (go_simp <;> with_reducible rfl)); simp only [Act.put, List.setIfInBounds_toArray, List.set_cons_zero, List.set_cons_succ])
      refine SeqS.call (below_call (Nat.le_refl _) (fun w' hS => same_words_true xs A3 (some a) c3 c w' (rows w' hS).1 (rows w' hS).2 HL.out)) (by rfl) (by rfl) (fun w => ?_) ?_; · go_simp
      simp only [Act.put, List.setIfInBounds_toArray, List.set_cons_zero, List.set_cons_succ]
      iterate 2 ((refine' SeqS.calm _ (by rfl) (by rfl) (fun w => ?_) ?_; rotate_left; · (go_simp <;> with_reducible rfl)); simp only [Act.put, List.setIfInBounds_toArray, List.set_cons_zero, List.set_cons_succ])
      iterate 10 ((refine SeqS.skip (by rfl) (by rfl) ?_); simp only [Act.put, List.setIfInBounds_toArray, List.set_cons_zero, List.set_cons_succ])
      iterate 3 ((refine' SeqS.calm _ (by rfl) (by rfl) (fun w => ?_) ?_; rotate_left; · (go_simp <;> with_reducible rfl)); simp only [Act.put, List.setIfInBounds_toArray, List.set_cons_zero, List.set_cons_succ])
      intro w4 hw4
      have hB := Below.then hB hw4
      go_wp2
      go_ret
      exact ⟨rfl, hB⟩

set_option maxRecDepth 100000 in
set_option maxHeartbeats 2000000 in
theorem walk_over (xs l : List Nat) (a : Addr) (c : Nat) (k m n x z lo hi : Nat) (w : World) (hr : Row w w.heap.size (some a) (u64s xs)) (h200 : xs.length ≤ 200) (hk : k < xs.length) (hm : m < xs.length) (hkm : k ≠ m)
    (hll : l.length = xs.length) (gx : xs[k] = x) (gz : xs[m] = z) (gl : l[k]'(by rw [hll]; exact hk) = lo) (gh : l[m]'(by rw [hll]; exact hm) = hi) (hx : x ≤ 18446744073709551615) (hlo : lo + n = x) (hhi : z + n = hi) (hh : hi ≤ 18446744073709551615) (hbig : 4611686018427387904 < x) 
    (hall : ∀ q (hq : q < xs.length), q ≠ k → q ≠ m → l[q]'(by rw [hll]; exact hq) = xs[q])
    (km : ∀ (A : Option Addr) (c : Nat) (u : World), Row u u.heap.size A (u64s xs) → Calls Try.prog 10 #[.slice A xs.length c, .int .i64 (k : Int), .int .i64 (m : Int), .int .u64 (n : Int)] u fun e w' => ∃ A c, e = .returned (.tuple #[.slice A xs.length c, .int .i64 0]) ∧ Row w' w'.heap.size A (u64s l) ∧ Below u.heap.size u w')
    (kb : ∀ (A : Option Addr) (c : Nat) (u : World), Row u u.heap.size A (u64s l) → Calls Try.prog 10 #[.slice A xs.length c, .int .i64 (m : Int), .int .i64 (k : Int), .int .u64 (n : Int)] u fun e w' => ∃ A c, e = .returned (.tuple #[.slice A 0 c, .int .i64 10]) ∧ Below u.heap.size u w') :
    Calls Try.prog 5 #[.slice (some a) xs.length c, .agg #[.int .i64 (k : Int), .int .i64 (m : Int), .int .u64 (n : Int)]] w fun e w' => e = .returned (.bool true) ∧ Below w.heap.size w w' := by
  have hX := WayAt.new w (k : Int) (m : Int) n 25
  have hB : Below w.heap.size w (w.alloc (.cells #[.int .i64 (k : Int), .int .i64 (m : Int), .int .u64 (n : Int)] 25)) := (Below.refl _ _).alloc (Nat.le_refl _) _
  have hr := (hr.below hB).up hB.size
  have KM := Lib.hid km
  have KB := Lib.hid kb
  have h201 : (xs.length : Int) ≤ 200 := by omega
  have HL : Hid (xs.length ≤ maxLen) := by show _ ≤ _; unfold maxLen; omega
  have HK := Lib.hid hk
  have HM := Lib.hid hm
  have CL : Hid (∀ (e2 : Addr) (u : World), Row u u.heap.size (some e2) (u64s l) → Row u u.heap.size (some a) (u64s xs) → ∀ q, q < xs.length → ∃ y : Nat, u.cell? (e2.add q) = some (.int .u64 (y : Int)) ∧ (q ≠ k → q ≠ m → u.cell? (a.add q) = some (.int .u64 (y : Int)))) :=
    Lib.hid (fun e2 u h1 h2 q hq => ⟨l[q]'(by rw [hll]; exact hq), h1.src _ _ (u64s_get _), fun h3 h4 => by rw [hall q hq h3 h4]; exact h2.src _ _ (u64s_get hq)⟩)
  have CC : Hid (∀ (e2 : Addr) (u : World), Row u u.heap.size (some e2) (u64s l) → Row u u.heap.size (some a) (u64s xs) → u.cell? (a.add k) = some (.int .u64 (x : Int)) ∧ u.cell? (e2.add k) = some (.int .u64 (lo : Int)) ∧ u.cell? (e2.add m) = some (.int .u64 (hi : Int)) ∧ u.cell? (a.add m) = some (.int .u64 (z : Int))) :=
    Lib.hid (fun e2 u h1 h2 => ⟨by rw [← gx]; exact h2.src _ _ (u64s_get hk), by rw [← gl]; exact h1.src _ _ (u64s_get _), by rw [← gh]; exact h1.src _ _ (u64s_get _), by rw [← gz]; exact h2.src _ _ (u64s_get hm)⟩)
  have HLL := Lib.hid hll
  have v0 : IntKind.u64.wrap ((x : Int) - (lo : Int)) = (n : Int) := by rw [IntKind.wrap_u64]; omega
  have v1 : IntKind.u64.wrap ((hi : Int) - (z : Int)) = (n : Int) := by rw [IntKind.wrap_u64]; omega
  have v2 : decide ((4611686018427387904 : Int) < (x : Int)) = true := decide_eq_true (by omega)
  have a0 : ¬ (k : Int) < 0 := by omega
  have a1 : (k : Int) < (xs.length : Int) := by omega
  have a2 : (0 : Int) ≤ (k : Int) := by omega
  have b0 : ¬ (m : Int) < 0 := by omega
  have b1 : (m : Int) < (xs.length : Int) := by omega
  have b2 : (0 : Int) ≤ (m : Int) := by omega
  have c0 : ((k : Int) == (m : Int)) = false := by simp; omega
  clear km kb h200 hk hm hkm hll gx gz gl gh hx hlo hhi hh hall hbig
  go_enter Try.func5, Try.ntmps5
  go_wp2_with (first
    | (go_at_call 6; refine (purse_awake _).mono ?_; rintro e w1 ⟨rfl, hb1⟩; have hr := hr.next hb1; have hX := hX.up hb1; have hB := Below.then hB hb1; clear hb1; have x0 := hX.c0; have x1 := hX.c1; have x2 := hX.c2)
    | (go_at_call 10; refine (KM.out (some a) c w1 hr).mono ?_; clear KM; rintro e w2 ⟨A2, c2, rfl, hl, hb2⟩; have hr := hr.next hb2; have hX := hX.up hb2; have hB := Below.then hB hb2; clear hb2; have x0 := hX.c0; have x1 := hX.c1; have x2 := hX.c2))
  obtain ⟨e2, rfl, _⟩ := hl.word (k := k) (by rw [HLL.out]; exact HK.out)
  go_loop [63] (fun i => ∃ q : Nat, q ≤ xs.length ∧ i = .int .i64 (q : Int)) (fun i => xs.length - (intOf i).toNat)
  case atStart => exact ⟨0, Nat.zero_le _, rfl⟩
  case round =>
    obtain ⟨q, hq, rfl⟩ := hrel
    by_cases hlt : q < xs.length
    · obtain ⟨y, hcl, hcx⟩ := CL.out e2 w2 hl hr q hlt
      have q0 : (0 : Int) ≤ (q : Int) := by omega
      have q1 : (q : Int) < (xs.length : Int) := by omega
      by_cases hqk : q = k
      · subst hqk
        clear hcx
        go_wp2
        go_round
        case rel => exact ⟨q + 1, by omega, by go_num⟩
        case measure => simp [intOf]; omega
      · have n0 : ((q : Int) == (k : Int)) = false := by simp; omega
        have n1 : ((q : Int) != (k : Int)) = true := by simp; omega
        by_cases hqm : q = m
        · subst hqm
          clear hcx
          go_wp2
          go_round
          case rel => exact ⟨q + 1, by omega, by go_num⟩
          case measure => simp [intOf]; omega
        · have n2 : ((q : Int) == (m : Int)) = false := by simp; omega
          have n3 : ((q : Int) != (m : Int)) = true := by simp; omega
          have hcx := hcx hqk hqm
          go_wp2
          go_round
          case rel => exact ⟨q + 1, by omega, by go_num⟩
          case measure => simp [intOf]; omega
    · obtain rfl : q = xs.length := by omega
      go_wp2_with (go_at_call 10; refine (KB.out (some e2) c2 w2 hl).mono ?_; clear KB; rintro e w3 ⟨A3, c3, rfl, hb3⟩; have hr := hr.next hb3; have hl := hl.next hb3; have hX := hX.up hb3; have hB := Below.then hB hb3; clear hb3; clear x0 x1 x2)
      have cells : ∀ w', Below w3.heap.size w3 w' → w'.cell? ⟨w.heap.size, 0, none⟩ = some (.int .i64 (k : Int)) ∧ w'.cell? ⟨w.heap.size, 1, none⟩ = some (.int .i64 (m : Int)) ∧ w'.cell? ⟨w.heap.size, 2, none⟩ = some (.int .u64 (n : Int)) ∧ w'.cell? (a.add k) = some (.int .u64 (x : Int)) ∧ w'.cell? (e2.add k) = some (.int .u64 (lo : Int)) ∧ w'.cell? (e2.add m) = some (.int .u64 (hi : Int)) ∧ w'.cell? (a.add m) = some (.int .u64 (z : Int)) :=
        fun w' h => ⟨(hX.up h).c0, (hX.up h).c1, (hX.up h).c2, CC.out e2 w' (hl.next h) (hr.next h)⟩

      refine region_list [] (fun _ w' => Below w3.heap.size w3 w') (by kernel_rfl) (by kernel_rfl) (Below.refl _ _).drew ?_
      iterate 2 ((refine' SeqS.calm _ (by rfl) (by rfl) (fun w => ?_) ?_; rotate_left; · (go_simp <;> with_reducible rfl)); simp only [Act.put, List.setIfInBounds_toArray, List.set_cons_zero, List.set_cons_succ])
      refine' SeqS.take _ (by rfl) (by rfl) (fun ph w' hS => ?_) ?_; rotate_left; · (obtain ⟨x0, x1, x2, d0, d1, d2, d3⟩ := cells w' hS; go_simp <;> with_reducible rfl)
      simp only [Act.put, List.setIfInBounds_toArray, List.set_cons_zero, List.set_cons_succ]
      refine' SeqS.calm _ (by rfl) (by rfl) (fun w => ?_) ?_; rotate_left; · (go_simp <;> with_reducible rfl)
      simp only [Act.put, List.setIfInBounds_toArray, List.set_cons_zero, List.set_cons_succ]
      refine' SeqS.take _ (by rfl) (by rfl) (fun ph w' hS => ?_) ?_; rotate_left; · (obtain ⟨x0, x1, x2, d0, d1, d2, d3⟩ := cells w' hS; go_simp <;> with_reducible rfl)
      simp only [Act.put, List.setIfInBounds_toArray, List.set_cons_zero, List.set_cons_succ]
      iterate 2 ((refine' SeqS.calm _ (by rfl) (by rfl) (fun w => ?_) ?_; rotate_left; · (go_simp <;> with_reducible rfl)); simp only [Act.put, List.setIfInBounds_toArray, List.set_cons_zero, List.set_cons_succ])
      refine' SeqS.take _ (by rfl) (by rfl) (fun ph w' hS => ?_) ?_; rotate_left; · (obtain ⟨x0, x1, x2, d0, d1, d2, d3⟩ := cells w' hS; go_simp <;> with_reducible rfl)
      simp only [Act.put, List.setIfInBounds_toArray, List.set_cons_zero, List.set_cons_succ]
      refine' SeqS.calm _ (by rfl) (by rfl) (fun w => ?_) ?_; rotate_left; · (go_simp <;> with_reducible rfl)
      simp only [Act.put, List.setIfInBounds_toArray, List.set_cons_zero, List.set_cons_succ]
      refine' SeqS.take _ (by rfl) (by rfl) (fun ph w' hS => ?_) ?_; rotate_left; · (obtain ⟨x0, x1, x2, d0, d1, d2, d3⟩ := cells w' hS; go_simp <;> with_reducible rfl)
      simp only [Act.put, List.setIfInBounds_toArray, List.set_cons_zero, List.set_cons_succ]
      iterate 2 ((refine' SeqS.calm _ (by rfl) (by rfl) (fun w => ?_) ?_; rotate_left; · (go_simp <;> with_reducible rfl)); simp only [Act.put, List.setIfInBounds_toArray, List.set_cons_zero, List.set_cons_succ])
      refine' SeqS.take _ (by rfl) (by rfl) (fun ph w' hS => ?_) ?_; rotate_left; · (obtain ⟨x0, x1, x2, d0, d1, d2, d3⟩ := cells w' hS; go_simp <;> with_reducible rfl)
      simp only [Act.put, List.setIfInBounds_toArray, List.set_cons_zero, List.set_cons_succ]
      iterate 4 ((refine' SeqS.calm _ (by rfl) (by rfl) (fun w => ?_) ?_; rotate_left; · (go_simp <;> with_reducible rfl)); simp only [Act.put, List.setIfInBounds_toArray, List.set_cons_zero, List.set_cons_succ])
      refine' SeqS.take _ (by rfl) (by rfl) (fun ph w' hS => ?_) ?_; rotate_left; · (obtain ⟨x0, x1, x2, d0, d1, d2, d3⟩ := cells w' hS; go_simp <;> with_reducible rfl)
      simp only [Act.put, List.setIfInBounds_toArray, List.set_cons_zero, List.set_cons_succ]
      refine' SeqS.calm _ (by rfl) (by rfl) (fun w => ?_) ?_; rotate_left; · (go_simp <;> with_reducible rfl)
      simp only [Act.put, List.setIfInBounds_toArray, List.set_cons_zero, List.set_cons_succ]
      refine' SeqS.take _ (by rfl) (by rfl) (fun ph w' hS => ?_) ?_; rotate_left; · (obtain ⟨x0, x1, x2, d0, d1, d2, d3⟩ := cells w' hS; go_simp <;> with_reducible rfl)
      simp only [Act.put, List.setIfInBounds_toArray, List.set_cons_zero, List.set_cons_succ]
      iterate 2 ((refine' SeqS.calm _ (by rfl) (by rfl) (fun w => ?_) ?_; rotate_left; · (go_simp <;> with_reducible rfl)); simp only [Act.put, List.setIfInBounds_toArray, List.set_cons_zero, List.set_cons_succ])
      refine' SeqS.take _ (by rfl) (by rfl) (fun ph w' hS => ?_) ?_; rotate_left; · (obtain ⟨x0, x1, x2, d0, d1, d2, d3⟩ := cells w' hS; go_simp <;> with_reducible rfl)
      simp only [Act.put, List.setIfInBounds_toArray, List.set_cons_zero, List.set_cons_succ]
      refine' SeqS.calm _ (by rfl) (by rfl) (fun w => ?_) ?_; rotate_left; · (go_simp <;> with_reducible rfl)
      simp only [Act.put, List.setIfInBounds_toArray, List.set_cons_zero, List.set_cons_succ]
      refine' SeqS.take _ (by rfl) (by rfl) (fun ph w' hS => ?_) ?_; rotate_left; · (obtain ⟨x0, x1, x2, d0, d1, d2, d3⟩ := cells w' hS; go_simp <;> with_reducible rfl)
      simp only [Act.put, List.setIfInBounds_toArray, List.set_cons_zero, List.set_cons_succ]
      iterate 2 ((refine' SeqS.calm _ (by rfl) (by rfl) (fun w => ?_) ?_; rotate_left; · (go_simp <;> with_reducible rfl)); simp only [Act.put, List.setIfInBounds_toArray, List.set_cons_zero, List.set_cons_succ])
      refine' SeqS.take _ (by rfl) (by rfl) (fun ph w' hS => ?_) ?_; rotate_left; · (obtain ⟨x0, x1, x2, d0, d1, d2, d3⟩ := cells w' hS; go_simp <;> with_reducible rfl)
      simp only [Act.put, List.setIfInBounds_toArray, List.set_cons_zero, List.set_cons_succ]
      iterate 6 ((refine' SeqS.calm _ (by rfl) (by rfl) (fun w => ?_) ?_; rotate_left; · (go_simp <;> with_reducible rfl)); simp only [Act.put, List.setIfInBounds_toArray, List.set_cons_zero, List.set_cons_succ])
      iterate 3 ((refine SeqS.skip (by rfl) (by rfl) ?_); simp only [Act.put, List.setIfInBounds_toArray, List.set_cons_zero, List.set_cons_succ])
      iterate 7 ((refine' SeqS.calm _ (by rfl) (by rfl) (fun w => ?_) ?_; rotate_left; · (go_simp <;> with_reducible rfl)); simp only [Act.put, List.setIfInBounds_toArray, List.set_cons_zero, List.set_cons_succ])
      refine' SeqS.take _ (by rfl) (by rfl) (fun ph w' hS => ?_) ?_; rotate_left; · (obtain ⟨x0, x1, x2, d0, d1, d2, d3⟩ := cells w' hS; go_simp <;> with_reducible rfl)
      simp only [Act.put, List.setIfInBounds_toArray, List.set_cons_zero, List.set_cons_succ]
      refine' SeqS.calm _ (by rfl) (by rfl) (fun w => ?_) ?_; rotate_left; · (go_simp <;> with_reducible rfl)
      simp only [Act.put, List.setIfInBounds_toArray, List.set_cons_zero, List.set_cons_succ]
      refine' SeqS.take _ (by rfl) (by rfl) (fun ph w' hS => ?_) ?_; rotate_left; · (obtain ⟨x0, x1, x2, d0, d1, d2, d3⟩ := cells w' hS; go_simp <;> with_reducible rfl)
      simp only [Act.put, List.setIfInBounds_toArray, List.set_cons_zero, List.set_cons_succ]
      iterate 5 ((refine' SeqS.calm _ (by rfl) (by rfl) (fun w => ?_) ?_; rotate_left; · (go_simp <;> with_reducible rfl)); simp only [Act.put, List.setIfInBounds_toArray, List.set_cons_zero, List.set_cons_succ])
      intro w4 hw4
      have hB := Below.then hB hw4
      go_wp2
      go_ret
      exact ⟨rfl, hB⟩

theorem walk (xs : List Nat) (A : Option Addr) (c : Nat) (f t : Int) (n : Nat) (w : World) (hr : Row w w.heap.size A (u64s xs)) (hx : ∀ x ∈ xs, x ≤ 18446744073709551615) (hc : xs.length ≤ c) (hm : c ≤ maxLen) (hz : A = none → c = 0) (hn : n ≤ 18446744073709551615) :
    Calls Try.prog 5 #[.slice A xs.length c, .agg #[.int .i64 f, .int .i64 t, .int .u64 (n : Int)]] w fun e w' => e = .returned (.bool true) ∧ Below w.heap.size w w' := by
  unfold maxLen at hm
  by_cases h : 200 < xs.length
  · exact walk_big xs A c f t n w h (by omega)
  · have hl : xs.length ≤ 200 := by omega
    have km := fun A c u h => pmove_is xs f t n A c u h (by omega) hx hn
    by_cases h0 : (pmoved xs f t n).2 = 0
    · obtain ⟨k, m, hk, hm, rfl, rfl, hn1, hn2, he⟩ := pmoved_is h0
      obtain ⟨a, rfl, _⟩ := hr.word hk
      have hxk := hx _ (List.getElem_mem hk)
      have hpair : pmoved xs (k : Int) (m : Int) n = ((pmoved xs (k : Int) (m : Int) n).1, 0) := Prod.ext rfl h0
      rw [he] at hpair
      by_cases hkm : k = m
      · subst hkm
        rw [self_is hk hn1] at hpair
        refine walk_self xs a c k n w hr hl hk fun A c u h => ?_
        have k1 := km A c u h
        rw [hpair] at k1
        refine k1.mono ?_
        rintro e w' ⟨A', c', rfl, _, _, _, h4, h5⟩
        exact ⟨A', c', rfl, h4, h5⟩
      · have em : (xs.set k (xs[k] - n)).getD m 0 = xs[m] := by
          have h1 : (xs.set k (xs[k] - n))[m]'(by simpa using hm) = xs[m] := List.getElem_set_ne hkm _
          rw [← h1]
          simp [hm]
        rw [em] at hpair hn2
        have hlen : ((xs.set k (xs[k] - n)).set m (xs[m] + n)).length = xs.length := by simp
        have hb := back_is hk hm hkm hn1
        have hxl : ∀ x ∈ (xs.set k (xs[k] - n)).set m (xs[m] + n), x ≤ 18446744073709551615 := by
          intro x h
          rcases List.mem_or_eq_of_mem_set h with h | rfl
          · rcases List.mem_or_eq_of_mem_set h with h | rfl
            · exact hx x h
            · omega
          · omega
        have kb := fun (A : Option Addr) (c : Nat) (u : World) (h : Row u u.heap.size A (u64s ((xs.set k (xs[k]'hk - n)).set m (xs[m]'hm + n)))) => pmove_is ((xs.set k (xs[k] - n)).set m (xs[m] + n)) (m : Int) (k : Int) n A c u h (by rw [hlen]; omega) hxl hn
        have k1 : ∀ (A : Option Addr) (c : Nat) (u : World), Row u u.heap.size A (u64s xs) → Calls Try.prog 10 #[.slice A xs.length c, .int .i64 (k : Int), .int .i64 (m : Int), .int .u64 (n : Int)] u fun e w' => ∃ A c, e = .returned (.tuple #[.slice A xs.length c, .int .i64 0]) ∧ Row w' w'.heap.size A (u64s ((xs.set k (xs[k] - n)).set m (xs[m] + n))) ∧ Below u.heap.size u w' := fun A c u h => by
          have k1 := km A c u h
          rw [hpair] at k1
          refine k1.mono ?_
          rintro e w' ⟨A', c', rfl, _, _, _, h4, h5⟩
          refine ⟨A', c', ?_, h4, h5⟩
          rw [hlen]
          rfl
        have e1 : ((xs.set k (xs[k] - n)).set m (xs[m] + n))[k]'(by rw [hlen]; exact hk) = xs[k] - n := by
          rw [List.getElem_set_ne (fun e => hkm e.symm), List.getElem_set_self]
        have e2 : ((xs.set k (xs[k] - n)).set m (xs[m] + n))[m]'(by rw [hlen]; exact hm) = xs[m] + n := by rw [List.getElem_set_self]
        by_cases hbig : 4611686018427387904 < xs[k]
        · rw [if_pos hbig] at hb
          refine walk_over xs _ a c k m n xs[k] xs[m] (xs[k] - n) (xs[m] + n) w hr hl hk hm hkm hlen rfl rfl e1 e2 hxk (by omega) rfl (by omega) hbig (fun q hq h1 h2 => keeps_set (n := n) hk hm hq h1 h2 _ _) k1 fun A c u h => ?_
          have k2 := kb A c u h
          rw [hb, hlen] at k2
          refine k2.mono ?_
          rintro e w' ⟨A', c', rfl, _, _, _, h4, h5⟩
          exact ⟨A', c', rfl, h5⟩
        · rw [if_neg hbig] at hb
          refine walk_back xs _ a c k m n xs[k] xs[m] (xs[k] - n) (xs[m] + n) w hr hl hk hm hkm hlen rfl rfl e1 e2 hxk (by omega) rfl (by omega) (fun q hq h1 h2 => keeps_set (n := n) hk hm hq h1 h2 _ _) k1 fun A c u h => ?_
          have k2 := kb A c u h
          rw [hb, hlen] at k2
          refine k2.mono ?_
          rintro e w' ⟨A', c', rfl, _, _, _, h4, h5⟩
          exact ⟨A', c', rfl, h4, h5⟩
    · refine walk_err xs A c f t n (pmoved xs f t n).2 w hr hl h0 fun A c u h => ?_
      refine (km A c u h).mono ?_
      rintro e w' ⟨A', c', rfl, _, _, _, h4, h5⟩
      refine ⟨A', c', ?_, h5⟩
      rcases pmoved_answer xs f t n with ⟨h1, _⟩ | ⟨_, h1, _⟩
      · rw [h1]; rfl
      · exact absurd h1 h0

theorem own : ownKnob Try.prog.godebug = none := by kernel_rfl
theorem laidOut : laidOutB Try.prog = true := by kernel_rfl

set_option maxRecDepth 100000 in
theorem lifted (os : Os) (started : os.Started) (H : Type) (enc : TypeId × Value → H) :
    ReturnsInHanded {} Try.checked os 5 .any (Rows.purseKeepsSpec.pre6 enc Try.prog Try.f5 Rows.purseKeepsRow.domain false) (Rows.purseKeepsSpec.post enc Try.prog Try.f5 false true false false) := by
  refine returnsInHanded_of_change (C := Try.checked) own started (by kernel_rfl) Try.func5
    (ChangeSpec.witness6 (enc := enc) (C := Try.checked) false ⟨#[], #[.slice none 0 0, .agg #[.int .i64 0, .int .i64 0, .int .u64 0]], []⟩ 8 (by kernel_rfl) (by kernel_rfl) (by kernel_rfl) (by kernel_rfl)) ?_
  intro W base args ds gs before hval0 hW hcnd _
  have hval : ∀ (j : Nat) t v, Try.f5.params[j]? = some t → args[j]? = some v → Value.okWide Try.prog W .any base t v := hval0
  have hW' := hW
  obtain ⟨p, q, hA0, hV, rfl, hfz, hnd⟩ := hW
  have hlt : ∀ x ∈ p ++ q, x.block < W.heap.size := fun x hx => hW'.lt x hx
  have hA : DataW.TrodAll enc Try.prog W 0 (fun _ => true) true Try.f5.params.toList args.toList ds p := hA0
  rw [Try.params5] at hA hval
  obtain ⟨v0, vs0, d0, ds0, p0, q0, hargs, rfl, rfl, h0, r0⟩ := trodAll_cons hA
  obtain ⟨v1, vs1, d1, ds1, p1, q1, rfl, rfl, rfl, h1, r1⟩ := trodAll_cons r0
  obtain ⟨rfl, rfl, rfl⟩ := trodAll_nil r1
  obtain rfl : args = #[v0, v1] := by cases args; simp_all
  obtain ⟨rfl, rfl⟩ := trodVars_none hV
  obtain ⟨A0, n0, c0, rfl⟩ := okWide_slice Try.underlying22 (hval 0 22 v0 rfl rfl)
  obtain ⟨l0, hl0, hf0, hc0, hm0, hz0, hr0⟩ := open_words Try.underlying22 Try.underlying23 (by kernel_rfl) h0
  subst hl0
  obtain ⟨f1, t1, n1, rfl, hn1⟩ := open_way (hval 1 25 v1 rfl rfl) h1
  clear hA0 hval0
  refine (walk l0 A0 c0 f1 t1 n1 W hr0 hf0 hc0 hm0 hz0 hn1).mono fun e W' ⟨he, hg⟩ => ?_
  subst he
  exact ⟨_, rfl, law_post laidOut (by kernel_rfl) rfl rfl Try.underlying4 rfl hW' hg⟩

theorem over : Rows.purseKeepsRow.holds Try.pinned (OpenSpec.ofChange Rows.purseKeepsSpec) :=
  OpenClaim.holds_of_wide 5 Try.f5 rfl rfl rfl rfl rfl rfl rfl ⟨rfl, rfl, rfl, rfl, rfl⟩ rfl rfl rfl rfl rfl (by kernel_rfl) Try.func5 (by kernel_rfl)
    (of_decide_eq_true (by kernel_rfl)) (by unfold Func.isWrapper; first | (rw [if_pos (by decide +kernel)]; kernel_rfl) | (rw [if_neg (by decide +kernel)]; exact ⟨rfl, rfl⟩))
    (fun os started H enc _ => lifted os started H enc)

/-- The statement. -/
theorem proved : Rows.PurseKeepsSaid := over
#print axioms proved
end Go.Proofs.Ytkophckfmdimbaa.PurseKeeps
