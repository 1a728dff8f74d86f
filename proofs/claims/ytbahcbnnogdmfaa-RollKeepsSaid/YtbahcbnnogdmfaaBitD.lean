/- Layer 6 (bits): the reference's bits, fields and lists. By contracts. -/
import Derived.Test.YtbahcbnnogdmfaaBitC
namespace Go.Proofs.Ytbahcbnnogdmfaa
open Go.RowKit
set_option linter.unusedVariables false
set_option linter.unusedSimpArgs false

theorem bit_halves (xs : List Nat) (n x : Nat) (h : x = xs.getD (n / 8) 0 / 2 ^ (n % 8)) : (x % 2 = 1) ↔ bitAt xs n = true := by
  unfold bitAt
  rw [Nat.testBit_eq_decide_div_mod_eq, h]
  simp

set_option maxRecDepth 100000 in
theorem rget_in (xs : List Nat) (S : Nat → Prop) (A : Option Addr) (c : Nat) (n : Nat) (w : World) (hx : Lies w S A xs) (hb : ∀ x ∈ xs, x < 256) (h : n / 8 < xs.length) (hn : n ≤ 9223372036854775807) :
    Calls Try.prog 19 #[.slice A xs.length c, .int .i64 (n : Int)] w fun e w' => e = .returned (.bool (bitAt xs n)) ∧ w = w' := by
  obtain ⟨a, rfl, hS, hc⟩ := hx.get h
  have hxb := hb xs[n / 8] (List.getElem_mem h)
  have hbh := bit_halves xs n
  have eg : xs.getD (n / 8) 0 = xs[n / 8] := by simp [h]
  rw [eg] at hbh
  obtain ⟨x, hxx⟩ : ∃ x, xs[n / 8] = x := ⟨_, rfl⟩
  rw [hxx] at hc hxb hbh
  have HBH := Lib.hid hbh
  have h0 : (0 : Int) ≤ (n : Int) := by omega
  have hnI : (n : Int) / 8 < (xs.length : Int) := by omega
  have hq0 : (0 : Int) ≤ (n : Int) / 8 := by omega
  have hqn : ((n : Int) / 8).toNat = n / 8 := by omega
  have hwq : IntKind.i64.wrap ((n : Int) / 8) = (n : Int) / 8 := IntWalk.i64_in _ (by omega)
  clear hbh hxx eg hb
  go_enter Try.func19, Try.ntmps19
  go_wp2
  go_loopw [5, 6] (fun xv iv wr => ∃ k y : Nat, k ≤ n % 8 ∧ iv = .int .i64 (k : Int) ∧ xv = .int .i64 (y : Int) ∧ y < 256 ∧ Hid (y = x / 2 ^ k) ∧ w = wr) (fun _ iv _ => n % 8 - (intOf iv).toNat)
  case atStart => exact ⟨0, x, Nat.zero_le _, rfl, rfl, hxb, by show _ = _; simp, rfl⟩
  case round =>
    obtain ⟨k, y, hk, rfl, rfl, hy, HY, rfl⟩ := hrel
    by_cases hlt : k < n % 8
    · have hkI : (k : Int) < (n : Int) % 8 := by omega
      go_wp2
      go_roundw
      case rel => exact ⟨k + 1, y / 2, by omega, by go_num, by go_num, by omega, by show _ = _; rw [HY.out, Nat.pow_succ, Nat.div_div_eq_div_mul], trivial⟩
      case measure => simp [intOf]; omega
    · obtain rfl : k = n % 8 := by omega
      have hkI : ¬ ((n % 8 : Nat) : Int) < (n : Int) % 8 := by omega
      have hB := HBH.out y HY.out
      have HB := Lib.hid hB
      clear hB hlt
      go_wp2
      go_ret
      refine ⟨congrArg Ending.returned (congrArg Value.bool ?_), rfl⟩
      have h2 := HB.out
      cases e : bitAt xs n with
      | true =>
        have := h2.2 e
        simp
        omega
      | false =>
        rw [e] at h2
        have : ¬ y % 2 = 1 := fun h3 => by have := h2.1 h3; cases this
        simp
        omega

theorem rget_out (xs : List Nat) (A : Option Addr) (c : Nat) (i : Int) (w : World) (h : ¬ (0 ≤ i ∧ i.toNat / 8 < xs.length)) (h1 : i ≤ 9223372036854775807) :
    Calls Try.prog 19 #[.slice A xs.length c, .int .i64 i] w fun e w' => e = .returned (.bool false) ∧ w = w' := by
  by_cases h0 : 0 ≤ i
  · obtain ⟨n, rfl⟩ := Int.eq_ofNat_of_zero_le h0
    have hI : (xs.length : Int) ≤ (n : Int) / 8 := by simp at h; omega
    clear h
    go_enter Try.func19, Try.ntmps19
    go_wp2
    go_ret
    exact ⟨rfl, rfl⟩
  · have hI : i < 0 := by omega
    clear h h0
    go_enter Try.func19, Try.ntmps19
    go_wp2
    go_ret
    exact ⟨rfl, rfl⟩

theorem rget_ok (xs : List Nat) (S : Nat → Prop) (A : Option Addr) (c : Nat) (i : Int) (w : World) (hx : Lies w S A xs) (hb : ∀ x ∈ xs, x < 256) (h1 : i ≤ 9223372036854775807) :
    Calls Try.prog 19 #[.slice A xs.length c, .int .i64 i] w fun e w' => e = .returned (.bool (bitI xs i)) ∧ w = w' := by
  by_cases h : 0 ≤ i ∧ i.toNat / 8 < xs.length
  · obtain ⟨n, rfl⟩ := Int.eq_ofNat_of_zero_le h.1
    rw [bitI_nat]
    exact rget_in xs S A c n w hx hb (by simpa using h.2) (by omega)
  · rw [bitI_out h]
    exact rget_out xs A c i w h h1

set_option maxRecDepth 100000 in
set_option maxHeartbeats 1000000 in
theorem right_ok (xs : List Nat) (S : Nat → Prop) (A : Option Addr) (c : Nat) (n : Int) (w : World) (hx : Lies w S A xs) (hb : ∀ x ∈ xs, x < 256) (hl : xs.length ≤ 100000) :
    Calls Try.prog 22 #[.slice A xs.length c, .int .i64 n] w fun e w' => Answers (FieldI xs n) e ∧ w = w' := by
  by_cases h0 : n < 0
  · go_enter Try.func22, Try.ntmps22
    go_wp2
    go_ret
    exact ⟨answer_no (fun h => by have := h.1; omega) rfl, rfl⟩
  · by_cases h1 : 256 < n
    · have h0I : 0 ≤ n := by omega
      go_enter Try.func22, Try.ntmps22
      go_wp2
      go_ret
      exact ⟨answer_no (fun h => by have := h.2.1; omega) rfl, rfl⟩
    · obtain ⟨m, rfl⟩ := Int.eq_ofNat_of_zero_le (show 0 ≤ n by omega)
      have hm : m ≤ 256 := by omega
      have h1I : (m : Int) ≤ 256 := by omega
      clear h0 h1
      by_cases hsz : xs.length = (m + 7) / 8
      · have hszI : ((xs.length : Int) != ((m : Int) + 7) / 8) = false := by simp; omega
        have HSZ := Lib.hid hsz
        have hm8 : m ≤ 8 * xs.length := by omega
        have kg : ∀ (k : Nat), k ≤ 1000000 → ∀ W, Lies W S A xs → Calls Try.prog 19 #[.slice A xs.length c, .int .i64 (k : Int)] W fun e w' => e = .returned (.bool (bitAt xs k)) ∧ W = w' := by
          intro k hk W hl
          have := rget_ok xs S A c (k : Int) W hl hb (by omega)
          rwa [bitI_nat] at this
        clear hsz hb
        go_enter Try.func22, Try.ntmps22
        go_wp2
        go_loopw [5] (fun iv wr => ∃ k : Nat, m ≤ k ∧ k ≤ 8 * xs.length ∧ iv = .int .i64 (k : Int) ∧ Hid (∀ j, m ≤ j → j < k → bitAt xs j = false) ∧ w = wr) (fun iv _ => 8 * xs.length - (intOf iv).toNat)
        case atStart => exact ⟨m, Nat.le_refl _, hm8, rfl, fun j h1 h2 => by omega, rfl⟩
        case round =>
          obtain ⟨k, hmk, hk, rfl, HT, rfl⟩ := hrel
          by_cases hlt : k < 8 * xs.length
          · have kk := kg k (by omega) w hx
            have hkI : (k : Int) < 8 * (xs.length : Int) := by omega
            obtain ⟨b, hb⟩ : ∃ b, bitAt xs k = b := ⟨_, rfl⟩
            rw [hb] at kk
            have HB := Lib.hid hb
            clear kg hb
            cases b
            · go_wp2_with (go_at_call 19; refine kk.mono ?_; clear kk; rintro e w' ⟨rfl, rfl⟩)
              go_roundw
              case rel =>
                refine ⟨k + 1, by omega, by omega, by go_num, ?_, trivial⟩
                intro j h1 h2
                by_cases e : j = k
                · subst e; exact HB.out
                · exact HT.out j h1 (by omega)
              case measure => simp [intOf]; omega
            · go_wp2_with (go_at_call 19; refine kk.mono ?_; clear kk; rintro e w' ⟨rfl, rfl⟩)
              go_ret
              refine ⟨answer_no (fun h => ?_) rfl, rfl⟩
              have h2 := h.2.2.2 k (by simpa using hmk)
              rw [HB.out] at h2
              cases h2
          · obtain rfl : k = 8 * xs.length := by omega
            have hkI : ¬ (((8 * xs.length : Nat) : Int) < 8 * (xs.length : Int)) := by omega
            clear kg
            go_wp2
            go_ret
            refine ⟨answer_yes ⟨by omega, by omega, by simpa using HSZ.out, fun k h2 => ?_⟩ rfl, rfl⟩
            by_cases h3 : k < 8 * xs.length
            · exact HT.out k (by simpa using h2) h3
            · exact bit_out (by omega)
      · have hszI : ((xs.length : Int) != ((m : Int) + 7) / 8) = true := by simp; omega
        have HSZ := Lib.hid hsz
        clear hsz
        go_enter Try.func22, Try.ntmps22
        go_wp2
        go_ret
        exact ⟨answer_no (fun h => HSZ.out (by simpa using h.2.2.1)) rfl, rfl⟩

set_option maxRecDepth 100000 in
set_option maxHeartbeats 1000000 in
theorem rpack_ok (l : List Bool) (A : Option Addr) (c : Nat) (w : World) (hr : Row w w.heap.size A (bools l)) (hl : l.length ≤ 256) :
    Calls Try.prog 23 #[.slice A l.length c] w fun e w' => ∃ v, e = .returned v ∧ w'.ownsRow w.heap.size 5 1 v (packed l).length (u8s (packed l)) ∧ Below w.heap.size w w' := by
  obtain ⟨i0, hi0, hz0, hz1, hz2⟩ := info_parts u8_info
  have hpk : (packed l).length = (l.length + 7) / 8 := packed_len l
  obtain ⟨n, hN⟩ : ∃ n, (l.length + 7) / 8 = n := ⟨_, rfl⟩
  rw [hN] at hpk
  have HN := Lib.hid hN
  have hn64 : n ≤ 64 := by omega
  rw [hpk]
  have hnI : ((l.length : Int) + 7) / 8 = (n : Int) := by omega
  have hmk : ∀ W : World, (Instr.makeSlice 22 (.int .i64 (((l.length : Int) + 7) / 8)) (.int .i64 (((l.length : Int) + 7) / 8))).run Try.prog W =
      .ok (.slice (some ⟨W.heap.size, 0, none⟩) n n) (W.alloc (.cells (madeCells #[.int .u8 0] n) 5)) := by
    intro W
    rw [hnI]
    have h := run_make (P := Try.prog) W 22 5 i0 (.int .u8 0) Try.underlying22 hi0 hz0 .i64 .i64 (n : Int) (n : Int) (by omega) (by omega) (by rw [hz2]; omega) (by omega)
    rw [hz1, Int.toNat_natCast, Nat.mul_one] at h
    exact h
  have hlI : (l.length : Int) ≤ 256 := by omega
  clear hi0 hz0 hz1 hz2 hN hpk hnI
  go_enter Try.func23, Try.ntmps23
  go_wp2
  clear hmk
  have hst := own_zeros w (Nat.le_refl _) n (by unfold maxLen; omega)
  have hb2 := (Below.refl _ w).alloc (Nat.le_refl _) (.cells (madeCells #[.int .u8 0] n) 5)
  go_loopw [4] (fun iv wr => ∃ (k : Nat) (ys : List Nat), k ≤ l.length ∧ iv = .int .i64 ((k : Int) - 1) ∧ Hid (Tail l k ys) ∧ Hid (∀ x ∈ ys, x < 256) ∧ Hid (ys.length = n) ∧ wr.ownsRow w.heap.size 5 1 (.slice (some ⟨w.heap.size, 0, none⟩) n n) n (u8s ys) ∧ Below w.heap.size w wr) (fun iv _ => (intOf iv + 1).toNat)
  case atStart =>
    exact ⟨l.length, List.replicate n 0, Nat.le_refl _, rfl, Tail.start l n, fun x hx => by rw [List.eq_of_mem_replicate hx]; omega, by show _ = _; simp, hst, hb2⟩
  case round =>
    clear hst hb2
    obtain ⟨k, ys, hk, rfl, HT, HA, HL, hown, hBr⟩ := hrel
    cases k with
    | succ j =>
      have hj : ((j + 1 : Nat) : Int) - 1 = (j : Int) := by omega
      rw [hj]
      have hjl : j < l.length := by omega
      obtain ⟨a, rfl, hS, hc⟩ := (hr.below hBr).get (k := j) (by rw [bools_len]; exact hjl)
      have hcb : (bools l)[j]'(by rw [bools_len]; exact hjl) = .bool (l.getD j false) := by simp [bools, hjl]
      rw [hcb] at hc
      have hjn : j / 8 < n := by have := HN.out; omega
      have hjy : j / 8 < ys.length := by rw [HL.out]; exact hjn
      have hstep := HT.out.step hjy
      have hsm := HT.out.small
      have hu := u8s_get hjy
      have eg : ys.getD (j / 8) 0 = ys[j / 8] := by simp [hjy]
      rw [eg] at hstep hsm
      obtain ⟨b, hb⟩ : ∃ b, l.getD j false = b := ⟨_, rfl⟩
      obtain ⟨x, hx⟩ : ∃ x, ys[j / 8] = x := ⟨_, rfl⟩
      rw [hb] at hc hstep
      rw [hx] at hu hstep hsm
      have hcD := own_cell hown hu
      have hfD : wr.frozen? ⟨w.heap.size, j / 8, none⟩ = false := hown.frozenAt (j / 8)
      have hjI : (j : Int) < (l.length : Int) := by omega
      have hjnI : (j : Int) / 8 < (n : Int) := by omega
      have h0 : (0 : Int) ≤ (j : Int) := by omega
      have hq0 : (0 : Int) ≤ (j : Int) / 8 := by omega
      have hqn : ((j : Int) / 8).toNat = j / 8 := by omega
      have hwq : IntKind.i64.wrap ((j : Int) / 8) = (j : Int) / 8 := IntWalk.i64_in _ (by omega)
      have HST := Lib.hid hstep
      have HOWN := Lib.hid hown
      clear hstep hu eg hb hx hcb hown
      cases b
      · have hwx : IntKind.u8.wrap (2 * (x : Int)) = ((2 * x : Nat) : Int) := by rw [IntKind.wrap_u8]; omega
        have hw2 : (2 * (x : Int)) % 256 = ((2 * x : Nat) : Int) := by omega
        have hw3 : ((2 * x : Nat) : Int) = 2 * (x : Int) := by omega
        have HST2 : Hid (Tail l j (ys.set (j / 8) (2 * x))) := Lib.hid (by simpa using HST.out)
        have HW := Lib.hid hw3
        clear HST hw3
        go_wp2
        go_roundw
        case rel =>
          refine ⟨j, ys.set (j / 8) (2 * x), by omega, by go_num, HST2.out, set_all HA.out (by omega), by show _ = _; rw [List.length_set]; exact HL.out, ?_, hBr.setCell (Nat.le_refl _) _⟩
          rw [← u8s_set]
          exact (World.ownsRow.stored HOWN.out (j / 8) _).1
        case measure => simp [intOf]
      · have hwx : IntKind.u8.wrap (2 * (x : Int) + 1) = ((2 * x + 1 : Nat) : Int) := by rw [IntKind.wrap_u8]; omega
        have hw2 : (2 * (x : Int) + 1) % 256 = ((2 * x + 1 : Nat) : Int) := by omega
        have HST2 : Hid (Tail l j (ys.set (j / 8) (2 * x + 1))) := Lib.hid (by simpa using HST.out)
        clear HST
        go_wp2
        go_roundw
        case rel =>
          refine ⟨j, ys.set (j / 8) (2 * x + 1), by omega, by go_num, HST2.out, set_all HA.out (by omega), by show _ = _; rw [List.length_set]; exact HL.out, ?_, hBr.setCell (Nat.le_refl _) _⟩
          rw [← u8s_set]
          exact (World.ownsRow.stored HOWN.out (j / 8) _).1
        case measure => simp [intOf]
    | zero =>
      have hz : ((0 : Nat) : Int) - 1 = -1 := rfl
      rw [hz]
      have hys : ys = packed l := packed_is (by rw [HL.out, HN.out]) HA.out HT.out.done
      rw [hys] at hown
      clear hys
      go_wp2
      refine bodyPost_ret (v := .slice (some ⟨w.heap.size, 0, none⟩) n n) (by simp [results, Try.results23, go_sem]) rfl ⟨_, rfl, hown, hBr⟩

end Go.Proofs.Ytbahcbnnogdmfaa
