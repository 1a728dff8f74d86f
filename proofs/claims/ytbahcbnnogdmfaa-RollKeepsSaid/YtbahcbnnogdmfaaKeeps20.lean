/- Law RollKeeps (P20.4): who is marked stays marked; turned again and again a ring has the last epochs; what is told may be written over. No condition. -/
import Derived.Test.YtbahcbnnogdmfaaRows
import Derived.Test.YtbahcbnnogdmfaaLawR
import Derived.Test.YtbahcbnnogdmfaaRolD
import Derived.Test.YtbahcbnnogdmfaaRolW
namespace Go.Proofs.Ytbahcbnnogdmfaa.RollKeeps
open Go.ChangeShapes Go.WideShapes Go.ChangeAt Go.RowKit
set_option linter.unusedVariables false
set_option linter.unusedSimpArgs false

set_option maxRecDepth 100000 in
set_option maxHeartbeats 2000000 in
theorem walk_play (l : List BV) (m : Nat) (A : Option Addr) (c : Nat) (w : World) (hr : Ring w A l) (hl : l.length ≤ c) (hc : c ≤ maxLen) (h40 : l.length ≤ 40) (hm : m ≤ 7) (hmm : ∀ b ∈ l, b.bs.length ≤ maxLen) :
    Calls Try.prog 5 #[.slice A l.length c, .int .i64 (m : Int)] w fun e w' => e = .returned (.bool true) ∧ Below w.heap.size w w' := by
  have hD1 : decide ((40 : Int) < (l.length : Int)) = false := decide_eq_false (by omega)
  have hD2 : decide ((m : Int) < 0) = false := decide_eq_false (by omega)
  have hD3 : decide ((7 : Int) < (m : Int)) = false := decide_eq_false (by omega)
  have h0m : (0 : Int) ≤ (m : Int) := by omega
  have hpw : (2 : Int) ^ m % 256 = ((pw m : Nat) : Int) := by
    have h := pw_shl m
    rwa [show m % 8 = m by omega] at h
  obtain ⟨n, hn⟩ : ∃ n, l.length = n := ⟨_, rfl⟩
  have HN := Lib.hid hn
  have HM := Lib.hid hmm
  have HR := Lib.hid hr
  clear hmm hr hl hc
  rw [hn] at h40 hD1 ⊢
  clear hn
  go_enter Try.func5, Try.ntmps5
  go_wp2_with (go_at_call 6; refine (roll_awake w).mono ?_; rintro e w1 ⟨rfl, hb1⟩)
  have hmine1 : Row (w1.alloc (.cells #[.int .u8 ((pw m : Nat) : Int)] 5)) _ (some ⟨w1.heap.size, 0, none⟩) (u8s [pw m]) := one_row w1 (pw m)
  have hB2 : Below w.heap.size w (w1.alloc (.cells #[.int .u8 ((pw m : Nat) : Int)] 5)) := hb1.alloc hb1.size _
  obtain ⟨w2, hw2⟩ : ∃ x, w1.alloc (.cells #[.int .u8 ((pw m : Nat) : Int)] 5) = x := ⟨_, rfl⟩
  rw [hw2] at hmine1 hB2 ⊢
  try rw [hpw]
  clear hw2 hb1 hpw
  go_loopw [6, 36] (fun rv iv wr => ∃ (k : Nat) (vr : Value) (xs : List (List Nat)), k ≤ n ∧ iv = .int .i64 (k : Int) ∧ vr = rv ∧ Hid (xs.length = min k 8 ∧ ∀ x ∈ xs, Good m x) ∧ Made wr w2.heap.size vr xs ∧ Below w2.heap.size w2 wr) (fun _ iv _ => n - (intOf iv).toNat)
  case atStart => exact ⟨0, _, [], Nat.zero_le _, rfl, rfl, Lib.hid (by simp), Made.nil _ _, Below.refl _ _⟩
  case round =>
    obtain ⟨k, vr, xs, hk, rfl, rfl, HX, hMade, hBr⟩ := hrel
    by_cases hlt : k < n
    · have hkl : k < l.length := by rw [HN.out]; exact hlt
      have hkI : (k : Int) < (n : Int) := by omega
      have hBw : Below w.heap.size w wr := hB2.trans (hBr.mono hB2.size)
      obtain ⟨a, rfl, hab, hcell, hrow, hxx⟩ := (HR.out.up hBw).at hkl
      have hbl := HM.out _ (List.getElem_mem hkl)
      obtain ⟨bb, hbb⟩ : ∃ b, l[k] = b := ⟨_, rfl⟩
      rw [hbb] at hcell hrow hxx hbl
      obtain ⟨Ab, bs, cb⟩ := bb
      simp only at hcell hrow hxx hbl
      have hbsI : (bs.length : Int) ≤ 9223372036854775807 := by unfold maxLen at hbl; omega
      obtain ⟨l', hlx, hO, hE⟩ := hMade
      obtain ⟨A', c', rfl, hlc', hcm', hrow'⟩ := Row.of_own hO
      have hmine := row_kept (row_kept hmine1 (hBr.mono (Nat.le_refl _))) (Below.refl _ _)
      have HXX := Lib.hid hxx
      have HLX := Lib.hid hlx
      have HE := Lib.hid hE
      have HO := Lib.hid hO
      have kE := Lib.hid (empty_is wr)
      have hszr := hBr.size
      clear hbb hab hbl hxx hlx hE hO hrow'
      by_cases h16 : bs.length ≤ 16
      · have h16I : (bs.length : Int) ≤ 16 := by omega
        have hgw : IntKind.i64.wrap (8 * (bs.length : Int)) = 8 * (bs.length : Int) := IntWalk.i64_in _ (by omega)
        go_upto_region 18 with (first
          | (go_at_call 10; refine kE.out.mono ?_; clear kE; rintro e w3 ⟨rfl, ho3, hb3⟩; have hmine3 := row_kept hmine hb3; have hrow3 := row_kept hrow hb3; have hB3 : Below w2.heap.size w2 w3 := hBr.trans (hb3.mono hszr); have k1 := Lib.hid (mark_first m hm _ (some ⟨w1.heap.size, 0, none⟩) 16 1 w3 (own_row ho3) hmine3); have hq3 := hb3; clear ho3 hmine hrow hb3)
          | (go_at_call 7; refine k1.out.mono ?_; clear k1; rintro e w4 ⟨g4, c4, x4, rfl, hx4, ho4, hb4⟩; have hrow4 := row_kept hrow3 hb4; have hB4 : Below w2.heap.size w2 w4 := hB3.trans (hb4.mono hB3.size); have hq4 := Below.then hq3 hb4; have k2 := Lib.hid (mark_more m x4 bs hx4 h16 HXX.out (some ⟨g4, 0, none⟩) Ab c4 cb w4 (own_row ho4) hrow4); clear ho4 hx4 hrow3 hmine3 hb4 hq3)
          | (go_at_call 7; refine k2.out.mono ?_; clear k2; rintro e w5 ⟨g, cv, x, rfl, hx, ho5, hb5⟩; have hB5 : Below w2.heap.size w2 w5 := hB4.trans (hb5.mono hB4.size); have hq5 := Below.then hq4 hb5; have hr5 := row_lies (own_row ho5); have kg := rget_ok x _ (some ⟨g, 0, none⟩) cv m w5 hr5 hx.2.2 (by omega); rw [bitI_nat, hx.2.1, marks_len hx.1] at kg; have kg := Lib.hid kg; have hox := Lib.hid (own_base ho5 hB4.size); have HGX := Lib.hid hx; clear hr5 hx ho5 hb5 hB4 hrow4 hq4)
          | (go_at_call 19; refine kg.out.mono ?_; clear kg; rintro e w6 ⟨rfl, rfl⟩))
        have hxG := HGX.out
        have hx16 := marks_len hxG.1
        have hO5 := own_kept HO.out hq5
        have hE5 := fun b (hb : b ∈ l') => own_kept (HE.out b hb) hq5
        have hgl := HX.out
        have hin : ∀ b ∈ l', Good m b.bs := fun b hb => hgl.2 _ (by rw [← HLX.out]; exact List.mem_map_of_mem hb)
        have hlen16 : ∀ b ∈ l', b.bs.length = 16 := fun b hb => marks_len (hin b hb).1
        have hring5 : Ring w5 A' l' := ⟨own_row hO5, fun b hb => ⟨own_row (hE5 b hb), (hin b hb).2.2⟩⟩
        have kT := turn_is l' x A' (some ⟨g, 0, none⟩) c' cv w5 hring5 (own_row hox.out) (fun b hb => by rw [hlen16 b hb]; omega) (by omega) hlc' hcm'
        rw [hx16, HLX.out] at kT
        have KT := Lib.hid kT
        have HGT := Lib.hid (good_turned hgl.1 hgl.2 hxG)
        have hl8 : l'.length ≤ 8 := by have := hgl.1; rw [← HLX.out, List.length_map] at this; omega
        have HSP := Lib.hid (fun w6 (hb : Below w5.heap.size w5 w6) => spent hO5 hE5 hlen16 hox.out hb)
        have hq5' := hB5.size
        clear hxG hx16 hO5 hE5 hgl hin hlen16 hring5 kT hq5 HO HE HLX HX hlc' hcm' HGX hox HXX
        go_wp2_with (go_at_call 14; refine KT.out.mono ?_; clear KT; rintro e w6 ⟨v6, rfl, ⟨l3, hl3, hO3, hE3⟩, hb6⟩; obtain ⟨A3, c3, rfl, hlc3, hcm3, -⟩ := Row.of_own hO3; have HL3 := Lib.hid hl3; have HO3 := Lib.hid hO3; have HE3 := Lib.hid hE3; clear hl3 hO3 hE3)
        obtain ⟨T, hTlo, hThi, hTg, hWm, hWr⟩ := HSP.out w6 hb6
        have HTLO := Lib.hid hTlo
        have HTHI := Lib.hid hThi
        have HWM := Lib.hid hWm
        have HWR := Lib.hid hWr
        have hB6 : Below w2.heap.size w2 w6 := hB5.trans (hb6.mono hq5')
        have hn3 : Hid (l3.length = min (k + 1) 8) := Lib.hid (by rw [← HGT.out.1, ← HL3.out, List.length_map])
        have hs56 := hb6.size
        clear hTlo hThi hWm hWr HSP hb6 hBr hBw
        go_loopw [75] (fun iv wr2 => ∃ k2 : Nat, k2 ≤ 16 ∧ iv = .int .i64 (k2 : Int) ∧ Wrote T w6 wr2) (fun iv _ => 16 - (intOf iv).toNat)
        case atStart => exact ⟨0, Nat.zero_le _, rfl, Wrote.refl _ _⟩
        case round =>
          obtain ⟨k2, hk2, rfl, hW⟩ := hrel
          by_cases hlt2 : k2 < 16
          · obtain ⟨⟨v0, hcD⟩, hfD⟩ := HWM.out _ hW k2 hlt2
            have hkI2 : (k2 : Int) < 16 := by omega
            have h02 : (0 : Int) ≤ (k2 : Int) := by omega
            have HW := Lib.hid (hW.set hTg k2 (.int .u8 0))
            clear hW
            go_wp2
            go_roundw
            case rel => exact ⟨k2 + 1, by omega, by go_num, HW.out⟩
            case measure => simp [intOf]; omega
          · obtain rfl : k2 = 16 := by omega
            go_wp2
            go_loopw [84] (fun iv wr3 => ∃ j : Nat, j ≤ l'.length ∧ iv = .int .i64 (j : Int) ∧ Wrote T w6 wr3) (fun iv _ => l'.length - (intOf iv).toNat)
            case atStart => exact ⟨0, Nat.zero_le _, rfl, hW⟩
            case round =>
              clear hW
              obtain ⟨j, hj, rfl, hW⟩ := hrel
              by_cases hlt3 : j < l'.length
              · obtain ⟨a5, g2, c2, rfl, hTg2, hcells, hWb⟩ := HWR.out j hlt3
                have hcj := hcells _ hW
                have hjI : (j : Int) < (l'.length : Int) := by omega
                have HWB := Lib.hid hWb
                clear hcells hWb
                go_wp2
                go_loopw [90] (fun iv wr4 => ∃ k4 : Nat, k4 ≤ 16 ∧ iv = .int .i64 (k4 : Int) ∧ Wrote T w6 wr4) (fun iv _ => 16 - (intOf iv).toNat)
                case atStart => exact ⟨0, Nat.zero_le _, rfl, hW⟩
                case round =>
                  clear hW hcj
                  obtain ⟨k4, hk4, rfl, hW⟩ := hrel
                  by_cases hlt4 : k4 < 16
                  · obtain ⟨⟨v0, hcD⟩, hfD⟩ := HWB.out _ hW k4 hlt4
                    have hkI4 : (k4 : Int) < 16 := by omega
                    have h04 : (0 : Int) ≤ (k4 : Int) := by omega
                    have HW := Lib.hid (hW.set hTg2 k4 (.int .u8 0))
                    clear hW
                    go_wp2
                    go_roundw
                    case rel => exact ⟨k4 + 1, by omega, by go_num, HW.out⟩
                    case measure => simp [intOf]; omega
                  · obtain rfl : k4 = 16 := by omega
                    go_wp2
                    go_roundw
                    case rel => exact ⟨j + 1, by omega, by go_num, hW⟩
                    case measure => simp [intOf]; omega
              · obtain rfl : j = l'.length := by omega
                have hO4 := hW.own HO3.out (fun g _ hg ht => by have := HTHI.out g ht; omega)
                have hE4 : ∀ b ∈ l3, wr.ownsRow w5.heap.size 5 1 b.val b.bs.length (u8s b.bs) := fun b hb => hW.own (HE3.out b hb) (fun g _ hg ht => by have := HTHI.out g ht; omega)
                have hB7 : Below w2.heap.size w2 wr := hB6.trans (hW.below HTLO.out)
                have hg3 : ∀ b ∈ l3, Good m b.bs := fun b hb => HGT.out.2 _ (by rw [← HL3.out]; exact List.mem_map_of_mem hb)
                have hr4 : Ring wr A3 l3 := ⟨own_row hO4, fun b hb => ⟨own_row (hE4 b hb), (hg3 b hb).2.2⟩⟩
                have kr := run_is l3 (m : Int) A3 c3 wr hr4 hlc3 hcm3 (by omega)
                have hlast : lasting (l3.map BV.bs) (m : Int) = l3.length := by
                  rw [lasting_all, List.length_map]
                  intro y hy
                  obtain ⟨b, hb, rfl⟩ := List.mem_map.1 hy
                  rw [bitI_nat]
                  exact (hg3 b hb).2.1
                rw [hlast] at kr
                have hz3 := own_none hO4
                have KC := Lib.hid (fun u hb (A2 : Option Addr) (c2 : Nat) (h : Row u u.heap.size A2 (u8s nobody)) => check_is l3 nobody A3 A2 c3 c2 u (hr4.up hb) h nobody_all hz3 hlc3 hcm3)
                have hright : Hid (RightRing (l3.map BV.bs) nobody) := Lib.hid ⟨by rw [List.length_map, hn3.out]; omega, nobody_marks, fun y hy => by
                  obtain ⟨b, hb, rfl⟩ := List.mem_map.1 hy
                  exact (hg3 b hb).1⟩
                have hmin : min ((k : Int) + 1) 8 = (l3.length : Int) := by rw [hn3.out]; omega
                have HMIN := Lib.hid hmin
                have hl38 : (l3.length : Int) ≤ 8 := by rw [hn3.out]; omega
                have HO4 := Lib.hid hO4
                have HE4 := Lib.hid hE4
                have HKR := Lib.hid kr
                have hb70 : Hid (w5.heap.size ≤ wr.heap.size ∧ w2.heap.size ≤ w5.heap.size) := Lib.hid ⟨by
                  rw [hW.size]
                  exact Nat.le_of_lt_succ (Nat.lt_succ_of_le hs56), hq5'⟩
                clear hO4 hE4 hg3 hr4 kr hlast hz3 hmin HWM HWR HTLO HTHI hW hcm3 hlc3 hq5' hs56
                go_wp2_with (first
                  | ((with_reducible refine slot_is 103 rfl ?_); refine min_arm (.tmp 102) 8 _ rfl rfl rfl ?_; rw [HMIN.out])
                  | (go_at_call 16; refine HKR.out.mono ?_; clear HKR; rintro e w8 ⟨rfl, hb8⟩; have kE := Lib.hid (empty_is w8); have hb8' := Lib.hid hb8; clear hb8)
                  | (go_at_call 10; refine kE.out.mono ?_; clear kE; rintro e w9 ⟨rfl, ho9, hb9⟩; have hb9' := Below.then hb8'.out hb9; have KC := Lib.hid (KC.out w9 hb9' (some ⟨w8.heap.size, 0, none⟩) 16 (own_row ho9)); have hb9'' := Lib.hid hb9'; clear ho9 hb9 hb9' hb8')
                  | (go_at_call 18; refine KC.out.mono ?_; clear KC; rintro e w10 ⟨hck, hb10⟩; obtain rfl := (hck.resolve_right (fun h => h.1 hright.out)).2; have hb10' := Lib.hid (Below.then hb9''.out hb10); clear hck hb10 hb9''))
                go_roundw
                case rel =>
                  refine ⟨k + 1, _, turned xs x, by omega, by go_num, rfl, HGT, ⟨l3, HL3.out, own_base (own_kept HO4.out hb10'.out) hb70.out.2, fun b hb => own_base (own_kept (HE4.out b hb) hb10'.out) hb70.out.2⟩, hB7.trans (hb10'.out.mono ?_)⟩
                  exact Nat.le_trans hb70.out.2 hb70.out.1
                case measure => simp [intOf]; omega
      · have h16I : (16 : Int) < (bs.length : Int) := by omega
        go_upto_region 18 with (first
          | (go_at_call 10; refine kE.out.mono ?_; clear kE; rintro e w3 ⟨rfl, ho3, hb3⟩; have hmine3 := row_kept hmine hb3; have hB3 : Below w2.heap.size w2 w3 := hBr.trans (hb3.mono hszr); have k1 := Lib.hid (mark_first m hm _ (some ⟨w1.heap.size, 0, none⟩) 16 1 w3 (own_row ho3) hmine3); have hq3 := hb3; clear ho3 hmine hrow hb3)
          | (go_at_call 7; refine k1.out.mono ?_; clear k1; rintro e w5 ⟨g, cv, x, rfl, hx, ho5, hb5⟩; have hB5 : Below w2.heap.size w2 w5 := hB3.trans (hb5.mono hB3.size); have hq5 := Below.then hq3 hb5; have hox := Lib.hid (own_base ho5 hB3.size); have HGX := Lib.hid hx; clear hx ho5 hb5 hB3 hq3 hmine3))
        have hxG := HGX.out
        have hx16 := marks_len hxG.1
        have hO5 := own_kept HO.out hq5
        have hE5 := fun b (hb : b ∈ l') => own_kept (HE.out b hb) hq5
        have hgl := HX.out
        have hin : ∀ b ∈ l', Good m b.bs := fun b hb => hgl.2 _ (by rw [← HLX.out]; exact List.mem_map_of_mem hb)
        have hlen16 : ∀ b ∈ l', b.bs.length = 16 := fun b hb => marks_len (hin b hb).1
        have hring5 : Ring w5 A' l' := ⟨own_row hO5, fun b hb => ⟨own_row (hE5 b hb), (hin b hb).2.2⟩⟩
        have kT := turn_is l' x A' (some ⟨g, 0, none⟩) c' cv w5 hring5 (own_row hox.out) (fun b hb => by rw [hlen16 b hb]; omega) (by omega) hlc' hcm'
        rw [hx16, HLX.out] at kT
        have KT := Lib.hid kT
        have HGT := Lib.hid (good_turned hgl.1 hgl.2 hxG)
        have hl8 : l'.length ≤ 8 := by have := hgl.1; rw [← HLX.out, List.length_map] at this; omega
        have HSP := Lib.hid (fun w6 (hb : Below w5.heap.size w5 w6) => spent hO5 hE5 hlen16 hox.out hb)
        have hq5' := hB5.size
        clear hxG hx16 hO5 hE5 hgl hin hlen16 hring5 kT hq5 HO HE HLX HX hlc' hcm' HGX hox HXX
        go_wp2_with (go_at_call 14; refine KT.out.mono ?_; clear KT; rintro e w6 ⟨v6, rfl, ⟨l3, hl3, hO3, hE3⟩, hb6⟩; obtain ⟨A3, c3, rfl, hlc3, hcm3, -⟩ := Row.of_own hO3; have HL3 := Lib.hid hl3; have HO3 := Lib.hid hO3; have HE3 := Lib.hid hE3; clear hl3 hO3 hE3)
        obtain ⟨T, hTlo, hThi, hTg, hWm, hWr⟩ := HSP.out w6 hb6
        have HTLO := Lib.hid hTlo
        have HTHI := Lib.hid hThi
        have HWM := Lib.hid hWm
        have HWR := Lib.hid hWr
        have hB6 : Below w2.heap.size w2 w6 := hB5.trans (hb6.mono hq5')
        have hn3 : Hid (l3.length = min (k + 1) 8) := Lib.hid (by rw [← HGT.out.1, ← HL3.out, List.length_map])
        have hs56 := hb6.size
        clear hTlo hThi hWm hWr HSP hb6 hBr hBw
        go_loopw [75] (fun iv wr2 => ∃ k2 : Nat, k2 ≤ 16 ∧ iv = .int .i64 (k2 : Int) ∧ Wrote T w6 wr2) (fun iv _ => 16 - (intOf iv).toNat)
        case atStart => exact ⟨0, Nat.zero_le _, rfl, Wrote.refl _ _⟩
        case round =>
          obtain ⟨k2, hk2, rfl, hW⟩ := hrel
          by_cases hlt2 : k2 < 16
          · obtain ⟨⟨v0, hcD⟩, hfD⟩ := HWM.out _ hW k2 hlt2
            have hkI2 : (k2 : Int) < 16 := by omega
            have h02 : (0 : Int) ≤ (k2 : Int) := by omega
            have HW := Lib.hid (hW.set hTg k2 (.int .u8 0))
            clear hW
            go_wp2
            go_roundw
            case rel => exact ⟨k2 + 1, by omega, by go_num, HW.out⟩
            case measure => simp [intOf]; omega
          · obtain rfl : k2 = 16 := by omega
            go_wp2
            go_loopw [84] (fun iv wr3 => ∃ j : Nat, j ≤ l'.length ∧ iv = .int .i64 (j : Int) ∧ Wrote T w6 wr3) (fun iv _ => l'.length - (intOf iv).toNat)
            case atStart => exact ⟨0, Nat.zero_le _, rfl, hW⟩
            case round =>
              clear hW
              obtain ⟨j, hj, rfl, hW⟩ := hrel
              by_cases hlt3 : j < l'.length
              · obtain ⟨a5, g2, c2, rfl, hTg2, hcells, hWb⟩ := HWR.out j hlt3
                have hcj := hcells _ hW
                have hjI : (j : Int) < (l'.length : Int) := by omega
                have HWB := Lib.hid hWb
                clear hcells hWb
                go_wp2
                go_loopw [90] (fun iv wr4 => ∃ k4 : Nat, k4 ≤ 16 ∧ iv = .int .i64 (k4 : Int) ∧ Wrote T w6 wr4) (fun iv _ => 16 - (intOf iv).toNat)
                case atStart => exact ⟨0, Nat.zero_le _, rfl, hW⟩
                case round =>
                  clear hW hcj
                  obtain ⟨k4, hk4, rfl, hW⟩ := hrel
                  by_cases hlt4 : k4 < 16
                  · obtain ⟨⟨v0, hcD⟩, hfD⟩ := HWB.out _ hW k4 hlt4
                    have hkI4 : (k4 : Int) < 16 := by omega
                    have h04 : (0 : Int) ≤ (k4 : Int) := by omega
                    have HW := Lib.hid (hW.set hTg2 k4 (.int .u8 0))
                    clear hW
                    go_wp2
                    go_roundw
                    case rel => exact ⟨k4 + 1, by omega, by go_num, HW.out⟩
                    case measure => simp [intOf]; omega
                  · obtain rfl : k4 = 16 := by omega
                    go_wp2
                    go_roundw
                    case rel => exact ⟨j + 1, by omega, by go_num, hW⟩
                    case measure => simp [intOf]; omega
              · obtain rfl : j = l'.length := by omega
                have hO4 := hW.own HO3.out (fun g _ hg ht => by have := HTHI.out g ht; omega)
                have hE4 : ∀ b ∈ l3, wr.ownsRow w5.heap.size 5 1 b.val b.bs.length (u8s b.bs) := fun b hb => hW.own (HE3.out b hb) (fun g _ hg ht => by have := HTHI.out g ht; omega)
                have hB7 : Below w2.heap.size w2 wr := hB6.trans (hW.below HTLO.out)
                have hg3 : ∀ b ∈ l3, Good m b.bs := fun b hb => HGT.out.2 _ (by rw [← HL3.out]; exact List.mem_map_of_mem hb)
                have hr4 : Ring wr A3 l3 := ⟨own_row hO4, fun b hb => ⟨own_row (hE4 b hb), (hg3 b hb).2.2⟩⟩
                have kr := run_is l3 (m : Int) A3 c3 wr hr4 hlc3 hcm3 (by omega)
                have hlast : lasting (l3.map BV.bs) (m : Int) = l3.length := by
                  rw [lasting_all, List.length_map]
                  intro y hy
                  obtain ⟨b, hb, rfl⟩ := List.mem_map.1 hy
                  rw [bitI_nat]
                  exact (hg3 b hb).2.1
                rw [hlast] at kr
                have hz3 := own_none hO4
                have KC := Lib.hid (fun u hb (A2 : Option Addr) (c2 : Nat) (h : Row u u.heap.size A2 (u8s nobody)) => check_is l3 nobody A3 A2 c3 c2 u (hr4.up hb) h nobody_all hz3 hlc3 hcm3)
                have hright : Hid (RightRing (l3.map BV.bs) nobody) := Lib.hid ⟨by rw [List.length_map, hn3.out]; omega, nobody_marks, fun y hy => by
                  obtain ⟨b, hb, rfl⟩ := List.mem_map.1 hy
                  exact (hg3 b hb).1⟩
                have hmin : min ((k : Int) + 1) 8 = (l3.length : Int) := by rw [hn3.out]; omega
                have HMIN := Lib.hid hmin
                have hl38 : (l3.length : Int) ≤ 8 := by rw [hn3.out]; omega
                have HO4 := Lib.hid hO4
                have HE4 := Lib.hid hE4
                have HKR := Lib.hid kr
                have hb70 : Hid (w5.heap.size ≤ wr.heap.size ∧ w2.heap.size ≤ w5.heap.size) := Lib.hid ⟨by
                  rw [hW.size]
                  exact Nat.le_of_lt_succ (Nat.lt_succ_of_le hs56), hq5'⟩
                clear hO4 hE4 hg3 hr4 kr hlast hz3 hmin HWM HWR HTLO HTHI hW hcm3 hlc3 hq5' hs56
                go_wp2_with (first
                  | ((with_reducible refine slot_is 103 rfl ?_); refine min_arm (.tmp 102) 8 _ rfl rfl rfl ?_; rw [HMIN.out])
                  | (go_at_call 16; refine HKR.out.mono ?_; clear HKR; rintro e w8 ⟨rfl, hb8⟩; have kE := Lib.hid (empty_is w8); have hb8' := Lib.hid hb8; clear hb8)
                  | (go_at_call 10; refine kE.out.mono ?_; clear kE; rintro e w9 ⟨rfl, ho9, hb9⟩; have hb9' := Below.then hb8'.out hb9; have KC := Lib.hid (KC.out w9 hb9' (some ⟨w8.heap.size, 0, none⟩) 16 (own_row ho9)); have hb9'' := Lib.hid hb9'; clear ho9 hb9 hb9' hb8')
                  | (go_at_call 18; refine KC.out.mono ?_; clear KC; rintro e w10 ⟨hck, hb10⟩; obtain rfl := (hck.resolve_right (fun h => h.1 hright.out)).2; have hb10' := Lib.hid (Below.then hb9''.out hb10); clear hck hb10 hb9''))
                go_roundw
                case rel =>
                  refine ⟨k + 1, _, turned xs x, by omega, by go_num, rfl, HGT, ⟨l3, HL3.out, own_base (own_kept HO4.out hb10'.out) hb70.out.2, fun b hb => own_base (own_kept (HE4.out b hb) hb10'.out) hb70.out.2⟩, hB7.trans (hb10'.out.mono ?_)⟩
                  exact Nat.le_trans hb70.out.2 hb70.out.1
                case measure => simp [intOf]; omega
    · obtain rfl : k = n := by omega
      clear HX hMade
      go_wp2
      go_ret
      exact ⟨rfl, hB2.trans (hBr.mono hB2.size)⟩

set_option maxRecDepth 100000 in
theorem walk (l : List BV) (A : Option Addr) (c : Nat) (i : Int) (w : World) (hr : Ring w A l) (hmm : ∀ b ∈ l, b.bs.length ≤ maxLen) (hl : l.length ≤ c) (hc : c ≤ maxLen) (hz : A = none → c = 0) (hi0 : -9223372036854775808 ≤ i) (hi : i ≤ 9223372036854775807) :
    Calls Try.prog 5 #[.slice A l.length c, .int .i64 i] w fun e w' => e = .returned (.bool true) ∧ Below w.heap.size w w' := by
  have hlI : (l.length : Int) ≤ 9223372036854775807 := by unfold maxLen at hc; omega
  by_cases h40 : l.length ≤ 40
  · have hD1 : decide ((40 : Int) < (l.length : Int)) = false := decide_eq_false (by omega)
    by_cases h0 : i < 0
    · have hD2 : decide (i < 0) = true := decide_eq_true h0
      clear hr hmm
      go_enter Try.func5, Try.ntmps5
      go_wp2_with (go_at_call 6; refine (roll_awake w).mono ?_; rintro e w1 ⟨rfl, hb1⟩)
      go_ret
      exact ⟨rfl, hb1⟩
    · obtain ⟨m, rfl⟩ := Int.eq_ofNat_of_zero_le (show 0 ≤ i by omega)
      by_cases h7 : m ≤ 7
      · exact walk_play l m A c w hr hl hc h40 h7 hmm
      · have hD2 : decide ((m : Int) < 0) = false := decide_eq_false (by omega)
        have hD3 : decide ((7 : Int) < (m : Int)) = true := decide_eq_true (by omega)
        clear hr hmm
        go_enter Try.func5, Try.ntmps5
        go_wp2_with (go_at_call 6; refine (roll_awake w).mono ?_; rintro e w1 ⟨rfl, hb1⟩)
        go_ret
        exact ⟨rfl, hb1⟩
  · have hD1 : decide ((40 : Int) < (l.length : Int)) = true := decide_eq_true (by omega)
    clear hr hmm
    go_enter Try.func5, Try.ntmps5
    go_wp2_with (go_at_call 6; refine (roll_awake w).mono ?_; rintro e w1 ⟨rfl, hb1⟩)
    go_ret
    exact ⟨rfl, hb1⟩

theorem own : ownKnob Try.prog.godebug = none := by kernel_rfl
theorem laidOut : laidOutB Try.prog = true := by kernel_rfl

set_option maxRecDepth 100000 in
theorem lifted (os : Os) (started : os.Started) (H : Type) (enc : TypeId × Value → H) :
    ReturnsInHanded {} Try.checked os 5 .any (Rows.rollKeepsSpec.pre6 enc Try.prog Try.f5 Rows.rollKeepsRow.domain false) (Rows.rollKeepsSpec.post enc Try.prog Try.f5 false true false false) := by
  refine returnsInHanded_of_change (C := Try.checked) own started (by kernel_rfl) Try.func5
    (ChangeSpec.witness6 (enc := enc) (C := Try.checked) false ⟨#[], #[.slice none 0 0, .int .i64 0], []⟩ 8 (by kernel_rfl) (by kernel_rfl) (by kernel_rfl) (by kernel_rfl)) ?_
  intro W base args ds gs before hval0 hW hcnd _
  have hval : ∀ (j : Nat) t v, Try.f5.params[j]? = some t → args[j]? = some v → Value.okWide Try.prog W .any base t v := hval0
  have hW' := hW
  obtain ⟨p, q, hA0, hV, rfl, hfz, hnd⟩ := hW
  have hlt : ∀ x ∈ p ++ q, x.block < W.heap.size := fun x hx => hW'.lt x hx
  have hA : DataW.TrodAll enc Try.prog W 0 (fun _ => true) true Try.f5.params.toList args.toList ds p := hA0
  rw [Try.params5] at hA hval
  obtain ⟨v0, vs0, d0, ds0, p0, q0, hargs, rfl, rfl, h0, r0⟩ := trodAll_cons hA
  obtain ⟨v1, vs1, d1, ds1, p1, q1, rfl, rfl, rfl, h1, r1⟩ := trodAll_cons r0
  obtain ⟨rfl, rfl, rfl⟩ := trodAll_nil r1
  obtain rfl : args = #[v0, v1] := by cases args; simp_all
  obtain ⟨rfl, rfl⟩ := trodVars_none hV
  obtain ⟨A0, n0, c0, rfl⟩ := okWide_slice Try.underlying33 (hval 0 33 v0 rfl rfl)
  obtain ⟨l0, hl0, hb0, hc0, hm0, hz0, hr0⟩ := open_bss h0
  subst hl0
  obtain ⟨a1, rfl, rfl, rfl, w1⟩ := open_int Try.underlying3 (hval 1 3 v1 rfl rfl) h1
  have b1 := i64_fits w1
  clear hA0 hval0
  refine (walk l0 A0 c0 a1 W hr0 hb0 hc0 hm0 hz0 b1.1 b1.2).mono fun e W' ⟨he, hg⟩ => ?_
  subst he
  exact ⟨_, rfl, law_post laidOut (by kernel_rfl) rfl rfl Try.underlying4 rfl hW' hg⟩

theorem over : Rows.rollKeepsRow.holds Try.pinned (OpenSpec.ofChange Rows.rollKeepsSpec) :=
  OpenClaim.holds_of_wide 5 Try.f5 rfl rfl rfl rfl rfl rfl rfl ⟨rfl, rfl, rfl, rfl, rfl⟩ rfl rfl rfl rfl rfl (by kernel_rfl) Try.func5 (by kernel_rfl)
    (of_decide_eq_true (by kernel_rfl)) (by unfold Func.isWrapper; first | (rw [if_pos (by decide +kernel)]; kernel_rfl) | (rw [if_neg (by decide +kernel)]; exact ⟨rfl, rfl⟩))
    (fun os started H enc _ => lifted os started H enc)

/-- The statement. -/
theorem proved : Rows.RollKeepsSaid := over
#print axioms proved
end Go.Proofs.Ytbahcbnnogdmfaa.RollKeeps
