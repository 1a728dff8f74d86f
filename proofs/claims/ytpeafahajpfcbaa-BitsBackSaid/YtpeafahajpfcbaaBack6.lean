/- Law BitsBack (P6.4): what is packed is unpacked as it was; any field is packed again as the same bytes. -/
import Derived.Test.YtpeafahajpfcbaaAwake6
import Derived.Test.YtpeafahajpfcbaaLawC
import Derived.Test.YtpeafahajpfcbaaRows
namespace Go.Proofs.Ytpeafahajpfcbaa.BitsBack
open Go.RowKit Go.ChangeShapes Go.WideShapes Go.ChangeAt
set_option linter.unusedVariables false
set_option linter.unusedSimpArgs false

set_option maxRecDepth 100000 in
set_option maxHeartbeats 6000000 in
theorem walk_yes (l : List Bool) (A : Option Addr) (c : Nat) (xs : List Nat) (A1 : Option Addr) (c1 : Nat) (m : Nat) (w : World) (hr : Row w w.heap.size A (bools l)) (hx : Lies w (· < w.heap.size) A1 xs) (hxb : ∀ x ∈ xs, x < 256) (hl : l.length ≤ 256) (hxl : xs.length ≤ 100) (hF : IsField xs m) :
    Calls Try.prog 7 #[.slice A l.length c, .slice A1 xs.length c1, .int .i64 (m : Int)] w fun e w' => e = .returned (.bool true) ∧ Below w.heap.size w w' := by
  have hlI : (l.length : Int) ≤ 256 := by omega
  have hxI : (xs.length : Int) ≤ 100 := by omega
  have hm := hF.1
  have hpk : packed (bitsOf xs m) = xs := (packed_is (by rw [bitsOf_len]; exact hF.2.1) hxb (fun k => (bitsOf_field hF k).symm)).symm
  have HPK := Lib.hid hpk
  clear hpk
  have HXB := Lib.hid hxb
  have hpa := packed_all l
  have hpt := packed_at l
  have hpf := packed_field hl
  have hpl := packed_len l
  have hpo := ones_field hpl hpt
  have kp := fun W (h : Row W W.heap.size A (bools l)) => pack_ok l A c W h hl
  obtain ⟨ys, hys⟩ : ∃ ys, packed l = ys := ⟨_, rfl⟩
  rw [hys] at hpa hpt hpf hpl hpo kp
  have hyl : ys.length ≤ 100 := by omega
  have HPA := Lib.hid hpa
  have HPT := Lib.hid hpt
  have HPF := Lib.hid hpf
  have HPO := Lib.hid hpo
  clear hxb hpa hpt hpf hpl hpo hys
  go_enter Try.func7, Try.ntmps7
  go_wp2_with (first
    | (go_at_call 8; refine (bits_awake _).mono ?_; rintro e w1 ⟨rfl, hb1⟩)
    | (go_at_call 9; refine (kp _ ((hr.below hb1).up hb1.size)).mono ?_; clear kp; rintro e w2 ⟨v, rfl, hown, hb2⟩; obtain ⟨Av, cv, rfl, hlv, hcv, hnv, hLv⟩ := Lies.own hown; clear hnv hlv; have hB2 : Below w.heap.size w w2 := hb1.trans (hb2.mono hb1.size); have ku := unpack_yes ys _ Av cv l.length w2 hLv HPA.out HPF.out; rw [bitsOf_back HPT.out] at ku)
    | (go_at_call 13; refine ku.mono ?_; clear ku; rintro e w3 ⟨v3, rfl, hown3, hb3⟩; obtain ⟨A3, c3, rfl, hl3, hc3, hR3⟩ := Row.of_own hown3; clear hl3; have hB3 : Below w.heap.size w w3 := hB2.trans (hb3.mono hB2.size); have hLv3 := hLv.hold (w' := w3) (fun p hp => hb3.cell hp.2.1); have kS := bsame_true l A3 A c3 c w3.heap.size w3 hR3 ((hr.below hB3).up hB3.size) (by unfold maxLen; omega))
    | (go_at_call 19; refine kS.mono ?_; clear kS; rintro e w4 ⟨rfl, hb4⟩; have hB4 : Below w.heap.size w w4 := hB3.trans (hb4.mono hB3.size); have hLv4 := hLv3.hold (w' := w4) (fun p hp => hb4.cell (Nat.lt_of_lt_of_le hp.2.1 hb3.size))))
  have hr4 := hr.below hB4
  clear hb4 hb3 hb2 hB3 hB2 hLv3 hLv hown hown3 hR3
  go_loopw [11, 54] (fun sv iv wr => ∃ k s : Nat, k ≤ l.length ∧ iv = .int .i64 (k : Int) ∧ sv = .int .i64 (s : Int) ∧ Hid (s = trues l k) ∧ s ≤ k ∧ w4 = wr) (fun _ iv _ => l.length - (intOf iv).toNat)
  case atStart => exact ⟨0, 0, Nat.zero_le _, rfl, rfl, by show _ = _; rfl, Nat.zero_le _, rfl⟩
  case round =>
    obtain ⟨k, s, hk, rfl, rfl, HS, hs, rfl⟩ := hrel
    by_cases hlt : k < l.length
    · obtain ⟨a, rfl, hbk, hc⟩ := hr4.get (k := k) (by rw [bools_len]; exact hlt)
      have hcb : (bools l)[k]'(by rw [bools_len]; exact hlt) = .bool (l.getD k false) := by simp [bools, hlt]
      rw [hcb] at hc
      have hkI : (k : Int) < (l.length : Int) := by omega
      have hts := trues_succ l k
      rw [← HS.out] at hts
      generalize l.getD k false = b at hc hts
      have HTS := Lib.hid hts
      clear hcb hts
      cases b
      · go_wp2
        go_roundw
        case rel => exact ⟨k + 1, s, by omega, by go_num, rfl, by show _ = _; rw [HTS.out]; rfl, by omega, trivial⟩
        case measure => simp [intOf]; omega
      · go_wp2
        go_roundw
        case rel => exact ⟨k + 1, s + 1, by omega, by go_num, by go_num, by show _ = _; rw [HTS.out]; rfl, by omega, trivial⟩
        case measure => simp [intOf]; omega
    · obtain rfl : k = l.length := by omega
      have kc := count_ok ys _ Av cv w4 hLv4 HPA.out (by omega)
      rw [HPO.out, ← HS.out] at kc
      clear hlt
      have hB5 := hB4
      have ku2 := unpack_yes xs (· < w.heap.size) A1 c1 m _ (hx.hold (fun p hp => hB5.cell hp)) HXB.out hF
      go_wp2_with (first
        | (go_at_call 18; refine kc.mono ?_; clear kc; rintro e w5 ⟨rfl, rfl⟩)
        | (go_at_call 13; refine ku2.mono ?_; clear ku2; rintro e w6 ⟨v6, rfl, hown6, hb6⟩; obtain ⟨A6, c6, rfl, hl6, hc6, hR6⟩ := Row.of_own hown6; have hB6 : Below w.heap.size w w6 := hB5.trans (hb6.mono hB5.size); have kp2 := pack_ok (bitsOf xs m) A6 c6 w6 hR6 (by rw [bitsOf_len]; exact hm); rw [HPK.out, bitsOf_len] at kp2)
        | (go_at_call 9; refine kp2.mono ?_; clear kp2; rintro e w7 ⟨v7, rfl, hown7, hb7⟩; obtain ⟨A7, c7, rfl, hl7, hc7, hn7, hL7⟩ := Lies.own hown7; have hB7 : Below w.heap.size w w7 := hB6.trans (hb7.mono hB6.size); have kS7 := same_true xs _ _ A7 A1 c7 c1 w7 hL7 (hx.hold (fun p hp => hB7.cell hp)) (by unfold maxLen; omega))
        | (go_at_call 10; refine kS7.mono ?_; clear kS7; rintro e w8 ⟨rfl, hb8⟩))
      go_ret
      exact ⟨rfl, hB7.trans (hb8.mono hB7.size)⟩

set_option maxRecDepth 100000 in
set_option maxHeartbeats 6000000 in
theorem walk_no (l : List Bool) (A : Option Addr) (c : Nat) (xs : List Nat) (A1 : Option Addr) (c1 : Nat) (n : Int) (w : World) (hr : Row w w.heap.size A (bools l)) (hx : Lies w (· < w.heap.size) A1 xs) (hxb : ∀ x ∈ xs, x < 256) (hl : l.length ≤ 256) (hxl : xs.length ≤ 100) (hF : ¬ FieldI xs n) :
    Calls Try.prog 7 #[.slice A l.length c, .slice A1 xs.length c1, .int .i64 n] w fun e w' => e = .returned (.bool true) ∧ Below w.heap.size w w' := by
  have hlI : (l.length : Int) ≤ 256 := by omega
  have hxI : (xs.length : Int) ≤ 100 := by omega
  have HXB := Lib.hid hxb
  have hpa := packed_all l
  have hpt := packed_at l
  have hpf := packed_field hl
  have hpl := packed_len l
  have hpo := ones_field hpl hpt
  have kp := fun W (h : Row W W.heap.size A (bools l)) => pack_ok l A c W h hl
  obtain ⟨ys, hys⟩ : ∃ ys, packed l = ys := ⟨_, rfl⟩
  rw [hys] at hpa hpt hpf hpl hpo kp
  have hyl : ys.length ≤ 100 := by omega
  have HPA := Lib.hid hpa
  have HPT := Lib.hid hpt
  have HPF := Lib.hid hpf
  have HPO := Lib.hid hpo
  clear hxb hpa hpt hpf hpl hpo hys
  go_enter Try.func7, Try.ntmps7
  go_wp2_with (first
    | (go_at_call 8; refine (bits_awake _).mono ?_; rintro e w1 ⟨rfl, hb1⟩)
    | (go_at_call 9; refine (kp _ ((hr.below hb1).up hb1.size)).mono ?_; clear kp; rintro e w2 ⟨v, rfl, hown, hb2⟩; obtain ⟨Av, cv, rfl, hlv, hcv, hnv, hLv⟩ := Lies.own hown; clear hnv hlv; have hB2 : Below w.heap.size w w2 := hb1.trans (hb2.mono hb1.size); have ku := unpack_yes ys _ Av cv l.length w2 hLv HPA.out HPF.out; rw [bitsOf_back HPT.out] at ku)
    | (go_at_call 13; refine ku.mono ?_; clear ku; rintro e w3 ⟨v3, rfl, hown3, hb3⟩; obtain ⟨A3, c3, rfl, hl3, hc3, hR3⟩ := Row.of_own hown3; clear hl3; have hB3 : Below w.heap.size w w3 := hB2.trans (hb3.mono hB2.size); have hLv3 := hLv.hold (w' := w3) (fun p hp => hb3.cell hp.2.1); have kS := bsame_true l A3 A c3 c w3.heap.size w3 hR3 ((hr.below hB3).up hB3.size) (by unfold maxLen; omega))
    | (go_at_call 19; refine kS.mono ?_; clear kS; rintro e w4 ⟨rfl, hb4⟩; have hB4 : Below w.heap.size w w4 := hB3.trans (hb4.mono hB3.size); have hLv4 := hLv3.hold (w' := w4) (fun p hp => hb4.cell (Nat.lt_of_lt_of_le hp.2.1 hb3.size))))
  have hr4 := hr.below hB4
  clear hb4 hb3 hb2 hB3 hB2 hLv3 hLv hown hown3 hR3
  go_loopw [11, 54] (fun sv iv wr => ∃ k s : Nat, k ≤ l.length ∧ iv = .int .i64 (k : Int) ∧ sv = .int .i64 (s : Int) ∧ Hid (s = trues l k) ∧ s ≤ k ∧ w4 = wr) (fun _ iv _ => l.length - (intOf iv).toNat)
  case atStart => exact ⟨0, 0, Nat.zero_le _, rfl, rfl, by show _ = _; rfl, Nat.zero_le _, rfl⟩
  case round =>
    obtain ⟨k, s, hk, rfl, rfl, HS, hs, rfl⟩ := hrel
    by_cases hlt : k < l.length
    · obtain ⟨a, rfl, hbk, hc⟩ := hr4.get (k := k) (by rw [bools_len]; exact hlt)
      have hcb : (bools l)[k]'(by rw [bools_len]; exact hlt) = .bool (l.getD k false) := by simp [bools, hlt]
      rw [hcb] at hc
      have hkI : (k : Int) < (l.length : Int) := by omega
      have hts := trues_succ l k
      rw [← HS.out] at hts
      generalize l.getD k false = b at hc hts
      have HTS := Lib.hid hts
      clear hcb hts
      cases b
      · go_wp2
        go_roundw
        case rel => exact ⟨k + 1, s, by omega, by go_num, rfl, by show _ = _; rw [HTS.out]; rfl, by omega, trivial⟩
        case measure => simp [intOf]; omega
      · go_wp2
        go_roundw
        case rel => exact ⟨k + 1, s + 1, by omega, by go_num, by go_num, by show _ = _; rw [HTS.out]; rfl, by omega, trivial⟩
        case measure => simp [intOf]; omega
    · obtain rfl : k = l.length := by omega
      have kc := count_ok ys _ Av cv w4 hLv4 HPA.out (by omega)
      rw [HPO.out, ← HS.out] at kc
      clear hlt
      have hB5 := hB4
      have ku2 := unpack_no xs (· < w.heap.size) A1 c1 n _ (hx.hold (fun p hp => hB5.cell hp)) HXB.out hF
      go_wp2_with (first
        | (go_at_call 18; refine kc.mono ?_; clear kc; rintro e w5 ⟨rfl, rfl⟩)
        | (go_at_call 13; refine ku2.mono ?_; clear ku2; rintro e w6 ⟨rfl, hb6⟩))
      go_ret
      exact ⟨rfl, hB5.trans (hb6.mono hB5.size)⟩

set_option maxRecDepth 100000 in
set_option maxHeartbeats 6000000 in
theorem walk (l : List Bool) (A : Option Addr) (c : Nat) (xs : List Nat) (A1 : Option Addr) (c1 : Nat) (n : Int) (w : World) (hr : Row w w.heap.size A (bools l)) (hlc : l.length ≤ c) (hcm : c ≤ maxLen) (hx : Lies w (· < w.heap.size) A1 xs) (hxb : ∀ x ∈ xs, x < 256) (hxc : xs.length ≤ c1) (hc1 : c1 ≤ maxLen) (hA1 : A1 = none → c1 = 0) :
    Calls Try.prog 7 #[.slice A l.length c, .slice A1 xs.length c1, .int .i64 n] w fun e w' => e = .returned (.bool true) ∧ Below w.heap.size w w' := by
  clear hA1
  unfold maxLen at hcm hc1
  by_cases hl : l.length ≤ 256
  · by_cases hxl : xs.length ≤ 100
    · by_cases hF : FieldI xs n
      · obtain ⟨m, rfl⟩ := Int.eq_ofNat_of_zero_le hF.1
        exact walk_yes l A c xs A1 c1 m w hr hx hxb hl hxl (by simpa using hF.2)
      · exact walk_no l A c xs A1 c1 n w hr hx hxb hl hxl hF
    · have hlI : (l.length : Int) ≤ 256 := by omega
      have hxI : (100 : Int) < (xs.length : Int) := by omega
      clear hl hxl hxb
      go_enter Try.func7, Try.ntmps7
      go_wp2_with (go_at_call 8; refine (bits_awake _).mono ?_; rintro e w1 ⟨rfl, hb1⟩)
      go_ret
      exact ⟨rfl, hb1⟩
  · have hlI : (256 : Int) < (l.length : Int) := by omega
    clear hl hxb
    go_enter Try.func7, Try.ntmps7
    go_wp2_with (go_at_call 8; refine (bits_awake _).mono ?_; rintro e w1 ⟨rfl, hb1⟩)
    go_ret
    exact ⟨rfl, hb1⟩


theorem own : ownKnob Try.prog.godebug = none := by kernel_rfl
theorem laidOut : laidOutB Try.prog = true := by kernel_rfl

set_option maxRecDepth 100000 in
theorem lifted (os : Os) (started : os.Started) (H : Type) (enc : TypeId × Value → H) :
    ReturnsInHanded {} Try.checked os 7 .any (Rows.bitsBackSpec.pre6 enc Try.prog Try.f7 Rows.bitsBackRow.domain false) (Rows.bitsBackSpec.post enc Try.prog Try.f7 false true false false) := by
  refine returnsInHanded_of_change (C := Try.checked) own started (by kernel_rfl) Try.func7
    (ChangeSpec.witness6 (enc := enc) (C := Try.checked) false ⟨#[], #[.slice none 0 0, .slice none 0 0, .int .i64 0], []⟩ 8 (by kernel_rfl) (by kernel_rfl) (by kernel_rfl) (by kernel_rfl)) ?_
  intro W base args ds gs before hval0 hW hcnd _
  have hval : ∀ (j : Nat) t v, Try.f7.params[j]? = some t → args[j]? = some v → Value.okWide Try.prog W .any base t v := hval0
  have hW' := hW
  obtain ⟨p, q, hA0, hV, rfl, hfz, hnd⟩ := hW
  have hlt : ∀ x ∈ p ++ q, x.block < W.heap.size := fun x hx => hW'.lt x hx
  have hA : DataW.TrodAll enc Try.prog W 0 (fun _ => true) true Try.f7.params.toList args.toList ds p := hA0
  rw [Try.params7] at hA hval
  obtain ⟨v0, vs0, d0, ds0, p0, q0, hargs, rfl, rfl, h0, r0⟩ := trodAll_cons hA
  obtain ⟨v1, vs1, d1, ds1, p1, q1, rfl, rfl, rfl, h1, r1⟩ := trodAll_cons r0
  obtain ⟨v2, vs2, d2, ds2, p2, q2, rfl, rfl, rfl, h2, r2⟩ := trodAll_cons r1
  obtain ⟨rfl, rfl, rfl⟩ := trodAll_nil r2
  obtain rfl : args = #[v0, v1, v2] := by cases args; simp_all
  obtain ⟨rfl, rfl⟩ := trodVars_none hV
  obtain ⟨A0, n0, c0, rfl⟩ := okWide_slice Try.underlying22 (hval 0 22 v0 rfl rfl)
  obtain ⟨ns0, hl0, hc0, hm0, hr0⟩ := open_bls Try.underlying22 Try.underlying4 (by kernel_rfl) h0
  subst hl0
  obtain ⟨A1, n1, c1, rfl⟩ := okWide_slice Try.underlying24 (hval 1 24 v1 rfl rfl)
  obtain ⟨ns1, hl1, hn1, hc1, hm1, hr1, hA1⟩ := open_u8s Try.underlying24 Try.underlying5 (by kernel_rfl) h1
  subst hl1
  obtain ⟨a2, rfl, rfl, rfl, w2⟩ := open_int Try.underlying3 (hval 2 3 v2 rfl rfl) h2
  clear hA0 hval0
  refine (walk ns0 A0 c0 ns1 A1 c1 a2 W hr0 hc0 hm0 (Lies.ofRow hr1) hn1 hc1 hm1 hA1).mono fun e W' ⟨he, hg⟩ => ?_
  subst he
  exact ⟨_, rfl, law_post laidOut (by kernel_rfl) rfl rfl Try.underlying4 rfl hW' hg⟩

theorem over : Rows.bitsBackRow.holds Try.pinned (OpenSpec.ofChange Rows.bitsBackSpec) :=
  OpenClaim.holds_of_wide 7 Try.f7 rfl rfl rfl rfl rfl rfl rfl ⟨rfl, rfl, rfl, rfl, rfl⟩ rfl rfl rfl rfl rfl (by kernel_rfl) Try.func7 (by kernel_rfl)
    (of_decide_eq_true (by kernel_rfl)) (by unfold Func.isWrapper; first | (rw [if_pos (by decide +kernel)]; kernel_rfl) | (rw [if_neg (by decide +kernel)]; exact ⟨rfl, rfl⟩))
    (fun os started H enc _ => lifted os started H enc)

/-- The statement. -/
theorem proved : Rows.BitsBackSaid := over
#print axioms proved

end Go.Proofs.Ytpeafahajpfcbaa.BitsBack
