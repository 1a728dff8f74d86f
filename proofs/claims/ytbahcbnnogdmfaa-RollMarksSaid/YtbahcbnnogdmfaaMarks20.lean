/- Law RollMarks (P20.1, P20.4): any marks, marked with any field, are the document's, or refused; what was handed in stays. No condition. -/
import Derived.Test.YtbahcbnnogdmfaaRows
import Derived.Test.YtbahcbnnogdmfaaLawR
import Derived.Test.YtbahcbnnogdmfaaRolD
namespace Go.Proofs.Ytbahcbnnogdmfaa.RollMarks
open Go.ChangeShapes Go.WideShapes Go.ChangeAt Go.RowKit
set_option linter.unusedVariables false
set_option linter.unusedSimpArgs false

theorem marked_short {ms fs l : List Nat} {n : Int} {y : Nat} (h : marked ms fs n = (l, y)) : l.length ≤ maxLen := by
  by_cases hm : IsMarks ms ∧ n ≤ 128 ∧ FieldI fs n
  · rw [marked_yes hm.1 hm.2.1 hm.2.2] at h
    cases h
    rw [joined_len, marks_len hm.1]
    decide
  · rw [marked_no hm] at h
    cases h
    exact Nat.zero_le _

set_option maxRecDepth 100000 in
set_option maxHeartbeats 1000000 in
theorem walk_few (ms fs l : List Nat) (n : Int) (y : Nat) (A A' : Option Addr) (c c' : Nat) (w : World) (hr : Row w w.heap.size A (u8s ms)) (hf : Row w w.heap.size A' (u8s fs)) (hz : A = none → ms.length = 0 ∧ c = 0) (hl : l.length ≤ maxLen) (h100 : ms.length ≤ 100) (h100' : fs.length ≤ 100)
    (km : ∀ (A A' : Option Addr) (c c' : Nat) (u : World), Row u u.heap.size A (u8s ms) → Row u u.heap.size A' (u8s fs) → Calls Try.prog 7 #[.slice A ms.length c, .slice A' fs.length c', .int .i64 n] u fun e w' => BytesOf u (l, y) e w')
    (jm : ∀ (A A' : Option Addr) (c c' : Nat) (u : World), Row u u.heap.size A (u8s ms) → Row u u.heap.size A' (u8s fs) → Calls Try.prog 8 #[.slice A ms.length c, .slice A' fs.length c', .int .i64 n] u fun e w' => BytesOf u (l, y) e w') :
    Calls Try.prog 3 #[.slice A ms.length c, .slice A' fs.length c', .int .i64 n] w fun e w' => e = .returned (.bool true) ∧ Below w.heap.size w w' := by
  have KM := Lib.hid km
  have JM := Lib.hid jm
  have HZ := Lib.hid hz
  have HL := Lib.hid hl
  obtain ⟨i0, hi0, hz0, hz1, hz2⟩ := info_parts u8_info
  have hI : decide ((100 : Int) < (ms.length : Int)) = false := decide_eq_false (by omega)
  have hI' : decide ((100 : Int) < (fs.length : Int)) = false := decide_eq_false (by omega)
  have hml : ms.length ≤ maxLen := by unfold maxLen; omega
  clear km jm hz hl
  go_enter Try.func3, Try.ntmps3
  go_wp2_with (first
    | (go_at_call 6; refine (roll_awake w).mono ?_; rintro e w1 ⟨rfl, hb1⟩; have hr1 := row_kept hr hb1; have hf1 := row_kept hf hb1; have hnew : Hid (∀ j u, (u8s ms)[j]? = some u → ∃ a, A = some a ∧ (w1.alloc (.cells #[] 5)).cell? (a.add j) = some u) := Lib.hid (fun j u hu => by
        obtain ⟨a, hA, _, hc⟩ := (row_more hr1 (.cells #[] 5)) j u hu
        exact ⟨a, hA, hc⟩))
    | (at_builtin; refine append_own_any rfl (.tmp 22) (.tmp 23) 22 rfl w1.heap.size 5 i0 (.int .u8 0) 1 1 Try.underlying22 hi0 hz0 hz1 hz2 rfl (by decide) _ _ _ rfl (World.ownsRow_made w1 #[] 0 (Nat.le_refl _) (Nat.zero_le _) rfl) A ms.length c (u8s ms) rfl HZ.out ?c1 hnew.out u8s_one ?c2 ?c3 ?c4 ?_))
  case c1 => rw [u8s_len, Nat.mul_one]
  case c2 => unfold maxLen; omega
  case c3 => omega
  case c4 => simp
  intro v2 w2 hown2 hgrow2
  have hb2 : Below w1.heap.size w1 w2 := (((Below.refl _ w1).alloc (Nat.le_refl _) _).grown hgrow2 (by simp) (by intro k hk; simp [Value.ownBlock] at hk; omega))
  obtain ⟨A2, c2, rfl, hc2, hm2, hr2⟩ := Row.of_own hown2
  have hm2' := row_kept hr1 hb2
  have hf2 := row_kept hf1 hb2
  have hB2 := Below.then hb1 hb2
  have km := KM.out A2 A' c2 c' w2 hr2 hf2
  have km := Lib.hid km
  clear hgrow2 hown2 hnew hr1 hf1 hr hf KM HZ hc2 hm2 hb1 hb2
  go_wp2_with (first
    | (go_at_call 7; refine km.out.mono ?_; clear km; rintro e w3 ⟨v3, rfl, ho3, hb3⟩; obtain ⟨A3, c3, rfl, hc3, hm3, hr3⟩ := Row.of_own ho3; clear ho3; have hg3 := row_kept hr2 hb3; have hs3 := row_kept hm2' hb3; have hf3 := row_kept hf2 hb3; have hB3 := Below.then hB2 hb3; have jm := Lib.hid (JM.out A A' c c' w3 hs3 hf3); clear hr2 hm2' hf2 hB2 hb3 JM)
    | (go_at_call 8; refine jm.out.mono ?_; clear jm; rintro e w4 ⟨v4, rfl, ho4, hb4⟩; obtain ⟨A4, c4, rfl, hc4, hm4, hr4⟩ := Row.of_own ho4; clear ho4; have hg4 := row_kept hg3 hb4; have hs4 := row_kept hs3 hb4; have hr4' := row_kept hr3 hb4; have hB4 := Below.then hB3 hb4; have k1 := Lib.hid (same_true l _ _ A3 A4 c3 c4 w4 (row_lies hr4') (row_lies hr4) HL.out); clear hr3 hg3 hs3 hf3 hB3 hb4 hr4 hr4')
    | (go_at_call 9; refine k1.out.mono ?_; clear k1; rintro e w5 ⟨rfl, hb5⟩; have hg5 := row_kept hg4 hb5; have hs5 := row_kept hs4 hb5; have hB5 := Below.then hB4 hb5; have k2 := Lib.hid (same_true ms _ _ A2 A c2 c w5 (row_lies hg5) (row_lies hs5) hml); clear hg4 hs4 hB4 hb5)
    | (go_at_call 9; refine k2.out.mono ?_; clear k2; rintro e w6 ⟨rfl, hb6⟩; have hB6 := Below.then hB5 hb6; have k3 := Lib.hid (empty_is w6); clear hg5 hs5 hB5 hb6)
    | (go_at_call 10; refine k3.out.mono ?_; clear k3; rintro e w7 ⟨rfl, ho7, hb7⟩; have hB7 := Below.then hB6 hb7; have k4 := Lib.hid (empty_is w7); clear ho7 hB6 hb7)
    | (go_at_call 10; refine k4.out.mono ?_; clear k4; rintro e w8 ⟨rfl, ho8, hb8⟩; have hB8 := Below.then hB7 hb8; have k5 := Lib.hid (rright_is nobody _ (some ⟨w7.heap.size, 0, none⟩) 16 w8 (row_lies (own_row ho8)) nobody_all (by decide)); clear ho8 hB7 hb8)
    | (go_at_call 11; refine k5.out.mono ?_; clear k5; rintro e w9 ⟨h9, rfl⟩; obtain rfl := answers_true h9 nobody_marks; clear h9))
  go_ret
  exact ⟨rfl, hB8⟩

set_option maxRecDepth 100000 in
set_option maxHeartbeats 1000000 in
theorem walk (ms : List Nat) (A : Option Addr) (c : Nat) (fs : List Nat) (A' : Option Addr) (c' : Nat) (n : Int) (w : World) (hr : Row w w.heap.size A (u8s ms)) (hb : ∀ x ∈ ms, x < 256) (hc : ms.length ≤ c) (hm : c ≤ maxLen) (hz : A = none → c = 0)
    (hf : Row w w.heap.size A' (u8s fs)) (hb' : ∀ x ∈ fs, x < 256) (hc' : fs.length ≤ c') (hm' : c' ≤ maxLen) (hz' : A' = none → c' = 0) (hn0 : -9223372036854775808 ≤ n) (hn1 : n ≤ 9223372036854775807) :
    Calls Try.prog 3 #[.slice A ms.length c, .slice A' fs.length c', .int .i64 n] w fun e w' => e = .returned (.bool true) ∧ Below w.heap.size w w' := by
  unfold maxLen at hm hm'
  by_cases h100 : 100 < ms.length
  · have hD : decide ((100 : Int) < (ms.length : Int)) = true := decide_eq_true (by omega)
    clear hr hb hf hb'
    go_enter Try.func3, Try.ntmps3
    go_wp2_with (go_at_call 6; refine (roll_awake w).mono ?_; rintro e w1 ⟨rfl, hb1⟩)
    go_ret
    exact ⟨rfl, hb1⟩
  · by_cases h100' : 100 < fs.length
    · have hD : decide ((100 : Int) < (ms.length : Int)) = false := decide_eq_false (by omega)
      have hD' : decide ((100 : Int) < (fs.length : Int)) = true := decide_eq_true (by omega)
      clear hr hb hf hb'
      go_enter Try.func3, Try.ntmps3
      go_wp2_with (go_at_call 6; refine (roll_awake w).mono ?_; rintro e w1 ⟨rfl, hb1⟩)
      go_ret
      exact ⟨rfl, hb1⟩
    · obtain ⟨l, y, hly⟩ : ∃ l y, marked ms fs n = (l, y) := ⟨_, _, rfl⟩
      exact walk_few ms fs l n y A A' c c' w hr hf (fun e => ⟨by have := hz e; omega, hz e⟩) (marked_short hly) (by omega) (by omega)
        (fun A A' c c' u h h' => by rw [← hly]; exact mark_is ms fs n A A' c c' u (row_lies h) hb (row_lies h') hb')
        (fun A A' c c' u h h' => by rw [← hly]; exact rmark_is ms fs n A A' c c' u (row_lies h) hb (row_lies h') hb' (by omega) (by omega))

theorem own : ownKnob Try.prog.godebug = none := by kernel_rfl
theorem laidOut : laidOutB Try.prog = true := by kernel_rfl

set_option maxRecDepth 100000 in
theorem lifted (os : Os) (started : os.Started) (H : Type) (enc : TypeId × Value → H) :
    ReturnsInHanded {} Try.checked os 3 .any (Rows.rollMarksSpec.pre6 enc Try.prog Try.f3 Rows.rollMarksRow.domain false) (Rows.rollMarksSpec.post enc Try.prog Try.f3 false true false false) := by
  refine returnsInHanded_of_change (C := Try.checked) own started (by kernel_rfl) Try.func3
    (ChangeSpec.witness6 (enc := enc) (C := Try.checked) false ⟨#[], #[.slice none 0 0, .slice none 0 0, .int .i64 0], []⟩ 8 (by kernel_rfl) (by kernel_rfl) (by kernel_rfl) (by kernel_rfl)) ?_
  intro W base args ds gs before hval0 hW hcnd _
  have hval : ∀ (j : Nat) t v, Try.f3.params[j]? = some t → args[j]? = some v → Value.okWide Try.prog W .any base t v := hval0
  have hW' := hW
  obtain ⟨p, q, hA0, hV, rfl, hfz, hnd⟩ := hW
  have hlt : ∀ x ∈ p ++ q, x.block < W.heap.size := fun x hx => hW'.lt x hx
  have hA : DataW.TrodAll enc Try.prog W 0 (fun _ => true) true Try.f3.params.toList args.toList ds p := hA0
  rw [Try.params3] at hA hval
  obtain ⟨v0, vs0, d0, ds0, p0, q0, hargs, rfl, rfl, h0, r0⟩ := trodAll_cons hA
  obtain ⟨v1, vs1, d1, ds1, p1, q1, rfl, rfl, rfl, h1, r1⟩ := trodAll_cons r0
  obtain ⟨v2, vs2, d2, ds2, p2, q2, rfl, rfl, rfl, h2, r2⟩ := trodAll_cons r1
  obtain ⟨rfl, rfl, rfl⟩ := trodAll_nil r2
  obtain rfl : args = #[v0, v1, v2] := by cases args; simp_all
  obtain ⟨rfl, rfl⟩ := trodVars_none hV
  obtain ⟨A0, n0, c0, rfl⟩ := okWide_slice Try.underlying22 (hval 0 22 v0 rfl rfl)
  obtain ⟨ns0, hl0, hn0, hc0, hm0, hr0, hA0⟩ := open_u8s Try.underlying22 Try.underlying5 (by kernel_rfl) h0
  subst hl0
  obtain ⟨A1, n1, c1, rfl⟩ := okWide_slice Try.underlying22 (hval 1 22 v1 rfl rfl)
  obtain ⟨ns1, hl1, hn1, hc1, hm1, hr1, hA1⟩ := open_u8s Try.underlying22 Try.underlying5 (by kernel_rfl) h1
  subst hl1
  obtain ⟨a2, rfl, rfl, rfl, w2⟩ := open_int Try.underlying3 (hval 2 3 v2 rfl rfl) h2
  have b2 := i64_fits w2
  clear hA0 hval0
  refine (walk ns0 A0 c0 ns1 A1 c1 a2 W hr0 hn0 hc0 hm0 hA0 hr1 hn1 hc1 hm1 hA1 b2.1 b2.2).mono fun e W' ⟨he, hg⟩ => ?_
  subst he
  exact ⟨_, rfl, law_post laidOut (by kernel_rfl) rfl rfl Try.underlying4 rfl hW' hg⟩

theorem over : Rows.rollMarksRow.holds Try.pinned (OpenSpec.ofChange Rows.rollMarksSpec) :=
  OpenClaim.holds_of_wide 3 Try.f3 rfl rfl rfl rfl rfl rfl rfl ⟨rfl, rfl, rfl, rfl, rfl⟩ rfl rfl rfl rfl rfl (by kernel_rfl) Try.func3 (by kernel_rfl)
    (of_decide_eq_true (by kernel_rfl)) (by unfold Func.isWrapper; first | (rw [if_pos (by decide +kernel)]; kernel_rfl) | (rw [if_neg (by decide +kernel)]; exact ⟨rfl, rfl⟩))
    (fun os started H enc _ => lifted os started H enc)

/-- The statement. -/
theorem proved : Rows.RollMarksSaid := over
#print axioms proved
end Go.Proofs.Ytbahcbnnogdmfaa.RollMarks
