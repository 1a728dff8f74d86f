/- Law BitsPacks (P6.1): any bits have the document's field, or are too many. -/
import Derived.Test.YtpeafahajpfcbaaAwake6
import Derived.Test.YtpeafahajpfcbaaLawC
import Derived.Test.YtpeafahajpfcbaaRows
namespace Go.Proofs.Ytpeafahajpfcbaa.BitsPacks
open Go.RowKit Go.ChangeShapes Go.WideShapes Go.ChangeAt
set_option linter.unusedVariables false
set_option linter.unusedSimpArgs false

set_option maxRecDepth 100000 in
set_option maxHeartbeats 6000000 in
theorem walk (l : List Bool) (A : Option Addr) (c : Nat) (w : World) (hr : Row w w.heap.size A (bools l)) (hlc : l.length ≤ c) (hcm : c ≤ maxLen) :
    Calls Try.prog 3 #[.slice A l.length c] w fun e w' => e = .returned (.bool true) ∧ Below w.heap.size w w' := by
  unfold maxLen at hcm
  by_cases hl : l.length ≤ 256
  · have hlI : (l.length : Int) ≤ 256 := by omega
    have hlI2 : (l.length : Int) ≤ 1000 := by omega
    have kp := fun W (h : Row W W.heap.size A (bools l)) => pack_ok l A c W h hl
    have kr := fun W (h : Row W W.heap.size A (bools l)) => rpack_ok l A c W h hl
    have ks := fun W => size_ok l.length W (by omega)
    have hpl := packed_len l
    rw [← hpl] at ks
    obtain ⟨ys, hys⟩ : ∃ ys, packed l = ys := ⟨_, rfl⟩
    rw [hys] at kp kr ks hpl
    have hyl : ys.length ≤ 100 := by omega
    clear hpl hys
    go_enter Try.func3, Try.ntmps3
    go_wp2_with (first
      | (go_at_call 8; refine (bits_awake _).mono ?_; rintro e w1 ⟨rfl, hb1⟩)
      | (go_at_call 9; refine (kp _ ((hr.below hb1).up hb1.size)).mono ?_; clear kp; rintro e w2 ⟨v, rfl, hown, hb2⟩; obtain ⟨Av, cv, rfl, hlv, hcv, hnv, hLv⟩ := Lies.own hown; clear hnv hlv hown; have hB2 : Below w.heap.size w w2 := hb1.trans (hb2.mono hb1.size))
      | (go_at_call 11; refine (kr _ ((hr.below hB2).up hB2.size)).mono ?_; clear kr; rintro e w3 ⟨v3, rfl, hown3, hb3⟩; obtain ⟨A3, c3, rfl, hl3, hc3, hn3, hL3⟩ := Lies.own hown3; clear hn3 hl3 hown3; have hB3 : Below w.heap.size w w3 := hB2.trans (hb3.mono hB2.size); have kS := same_true ys _ _ Av A3 cv c3 w3 (hLv.hold (w' := w3) (fun p hp => hb3.cell hp.2.1)) hL3 (by unfold maxLen; omega))
      | (go_at_call 10; refine kS.mono ?_; clear kS; rintro e w4 ⟨rfl, hb4⟩)
      | (go_at_call 12; refine (ks _).mono ?_; clear ks; rintro e w5 ⟨rfl, rfl⟩))
    go_ret
    exact ⟨by simp, hB3.trans (hb4.mono hB3.size)⟩
  · by_cases hl2 : l.length ≤ 1000
    · have hlI : (256 : Int) < (l.length : Int) := by omega
      have hlI2 : (l.length : Int) ≤ 1000 := by omega
      have kb := fun W => pack_big l A c W (by omega)
      clear hl hl2
      go_enter Try.func3, Try.ntmps3
      go_wp2_with (first
        | (go_at_call 8; refine (bits_awake _).mono ?_; rintro e w1 ⟨rfl, hb1⟩)
        | (go_at_call 9; refine (kb _).mono ?_; clear kb; rintro e w2 ⟨rfl, rfl⟩))
      go_ret
      exact ⟨rfl, hb1⟩
    · have hlI : (1000 : Int) < (l.length : Int) := by omega
      clear hl hl2
      go_enter Try.func3, Try.ntmps3
      go_wp2_with (go_at_call 8; refine (bits_awake _).mono ?_; rintro e w1 ⟨rfl, hb1⟩)
      go_ret
      exact ⟨rfl, hb1⟩


theorem own : ownKnob Try.prog.godebug = none := by kernel_rfl
theorem laidOut : laidOutB Try.prog = true := by kernel_rfl

set_option maxRecDepth 100000 in
theorem lifted (os : Os) (started : os.Started) (H : Type) (enc : TypeId × Value → H) :
    ReturnsInHanded {} Try.checked os 3 .any (Rows.bitsPacksSpec.pre6 enc Try.prog Try.f3 Rows.bitsPacksRow.domain false) (Rows.bitsPacksSpec.post enc Try.prog Try.f3 false true false false) := by
  refine returnsInHanded_of_change (C := Try.checked) own started (by kernel_rfl) Try.func3
    (ChangeSpec.witness6 (enc := enc) (C := Try.checked) false ⟨#[], #[.slice none 0 0], []⟩ 8 (by kernel_rfl) (by kernel_rfl) (by kernel_rfl) (by kernel_rfl)) ?_
  intro W base args ds gs before hval0 hW hcnd _
  have hval : ∀ (j : Nat) t v, Try.f3.params[j]? = some t → args[j]? = some v → Value.okWide Try.prog W .any base t v := hval0
  have hW' := hW
  obtain ⟨p, q, hA0, hV, rfl, hfz, hnd⟩ := hW
  have hlt : ∀ x ∈ p ++ q, x.block < W.heap.size := fun x hx => hW'.lt x hx
  have hA : DataW.TrodAll enc Try.prog W 0 (fun _ => true) true Try.f3.params.toList args.toList ds p := hA0
  rw [Try.params3] at hA hval
  obtain ⟨v0, vs0, d0, ds0, p0, q0, hargs, rfl, rfl, h0, r0⟩ := trodAll_cons hA
  obtain ⟨rfl, rfl, rfl⟩ := trodAll_nil r0
  obtain rfl : args = #[v0] := by cases args; simp_all
  obtain ⟨rfl, rfl⟩ := trodVars_none hV
  obtain ⟨A0, n0, c0, rfl⟩ := okWide_slice Try.underlying22 (hval 0 22 v0 rfl rfl)
  obtain ⟨ns0, hl0, hc0, hm0, hr0⟩ := open_bls Try.underlying22 Try.underlying4 (by kernel_rfl) h0
  subst hl0
  clear hA0 hval0
  refine (walk ns0 A0 c0 W hr0 hc0 hm0).mono fun e W' ⟨he, hg⟩ => ?_
  subst he
  exact ⟨_, rfl, law_post laidOut (by kernel_rfl) rfl rfl Try.underlying4 rfl hW' hg⟩

theorem over : Rows.bitsPacksRow.holds Try.pinned (OpenSpec.ofChange Rows.bitsPacksSpec) :=
  OpenClaim.holds_of_wide 3 Try.f3 rfl rfl rfl rfl rfl rfl rfl ⟨rfl, rfl, rfl, rfl, rfl⟩ rfl rfl rfl rfl rfl (by kernel_rfl) Try.func3 (by kernel_rfl)
    (of_decide_eq_true (by kernel_rfl)) (by unfold Func.isWrapper; first | (rw [if_pos (by decide +kernel)]; kernel_rfl) | (rw [if_neg (by decide +kernel)]; exact ⟨rfl, rfl⟩))
    (fun os started H enc _ => lifted os started H enc)

/-- The statement. -/
theorem proved : Rows.BitsPacksSaid := over
#print axioms proved

end Go.Proofs.Ytpeafahajpfcbaa.BitsPacks
