/- Law PoolSums (P18.3): what any deposits and dues are together is exact, or refused. No condition. -/
import Derived.Test.YtaaildlopknbjaaRows
import Derived.Test.YtaaildlopknbjaaPoolC
import Derived.Test.YtaaildlopknbjaaPoolS
import Derived.Test.YtaaildlopknbjaaTold
namespace Go.Proofs.Ytaaildlopknbjaa.PoolSums
open Go.ChangeShapes Go.WideShapes Go.ChangeAt Go.RowKit
set_option linter.unusedVariables false
set_option linter.unusedSimpArgs false

theorem walk_many (l : List Dep) (A : Option Addr) (c : Nat) (m : List Due) (A2 : Option Addr) (c2 : Nat) (w : World) (hl : l.length ≤ maxLen) (hl2 : m.length ≤ maxLen) (h : 200 < l.length ∨ 200 < m.length) :
    Calls Try.prog 4 #[.slice A l.length c, .slice A2 m.length c2] w fun e w' => e = .returned (.bool true) ∧ Below w.heap.size w w' := by
  unfold maxLen at hl hl2
  by_cases h1 : 200 < l.length
  · clear h
    go_enter Try.func4, Try.ntmps4
    go_wp2_with (go_at_call 6; refine (pool_awake _).mono ?_; rintro e w0 ⟨rfl, hb0⟩)
    go_ret
    exact ⟨rfl, hb0⟩
  · have h2 : 200 < m.length := h.resolve_left h1
    clear h
    go_enter Try.func4, Try.ntmps4
    go_wp2_with (go_at_call 6; refine (pool_awake _).mono ?_; rintro e w0 ⟨rfl, hb0⟩)
    go_ret
    exact ⟨rfl, hb0⟩

set_option maxRecDepth 100000 in
theorem walk (l : List Dep) (A : Option Addr) (c : Nat) (m : List Due) (A2 : Option Addr) (c2 : Nat) (w : World) (hr : Row w w.heap.size A (rows l)) (hx : ∀ s ∈ l, s.amt ≤ 18446744073709551615) (hc : l.length ≤ c) (hm : c ≤ maxLen) (hz : A = none → c = 0)
    (hr2 : Row w w.heap.size A2 (rows m)) (hx2 : ∀ s ∈ m, s.amt ≤ 18446744073709551615) (hc2 : m.length ≤ c2) (hm2 : c2 ≤ maxLen) (hz2 : A2 = none → c2 = 0) :
    Calls Try.prog 4 #[.slice A l.length c, .slice A2 m.length c2] w fun e w' => e = .returned (.bool true) ∧ Below w.heap.size w w' := by
  by_cases h : 200 < l.length ∨ 200 < m.length
  · exact walk_many l A c m A2 c2 w (Nat.le_trans hc hm) (Nat.le_trans hc2 hm2) h
  · have h1 : l.length ≤ 200 := Nat.not_lt.1 fun e => h (.inl e)
    have h2 : m.length ≤ 200 := Nat.not_lt.1 fun e => h (.inr e)
    have ks := fun (w1 : World) (hb : Below w.heap.size w w1) => psum_is l m A A2 c c2 w1 (hr.kept hb) (hr2.kept hb) (by omega) (by omega) hx hx2
    have kd := fun (w1 : World) (hb : Below w.heap.size w w1) => deposits_is l _ A c w1 (hr.kept hb) (Nat.le_refl _) (by omega)
    have ku := fun (w1 : World) (hb : Below w.heap.size w w1) => dues_is m _ A2 c2 w1 (hr2.kept hb) (Nat.le_refl _) (by omega)
    have kr := fun (A A2 : Option Addr) (c c2 : Nat) (w1 : World) h3 h4 => rsum_is l m A A2 c c2 w1 h3 h4 (by omega) (by omega) hx hx2
    obtain ⟨t, ht⟩ : ∃ t, totDep l + totDue m = t := ⟨_, rfl⟩
    rw [ht] at ks kr
    have KS := Lib.hid ks
    have KD := Lib.hid kd
    have KU := Lib.hid ku
    have KR := Lib.hid kr
    clear h hr hr2 hx hx2 hc hc2 hm hm2 hz hz2 ks kd ku kr ht
    go_enter Try.func4, Try.ntmps4
    go_wp2_with (first
      | (go_at_call 6; refine (pool_awake _).mono ?_; rintro e w0 ⟨rfl, hB⟩)
      | (go_at_call 11; refine (KS.out w0 hB).mono ?_; clear KS; rintro e w1 ⟨rfl, hb1⟩; have hB := Below.then hB hb1; clear hb1)
      | (go_at_call 9; refine (KD.out w1 hB).mono ?_; clear KD; rintro e w2 ⟨A3, c3, rfl, -, -, -, hr3, hb2⟩; have HR3 := Lib.hid hr3; have hB := Below.then hB hb2; clear hb2 hr3)
      | (go_at_call 14; refine (KU.out w2 hB).mono ?_; clear KU; rintro e w3 ⟨A4, c4, rfl, -, -, -, hr4, hb3⟩; have HR4 := Lib.hid hr4; have HR3' := Lib.hid (HR3.out.kept hb3); have hB := Below.then hB hb3; clear hb3 hr4 HR3)
      | (go_at_call 13; refine (KR.out A3 A4 c3 c4 w3 HR3'.out HR4.out).mono ?_; clear KR; rintro e w4 ⟨v4, rfl, hv4, hf4, hb4⟩; have hB := Below.then hB hb4; clear hb4 hf4)
      | (go_at_call 12; refine (told_num t _ w4.heap.size w4 hv4 (Nat.le_refl _)).mono ?_; rintro e w5 ⟨rfl, hb5⟩; have hB := Below.then hB hb5; clear hb5 hv4))
    go_ret
    exact ⟨by first | rfl | simp, hB⟩

theorem own : ownKnob Try.prog.godebug = none := by kernel_rfl
theorem laidOut : laidOutB Try.prog = true := by kernel_rfl

set_option maxRecDepth 100000 in
theorem lifted (os : Os) (started : os.Started) (H : Type) (enc : TypeId × Value → H) :
    ReturnsInHanded {} Try.checked os 4 .any (Rows.poolSumsSpec.pre6 enc Try.prog Try.f4 Rows.poolSumsRow.domain false) (Rows.poolSumsSpec.post enc Try.prog Try.f4 false true false false) := by
  refine returnsInHanded_of_change (C := Try.checked) own started (by kernel_rfl) Try.func4
    (ChangeSpec.witness6 (enc := enc) (C := Try.checked) false ⟨#[], #[.slice none 0 0, .slice none 0 0], []⟩ 8 (by kernel_rfl) (by kernel_rfl) (by kernel_rfl) (by kernel_rfl)) ?_
  intro W base args ds gs before hval0 hW hcnd _
  have hval : ∀ (j : Nat) t v, Try.f4.params[j]? = some t → args[j]? = some v → Value.okWide Try.prog W .any base t v := hval0
  have hW' := hW
  obtain ⟨p, q, hA0, hV, rfl, hfz, hnd⟩ := hW
  have hlt : ∀ x ∈ p ++ q, x.block < W.heap.size := fun x hx => hW'.lt x hx
  have hA : DataW.TrodAll enc Try.prog W 0 (fun _ => true) true Try.f4.params.toList args.toList ds p := hA0
  rw [Try.params4] at hA hval
  obtain ⟨v0, vs0, d0, ds0, p0, q0, hargs, rfl, rfl, h0, r0⟩ := trodAll_cons hA
  obtain ⟨v1, vs1, d1, ds1, p1, q1, rfl, rfl, rfl, h1, r1⟩ := trodAll_cons r0
  obtain ⟨rfl, rfl, rfl⟩ := trodAll_nil r1
  obtain rfl : args = #[v0, v1] := by cases args; simp_all
  obtain ⟨rfl, rfl⟩ := trodVars_none hV
  obtain ⟨A0, n0, c0, rfl⟩ := okWide_slice Try.underlying22 (hval 0 22 v0 rfl rfl)
  obtain ⟨l0, hl0, hf0, hc0, hm0, hz0, hr0⟩ := open_deps h0
  subst hl0
  obtain ⟨A1, n1, c1, rfl⟩ := okWide_slice Try.underlying37 (hval 1 37 v1 rfl rfl)
  obtain ⟨l1, hl1, hf1, hc1, hm1, hz1, hr1⟩ := open_dues h1
  subst hl1
  clear hA0 hval0
  refine (walk l0 A0 c0 l1 A1 c1 W hr0 hf0 hc0 hm0 hz0 hr1 hf1 hc1 hm1 hz1).mono fun e W' ⟨he, hg⟩ => ?_
  subst he
  exact ⟨_, rfl, law_post laidOut (by kernel_rfl) rfl rfl Try.underlying4 rfl hW' hg⟩

theorem over : Rows.poolSumsRow.holds Try.pinned (OpenSpec.ofChange Rows.poolSumsSpec) :=
  OpenClaim.holds_of_wide 4 Try.f4 rfl rfl rfl rfl rfl rfl rfl ⟨rfl, rfl, rfl, rfl, rfl⟩ rfl rfl rfl rfl rfl (by kernel_rfl) Try.func4 (by kernel_rfl)
    (of_decide_eq_true (by kernel_rfl)) (by unfold Func.isWrapper; first | (rw [if_pos (by decide +kernel)]; kernel_rfl) | (rw [if_neg (by decide +kernel)]; exact ⟨rfl, rfl⟩))
    (fun os started H enc _ => lifted os started H enc)

/-- The statement. -/
theorem proved : Rows.PoolSumsSaid := over
#print axioms proved
end Go.Proofs.Ytaaildlopknbjaa.PoolSums
