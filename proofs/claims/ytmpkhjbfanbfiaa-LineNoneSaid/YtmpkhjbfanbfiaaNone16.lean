/- LineNone: of a line that is none nobody waits, every number tried: each method answers nothing, or the error; a bare line is empty, and somebody can come into it. No condition. -/
import Derived.Test.YtmpkhjbfanbfiaaLinH
import Derived.Test.YtmpkhjbfanbfiaaLawB
import Derived.Test.YtmpkhjbfanbfiaaRows
import Derived.OpenShut
import Derived.Great.BuildSlice
namespace Go.Proofs.Ytmpkhjbfanbfiaa
namespace LineNone
open Go.ChangeShapes Go.WideShapes Go.ChangeAt Go.RowKit Go.Shelf
set_option linter.unusedVariables false
set_option linter.unusedSimpArgs false

theorem bare_has (w0 w : World) (hb : Below w0.heap.size w0 w) : HasLine w0 (w.alloc (.cells #[.slice none 0 0] 50)) w.heap.size [] :=
  ⟨hb.size, ⟨none, 0, line_bare w⟩, hb.alloc hb.size _⟩

set_option maxRecDepth 100000 in
set_option maxHeartbeats 1000000 in
theorem walk (x : Int) (w : World) : Calls Try.prog 4 #[.int .i64 x] w fun e w' => e = .returned (.bool true) ∧ Below w.heap.size w w' := by
  have ka := line_awake w
  have kl := fun w => place_none x w
  have ku := fun w => push_none x w
  have kp := fun w => pop_none x w
  have kd := fun w => drop_none x w
  have ki := fun w => list_none w
  have ke := fun w => len_none w
  have kb := fun (w1 : World) (hb : Below w.heap.size w w1) => (bare_has w w1 hb).len
  have kq := fun (w1 : World) (hb : Below w.heap.size w w1) => (bare_has w w1 hb).pop x (by decide)
  simp only [List.take_nil, List.drop_nil, List.length_nil] at kb kq
  rw [show ((0 : Nat) : Int) = 0 from rfl] at kb
  have kv := fun (g : Nat) (w1 : World) (h : HasLine w w1 g []) (hx : ¬ x < 0) => h.push_ok x hx (by simp) (by simp)
  simp only [List.nil_append] at kv
  have kf := fun (g : Nat) (w1 : World) (h : HasLine w w1 g [x]) => h.len
  rw [show (([x] : List Int).length : Int) = 1 from rfl] at kf
  have KB := Lib.hid kb
  have KQ := Lib.hid kq
  have KV := Lib.hid kv
  have KF := Lib.hid kf
  clear kb kq kv kf
  by_cases hx : x < 0
  · go_enter Try.func4, Try.ntmps4
    go_wp2_with (first
      | (go_at_call 6; refine ka.mono ?_; clear ka; rintro e w1 ⟨rfl, hb1⟩)
      | (go_at_call 17; refine (kl _).mono ?_; clear kl; rintro e w2 ⟨rfl, rfl⟩)
      | (go_at_call 10; refine (ku _).mono ?_; clear ku; rintro e w2 ⟨rfl, rfl⟩)
      | (go_at_call 13; with_reducible refine (kp _).mono ?_; rintro e w2 ⟨rfl, rfl⟩)
      | (go_at_call 16; refine (kd _).mono ?_; clear kd; rintro e w2 ⟨rfl, rfl⟩)
      | (go_at_call 18; refine (ki _).mono ?_; clear ki; rintro e w2 ⟨rfl, rfl⟩)
      | (go_at_call 19; with_reducible refine (ke _).mono ?_; rintro e w2 ⟨rfl, rfl⟩)
      | (go_at_call 19; refine (KB.out w1 hb1).mono ?_; rintro e w2 ⟨rfl, rfl⟩)
      | (go_at_call 13; refine (KQ.out w1 hb1).mono ?_; clear KQ; rintro e w3 ⟨A3, c3, rfl, hown3, hL3, hg3⟩; clear hown3 hg3))
    go_ret
    exact ⟨by first | rfl | simp, hL3.below⟩
  · have hx2 := hx
    have hx3 : 0 ≤ x := by omega
    clear hx
    go_enter Try.func4, Try.ntmps4
    go_wp2_with (first
      | (go_at_call 6; refine ka.mono ?_; clear ka; rintro e w1 ⟨rfl, hb1⟩)
      | (go_at_call 17; refine (kl _).mono ?_; clear kl; rintro e w2 ⟨rfl, rfl⟩)
      | (go_at_call 10; with_reducible refine (ku _).mono ?_; rintro e w2 ⟨rfl, rfl⟩)
      | (go_at_call 13; with_reducible refine (kp _).mono ?_; rintro e w2 ⟨rfl, rfl⟩)
      | (go_at_call 16; refine (kd _).mono ?_; clear kd; rintro e w2 ⟨rfl, rfl⟩)
      | (go_at_call 18; refine (ki _).mono ?_; clear ki; rintro e w2 ⟨rfl, rfl⟩)
      | (go_at_call 19; with_reducible refine (ke _).mono ?_; rintro e w2 ⟨rfl, rfl⟩)
      | (go_at_call 19; refine (KB.out w1 hb1).mono ?_; clear KB; rintro e w2 ⟨rfl, rfl⟩)
      | (go_at_call 13; refine (KQ.out w1 hb1).mono ?_; clear KQ; rintro e w3 ⟨A3, c3, rfl, hown3, hL3, hg3⟩; clear hown3 hg3)
      | (go_at_call 10; refine (KV.out _ w3 hL3 hx2).mono ?_; clear KV; rintro e w4 ⟨rfl, hL4, hg4⟩; clear hg4)
      | (go_at_call 19; refine (KF.out _ w4 hL4).mono ?_; clear KF; rintro e w5 ⟨rfl, rfl⟩))
    go_ret
    exact ⟨by first | rfl | simp, hL4.below⟩

theorem own : ownKnob Try.prog.godebug = none := by kernel_rfl
theorem laidOut : laidOutB Try.prog = true := by kernel_rfl

set_option maxRecDepth 100000 in
theorem lifted (os : Os) (started : os.Started) (H : Type) (enc : TypeId × Value → H) :
    ReturnsInHanded {} Try.checked os 4 .any (Rows.lineNoneSpec.pre6 enc Try.prog Try.f4 Rows.lineNoneRow.domain false) (Rows.lineNoneSpec.post enc Try.prog Try.f4 false true false false) := by
  refine returnsInHanded_of_change (C := Try.checked) own started (by kernel_rfl) Try.func4
    (ChangeSpec.witness6 (enc := enc) (C := Try.checked) false ⟨#[], #[.int .i64 0], []⟩ 8 (by kernel_rfl) (by kernel_rfl) (by kernel_rfl) (by kernel_rfl)) ?_
  intro W base args ds gs before hval0 hW hcnd _
  have hval : ∀ (j : Nat) t v, Try.f4.params[j]? = some t → args[j]? = some v → Value.okWide Try.prog W .any base t v := hval0
  have hW' := hW
  obtain ⟨p, q, hA0, hV, rfl, hfz, hnd⟩ := hW
  have hlt : ∀ x ∈ p ++ q, x.block < W.heap.size := fun x hx => hW'.lt x hx
  have hA : DataW.TrodAll enc Try.prog W 0 (fun _ => true) true Try.f4.params.toList args.toList ds p := hA0
  rw [Try.params4] at hA hval
  obtain ⟨v0, vs0, d0, ds0, p0, q0, hargs, rfl, rfl, h0, r0⟩ := trodAll_cons hA
  obtain ⟨rfl, rfl, rfl⟩ := trodAll_nil r0
  obtain rfl : args = #[v0] := by cases args; simp_all
  obtain ⟨rfl, rfl⟩ := trodVars_none hV
  obtain ⟨a0, rfl, rfl, rfl, w0⟩ := open_int Try.underlying3 (hval 0 3 v0 rfl rfl) h0
  clear hA0 hval0
  refine (walk a0 W ).mono fun e W' ⟨he, hg⟩ => ?_
  subst he
  exact ⟨_, rfl, law_post laidOut (by kernel_rfl) rfl rfl Try.underlying4 rfl hW' hg⟩

theorem over : Rows.lineNoneRow.holds Try.pinned (OpenSpec.ofChange Rows.lineNoneSpec) :=
  OpenClaim.holds_of_wide 4 Try.f4 rfl rfl rfl rfl rfl rfl rfl ⟨rfl, rfl, rfl, rfl, rfl⟩ rfl rfl rfl rfl rfl (by kernel_rfl) Try.func4 (by kernel_rfl)
    (of_decide_eq_true (by kernel_rfl)) (by unfold Func.isWrapper; first | (rw [if_pos (by decide +kernel)]; kernel_rfl) | (rw [if_neg (by decide +kernel)]; exact ⟨rfl, rfl⟩))
    (fun os started H enc _ => lifted os started H enc)

/-- The statement. -/
theorem proved : Rows.LineNoneSaid := over
#print axioms proved
end LineNone
end Go.Proofs.Ytmpkhjbfanbfiaa
