/- Law DeedNone (P8.1, P8.2): by a writer or a reader that is none no deed is written or read. No condition. -/
import Derived.Test.YtagibkaonmpihaaDeedNil
import Derived.Test.YtagibkaonmpihaaDeedIn
import Derived.Test.YtagibkaonmpihaaRows
namespace Go.Proofs.Ytagibkaonmpihaa.DeedNone
open Go.RowKit Go.ChangeShapes Go.WideShapes Go.ChangeAt
set_option linter.unusedVariables false
set_option linter.unusedSimpArgs false

set_option maxRecDepth 100000 in
set_option maxHeartbeats 1000000 in
theorem walk (d : Dd) (A : Option Addr) (c : Nat) (w : World) (hf : d.Fits) (hx : Lies w (· < w.heap.size) A d.bits) (hbc : d.bits.length ≤ c) (hm : c ≤ maxLen) :
    Calls Try.prog 4 #[.agg (d.vals A c)] w fun e w' => e = .returned (.bool true) ∧ Below w.heap.size w w' := by
  have hz := zero_deed
  have hD := DeedAt.new w d A c 27
  have hB : Below w.heap.size w (w.alloc (.cells (d.vals A c) 27)) := (Below.refl _ _).alloc (Nat.le_refl _) _
  clear hf hx hbc hm
  by_cases h1 : 200 < d.bits.length
  · have dl : decide ((200 : Int) < (d.bits.length : Int)) = true := by simp; omega
    clear h1
    go_enter Try.func4, Try.ntmps4
    go_wp2_with (go_at_call 7; refine (deed_awake _).mono ?_; rintro e w1 ⟨rfl, hb1⟩; have c6 := (hD.next hb1).k6; have hB1 := Below.then hB hb1)
    go_ret
    exact ⟨rfl, hB1⟩
  · have dl : decide ((200 : Int) < (d.bits.length : Int)) = false := by simp; omega
    clear h1
    go_enter Try.func4, Try.ntmps4
    go_upto_region 6 with (first
      | (go_at_call 7; refine (deed_awake _).mono ?_; rintro e w1 ⟨rfl, hb1⟩; have hD1 := hD.next hb1; have c6 := hD1.k6; have hB1 := Below.then hB hb1)
      | (go_at_call 16; refine (dread_nil _).mono ?_; rintro e w2 ⟨rfl, hb2⟩)
      | (refine store_deed _ _ rfl rfl w2.heap.size Dd.none Dd.none none none 0 0 _ rfl rfl (DeedAt.new w2 Dd.none none 0 _) ?_))
    generalize hW3 : World.setRow _ _ _ = w3
    have hX3 : DeedAt w3 w2.heap.size Dd.none none 0 27 := by rw [← hW3]; exact DeedAt.set (DeedAt.new w2 Dd.none none 0 _)
    have hb3 : Below w1.heap.size w1 w3 := by rw [← hW3]; exact below_setRow (hb2.alloc hb2.size _) hb2.size _
    have hD3 := hD1.next hb3
    have hB3 := Below.then hB1 hb3
    clear hW3 hb2 hb3 hD1 hB1 hD hB
    go_wp2_with (first
      | (refine load_deed _ rfl rfl w.heap.size d A c _ rfl (by assumption) ?_)
      | (refine load_deed _ rfl rfl w2.heap.size Dd.none none 0 _ rfl (by assumption) ?_)
      | (go_at_call 9; refine (dwrite_nil d A c _).mono ?_; rintro e w4 ⟨rfl, hb4⟩; have hX4 := hX3.next hb4; have hB4 := Below.then hB3 hb4)
      | (go_at_call 12; refine (dplain_is Dd.none none 0 _).mono ?_; rintro e w5 ⟨rfl, hb5⟩; have hB5 := Below.then hB4 hb5)
      | (refine build_rdeed _ rfl rfl Dd.none none 0 (by kernel_rfl) ?_)
      | (go_at_call 17; refine (dsame_is Dd.none (fun _ => True) (fun _ => True) none none 0 0 _ (Lies.nil _ _ _) (Lies.nil _ _ _) (Nat.zero_le _)).mono ?_; rintro e w6 ⟨rfl, hb6⟩; have hB6 := Below.then hB5 hb6))
    go_ret
    exact ⟨rfl, hB6⟩

theorem own : ownKnob Try.prog.godebug = none := by kernel_rfl
theorem laidOut : laidOutB Try.prog = true := by kernel_rfl

set_option maxRecDepth 100000 in
theorem lifted (os : Os) (started : os.Started) (H : Type) (enc : TypeId × Value → H) :
    ReturnsInHanded {} Try.checked os 4 .any (Rows.deedNoneSpec.pre6 enc Try.prog Try.f4 Rows.deedNoneRow.domain false) (Rows.deedNoneSpec.post enc Try.prog Try.f4 false true false false) := by
  refine returnsInHanded_of_change (C := Try.checked) own started (by kernel_rfl) Try.func4
    (ChangeSpec.witness6 (enc := enc) (C := Try.checked) false ⟨#[], #[.agg #[.int .i64 0, .int .i64 0, .int .i64 0, .int .i64 0, .int .u64 0, .int .i64 0, .slice none 0 0, .int .i64 0, .int .u64 0, .int .u64 0, .int .u64 0, .int .u64 0, .int .u64 0, .int .u64 0, .int .u64 0, .int .u64 0, .int .u64 0, .int .u64 0, .int .u64 0, .int .u64 0, .int .u64 0, .int .u64 0, .int .i64 0, .int .i64 0, .int .i64 0, .int .i64 0, .int .i64 0, .int .i64 0, .int .i64 0, .int .i64 0, .int .i64 0, .int .i64 0, .int .i64 0, .bool false]], []⟩ 8 (by kernel_rfl) (by kernel_rfl) (by kernel_rfl) (by kernel_rfl)) ?_
  intro W base args ds gs before hval0 hW hcnd _
  have hval : ∀ (j : Nat) t v, Try.f4.params[j]? = some t → args[j]? = some v → Value.okWide Try.prog W .any base t v := hval0
  have hW' := hW
  obtain ⟨p, q, hA0, hV, rfl, hfz, hnd⟩ := hW
  have hlt : ∀ x ∈ p ++ q, x.block < W.heap.size := fun x hx => hW'.lt x hx
  have hA : DataW.TrodAll enc Try.prog W 0 (fun _ => true) true Try.f4.params.toList args.toList ds p := hA0
  rw [Try.params4] at hA hval
  obtain ⟨v0, vs0, d0, ds0, p0, q0, hargs, rfl, rfl, h0, r0⟩ := trodAll_cons hA
  obtain ⟨rfl, rfl, rfl⟩ := trodAll_nil r0
  obtain rfl : args = #[v0] := by cases args; simp_all
  obtain ⟨rfl, rfl⟩ := trodVars_none hV
  obtain ⟨a0, A0, c0, rfl, f0, hc0, hm0, hr0⟩ := open_deed (hval 0 27 v0 rfl rfl) h0
  clear hA0 hval0
  refine (walk a0 A0 c0 W f0 hr0 hc0 hm0).mono fun e W' ⟨he, hg⟩ => ?_
  subst he
  exact ⟨_, rfl, law_post laidOut (by kernel_rfl) rfl rfl Try.underlying4 rfl hW' hg⟩

theorem over : Rows.deedNoneRow.holds Try.pinned (OpenSpec.ofChange Rows.deedNoneSpec) :=
  OpenClaim.holds_of_wide 4 Try.f4 rfl rfl rfl rfl rfl rfl rfl ⟨rfl, rfl, rfl, rfl, rfl⟩ rfl rfl rfl rfl rfl (by kernel_rfl) Try.func4 (by kernel_rfl)
    (of_decide_eq_true (by kernel_rfl)) (by unfold Func.isWrapper; first | (rw [if_pos (by decide +kernel)]; kernel_rfl) | (rw [if_neg (by decide +kernel)]; exact ⟨rfl, rfl⟩))
    (fun os started H enc _ => lifted os started H enc)

/-- The statement. -/
theorem proved : Rows.DeedNoneSaid := over
#print axioms proved
end Go.Proofs.Ytagibkaonmpihaa.DeedNone
