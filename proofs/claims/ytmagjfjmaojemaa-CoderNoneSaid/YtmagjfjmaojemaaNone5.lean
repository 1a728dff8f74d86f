/- Law CoderNone (P5.1, P5.2): by a writer or a reader that is none nothing is written or read. -/
import Derived.Test.YtmagjfjmaojemaaAwake5
import Derived.Test.YtmagjfjmaojemaaLaw8
import Derived.Test.YtmagjfjmaojemaaRows
import Derived.Lib.SmallJoins
namespace Go.Proofs.Ytmagjfjmaojemaa.CoderNone
open Go.RowKit Go.ChangeShapes Go.WideShapes Go.ChangeAt
set_option linter.unusedVariables false
set_option linter.unusedSimpArgs false

theorem bare_reader (w : World) : ReaderAt (w.alloc (.cells #[.int .i64 0, .int .i64 0, .slice none 0 0] 61)) w.heap.size (fun _ => False) [] (0, 0) none 0 :=
  ⟨heap_alloc_new w _, Lies.nil _ _ _, Nat.le_refl _, Nat.zero_le _, Nat.le_refl _, Nat.zero_le _, fun h => h, by simp⟩

set_option maxRecDepth 100000 in
set_option maxHeartbeats 1500000 in
theorem walk (kd i : Int) (n : Nat) (A : Option Addr) (len cap : Nat) (w : World) (hi0 : -9223372036854775808 ≤ i) (hi1 : i ≤ 9223372036854775807) (hn : n < 18446744073709551616) (hl : len ≤ maxLen) :
    Calls Try.prog 5 #[.agg #[.int .i64 kd, .int .i64 i, .int .u64 (n : Int), .slice A len cap]] w fun e w' => e = .returned (.bool true) ∧ Below w.heap.size w w' := by
  have HN := Lib.hid hn
  clear hn
  have d50 : rdNum [] (0, 0) n = (0, (0, 50)) := rfl
  have dd : rdDone [] (0, 0) = 0 := rfl
  have HD := Lib.hid d50
  have HDD := Lib.hid dd
  clear d50 dd
  have hB0 : Below w.heap.size w (w.alloc (.cells #[.int .i64 kd, .int .i64 i, .int .u64 (n : Int), .slice A len cap] 39)) := (Below.refl _ w).alloc (Nat.le_refl _) _
  go_enter Try.func5, Try.ntmps5
  go_wp2_with (first
    | (go_at_call 8; refine (coder_awake _).mono ?_; rintro e w1 ⟨rfl, hb1⟩; have q0 := (hb1.cell (p := ⟨w.heap.size, 0, none⟩) (by simp)); have q1 := (hb1.cell (p := ⟨w.heap.size, 1, none⟩) (by simp)); have q2 := (hb1.cell (p := ⟨w.heap.size, 2, none⟩) (by simp)); have q3 := (hb1.cell (p := ⟨w.heap.size, 3, none⟩) (by simp)); simp only [cell_of_row _ _ _ _ _ _ (heap_alloc_new w _)] at q1 q2 q3; simp at q1 q2 q3; clear q0)
    | (go_at_call 10; (with_reducible refine (num_nil _ _).mono ?_); rintro e w' ⟨rfl, rfl⟩)
    | (go_at_call 13; (with_reducible refine (int_nil _ _).mono ?_); rintro e w' ⟨rfl, rfl⟩)
    | (go_at_call 15; (with_reducible refine (flag_nil _ _).mono ?_); rintro e w' ⟨rfl, rfl⟩)
    | (go_at_call 16; (with_reducible refine (raw_nil _ _ _ _ hl).mono ?_); rintro e w' ⟨rfl, rfl⟩)
    | (go_at_call 18; (with_reducible refine (out_nil _).mono ?_); rintro e w' ⟨rfl, rfl⟩)
    | (go_at_call 21; (with_reducible refine (rnum_nil _ _).mono ?_); rintro e w' ⟨rfl, rfl⟩)
    | (go_at_call 23; (with_reducible refine (rint_nil _ _).mono ?_); rintro e w' ⟨rfl, rfl⟩)
    | (go_at_call 25; (with_reducible refine (rflag_nil _).mono ?_); rintro e w' ⟨rfl, rfl⟩)
    | (go_at_call 26; (with_reducible refine (rraw_nil _ _).mono ?_); rintro e w' ⟨rfl, rfl⟩)
    | (go_at_call 28; (with_reducible refine (rat_nil _).mono ?_); rintro e w' ⟨rfl, rfl⟩)
    | (go_at_call 29; (with_reducible refine (rerr_nil _).mono ?_); rintro e w' ⟨rfl, rfl⟩)
    | (go_at_call 30; (with_reducible refine (rdone_nil _).mono ?_); rintro e w' ⟨rfl, rfl⟩; have hbr := bare_reader w1; have q2 := (World.cell?_alloc_lt w1 (.cells #[.int .i64 0, .int .i64 0, .slice none 0 0] 61) ⟨w.heap.size, 2, none⟩ (Nat.lt_of_lt_of_le (by simp) hb1.size)).trans q2)
    | (go_at_call 30; (with_reducible refine (rdone_is _ _ _ _ _ _ _ hbr).mono ?_); rintro e w' ⟨rfl, kq, rfl⟩; rw [HDD.out]; have hbr := hbr.drewN kq)
    | (go_at_call 21; have kn := rnum_is _ _ _ _ _ _ n _ hbr HN.out; rw [HD.out] at kn; refine kn.mono ?_; clear kn; rintro e w3 ⟨rfl, hbr, hg3⟩)
    | (go_at_call 29; (with_reducible refine (rerr_is _ _ _ _ _ _ _ hbr).mono ?_); rintro e w' ⟨rfl, rfl⟩))
  go_ret
  have hb2 : Below w.heap.size w w1 := hB0.trans (hb1.mono (by simp))
  exact ⟨rfl, (below_drewN (hb2.alloc hb2.size _) kq).trans (below_of_grown hg3 hb2.size (by simp; exact Nat.le_succ_of_le hb2.size))⟩

theorem own : ownKnob Try.prog.godebug = none := by kernel_rfl
theorem laidOut : laidOutB Try.prog = true := by kernel_rfl

set_option maxRecDepth 100000 in
theorem lifted (os : Os) (started : os.Started) (H : Type) (enc : TypeId × Value → H) :
    ReturnsInHanded {} Try.checked os 5 .any (Rows.coderNoneSpec.pre6 enc Try.prog Try.f5 Rows.coderNoneRow.domain false) (Rows.coderNoneSpec.post enc Try.prog Try.f5 false true false false) := by
  refine returnsInHanded_of_change (C := Try.checked) own started (by kernel_rfl) Try.func5
    (ChangeSpec.witness6 (enc := enc) (C := Try.checked) false ⟨#[], #[.agg #[.int .i64 0, .int .i64 0, .int .u64 0, .slice none 0 0]], []⟩ 8 (by kernel_rfl) (by kernel_rfl) (by kernel_rfl) (by kernel_rfl)) ?_
  intro W base args ds gs before hval0 hW hcnd _
  have hval : ∀ (j : Nat) t v, Try.f5.params[j]? = some t → args[j]? = some v → Value.okWide Try.prog W .any base t v := hval0
  have hW' := hW
  obtain ⟨p, q, hA0, hV, rfl, hfz, hnd⟩ := hW
  have hlt : ∀ x ∈ p ++ q, x.block < W.heap.size := fun x hx => hW'.lt x hx
  have hA : DataW.TrodAll enc Try.prog W 0 (fun _ => true) true Try.f5.params.toList args.toList ds p := hA0
  rw [Try.params5] at hA hval
  obtain ⟨v0, vs0, d0, ds0, p0, q0, hargs, rfl, rfl, h0, r0⟩ := trodAll_cons hA
  obtain ⟨rfl, rfl, rfl⟩ := trodAll_nil r0
  obtain rfl : args = #[v0] := by cases args; simp_all
  obtain ⟨rfl, rfl⟩ := trodVars_none hV
  obtain ⟨x0, x1, x2, x3, y0, y1, y2, y3, m0, rfl, rfl, rfl, hy0, hy1, hy2, hy3⟩ := Joins.open_agg4 Try.underlying39 (by kernel_rfl) (by kernel_rfl) (hval 0 39 v0 rfl rfl) h0
  obtain ⟨a0, e0, rfl, u0⟩ := DataW.trod_int Try.underlying3 hy0
  simp at e0
  subst e0
  have b0 := i64_fits u0
  obtain ⟨a1, e1, rfl, u1⟩ := DataW.trod_int Try.underlying3 hy1
  simp at e1
  subst e1
  have b1 := i64_fits u1
  obtain ⟨a2, e2, rfl, u2⟩ := DataW.trod_int Try.underlying37 hy2
  simp at e2
  subst e2
  have b2 := u64_fits u2
  obtain ⟨n2, rfl⟩ := Int.eq_ofNat_of_zero_le b2.1
  obtain ⟨A3, ns3, c3, rfl, hb3, hc3, hm3, hr3, hA3⟩ := open_u8cell Try.underlying34 Try.underlying5 (by kernel_rfl) hy3
  clear hA0 hval0
  refine (walk a0 a1 n2 A3 ns3.length c3 W b1.1 b1.2 (by have := b2.2; omega) (by omega)).mono fun e W' ⟨he, hg⟩ => ?_
  subst he
  exact ⟨_, rfl, law_post laidOut (by kernel_rfl) rfl rfl Try.underlying4 rfl hW' hg⟩

theorem over : Rows.coderNoneRow.holds Try.pinned (OpenSpec.ofChange Rows.coderNoneSpec) :=
  OpenClaim.holds_of_wide 5 Try.f5 rfl rfl rfl rfl rfl rfl rfl ⟨rfl, rfl, rfl, rfl, rfl⟩ rfl rfl rfl rfl rfl (by kernel_rfl) Try.func5 (by kernel_rfl)
    (of_decide_eq_true (by kernel_rfl)) (by unfold Func.isWrapper; first | (rw [if_pos (by decide +kernel)]; kernel_rfl) | (rw [if_neg (by decide +kernel)]; exact ⟨rfl, rfl⟩))
    (fun os started H enc _ => lifted os started H enc)

/-- The statement. -/
theorem proved : Rows.CoderNoneSaid := over
#print axioms proved

end Go.Proofs.Ytmagjfjmaojemaa.CoderNone
