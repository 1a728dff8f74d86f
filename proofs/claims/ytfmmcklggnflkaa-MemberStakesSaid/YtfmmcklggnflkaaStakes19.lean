/- Law MemberStakes (P19.4): what of any members is active, and what of them is present, is exact, or refused; what is present is at most what is active. No condition. -/
import Derived.Test.YtfmmcklggnflkaaAwake19
import Derived.Test.YtfmmcklggnflkaaLawM
import Derived.Test.YtfmmcklggnflkaaMemG
import Derived.Test.YtfmmcklggnflkaaLawB
import Derived.Test.YtfmmcklggnflkaaRows
namespace Go.Proofs.Ytfmmcklggnflkaa.MemberStakes
open Go.RowKit Go.ChangeShapes Go.WideShapes Go.ChangeAt Go.Deep
set_option linter.unusedVariables false
set_option linter.unusedSimpArgs false

set_option maxRecDepth 100000 in
theorem walk_many (l : List Mem) (A : Option Addr) (c : Nat) (xs : List Nat) (A2 : Option Addr) (c2 : Nat) (w : World) (hl : l.length ≤ maxLen) (hl2 : xs.length ≤ maxLen) (h : 300 < l.length ∨ 100 < xs.length) :
    Calls Try.prog 3 #[.slice A l.length c, .slice A2 xs.length c2] w fun e w' => e = .returned (.bool true) ∧ Below w.heap.size w w' := by
  unfold maxLen at hl hl2
  by_cases h1 : 300 < l.length
  · clear h
    go_enter Try.func3, Try.ntmps3
    go_wp2_with (go_at_call 5; refine (member_awake _).mono ?_; rintro e w0 ⟨rfl, hb0⟩)
    go_ret
    exact ⟨rfl, hb0⟩
  · have h2 : 100 < xs.length := h.resolve_left h1
    clear h
    go_enter Try.func3, Try.ntmps3
    go_wp2_with (go_at_call 5; refine (member_awake _).mono ?_; rintro e w0 ⟨rfl, hb0⟩)
    go_ret
    exact ⟨rfl, hb0⟩

set_option maxRecDepth 100000 in
set_option maxHeartbeats 2000000 in
theorem walk_few (l : List Mem) (A : Option Addr) (c : Nat) (xs : List Nat) (A2 : Option Addr) (c2 : Nat) (w : World) (hr : Row w w.heap.size A (rows l)) (hx : Row w w.heap.size A2 (u8s xs)) (hb : ∀ x ∈ xs, x < 256) (hf : ∀ m ∈ l, m.s.Fits) (h1 : l.length ≤ 300) (h2 : xs.length ≤ 100) :
    Calls Try.prog 3 #[.slice A l.length c, .slice A2 xs.length c2] w fun e w' => e = .returned (.bool true) ∧ Below w.heap.size w w' := by
  obtain ⟨i0, hi0, hz0, hz1, hz2⟩ := info_parts info_rmem
  obtain ⟨⟨p, t, y⟩, hR⟩ : ∃ r, stk l xs = r := ⟨_, rfl⟩
  have hle := stk_le l xs
  rw [hR] at hle
  have d1 : decide ((p : Int) ≤ (t : Int)) = true := decide_eq_true (by have : p ≤ t := hle; omega)
  have d2 : decide (p ≤ t) = true := decide_eq_true hle
  have ks := fun (w1 : World) (hb1 : Below w.heap.size w w1) => mstakes_of l A c xs A2 c2 p t y w1 (hr.kept hb1) (hx.kept hb1) hb (by omega) hf (Lib.hid hR)
  have kr := fun (A3 : Option Addr) (c3 : Nat) (w1 : World) (hb1 : Below w.heap.size w w1) (h3 : Row w1 w1.heap.size A3 (rows l)) => rstakes_of l A3 c3 xs A2 c2 p t y w1 h3 (hx.kept hb1) hb (by omega) hf (Lib.hid hR)
  have KS := Lib.hid ks
  have KR := Lib.hid kr
  have HR := Lib.hid hr
  clear hr hx hb hf hR hle ks kr
  go_enter Try.func3, Try.ntmps3
  go_wp2_with (first
    | (go_at_call 5; refine (member_awake _).mono ?_; rintro e w0 ⟨rfl, hB0⟩)
    | (go_at_call 6; refine (KS.out w0 hB0).mono ?_; clear KS; rintro e w1 ⟨rfl, hb1⟩; have hB1 := Below.then hB0 hb1; clear hb1 hB0))
  go_loopw [8, 33] (fun v8 iv wr => ∃ (k : Nat), k ≤ l.length ∧ iv = .int .i64 (k : Int) ∧ Hid (wr.ownsRow w.heap.size 36 (Rec.z Mem) v8 k (rows (l.take k))) ∧ Below w.heap.size w wr) (fun _ iv _ => l.length - (intOf iv).toNat)
  case atStart => exact ⟨0, Nat.zero_le _, rfl, Lib.hid (World.ownsRow_nil _ _ _ _), hB1⟩
  case round =>
    obtain ⟨k, hk, rfl, HO4, hB⟩ := hrel
    clear hB1
    by_cases hlt : k < l.length
    · obtain ⟨m, hs⟩ : ∃ m, l[k]? = some m := ⟨_, List.getElem?_eq_getElem hlt⟩
      obtain ⟨a, rfl, hab, hat0⟩ := rows_row (HR.out.below hB) hs
      have hat : LiesAt wr (a.add (k * 6)) (Rec.vals m) := hat0
      have HN := Lib.hid (rows_next hs)
      have hki : (k : Int) < (l.length : Int) := by omega
      have hk0 : (0 : Int) ≤ (k : Int) := by omega
      clear hs hat0
      go_wp2_with (first
        | (refine load_rec 33 _ rfl rfl _ (Rec.vals m) rfl hat Try.underlying33 size_mem ?_)
        | (refine store_rec 33 _ _ rfl rfl _ (Rec.vals m) (Rec.vals Mem.zero) 33 rfl rfl (RecAt.new _ (Rec.vals Mem.zero) _) size_mem rfl (Rec.one m) ?_; intro w2 hS2 hb2 hsz hkp; clear hsz hkp; have hb2 := rec_made (Below.refl _ _) hb2; have HO42 := Lib.hid (own_kept HO4.out hb2); have hB2 := Below.then hB hb2; clear hb2 hat)
        | (refine load_rec 33 _ rfl rfl _ (Rec.vals m) rfl hS2.lies Try.underlying33 size_mem ?_)
        | (go_at_call 7; refine (mplain_is m _).mono ?_; rintro e w3 ⟨rfl, hb3⟩; have HO43 := Lib.hid (own_kept HO42.out hb3); have hB3 := Below.then hB2 hb3; clear hb3)
        | (refine list_one_rec 29 36 rfl _ rfl Try.underlying29 (Rec.vals m) (Rec.vals Mem.zero) info_rmem rfl (by decide) (by decide) (fill_mem m) rfl ?_)
        | (at_builtin; refine wpList_append_lies _ rfl _ _ 29 rfl w.heap.size 36 i0 _ (Rec.z Mem) 48 Try.underlying29 hi0 hz0 hz1 hz2 rfl (by decide) _ k (rows (l.take k)) rfl (own_box HO43.out _) ⟨w3.heap.size, 0, none⟩ 1 1 (Rec.vals m).toList rfl rfl (RecAt.new w3 (Rec.vals m) 36).lies (rec_onecell m) (by decide) ?c1 ?c2 ?c3 _ rfl ?_))
      case c1 => simp only [maxLen]; omega
      case c2 => omega
      case c3 => exact Nat.le_trans hB3.size (by first | exact Nat.le_succ _ | simp)
      intro g cap w7 hown7 hg7 hat7 hlt7
      have hB7 : Below w.heap.size w w7 := (hB3.alloc hB3.size _).grown hg7 (Nat.le_trans hB3.size (by simp)) (fun b hb => (HO43.out.lt b hb).1)
      rw [← HN.out] at hown7
      have HO47 := Lib.hid hown7
      clear hown7 hg7 hat7 hlt7 HO4 HO42 HO43
      go_wp2
      go_roundw
      case rel => exact ⟨k + 1, by omega, by go_num, HO47, hB7⟩
      case measure => simp [intOf]; omega
    · obtain rfl : k = l.length := by omega
      have h4 := HO4.out
      rw [List.take_length] at h4
      obtain ⟨A1, c1, rfl, -, -, -, hr1⟩ := rows_of_own rfl h4
      have HR1 := Lib.hid hr1
      clear HO4 h4 hr1
      go_wp2_with (go_at_call 8; refine (KR.out _ _ _ hB HR1.out).mono ?_; clear KR; rintro e w9 ⟨rfl, hb9⟩; have hB9 := Below.then hB hb9; clear hb9)
      go_ret
      exact ⟨by first | rfl | simp, hB9⟩

theorem walk (l : List Mem) (A : Option Addr) (c : Nat) (xs : List Nat) (A2 : Option Addr) (c2 : Nat) (w : World) (hr : Row w w.heap.size A (rows l)) (hf : ∀ m ∈ l, m.s.Fits) (hc : l.length ≤ c) (hm : c ≤ maxLen) (hz : A = none → c = 0)
    (hx : Row w w.heap.size A2 (u8s xs)) (hb : ∀ x ∈ xs, x < 256) (hc2 : xs.length ≤ c2) (hm2 : c2 ≤ maxLen) :
    Calls Try.prog 3 #[.slice A l.length c, .slice A2 xs.length c2] w fun e w' => e = .returned (.bool true) ∧ Below w.heap.size w w' := by
  by_cases h : 300 < l.length ∨ 100 < xs.length
  · exact walk_many l A c xs A2 c2 w (Nat.le_trans hc hm) (Nat.le_trans hc2 hm2) h
  · exact walk_few l A c xs A2 c2 w hr hx hb hf (Nat.not_lt.1 fun e => h (.inl e)) (Nat.not_lt.1 fun e => h (.inr e))

theorem own : ownKnob Try.prog.godebug = none := by kernel_rfl
theorem laidOut : laidOutB Try.prog = true := by kernel_rfl

set_option maxRecDepth 100000 in
theorem lifted (os : Os) (started : os.Started) (H : Type) (enc : TypeId × Value → H) :
    ReturnsInHanded {} Try.checked os 3 .any (Rows.memberStakesSpec.pre6 enc Try.prog Try.f3 Rows.memberStakesRow.domain false) (Rows.memberStakesSpec.post enc Try.prog Try.f3 false true false false) := by
  refine returnsInHanded_of_change (C := Try.checked) own started (by kernel_rfl) Try.func3
    (ChangeSpec.witness6 (enc := enc) (C := Try.checked) false ⟨#[], #[.slice none 0 0, .slice none 0 0], []⟩ 8 (by kernel_rfl) (by kernel_rfl) (by kernel_rfl) (by kernel_rfl)) ?_
  intro W base args ds gs before hval0 hW hcnd _
  have hval : ∀ (j : Nat) t v, Try.f3.params[j]? = some t → args[j]? = some v → Value.okWide Try.prog W .any base t v := hval0
  have hW' := hW
  obtain ⟨p, q, hA0, hV, rfl, hfz, hnd⟩ := hW
  have hlt : ∀ x ∈ p ++ q, x.block < W.heap.size := fun x hx => hW'.lt x hx
  have hA : DataW.TrodAll enc Try.prog W 0 (fun _ => true) true Try.f3.params.toList args.toList ds p := hA0
  rw [Try.params3] at hA hval
  obtain ⟨v0, vs0, d0, ds0, p0, q0, hargs, rfl, rfl, h0, r0⟩ := trodAll_cons hA
  obtain ⟨v1, vs1, d1, ds1, p1, q1, rfl, rfl, rfl, h1, r1⟩ := trodAll_cons r0
  obtain ⟨rfl, rfl, rfl⟩ := trodAll_nil r1
  obtain rfl : args = #[v0, v1] := by cases args; simp_all
  obtain ⟨rfl, rfl⟩ := trodVars_none hV
  obtain ⟨A0, n0, c0, rfl⟩ := okWide_slice Try.underlying22 (hval 0 22 v0 rfl rfl)
  obtain ⟨l0, hl0, hf0, hc0, hm0, hz0, hr0⟩ := open_mems h0
  subst hl0
  obtain ⟨A1, n1, c1, rfl⟩ := okWide_slice Try.underlying23 (hval 1 23 v1 rfl rfl)
  obtain ⟨ns1, hl1, hn1, hc1, hm1, hr1, hA1⟩ := open_u8s Try.underlying23 Try.underlying5 (by kernel_rfl) h1
  subst hl1
  clear hA0 hval0
  refine (walk l0 A0 c0 ns1 A1 c1 W hr0 hf0 hc0 hm0 hz0 hr1 hn1 hc1 hm1).mono fun e W' ⟨he, hg⟩ => ?_
  subst he
  exact ⟨_, rfl, law_post laidOut (by kernel_rfl) rfl rfl Try.underlying4 rfl hW' hg⟩

theorem over : Rows.memberStakesRow.holds Try.pinned (OpenSpec.ofChange Rows.memberStakesSpec) :=
  OpenClaim.holds_of_wide 3 Try.f3 rfl rfl rfl rfl rfl rfl rfl ⟨rfl, rfl, rfl, rfl, rfl⟩ rfl rfl rfl rfl rfl (by kernel_rfl) Try.func3 (by kernel_rfl)
    (of_decide_eq_true (by kernel_rfl)) (by unfold Func.isWrapper; first | (rw [if_pos (by decide +kernel)]; kernel_rfl) | (rw [if_neg (by decide +kernel)]; exact ⟨rfl, rfl⟩))
    (fun os started H enc _ => lifted os started H enc)

/-- The statement. -/
theorem proved : Rows.MemberStakesSaid := over
#print axioms proved
end Go.Proofs.Ytfmmcklggnflkaa.MemberStakes
