/- Law DeedSound (P8.3): what is decoded of any bytes is right, and has just these bytes. No condition. -/
import Derived.Test.YtagibkaonmpihaaDeedTop
import Derived.Test.YtagibkaonmpihaaDeedIn
import Derived.Test.YtagibkaonmpihaaRows
namespace Go.Proofs.Ytagibkaonmpihaa.DeedSound
open Go.RowKit Go.ChangeShapes Go.WideShapes Go.ChangeAt
set_option linter.unusedVariables false
set_option linter.unusedSimpArgs false

set_option maxRecDepth 100000 in
theorem walk_long (bs : List Nat) (A : Option Addr) (c : Nat) (w : World) (h : 2000 < bs.length) :
    Calls Try.prog 6 #[.slice A bs.length c] w fun e w' => e = .returned (.bool true) ∧ Below w.heap.size w w' := by
  have dl : decide ((2000 : Int) < (bs.length : Int)) = true := by simp; omega
  clear h
  go_enter Try.func6, Try.ntmps6
  go_wp2_with (go_at_call 7; refine (deed_awake _).mono ?_; rintro e w1 ⟨rfl, hb1⟩)
  go_ret
  exact ⟨rfl, hb1⟩

set_option maxRecDepth 100000 in
set_option maxHeartbeats 1000000 in
theorem walk_bad (bs : List Nat) (A : Option Addr) (c n : Nat) (w : World) (hl : bs.length ≤ 2000) (hx : Lies w (· < w.heap.size) A bs) (hn : n ≠ 0)
    (kd : ∀ W, Lies W (· < w.heap.size) A bs → Calls Try.prog 18 #[.slice A bs.length c] W fun e w' => e = .returned (.tuple #[.agg (Dd.none.vals none 0), .int .i64 (n : Int)]) ∧ Below W.heap.size W w') :
    Calls Try.prog 6 #[.slice A bs.length c] w fun e w' => e = .returned (.bool true) ∧ Below w.heap.size w w' := by
  have hz := zero_deed
  have dl : decide ((2000 : Int) < (bs.length : Int)) = false := by simp; omega
  have d1 : ((n : Int) != 0) = true := by simp; omega
  have HX := Lib.hid hx
  clear hl hx hn
  go_enter Try.func6, Try.ntmps6
  go_wp2_with (first
    | (go_at_call 7; refine (deed_awake _).mono ?_; rintro e w1 ⟨rfl, hb1⟩; have x1 := HX.out.hold fun a ha => hb1.cell ha)
    | (go_at_call 18; refine (kd _ x1).mono ?_; clear kd; rintro e w2 ⟨rfl, hb2⟩; have hB2 := Below.then hb1 hb2)
    | (refine store_deed _ _ rfl rfl w2.heap.size Dd.none Dd.none none none 0 0 _ rfl rfl (DeedAt.new w2 Dd.none none 0 _) ?_; have hX3 : DeedAt ((w2.alloc (.cells (Dd.none.vals none 0) 27)).setRow w2.heap.size (Dd.none.vals none 0)) w2.heap.size Dd.none none 0 27 := DeedAt.set (DeedAt.new w2 Dd.none none 0 _); have hb3 : Below w2.heap.size w2 ((w2.alloc (.cells (Dd.none.vals none 0) 27)).setRow w2.heap.size (Dd.none.vals none 0)) := below_setRow ((Below.refl _ _).alloc (Nat.le_refl _) _) (Nat.le_refl _) _; have hB3 := Below.then hB2 hb3)
    | (refine load_deed _ rfl rfl _ Dd.none none 0 _ rfl hX3 ?_)
    | (go_at_call 12; refine (dplain_is Dd.none none 0 _).mono ?_; rintro e w4 ⟨rfl, hb4⟩; have hB4 := Below.then hB3 hb4)
    | (refine build_rdeed _ rfl rfl Dd.none none 0 (by kernel_rfl) ?_)
    | (go_at_call 17; refine (dsame_is Dd.none (fun _ => True) (fun _ => True) none none 0 0 _ (Lies.nil _ _ _) (Lies.nil _ _ _) (Nat.zero_le _)).mono ?_; rintro e w5 ⟨rfl, hb5⟩; have hB5 := Below.then hB4 hb5))
  go_ret
  exact ⟨rfl, hB5⟩

set_option maxRecDepth 100000 in
set_option maxHeartbeats 2000000 in
theorem walk_ok (bs : List Nat) (A : Option Addr) (c n : Nat) (d : Dd) (w : World) (hn : bs.length = n) (hl : bs.length ≤ 2000) (hx : Lies w (· < w.heap.size) A bs) (hb : ∀ x ∈ bs, x < 256) (hd : DRaw bs (0, 0) d 0 (n, 0)) (hR : d.Right) (he : d.bytes = bs) :
    Calls Try.prog 6 #[.slice A n c] w fun e w' => e = .returned (.bool true) ∧ Below w.heap.size w w' := by
  have hz := zero_deed
  have dl : decide ((2000 : Int) < (n : Int)) = false := by simp; omega
  have kd : ∀ W, Lies W (· < w.heap.size) A bs → Calls Try.prog 18 #[.slice A n c] W fun e w' => ∃ B c'', e = .returned (.tuple #[.agg (d.vals B c''), .int .i64 0]) ∧ Lies w' (fun k => W.heap.size ≤ k) B d.bits ∧ d.bits.length ≤ c'' ∧ c'' ≤ maxLen ∧ Below W.heap.size W w' := fun W h => by
    have k := ddecode_ok bs _ A c d (n, 0) W h (by omega) hb (Lib.hid hd) (Lib.hid rfl) (Lib.hid (by unfold rdDone; rw [hn, if_neg (by simp)]))
    rwa [hn] at k
  have ke := fun B c' w hx h1 h2 => dencode_ok d B c' w hR hx h1 h2
  rw [he, hn] at ke
  have kr := fun B c' w => right_ok d B c' w hR
  have ks : ∀ (W : World) (S S' : Nat → Prop) (A A' : Option Addr) (c c' : Nat), Lies W S A bs → Lies W S' A' bs → Calls Try.prog 14 #[.slice A n c, .slice A' n c'] W fun e w' => e = .returned (.bool true) ∧ Below W.heap.size W w' := fun W S S' A A' c c' h h' => by
    have k := same_true bs S S' A A' c c' W h h' (by unfold maxLen; omega)
    rwa [hn] at k
  have HX := Lib.hid hx
  clear hl hx hn hb hd hR he
  go_enter Try.func6, Try.ntmps6
  go_upto_region 6 with (first
    | (go_at_call 7; refine (deed_awake _).mono ?_; rintro e w1 ⟨rfl, hb1⟩; have x1 := HX.out.hold fun a ha => hb1.cell ha)
    | (go_at_call 18; refine (kd _ x1).mono ?_; clear kd; rintro e w2 ⟨B2, c2, rfl, hL2, hr2, hm2, hb2⟩; have hB2 := Below.then hb1 hb2)
    | (refine store_deed _ _ rfl rfl w2.heap.size d Dd.none B2 none c2 0 _ rfl rfl (DeedAt.new w2 Dd.none none 0 _) ?_))
  generalize hW3 : World.setRow _ _ _ = w3
  have hX3 : DeedAt w3 w2.heap.size d B2 c2 27 := by rw [← hW3]; exact DeedAt.set (DeedAt.new w2 Dd.none none 0 _)
  have hb3 : Below w2.heap.size w2 w3 := by rw [← hW3]; exact below_setRow ((Below.refl _ _).alloc (Nat.le_refl _) _) (Nat.le_refl _) _
  have hB3 := Below.then hB2 hb3
  have x3 := HX.out.hold fun a ha => hB3.cell ha
  have hL3 := (hL2.grown (grown_below hb3 none) (by simp)).imp (S' := (· < w3.heap.size)) (fun k h _ => h)
  clear hW3 hL2 x1 hB2 hb2 hb3
  go_wp2_with (first
    | (refine load_deed _ rfl rfl _ d B2 c2 _ rfl (by assumption) ?_)
    | (go_at_call 8; refine (ke _ _ _ hL3 hr2 hm2).mono ?_; clear ke; rintro e w4 ⟨v4, rfl, hown4, hb4⟩; obtain ⟨A4, c4, rfl, -, -, -, hL4⟩ := Lies.own hown4; have hX4 := hX3.next hb4; have x4 := x3.hold fun a ha => hb4.cell (Nat.lt_of_lt_of_le ha hB3.size); have hB4 := Below.then hB3 hb4; clear hown4)
    | (go_at_call 13; refine (kr _ _ _).mono ?_; clear kr; rintro e w5 ⟨rfl, hb5⟩; have x5 := x4.hold fun a ha => hb5.cell (Nat.lt_of_lt_of_le ha hB4.size); have hL5 := hL4.grown (grown_below hb5 none) (by simp); have hB5 := Below.then hB4 hb5)
    | (go_at_call 14; refine (ks _ _ _ _ _ _ _ x5 hL5).mono ?_; rintro e w6 ⟨rfl, hb6⟩; have hB6 := Below.then hB5 hb6))
  go_ret
  exact ⟨rfl, hB6⟩

/-- Whatever bytes. -/
theorem walk (bs : List Nat) (A : Option Addr) (c : Nat) (w : World) (hx : Lies w (· < w.heap.size) A bs) (hb : ∀ x ∈ bs, x < 256) (hc : bs.length ≤ c) (hm : c ≤ maxLen) (_ : A = none → c = 0) :
    Calls Try.prog 6 #[.slice A bs.length c] w fun e w' => e = .returned (.bool true) ∧ Below w.heap.size w w' := by
  by_cases h : 2000 < bs.length
  · exact walk_long bs A c w h
  · obtain ⟨d, y, st, hd⟩ := draw_is bs (0, 0)
    by_cases he : derr y st = 0
    · have h0 : st.2 = 0 := by
        unfold derr at he
        by_cases h0 : st.2 = 0
        · exact h0
        · rw [if_neg h0] at he; exact absurd he h0
      have hy : y = 0 := by unfold derr at he; rwa [if_pos h0] at he
      subst hy
      obtain ⟨n, m⟩ := st
      simp only at h0
      subst h0
      have hg := draw_good hb (Nat.zero_le _) hd rfl
      by_cases hle : n < bs.length
      · exact walk_bad bs A c 52 w (by omega) hx (by decide) fun W hx => ddecode_left bs _ A c d 0 52 (n, 0) W hx (by omega) hb (Lib.hid hd) (Lib.hid rfl) (Lib.hid rfl) (Lib.hid (by unfold rdDone; rw [if_pos ⟨rfl, hle⟩])) (Lib.hid (by decide))
      · obtain ⟨hR, _, _, hle2, hby⟩ := hg
        simp only at hle2
        obtain rfl : n = bs.length := by omega
        exact walk_ok bs A c bs.length d w rfl (by omega) hx hb hd hR (by simpa using hby)
    · exact walk_bad bs A c (derr y st) w (by omega) hx he fun W hx => ddecode_no bs _ A c d y (derr y st) st W hx (by omega) hb (Lib.hid hd) (Lib.hid rfl) (Lib.hid he)

theorem own : ownKnob Try.prog.godebug = none := by kernel_rfl
theorem laidOut : laidOutB Try.prog = true := by kernel_rfl

set_option maxRecDepth 100000 in
theorem lifted (os : Os) (started : os.Started) (H : Type) (enc : TypeId × Value → H) :
    ReturnsInHanded {} Try.checked os 6 .any (Rows.deedSoundSpec.pre6 enc Try.prog Try.f6 Rows.deedSoundRow.domain false) (Rows.deedSoundSpec.post enc Try.prog Try.f6 false true false false) := by
  refine returnsInHanded_of_change (C := Try.checked) own started (by kernel_rfl) Try.func6
    (ChangeSpec.witness6 (enc := enc) (C := Try.checked) false ⟨#[], #[.slice none 0 0], []⟩ 8 (by kernel_rfl) (by kernel_rfl) (by kernel_rfl) (by kernel_rfl)) ?_
  intro W base args ds gs before hval0 hW hcnd _
  have hval : ∀ (j : Nat) t v, Try.f6.params[j]? = some t → args[j]? = some v → Value.okWide Try.prog W .any base t v := hval0
  have hW' := hW
  obtain ⟨p, q, hA0, hV, rfl, hfz, hnd⟩ := hW
  have hlt : ∀ x ∈ p ++ q, x.block < W.heap.size := fun x hx => hW'.lt x hx
  have hA : DataW.TrodAll enc Try.prog W 0 (fun _ => true) true Try.f6.params.toList args.toList ds p := hA0
  rw [Try.params6] at hA hval
  obtain ⟨v0, vs0, d0, ds0, p0, q0, hargs, rfl, rfl, h0, r0⟩ := trodAll_cons hA
  obtain ⟨rfl, rfl, rfl⟩ := trodAll_nil r0
  obtain rfl : args = #[v0] := by cases args; simp_all
  obtain ⟨rfl, rfl⟩ := trodVars_none hV
  obtain ⟨A0, n0, c0, rfl⟩ := okWide_slice Try.underlying23 (hval 0 23 v0 rfl rfl)
  obtain ⟨ns0, hl0, hn0, hc0, hm0, hr0, hA0⟩ := open_u8s Try.underlying23 Try.underlying5 (by kernel_rfl) h0
  subst hl0
  clear hA0 hval0
  refine (walk ns0 A0 c0 W (Lies.ofRow hr0) hn0 hc0 hm0 hA0).mono fun e W' ⟨he, hg⟩ => ?_
  subst he
  exact ⟨_, rfl, law_post laidOut (by kernel_rfl) rfl rfl Try.underlying4 rfl hW' hg⟩

theorem over : Rows.deedSoundRow.holds Try.pinned (OpenSpec.ofChange Rows.deedSoundSpec) :=
  OpenClaim.holds_of_wide 6 Try.f6 rfl rfl rfl rfl rfl rfl rfl ⟨rfl, rfl, rfl, rfl, rfl⟩ rfl rfl rfl rfl rfl (by kernel_rfl) Try.func6 (by kernel_rfl)
    (of_decide_eq_true (by kernel_rfl)) (by unfold Func.isWrapper; first | (rw [if_pos (by decide +kernel)]; kernel_rfl) | (rw [if_neg (by decide +kernel)]; exact ⟨rfl, rfl⟩))
    (fun os started H enc _ => lifted os started H enc)

/-- The statement. -/
theorem proved : Rows.DeedSoundSaid := over
#print axioms proved
end Go.Proofs.Ytagibkaonmpihaa.DeedSound
