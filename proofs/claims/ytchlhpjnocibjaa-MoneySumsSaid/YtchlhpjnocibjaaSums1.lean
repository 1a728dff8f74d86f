/- MoneySums: for every two numbers of 64 bits the law of layer 1 on sum, product and difference returns true, and changes nothing. No condition. -/
import Derived.Test.YtchlhpjnocibjaaRows
import Derived.Test.YtchlhpjnocibjaaLaw
import Derived.Test.YtchlhpjnocibjaaTold
namespace Go.Proofs.Ytchlhpjnocibjaa.MoneySums
open Go.ChangeShapes Go.WideShapes Go.ChangeAt Go.RowKit
set_option linter.unusedVariables false

/-- Two numbers in two cells of the call's own, from block s on. -/
structure Pair (s : Nat) (Ax : Option Addr) (lx cx : Nat) (Ay : Option Addr) (ly cy : Nat) (a b : Nat) (W : World) : Prop where
  x : W.cell? ⟨s, 0, none⟩ = some (.slice Ax lx cx)
  y : W.cell? ⟨s + 1, 0, none⟩ = some (.slice Ay ly cy)
  nx : NatV W s (.agg #[.slice Ax lx cx]) a
  ny : NatV W s (.agg #[.slice Ay ly cy]) b
  size : s + 2 ≤ W.heap.size
theorem Pair.below {s lx cx ly cy a b : Nat} {Ax Ay : Option Addr} {W W' : World} (h : Pair s Ax lx cx Ay ly cy a b W) (hb : Below W.heap.size W W') : Pair s Ax lx cx Ay ly cy a b W' where
  x := (hb.cell (p := ⟨s, 0, none⟩) (by have := h.size; show s < _; omega)).trans h.x
  y := (hb.cell (p := ⟨s + 1, 0, none⟩) (by have := h.size; show s + 1 < _; omega)).trans h.y
  nx := h.nx.below (hb.mono (by have := h.size; omega))
  ny := h.ny.below (hb.mono (by have := h.size; omega))
  size := Nat.le_trans h.size hb.size
theorem Pair.made {lx cx ly cy a b : Nat} {Ax Ay : Option Addr} {w : World} {t : TypeId} (hx : NatV w w.heap.size (.agg #[.slice Ax lx cx]) a) (hy : NatV w w.heap.size (.agg #[.slice Ay ly cy]) b) :
    Pair w.heap.size Ax lx cx Ay ly cy a b ((w.alloc (.cells #[.slice Ax lx cx] t)).alloc (.cells #[.slice Ay ly cy] t)) := by
  have hb : Below w.heap.size w ((w.alloc (.cells #[.slice Ax lx cx] t)).alloc (.cells #[.slice Ay ly cy] t)) := ((Below.refl _ _).alloc (Nat.le_refl _) _).alloc (by simp) _
  refine ⟨?_, ?_, hx.below hb, hy.below hb, by simp⟩
  · rw [World.cell?_alloc_past _ _ _ (by simp), World.cell?_alloc_at _ _ _ _ rfl]; rfl
  · rw [World.cell?_alloc_at _ _ _ _ (by simp)]; rfl

theorem sub_num (a b : Nat) (w : World) (ha : a ≤ 18446744073709551615) (h : b ≤ a) :
    Calls Try.prog 14 #[.int .u64 (a : Int), .int .u64 (b : Int)] w fun e w' => e = .returned (.tuple #[.int .u64 ((a - b : Nat) : Int), .int .i64 0]) ∧ w = w' := by
  have h1 := money_sub_ok (a : Int) (b : Int) w (by omega) (by omega) (by omega)
  rwa [show (a : Int) - b = ((a - b : Nat) : Int) by omega] at h1


set_option maxHeartbeats 1000000 in
theorem walkN (a b : Nat) (w : World) (ha : a ≤ 18446744073709551615) (hb : b ≤ 18446744073709551615) :
    Calls Try.prog 3 #[.int .u64 (a : Int), .int .u64 (b : Int)] w fun e w' => e = .returned (.bool true) ∧ Below w.heap.size w w' := by
  have hla : (digs a).length ≤ 1000 := Nat.le_trans (digs_len (k := 20) (by omega)) (by omega)
  have hlb : (digs b).length ≤ 1000 := Nat.le_trans (digs_len (k := 20) (by omega)) (by omega)
  go_enter Try.func3, Try.ntmps3
  go_wp2_with (go_at_call 7; refine (money_awake _).mono ?_; rintro e w' ⟨rfl, rfl⟩)
  refine (of_any a _ ha).mono ?_
  rintro e w1 ⟨x, rfl, hx1, hfx, hb1⟩
  obtain ⟨Ax, cx, rfl, _⟩ := id hx1
  go_wp2_with fail
  refine (of_any b _ hb).mono ?_
  rintro e w2 ⟨y, rfl, hy1, hfy, hb2⟩
  obtain ⟨Ay, cy, rfl, _⟩ := id hy1
  have P := Pair.made (t := 26) ((hx1.below hb2).up hb2.size) hy1
  have hb0 : Below w.heap.size w ((w2.alloc (.cells #[.slice Ax (digs a).length cx] 26)).alloc (.cells #[.slice Ay (digs b).length cy] 26)) :=
    ((hb1.trans (hb2.mono hb1.size)).alloc (Nat.le_trans hb1.size hb2.size) _).alloc (by have := hb1.size; have := hb2.size; simp; omega) _
  have hs0 := hb0.size
  clear hx1 hy1 hfx hfy hb1 hb2
  go_wp2_with fail
  refine (money_add_told a b _ ha hb).mono ?_
  rintro e w' ⟨rfl, rfl⟩
  go_wp2_with fail
  refine (add_nat a b _ _ w2.heap.size _ P.nx P.ny (by simp; omega) (by omega) (by omega)).mono ?_
  rintro e w3 ⟨v3, rfl, hv3, hf3, hb3⟩
  have P3 := P.below hb3
  go_wp2_with fail
  refine (told_num (a + b) _ w3.heap.size w3 hv3 (Nat.le_refl _)).mono ?_
  rintro e w4 ⟨rfl, hb4⟩
  have P4 := P3.below hb4
  have hb04 := hb0.trans ((hb3.mono hs0).trans (hb4.mono (Nat.le_trans hs0 hb3.size)))
  have hs4 := hb04.size
  have hcx := P4.x
  have hcy := P4.y
  clear P P3 hb3 hb4 hv3 hf3 hb0 hs0
  go_wp2_with fail
  refine (money_mul_told a b _ ha hb).mono ?_
  rintro e w' ⟨rfl, rfl⟩
  go_wp2_with fail
  refine (mul_nat a b _ _ w2.heap.size w4 P4.nx P4.ny (by have := P4.size; omega) (by omega) (by omega)).mono ?_
  rintro e w5 ⟨v5, rfl, hv5, hf5, hb5⟩
  have P5 := P4.below hb5
  go_wp2_with fail
  refine (told_num (a * b) _ w5.heap.size w5 hv5 (Nat.le_refl _)).mono ?_
  rintro e w6 ⟨rfl, hb6⟩
  have P6 := P5.below hb6
  have hb06 := hb04.trans ((hb5.mono hs4).trans (hb6.mono (Nat.le_trans hs4 hb5.size)))
  have hs6 := hb06.size
  clear hcx hcy
  have hcx := P6.x
  have hcy := P6.y
  clear P4 P5 hb5 hb6 hv5 hf5 hb04 hs4
  by_cases h3 : a < b
  · go_wp2_with (first
      | (go_at_call 14; refine (money_sub_under _ _ _ (by omega)).mono ?_; rintro e w' ⟨rfl, rfl⟩)
      | (go_at_call 15; refine (told_same _ _ _).mono ?_; rintro e w' ⟨rfl, rfl⟩))
    go_ret
    exact ⟨rfl, hb06⟩
  · go_wp2_with fail
    refine (sub_num a b _ ha (by omega)).mono ?_
    rintro e w' ⟨rfl, rfl⟩
    go_wp2_with fail
    refine (sub_nat a b _ _ w2.heap.size w6 P6.nx P6.ny (by have := P6.size; omega) (by omega) (by omega)).mono ?_
    rintro e w7 ⟨v7, rfl, hv7, hf7, hb7⟩
    go_wp2_with fail
    refine (uint_fits (a - b) _ w7.heap.size w7 hv7 (Nat.le_refl _) (by omega)).mono ?_
    rintro e w8 ⟨rfl, hb8⟩
    have hb08 := hb06.trans ((hb7.mono hs6).trans (hb8.mono (Nat.le_trans hs6 hb7.size)))
    clear hv7 hf7 hb7 hb8 hb06 hs6 P6 hcx hcy
    go_wp2_with (go_at_call 15; refine (told_same _ _ _).mono ?_; rintro e w' ⟨rfl, rfl⟩)
    go_ret
    exact ⟨rfl, hb08⟩

theorem walk (a b : Int) (w : World) (ha : 0 ≤ a) (ha' : a ≤ 18446744073709551615) (hb : 0 ≤ b) (hb' : b ≤ 18446744073709551615) :
    Calls Try.prog 3 #[.int .u64 a, .int .u64 b] w fun e w' => e = .returned (.bool true) ∧ Below w.heap.size w w' := by
  obtain ⟨x, rfl⟩ := Int.eq_ofNat_of_zero_le ha
  obtain ⟨y, rfl⟩ := Int.eq_ofNat_of_zero_le hb
  exact walkN x y w (by omega) (by omega)

theorem own : ownKnob Try.prog.godebug = none := by kernel_rfl
theorem laidOut : laidOutB Try.prog = true := by kernel_rfl

set_option maxRecDepth 100000 in
theorem lifted (os : Os) (started : os.Started) (H : Type) (enc : TypeId × Value → H) :
    ReturnsInHanded {} Try.checked os 3 .any (Rows.moneySumsSpec.pre6 enc Try.prog Try.f3 Rows.moneySumsRow.domain false) (Rows.moneySumsSpec.post enc Try.prog Try.f3 false true false false) := by
  refine returnsInHanded_of_change (C := Try.checked) own started (by kernel_rfl) Try.func3
    (ChangeSpec.witness6 (enc := enc) (C := Try.checked) false ⟨#[], #[.int .u64 0, .int .u64 0], []⟩ 8 (by kernel_rfl) (by kernel_rfl) (by kernel_rfl) (by kernel_rfl)) ?_
  intro W base args ds gs before hval0 hW hcnd _
  have hval : ∀ (j : Nat) t v, Try.f3.params[j]? = some t → args[j]? = some v → Value.okWide Try.prog W .any base t v := hval0
  have hW' := hW
  obtain ⟨p, q, hA0, hV, rfl, hfz, hnd⟩ := hW
  have hlt : ∀ x ∈ p ++ q, x.block < W.heap.size := fun x hx => hW'.lt x hx
  have hA : DataW.TrodAll enc Try.prog W 0 (fun _ => true) true Try.f3.params.toList args.toList ds p := hA0
  rw [Try.params3] at hA hval
  obtain ⟨v0, vs0, d0, ds0, p0, q0, hargs, rfl, rfl, h0, r0⟩ := trodAll_cons hA
  obtain ⟨v1, vs1, d1, ds1, p1, q1, rfl, rfl, rfl, h1, r1⟩ := trodAll_cons r0
  obtain ⟨rfl, rfl, rfl⟩ := trodAll_nil r1
  obtain rfl : args = #[v0, v1] := by cases args; simp_all
  obtain ⟨rfl, rfl⟩ := trodVars_none hV
  obtain ⟨a0, rfl, rfl, rfl, w0⟩ := open_int Try.underlying22 (hval 0 22 v0 rfl rfl) h0
  have b0 := u64_fits w0
  obtain ⟨a1, rfl, rfl, rfl, w1⟩ := open_int Try.underlying22 (hval 1 22 v1 rfl rfl) h1
  have b1 := u64_fits w1
  clear hA0 hval0
  refine (walk a0 a1 W b0.1 b0.2 b1.1 b1.2).mono fun e W' ⟨he, hg⟩ => ?_
  subst he
  exact ⟨_, rfl, law_post laidOut (by kernel_rfl) rfl rfl Try.underlying4 rfl hW' hg⟩

theorem over : Rows.moneySumsRow.holds Try.pinned (OpenSpec.ofChange Rows.moneySumsSpec) :=
  OpenClaim.holds_of_wide 3 Try.f3 rfl rfl rfl rfl rfl rfl rfl ⟨rfl, rfl, rfl, rfl, rfl⟩ rfl rfl rfl rfl rfl (by kernel_rfl) Try.func3 (by kernel_rfl)
    (of_decide_eq_true (by kernel_rfl)) (by unfold Func.isWrapper; first | (rw [if_pos (by decide +kernel)]; kernel_rfl) | (rw [if_neg (by decide +kernel)]; exact ⟨rfl, rfl⟩))
    (fun os started H enc _ => lifted os started H enc)

/-- The statement. -/
theorem proved : Rows.MoneySumsSaid := over
#print axioms proved
end Go.Proofs.Ytchlhpjnocibjaa.MoneySums
