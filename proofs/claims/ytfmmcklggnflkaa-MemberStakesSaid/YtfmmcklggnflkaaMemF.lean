/- Layer 19 (member): what of many is active, and what is present. By contracts. -/
import Derived.Test.YtfmmcklggnflkaaMemA
import Derived.Test.YtfmmcklggnflkaaBitA
import Derived.Test.YtfmmcklggnflkaaMoneyB
import Derived.OwnWalk
namespace Go.Proofs.Ytfmmcklggnflkaa
open Go.RowKit Go.Deep
set_option linter.unusedVariables false
set_option linter.unusedSimpArgs false

/-- An operation by the slot that it fills. -/
theorem slot_is {P : Program} {ops : Array Oper} {rest : List Oper} {o : Oper} {a : Act} {w : World} {Q : Exit → Act → World → Prop} (k : Nat) (hd : o.dst = some k) (h : wpList P ops Q (o :: rest) a w) : wpList P ops Q (o :: rest) a w := h

/-- What comes of so many. -/
structure Stk (l : List Mem) (xs : List Nat) (k P T : Nat) : Prop where
  pres : presents l xs k = P
  act : actives l k = T
  fits : T ≤ 18446744073709551615
theorem Stk.less {l : List Mem} {xs : List Nat} {k P T : Nat} (h : Stk l xs k P T) : P ≤ T := by
  have := presents_le l xs k
  rw [h.pres, h.act] at this
  exact this
theorem Stk.skip {l : List Mem} {xs : List Nat} {k P T : Nat} {m : Mem} (h : Stk l xs k P T) (hm : l[k]? = some m) (hc : m.counts = false) : Stk l xs (k + 1) P T := by
  refine ⟨?_, ?_, h.fits⟩
  · unfold presents
    rw [picked_no hm (by simp [isThere, hc])]
    exact h.pres
  · unfold actives
    rw [picked_no hm (by simp [isAct, hc])]
    exact h.act
theorem Stk.here {l : List Mem} {xs : List Nat} {k P T : Nat} {m : Mem} (h : Stk l xs k P T) (hm : l[k]? = some m) (hc : m.counts = true) (hb : bitAt xs k = true) (hT : T + m.s.eff ≤ 18446744073709551615) : Stk l xs (k + 1) (P + m.s.eff) (T + m.s.eff) := by
  refine ⟨?_, ?_, hT⟩
  · unfold presents
    rw [picked_yes hm (by simp [isThere, hc, hb]), tot_snoc]
    exact congrArg (· + m.s.eff) h.pres
  · unfold actives
    rw [picked_yes hm (by simp [isAct, hc]), tot_snoc]
    exact congrArg (· + m.s.eff) h.act
theorem Stk.gone {l : List Mem} {xs : List Nat} {k P T : Nat} {m : Mem} (h : Stk l xs k P T) (hm : l[k]? = some m) (hc : m.counts = true) (hb : bitAt xs k = false) (hT : T + m.s.eff ≤ 18446744073709551615) : Stk l xs (k + 1) P (T + m.s.eff) := by
  refine ⟨?_, ?_, hT⟩
  · unfold presents
    rw [picked_no hm (by simp [isThere, hc, hb])]
    exact h.pres
  · unfold actives
    rw [picked_yes hm (by simp [isAct, hc]), tot_snoc]
    exact congrArg (· + m.s.eff) h.act
theorem Stk.over {l : List Mem} {xs : List Nat} {k P T : Nat} {m : Mem} (h : Stk l xs k P T) (hm : l[k]? = some m) (hc : m.counts = true) (hT : 18446744073709551615 < T + m.s.eff) : stk l xs = (0, 0, 10) := by
  refine stk_out fun hle => ?_
  have hk : k < l.length := (List.getElem?_eq_some_iff.1 hm).1
  have h1 : actives l (k + 1) = T + m.s.eff := by
    unfold actives
    rw [picked_yes hm (by simp [isAct, hc]), tot_snoc]
    exact congrArg (· + m.s.eff) h.act
  have h2 : actives l (k + 1) ≤ actives l l.length := picked_mono isAct l hk
  omega
theorem Stk.all {l : List Mem} {xs : List Nat} {P T : Nat} (h : Stk l xs l.length P T) : stk l xs = (P, T, 0) := by
  rw [stk_in (by rw [h.act]; exact h.fits), h.pres, h.act]

set_option maxRecDepth 100000 in
set_option maxHeartbeats 2000000 in
theorem mstakes_of (l : List Mem) (A : Option Addr) (c : Nat) (xs : List Nat) (A2 : Option Addr) (c2 : Nat) (p t y : Nat) (w : World) (hr : Row w w.heap.size A (rows l)) (hx : Row w w.heap.size A2 (u8s xs)) (hb : ∀ x ∈ xs, x < 256) (hl : l.length ≤ 1000000) (hf : ∀ m ∈ l, m.s.Fits) (HY : Hid (stk l xs = (p, t, y))) :
    Calls Try.prog 6 #[.slice A l.length c, .slice A2 xs.length c2] w fun e w' => e = .returned (.tuple #[.int .u64 (p : Int), .int .u64 (t : Int), .int .i64 (y : Int)]) ∧ Below w.heap.size w w' := by
  have HR := Lib.hid hr
  have HX := Lib.hid hx
  have HF := Lib.hid hf
  have HBY := Lib.hid hb
  clear hr hx hf hb
  go_enter Try.func6, Try.ntmps6
  go_wp2
  go_loopw [4, 5, 11] (fun v4 v5 iv wr => ∃ (k P T : Nat), k ≤ l.length ∧ iv = .int .i64 (k : Int) ∧ v4 = .int .u64 (P : Int) ∧ v5 = .int .u64 (T : Int) ∧ Hid (Stk l xs k P T) ∧ Below w.heap.size w wr) (fun _ _ iv _ => l.length - (intOf iv).toNat)
  case atStart => exact ⟨0, 0, 0, Nat.zero_le _, rfl, rfl, rfl, Lib.hid ⟨rfl, rfl, by omega⟩, Below.refl _ _⟩
  case round =>
    obtain ⟨k, P, T, hk, rfl, rfl, rfl, HS, hB⟩ := hrel
    by_cases hlt : k < l.length
    · obtain ⟨m, hs⟩ : ∃ m, l[k]? = some m := ⟨_, List.getElem?_eq_getElem hlt⟩
      have hmf := HF.out m (List.mem_of_getElem? hs)
      obtain ⟨a, rfl, hab, hat0⟩ := rows_row (HR.out.below hB) hs
      have hat : LiesAt wr (a.add (k * 6)) (Rec.vals m) := hat0
      have hki : (k : Int) < (l.length : Int) := by omega
      have hk0 : (0 : Int) ≤ (k : Int) := by omega
      have kc := fun w => counts_is m w
      clear hat0
      cases hc : m.counts with
      | false =>
        rw [hc] at kc
        have HS2 := Lib.hid (HS.out.skip hs hc)
        clear hs hc hmf HS
        go_wp2_with (first
          | (refine load_rec 33 _ rfl rfl _ (Rec.vals m) rfl hat Try.underlying33 size_mem ?_)
          | (refine store_rec 33 _ _ rfl rfl _ (Rec.vals m) (Rec.vals Mem.zero) 33 rfl rfl (RecAt.new _ (Rec.vals Mem.zero) _) size_mem rfl (Rec.one m) ?_; intro w2 hS2 hb2 hsz hkp; clear hsz hkp; have hb2 := rec_made (Below.refl _ _) hb2; have hB2 := Below.then hB hb2; clear hb2 hat)
          | (refine load_rec 33 _ rfl rfl _ (Rec.vals m) rfl hS2.lies Try.underlying33 size_mem ?_)
          | (go_at_call 15; refine (kc _).mono ?_; clear kc; rintro e w3 ⟨rfl, hb3⟩; have hB3 := Below.then hB2 hb3; clear hb3))
        go_roundw
        case rel => exact ⟨k + 1, P, T, by omega, by go_num, rfl, rfl, HS2, hB3⟩
        case measure => simp [intOf]; omega
      | true =>
        rw [hc] at kc
        have heff := hmf.eff
        have hT := HS.out.fits
        have hPT := HS.out.less
        by_cases hov : T + m.s.eff ≤ 18446744073709551615
        · have ka := fun w => money_add_ok T m.s.eff w (by omega) (by omega) (by omega)
          have kg := fun (w1 : World) (hx : Lies w1 (· < w.heap.size) A2 xs) => get_ok xs _ A2 c2 (k : Int) w1 hx HBY.out (by omega)
          rw [bitI_nat] at kg
          obtain ⟨S, hS⟩ : ∃ S, T + m.s.eff = S := ⟨_, rfl⟩
          rw [show (T : Int) + (m.s.eff : Int) = (S : Int) by omega] at ka
          have KG := Lib.hid kg
          clear kg
          cases hbit : bitAt xs k with
          | true =>
            rw [hbit] at KG
            have HS2 := Lib.hid (HS.out.here hs hc hbit hov)
            rw [hS] at HS2
            obtain ⟨U, hU⟩ : ∃ U, P + m.s.eff = U := ⟨_, rfl⟩
            rw [hU] at HS2
            have e1 : IntKind.u64.wrap ((P : Int) + (m.s.eff : Int)) = (U : Int) := by rw [show (P : Int) + (m.s.eff : Int) = (U : Int) by omega]; exact IntWalk.u64_in _ (by omega)
            clear hs hc hmf HS hT hPT hov heff hS hU hbit
            go_wp2_with (first
              | (refine load_rec 33 _ rfl rfl _ (Rec.vals m) rfl hat Try.underlying33 size_mem ?_)
              | (refine store_rec 33 _ _ rfl rfl _ (Rec.vals m) (Rec.vals Mem.zero) 33 rfl rfl (RecAt.new _ (Rec.vals Mem.zero) _) size_mem rfl (Rec.one m) ?_; intro w2 hS2 hb2 hsz hkp; clear hsz hkp; have hb2 := rec_made (Below.refl _ _) hb2; have hB2 := Below.then hB hb2; clear hb2 hat)
              | (refine load_rec 33 _ rfl rfl _ (Rec.vals m) rfl hS2.lies Try.underlying33 size_mem ?_)
              | (go_at_call 15; refine (kc _).mono ?_; clear kc; rintro e w3 ⟨rfl, hb3⟩; have hS3 := hS2.up hb3; have hB3 := Below.then hB2 hb3; have x1 : _ = some (Value.int IntKind.u64 (m.s.eff : Int)) := hS3.cell 1; clear hb3)
              | (go_at_call 17; refine (ka _).mono ?_; clear ka; rintro e w4 ⟨rfl, rfl⟩)
              | (go_at_call 18; refine (KG.out _ (Lies.ofRow (HX.out.below hB3))).mono ?_; clear KG; rintro e w4 ⟨rfl, q, rfl⟩; have hB4 := below_drewN hB3 q; have x2 : (w3.drewN q).cell? _ = some (Value.int IntKind.u64 (m.s.eff : Int)) := x1))
            go_roundw
            case rel => exact ⟨k + 1, U, S, by omega, by go_num, rfl, rfl, HS2, hB4⟩
            case measure => simp [intOf]; omega
          | false =>
            rw [hbit] at KG
            have HS2 := Lib.hid (HS.out.gone hs hc hbit hov)
            rw [hS] at HS2
            clear hs hc hmf HS hT hPT hov heff hS hbit
            go_wp2_with (first
              | (refine load_rec 33 _ rfl rfl _ (Rec.vals m) rfl hat Try.underlying33 size_mem ?_)
              | (refine store_rec 33 _ _ rfl rfl _ (Rec.vals m) (Rec.vals Mem.zero) 33 rfl rfl (RecAt.new _ (Rec.vals Mem.zero) _) size_mem rfl (Rec.one m) ?_; intro w2 hS2 hb2 hsz hkp; clear hsz hkp; have hb2 := rec_made (Below.refl _ _) hb2; have hB2 := Below.then hB hb2; clear hb2 hat)
              | (refine load_rec 33 _ rfl rfl _ (Rec.vals m) rfl hS2.lies Try.underlying33 size_mem ?_)
              | (go_at_call 15; refine (kc _).mono ?_; clear kc; rintro e w3 ⟨rfl, hb3⟩; have hS3 := hS2.up hb3; have hB3 := Below.then hB2 hb3; have x1 : _ = some (Value.int IntKind.u64 (m.s.eff : Int)) := hS3.cell 1; clear hb3)
              | (go_at_call 17; refine (ka _).mono ?_; clear ka; rintro e w4 ⟨rfl, rfl⟩)
              | (go_at_call 18; refine (KG.out _ (Lies.ofRow (HX.out.below hB3))).mono ?_; clear KG; rintro e w4 ⟨rfl, q, rfl⟩; have hB4 := below_drewN hB3 q))
            go_roundw
            case rel => exact ⟨k + 1, P, S, by omega, by go_num, rfl, rfl, HS2, hB4⟩
            case measure => simp [intOf]; omega
        · have ka := fun w => money_add_over T m.s.eff w (by omega) (by omega) (by omega) (by omega) (by omega)
          have hy := HY.out
          rw [HS.out.over hs hc (by omega)] at hy
          simp only [Prod.mk.injEq] at hy
          obtain ⟨rfl, rfl, rfl⟩ := hy
          clear hs hc hmf HS hT hPT hov heff
          go_wp2_with (first
            | (refine load_rec 33 _ rfl rfl _ (Rec.vals m) rfl hat Try.underlying33 size_mem ?_)
            | (refine store_rec 33 _ _ rfl rfl _ (Rec.vals m) (Rec.vals Mem.zero) 33 rfl rfl (RecAt.new _ (Rec.vals Mem.zero) _) size_mem rfl (Rec.one m) ?_; intro w2 hS2 hb2 hsz hkp; clear hsz hkp; have hb2 := rec_made (Below.refl _ _) hb2; have hB2 := Below.then hB hb2; clear hb2 hat)
            | (refine load_rec 33 _ rfl rfl _ (Rec.vals m) rfl hS2.lies Try.underlying33 size_mem ?_)
            | (go_at_call 15; refine (kc _).mono ?_; clear kc; rintro e w3 ⟨rfl, hb3⟩; have hS3 := hS2.up hb3; have hB3 := Below.then hB2 hb3; have x1 : _ = some (Value.int IntKind.u64 (m.s.eff : Int)) := hS3.cell 1; clear hb3)
            | (go_at_call 17; refine (ka _).mono ?_; clear ka; rintro e w4 ⟨rfl, rfl⟩))
          go_ret3
          exact ⟨by first | rfl | simp, hB3⟩
    · obtain rfl : k = l.length := by omega
      have hy := HY.out
      rw [HS.out.all] at hy
      simp only [Prod.mk.injEq] at hy
      obtain ⟨rfl, rfl, rfl⟩ := hy
      clear HS HR HX HF HBY HY
      go_wp2
      go_ret3
      exact ⟨by first | rfl | simp, hB⟩
theorem mstakes_is (l : List Mem) (A : Option Addr) (c : Nat) (xs : List Nat) (A2 : Option Addr) (c2 : Nat) (w : World) (hr : Row w w.heap.size A (rows l)) (hx : Row w w.heap.size A2 (u8s xs)) (hb : ∀ x ∈ xs, x < 256) (hl : l.length ≤ 1000000) (hf : ∀ m ∈ l, m.s.Fits) :
    Calls Try.prog 6 #[.slice A l.length c, .slice A2 xs.length c2] w fun e w' => e = .returned (.tuple #[.int .u64 ((stk l xs).1 : Int), .int .u64 ((stk l xs).2.1 : Int), .int .i64 ((stk l xs).2.2 : Int)]) ∧ Below w.heap.size w w' :=
  mstakes_of l A c xs A2 c2 _ _ _ w hr hx hb hl hf (Lib.hid rfl)
end Go.Proofs.Ytfmmcklggnflkaa
