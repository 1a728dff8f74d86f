/- Law ScoreKeeps (P11.1, P11.2): who is within the parameters stays within them, whatever comes; who is there long enough has the longest streak. No condition. -/
import Derived.Test.YtfdjpaaahekkbaaAwake11
import Derived.Test.YtfdjpaaahekkbaaTick
import Derived.Test.YtfdjpaaahekkbaaParP
import Derived.Test.YtfdjpaaahekkbaaParSb
import Derived.Test.YtfdjpaaahekkbaaParD
import Derived.Test.YtfdjpaaahekkbaaRows
namespace Go.Proofs.Ytfdjpaaahekkbaa.ScoreKeeps
open Go.RowKit Go.ChangeShapes Go.WideShapes Go.ChangeAt
set_option linter.unusedVariables false
set_option linter.unusedSimpArgs false


/-- What is kept, whatever comes. -/
structure Kept (p : Par) (s a : Std) : Prop where
  fits : a.Fits
  bal : a.bal = s.bal
  eff : a.eff = s.eff
  within : Std.within p a
theorem Kept.next {p : Par} {s a : Std} (hp : Par.Spans p) (h : Kept p s a) (x : Bool × Int) :
    ∃ q t, Std.after p x a = ⟨s.bal, s.eff, q, t⟩ ∧ Kept p s ⟨s.bal, s.eff, q, t⟩ := by
  have hf := Std.fits_after x hp h.fits
  have hw := Std.after_within x hp h.within
  have e : Std.after p x a = ⟨s.bal, s.eff, (Std.after p x a).score, (Std.after p x a).streak⟩ := by
    rw [← h.bal, ← h.eff, ← Std.bal_after p x a, ← Std.eff_after p x a]
  rw [e] at hf hw
  exact ⟨_, _, e, hf, rfl, rfl, hw⟩
theorem Kept.first {p : Par} {s : Std} (hp : Par.Spans p) (h : s.Fits) : Kept p s (Std.trim p s) := ⟨Std.fits_trim hp h, rfl, rfl, Std.trim_within hp s⟩
/-- So long there, so long the streak. -/
structure Long (p : Par) (s : Std) (k : Nat) (a : Std) : Prop where
  kept : Kept p s a
  long : min (k : Int) p.streak ≤ a.streak
theorem Long.next {p : Par} {s a : Std} {k : Nat} (hp : Par.Spans p) (h : Long p s k a) : Long p s (k + 1) (Std.after p (true, 1) a) := by
  obtain ⟨q, t, e, hk⟩ := h.kept.next hp (true, 1)
  refine ⟨by rw [e]; exact hk, ?_⟩
  have := Std.there_long h.long
  rw [Int.natCast_add]
  exact this
theorem Long.most {p : Par} {s a : Std} (hp : Par.Spans p) (h : Long p s 64 a) : a.streak = p.streak := by
  have h1 := h.long
  have h2 := hp.streak1
  obtain ⟨_, _, h3⟩ := h.kept.within
  omega


set_option maxRecDepth 100000 in
set_option maxHeartbeats 2000000 in
theorem walk (p : Par) (s : Std) (l : List (Bool × Int)) (A : Option Addr) (c : Nat) (w : World) (hf : p.Fits) (hs : s.Fits) (ho : TicksIn w w.heap.size A l) (hlc : l.length ≤ c) (hcm : c ≤ maxLen) :
    Calls Try.prog 5 #[.agg p.vals, .agg s.vals, .slice A l.length c] w fun e w' => e = .returned (.bool true) ∧ Below w.heap.size w w' := by
  have v15 := p.v15
  by_cases hR : ∃ N, Par.Right p N
  · obtain ⟨N, hN⟩ := hR
    have hc : CheckIs p 0 := fun w => check_ok p N w hN
    have kr := fun w => refright_ok p N w hN
    have sp := hN.spans
    clear hN
    by_cases h1 : 200 < l.length
    · have d1 : decide ((200 : Int) < (l.length : Int)) = true := by simp; omega
      clear h1 hc sp hf hs ho hlc hcm
      go_enter Try.func5, Try.ntmps5
      go_upto_region 1 with fail
      generalize hw0 : World.alloc _ _ = w0
      have hP : ParAt w0 w.heap.size p 24 := by rw [← hw0]; exact (ParAt.new w p _).up ((Below.refl _ _).alloc (Nat.le_refl _) _)
      have hS : StdAt w0 (w.heap.size + 1) s 26 := by rw [← hw0]; exact StdAt.new _ s _ (by simp)
      have hB : Below w.heap.size w w0 := by rw [← hw0]; exact ((Below.refl _ _).alloc (Nat.le_refl _) _).alloc (by simp) _
      clear hw0
      go_wp2_with (first
        | (refine load_par _ rfl rfl _ p _ rfl (by assumption) ?_)
        | (refine load_std _ rfl rfl _ s _ rfl (by assumption) ?_)
        | (go_at_call 6; refine (score_awake _).mono ?_; rintro e w1 ⟨rfl, hb1⟩; have hP := hP.up hb1; have hS := hS.up hb1; have hB := Below.then hB hb1; clear hb1)
        | (go_at_call 11; refine (plain_is p _).mono ?_; rintro e w1 ⟨rfl, hb1⟩; have hP := hP.up hb1; have hS := hS.up hb1; have hB := Below.then hB hb1; clear hb1)
        | (go_at_call 12; refine (kr _).mono ?_; clear kr; rintro e w1 ⟨rfl, hb1⟩; have hP := hP.up hb1; have hS := hS.up hb1; have hB := Below.then hB hb1; clear hb1))
      go_ret
      exact ⟨rfl, hB⟩
    · have d1 : decide ((200 : Int) < (l.length : Int)) = false := by simp; omega
      have kt0 := fun w => trim_ok s p w hc
      have HK := Lib.hid (Kept.first sp hs)
      generalize Std.trim p s = z at *
      have HS := Lib.hid sp
      have HC := Lib.hid hc
      have HT := Lib.hid ho
      have H2 := Lib.hid (show l.length ≤ 200 by omega)
      clear h1 hf hs hc sp ho hlc hcm
      go_enter Try.func5, Try.ntmps5
      go_upto_region 1 with fail
      generalize hw0 : World.alloc _ _ = w0
      have hP : ParAt w0 w.heap.size p 24 := by rw [← hw0]; exact (ParAt.new w p _).up ((Below.refl _ _).alloc (Nat.le_refl _) _)
      have hS : StdAt w0 (w.heap.size + 1) s 26 := by rw [← hw0]; exact StdAt.new _ s _ (by simp)
      have hB : Below w.heap.size w w0 := by rw [← hw0]; exact ((Below.refl _ _).alloc (Nat.le_refl _) _).alloc (by simp) _
      clear hw0
      go_wp2_with (first
        | (refine load_par _ rfl rfl _ p _ rfl (by assumption) ?_)
        | (refine load_std _ rfl rfl _ s _ rfl (by assumption) ?_)
        | (go_at_call 6; refine (score_awake _).mono ?_; rintro e w1 ⟨rfl, hb1⟩; have hP := hP.up hb1; have hS := hS.up hb1; have hB := Below.then hB hb1; clear hb1)
        | (go_at_call 11; refine (plain_is p _).mono ?_; rintro e w1 ⟨rfl, hb1⟩; have hP := hP.up hb1; have hS := hS.up hb1; have hB := Below.then hB hb1; clear hb1)
        | (go_at_call 12; refine (kr _).mono ?_; clear kr; rintro e w1 ⟨rfl, hb1⟩; have hP := hP.up hb1; have hS := hS.up hb1; have hB := Below.then hB hb1; clear hb1)
        | (go_at_call 8; refine (kt0 _).mono ?_; clear kt0; rintro e w1 ⟨rfl, hb1⟩; have hP := hP.up hb1; have hS := hS.up hb1; have hB := Below.then hB hb1; clear hb1)
        | (refine store_std _ _ rfl rfl _ z Std.none 26 rfl rfl (StdAt.new _ Std.none _ rfl) ?_; intro w2 hA hb2; have hpl := hP.lt; have hsl := hS.lt; have hP := hP.up (below_made (Below.refl _ _) hb2); have hS := hS.up (below_made (Below.refl _ _) hb2); have hB := below_made hB hb2; clear hb2))
      clear d1
      have hP2 := hP
      have hS2 := hS
      go_loopw [26] (fun jv wr => ∃ (k : Nat) (a : Std), k ≤ l.length ∧ jv = .int .i64 (k : Int) ∧ Hid (Kept p s a) ∧ StdAt wr w1.heap.size a 26 ∧ Below w1.heap.size w2 wr) (fun jv _ => l.length - (intOf jv).toNat)
      case atStart => exact ⟨0, z, Nat.zero_le _, rfl, HK, hA, Below.refl _ _⟩
      case round =>
        obtain ⟨k, a, hk, rfl, HU, hA, hBr⟩ := hrel
        have hP := hP.below hBr hpl
        have hS := hS.below hBr hsl
        by_cases hlt : k < l.length
        · have hc := HC.out
          have sp := HS.out
          have hki : (k : Int) < (l.length : Int) := by omega
          have hk0 : (0 : Int) ≤ (k : Int) := by omega
          obtain ⟨x, hx⟩ : ∃ x, l[k]? = some x := ⟨_, List.getElem?_eq_getElem hlt⟩
          obtain ⟨ad, rfl, _, c0, c1⟩ := (HT.out.below (hB.trans (hBr.mono (Nat.le_of_lt hpl)))) k x hx
          rw [← Addr.add_add] at c1
          obtain ⟨q, t, hq, hU⟩ := HU.out.next sp x
          have ka := fun w => after_ok a p x.1 x.2 w hc sp HU.out.fits
          have kt := fun w => trim_ok (⟨s.bal, s.eff, q, t⟩ : Std) p w hc
          rw [show Std.after p (x.1, x.2) a = (⟨s.bal, s.eff, q, t⟩ : Std) from hq] at ka
          rw [Std.trim_of hU.within] at kt
          have HN := Lib.hid hU
          have HB := Lib.hid (show Below w.heap.size w w2 from hB)
          have KT := Lib.hid kt
          have HX := Lib.hid hx
          clear hq hU hc sp kt hx hB
          go_upto_region 9 with (first
            | (refine load_tick_at _ rfl rfl _ x rfl c0 c1 ?_)
            | (refine store_tick _ _ rfl rfl _ x (false, 0) 28 rfl rfl (TickAt.new _ (false, 0) _ rfl) ?_; intro w6 hX hb6; have hm6 := below_made (Below.refl _ _) hb6; have hBr := hBr.trans (hm6.mono (Nat.le_of_lt hA.lt)); have hP := hP.up hm6; have hS := hS.up hm6; have hA := hA.up hm6; clear hb6 hm6; have x0 := hX.c0; have x1 := hX.c1))
          clear c0 c1
          go_upto_region 10 with (first
            | (refine load_par _ rfl rfl _ p _ rfl (by assumption) ?_)
            | (refine load_std _ rfl rfl _ a _ rfl (by assumption) ?_)
            | (go_at_call 7; refine (ka _).mono ?_; clear ka; rintro e w3 ⟨rfl, hb3⟩; have hBr := hBr.trans (hb3.mono (Nat.le_of_lt hA.lt)); have hP := hP.up hb3; have hS := hS.up hb3; have hA := hA.up hb3; clear hb3)
            | (refine store_std' _ _ rfl rfl _ (⟨s.bal, s.eff, q, t⟩ : Std) a 26 rfl rfl hA ?_; intro w5 hA hb5 hz5 hk5; have hP := hP.below hb5 hpl; have hS := hS.below hb5 hsl; have hBr := hBr.trans hb5; clear hb5 hz5 hk5))
          have cells : ∀ w', Below w5.heap.size w5 w' → ParAt w' w.heap.size p 24 := fun w' h => hP.up h
          have aells : ∀ w', Below w5.heap.size w5 w' → StdAt w' w1.heap.size (⟨s.bal, s.eff, q, t⟩ : Std) 26 := fun w' h => hA.up h
          have sells : ∀ w', Below w5.heap.size w5 w' → StdAt w' (w.heap.size + 1) s 26 := fun w' h => hS.up h
          have hAl := hA.lt
          clear hP hS hX x0 x1
          have kt := KT.out
          refine region_list [] (fun _ w' => Below w5.heap.size w5 w') (by kernel_rfl) (by kernel_rfl) (Below.refl _ _).drew ?_
          refine SeqS.take _ (by rfl) (by rfl) (fun ph w' hS => exec_load_par _ rfl _ _ _ rfl (cells w' hS)) ?_
          simp only [Act.put, List.setIfInBounds_toArray, List.set_cons_zero, List.set_cons_succ]
          refine SeqS.take _ (by rfl) (by rfl) (fun ph w' hS => exec_load_std _ rfl _ _ _ rfl (aells w' hS)) ?_
          simp only [Act.put, List.setIfInBounds_toArray, List.set_cons_zero, List.set_cons_succ]
          refine SeqS.call (below_call (Nat.le_refl _) (fun w _ => kt w)) (by rfl) (by rfl) (fun w => ?_) ?_; · go_simp
          simp only [Act.put, List.setIfInBounds_toArray, List.set_cons_zero, List.set_cons_succ]
          refine SeqS.take _ (by rfl) (by rfl) (fun ph w' hS => exec_load_std _ rfl _ _ _ rfl (aells w' hS)) ?_
          simp only [Act.put, List.setIfInBounds_toArray, List.set_cons_zero, List.set_cons_succ]
          refine SeqS.calm _ (by rfl) (by rfl) (fun w => exec_neq_std w _ _ _ rfl _ rfl rfl) ?_
          simp only [Act.put, List.setIfInBounds_toArray, List.set_cons_zero, List.set_cons_succ]
          iterate 2 ((refine' SeqS.calm _ (by rfl) (by rfl) (fun w => ?_) ?_; rotate_left; · (go_simp <;> with_reducible rfl)); simp only [Act.put, List.setIfInBounds_toArray, List.set_cons_zero, List.set_cons_succ])
          refine' SeqS.take _ (by rfl) (by rfl) (fun ph w' hS => ?_) ?_; rotate_left; · (have n0 : w'.cell? ⟨w1.heap.size, 0, none⟩ = some (.int .u64 (s.bal : Int)) := (aells w' hS).c0; have n1 : w'.cell? ⟨w1.heap.size, 1, none⟩ = some (.int .u64 (s.eff : Int)) := (aells w' hS).c1; have s0 := (sells w' hS).c0; have s1 := (sells w' hS).c1; go_simp <;> with_reducible rfl)
          simp only [Act.put, List.setIfInBounds_toArray, List.set_cons_zero, List.set_cons_succ]
          refine' SeqS.calm _ (by rfl) (by rfl) (fun w => ?_) ?_; rotate_left; · (go_simp <;> with_reducible rfl)
          simp only [Act.put, List.setIfInBounds_toArray, List.set_cons_zero, List.set_cons_succ]
          refine' SeqS.take _ (by rfl) (by rfl) (fun ph w' hS => ?_) ?_; rotate_left; · (have n0 : w'.cell? ⟨w1.heap.size, 0, none⟩ = some (.int .u64 (s.bal : Int)) := (aells w' hS).c0; have n1 : w'.cell? ⟨w1.heap.size, 1, none⟩ = some (.int .u64 (s.eff : Int)) := (aells w' hS).c1; have s0 := (sells w' hS).c0; have s1 := (sells w' hS).c1; go_simp <;> with_reducible rfl)
          simp only [Act.put, List.setIfInBounds_toArray, List.set_cons_zero, List.set_cons_succ]
          iterate 4 ((refine' SeqS.calm _ (by rfl) (by rfl) (fun w => ?_) ?_; rotate_left; · (go_simp <;> with_reducible rfl)); simp only [Act.put, List.setIfInBounds_toArray, List.set_cons_zero, List.set_cons_succ])
          refine' SeqS.take _ (by rfl) (by rfl) (fun ph w' hS => ?_) ?_; rotate_left; · (have n0 : w'.cell? ⟨w1.heap.size, 0, none⟩ = some (.int .u64 (s.bal : Int)) := (aells w' hS).c0; have n1 : w'.cell? ⟨w1.heap.size, 1, none⟩ = some (.int .u64 (s.eff : Int)) := (aells w' hS).c1; have s0 := (sells w' hS).c0; have s1 := (sells w' hS).c1; go_simp <;> with_reducible rfl)
          simp only [Act.put, List.setIfInBounds_toArray, List.set_cons_zero, List.set_cons_succ]
          refine' SeqS.calm _ (by rfl) (by rfl) (fun w => ?_) ?_; rotate_left; · (go_simp <;> with_reducible rfl)
          simp only [Act.put, List.setIfInBounds_toArray, List.set_cons_zero, List.set_cons_succ]
          refine' SeqS.take _ (by rfl) (by rfl) (fun ph w' hS => ?_) ?_; rotate_left; · (have n0 : w'.cell? ⟨w1.heap.size, 0, none⟩ = some (.int .u64 (s.bal : Int)) := (aells w' hS).c0; have n1 : w'.cell? ⟨w1.heap.size, 1, none⟩ = some (.int .u64 (s.eff : Int)) := (aells w' hS).c1; have s0 := (sells w' hS).c0; have s1 := (sells w' hS).c1; go_simp <;> with_reducible rfl)
          simp only [Act.put, List.setIfInBounds_toArray, List.set_cons_zero, List.set_cons_succ]
          iterate 2 ((refine' SeqS.calm _ (by rfl) (by rfl) (fun w => ?_) ?_; rotate_left; · (go_simp <;> with_reducible rfl)); simp only [Act.put, List.setIfInBounds_toArray, List.set_cons_zero, List.set_cons_succ])
          intro w7 hw7
          have hBr := hBr.trans (hw7.mono (Nat.le_of_lt hAl))
          have hA := aells w7 hw7
          have h2 := H2.out
          have e1 : IntKind.i64.wrap ((k : Int) + 1) = (k : Int) + 1 := IntWalk.i64_in _ (by omega)
          clear cells aells sells kt
          go_wp2
          go_roundw
          case rel => exact ⟨k + 1, (⟨s.bal, s.eff, q, t⟩ : Std), hlt, by go_num, HN, hA, hBr⟩
          case measure => simp [intOf]; omega
        · obtain rfl : k = l.length := by omega
          have HL := Lib.hid (show Long p s 0 a from ⟨HU.out, by have := HS.out.streak0; have := HU.out.within.2.1; omega⟩)
          go_upto_region 14 with fail
          go_loopw [57] (fun jv ws => ∃ (k : Nat) (a : Std), k ≤ 64 ∧ jv = .int .i64 (k : Int) ∧ Hid (Long p s k a) ∧ StdAt ws w1.heap.size a 26 ∧ Below w1.heap.size w2 ws) (fun jv _ => 64 - (intOf jv).toNat)
          case atStart => exact ⟨0, a, Nat.zero_le _, rfl, HL, hA, hBr⟩
          case round =>
            clear hP hS hBr hA HL HU
            obtain ⟨k, a, hk, rfl, HU, hA, hBr⟩ := hrel
            have hP := hP2.below hBr hpl
            by_cases hlt : k < 64
            · have ka := fun w => after_ok a p true 1 w HC.out HS.out HU.out.kept.fits
              have HN := Lib.hid (HU.out.next HS.out)
              have hki : (k : Int) < 64 := by omega
              have e1 : IntKind.i64.wrap ((k : Int) + 1) = (k : Int) + 1 := IntWalk.i64_in _ (by omega)
              have hB2 := Lib.hid hB
              generalize Std.after p (true, 1) a = b at *
              clear hS2 hP2 hB
              go_wp2_with (first
                | (refine load_par _ rfl rfl _ p _ rfl (by assumption) ?_)
                | (refine load_std _ rfl rfl _ a _ rfl (by assumption) ?_)
                | (go_at_call 7; refine (ka _).mono ?_; clear ka; rintro e w3 ⟨rfl, hb3⟩; have hBr := hBr.trans (hb3.mono (Nat.le_of_lt hA.lt)); have hA := hA.up hb3; clear hb3)
                | (refine store_std _ _ rfl rfl _ b a 26 rfl rfl hA ?_; intro w5 hA hb5; have hBr := hBr.trans hb5; clear hb5))
              go_roundw
              case rel => exact ⟨k + 1, b, hlt, by go_num, HN, hA, hBr⟩
              case measure => simp [intOf]; omega
            · obtain rfl : k = 64 := by omega
              have c3 := hA.c3
              rw [HU.out.most HS.out] at c3
              have p15 := (hP.cell 15).trans v15
              go_wp2
              go_ret
              exact ⟨rfl, hB.trans (hBr.mono (Nat.le_of_lt hpl))⟩
  · have kr := fun w => refright_no p w hR
    clear hR hf hs ho hlc hcm
    go_enter Try.func5, Try.ntmps5
    go_upto_region 1 with fail
    generalize hw0 : World.alloc _ _ = w0
    have hP : ParAt w0 w.heap.size p 24 := by rw [← hw0]; exact (ParAt.new w p _).up ((Below.refl _ _).alloc (Nat.le_refl _) _)
    have hS : StdAt w0 (w.heap.size + 1) s 26 := by rw [← hw0]; exact StdAt.new _ s _ (by simp)
    have hB : Below w.heap.size w w0 := by rw [← hw0]; exact ((Below.refl _ _).alloc (Nat.le_refl _) _).alloc (by simp) _
    clear hw0
    go_wp2_with (first
      | (refine load_par _ rfl rfl _ p _ rfl (by assumption) ?_)
      | (refine load_std _ rfl rfl _ s _ rfl (by assumption) ?_)
      | (go_at_call 6; refine (score_awake _).mono ?_; rintro e w1 ⟨rfl, hb1⟩; have hP := hP.up hb1; have hS := hS.up hb1; have hB := Below.then hB hb1; clear hb1)
      | (go_at_call 11; refine (plain_is p _).mono ?_; rintro e w1 ⟨rfl, hb1⟩; have hP := hP.up hb1; have hS := hS.up hb1; have hB := Below.then hB hb1; clear hb1)
      | (go_at_call 12; refine (kr _).mono ?_; clear kr; rintro e w1 ⟨rfl, hb1⟩; have hP := hP.up hb1; have hS := hS.up hb1; have hB := Below.then hB hb1; clear hb1))
    go_ret
    exact ⟨rfl, hB⟩


theorem own : ownKnob Try.prog.godebug = none := by kernel_rfl
theorem laidOut : laidOutB Try.prog = true := by kernel_rfl

set_option maxRecDepth 100000 in
theorem lifted (os : Os) (started : os.Started) (H : Type) (enc : TypeId × Value → H) :
    ReturnsInHanded {} Try.checked os 5 .any (Rows.scoreKeepsSpec.pre6 enc Try.prog Try.f5 Rows.scoreKeepsRow.domain false) (Rows.scoreKeepsSpec.post enc Try.prog Try.f5 false true false false) := by
  refine returnsInHanded_of_change (C := Try.checked) own started (by kernel_rfl) Try.func5
    (ChangeSpec.witness6 (enc := enc) (C := Try.checked) false ⟨#[], #[.agg #[.int .u64 0, .int .u64 0, .int .u64 0, .int .u64 0, .int .u64 0, .int .u64 0, .int .u64 0, .int .u64 0, .int .u64 0, .int .u64 0, .int .u64 0, .int .u64 0, .int .u64 0, .int .u64 0, .int .i64 0, .int .i64 0, .int .i64 0, .int .i64 0, .int .i64 0, .int .i64 0, .int .i64 0, .int .i64 0, .int .i64 0, .int .i64 0], .agg #[.int .u64 0, .int .u64 0, .int .u64 0, .int .i64 0], .slice none 0 0], []⟩ 8 (by kernel_rfl) (by kernel_rfl) (by kernel_rfl) (by kernel_rfl)) ?_
  intro W base args ds gs before hval0 hW hcnd _
  have hval : ∀ (j : Nat) t v, Try.f5.params[j]? = some t → args[j]? = some v → Value.okWide Try.prog W .any base t v := hval0
  have hW' := hW
  obtain ⟨p, q, hA0, hV, rfl, hfz, hnd⟩ := hW
  have hlt : ∀ x ∈ p ++ q, x.block < W.heap.size := fun x hx => hW'.lt x hx
  have hA : DataW.TrodAll enc Try.prog W 0 (fun _ => true) true Try.f5.params.toList args.toList ds p := hA0
  rw [Try.params5] at hA hval
  obtain ⟨v0, vs0, d0, ds0, p0, q0, hargs, rfl, rfl, h0, r0⟩ := trodAll_cons hA
  obtain ⟨v1, vs1, d1, ds1, p1, q1, rfl, rfl, rfl, h1, r1⟩ := trodAll_cons r0
  obtain ⟨v2, vs2, d2, ds2, p2, q2, rfl, rfl, rfl, h2, r2⟩ := trodAll_cons r1
  obtain ⟨rfl, rfl, rfl⟩ := trodAll_nil r2
  obtain rfl : args = #[v0, v1, v2] := by cases args; simp_all
  obtain ⟨rfl, rfl⟩ := trodVars_none hV
  obtain ⟨a0, rfl, f0⟩ := open_par (hval 0 24 v0 rfl rfl) h0
  obtain ⟨a1, rfl, f1⟩ := open_std (hval 1 26 v1 rfl rfl) h1
  obtain ⟨A2, n2, c2, rfl⟩ := okWide_slice Try.underlying42 (hval 2 42 v2 rfl rfl)
  obtain ⟨l2, hl2, hc2, hm2, ho2⟩ := open_ticks h2
  subst hl2
  clear hA0 hval0
  refine (walk a0 a1 l2 A2 c2 W f0 f1 ho2 hc2 hm2).mono fun e W' ⟨he, hg⟩ => ?_
  subst he
  exact ⟨_, rfl, law_post laidOut (by kernel_rfl) rfl rfl Try.underlying4 rfl hW' hg⟩

theorem over : Rows.scoreKeepsRow.holds Try.pinned (OpenSpec.ofChange Rows.scoreKeepsSpec) :=
  OpenClaim.holds_of_wide 5 Try.f5 rfl rfl rfl rfl rfl rfl rfl ⟨rfl, rfl, rfl, rfl, rfl⟩ rfl rfl rfl rfl rfl (by kernel_rfl) Try.func5 (by kernel_rfl)
    (of_decide_eq_true (by kernel_rfl)) (by unfold Func.isWrapper; first | (rw [if_pos (by decide +kernel)]; kernel_rfl) | (rw [if_neg (by decide +kernel)]; exact ⟨rfl, rfl⟩))
    (fun os started H enc _ => lifted os started H enc)

/-- The statement. -/
theorem proved : Rows.ScoreKeepsSaid := over
#print axioms proved

end Go.Proofs.Ytfdjpaaahekkbaa.ScoreKeeps
