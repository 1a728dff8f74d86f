/- Layer 20 (roll): the document's marks with more of them. By contracts. -/
import Derived.Test.YtbahcbnnogdmfaaRolA
namespace Go.Proofs.Ytbahcbnnogdmfaa
open Go.RowKit
set_option linter.unusedVariables false
set_option linter.unusedSimpArgs false

theorem answers_true {p : Prop} {e : Ending} (h : Answers p e) (hp : p) : e = .returned (.bool true) := by
  obtain ⟨r, rfl, hr⟩ := h
  rw [hr.2 hp]
theorem answers_false {p : Prop} {e : Ending} (h : Answers p e) (hp : ¬ p) : e = .returned (.bool false) := by
  obtain ⟨r, rfl, hr⟩ := h
  cases r with
  | true => exact absurd (hr.1 rfl) hp
  | false => rfl

set_option maxRecDepth 100000 in
set_option maxHeartbeats 1000000 in
theorem rmark_is (ms fs : List Nat) (n : Int) (A A' : Option Addr) (c c' : Nat) (w : World) (hm : Lies w (· < w.heap.size) A ms) (hb : ∀ x ∈ ms, x < 256) (hf : Lies w (· < w.heap.size) A' fs) (hb' : ∀ x ∈ fs, x < 256) (hl : ms.length ≤ 100000) (hl' : fs.length ≤ 100000) :
    Calls Try.prog 8 #[.slice A ms.length c, .slice A' fs.length c', .int .i64 n] w fun e w' => BytesOf w (marked ms fs n) e w' := by
  have kr := rright_is ms _ A c w hm hb hl
  by_cases hM : IsMarks ms
  · have kr : Calls Try.prog 11 #[.slice A ms.length c] w fun e w' => e = .returned (.bool true) ∧ w = w' := kr.mono fun e w' h => ⟨answers_true h.1 hM, h.2⟩
    by_cases h0 : n < 0
    · rw [marked_no (fun h => by have := h.2.2.1; omega)]
      have hD : decide (n < 0) = true := decide_eq_true h0
      clear hM hm hb hf hb'
      go_enter Try.func8, Try.ntmps8
      go_wp2_with (go_at_call 11; refine kr.mono ?_; clear kr; rintro e w1 ⟨rfl, rfl⟩)
      refine bodyPost_ret (v := .tuple #[.slice none 0 0, .int .i64 60]) (by simp [results, Try.results8, go_sem]) rfl (BytesOf.none 60 (Below.refl _ _))
    · have hD : decide (n < 0) = false := decide_eq_false h0
      by_cases h1 : 128 < n
      · rw [marked_no (fun h => by have := h.2.1; omega)]
        have hD1 : decide ((128 : Int) < n) = true := decide_eq_true h1
        have h0' : 0 ≤ n := by omega
        clear hM hm hb hf hb' h0
        go_enter Try.func8, Try.ntmps8
        go_wp2_with (go_at_call 11; refine kr.mono ?_; clear kr; rintro e w1 ⟨rfl, rfl⟩)
        refine bodyPost_ret (v := .tuple #[.slice none 0 0, .int .i64 60]) (by simp [results, Try.results8, go_sem]) rfl (BytesOf.none 60 (Below.refl _ _))
      · have hD1 : decide ((128 : Int) < n) = false := decide_eq_false h1
        have h0' : 0 ≤ n := by omega
        have h1' : n ≤ 128 := by omega
        have kf := right_ok fs _ A' c' n w hf hb' hl'
        by_cases hF : FieldI fs n
        · have kf : Calls Try.prog 22 #[.slice A' fs.length c', .int .i64 n] w fun e w' => e = .returned (.bool true) ∧ w = w' := kf.mono fun e w' h => ⟨answers_true h.1 hF, h.2⟩
          rw [marked_yes hM h1' hF]
          have hpk := mbits_packed hM h1' hF hb hb'
          have kg : ∀ (k : Nat), k ≤ 1000000 → ∀ W, Below w.heap.size w W → Calls Try.prog 19 #[.slice A ms.length c, .int .i64 (k : Int)] W fun e w' => e = .returned (.bool (bitAt ms k)) ∧ W = w' := by
            intro k hk W hB
            have := rget_ok ms (· < w.heap.size) A c (k : Int) W (hm.hold fun p hp => hB.cell hp) hb (by omega)
            rwa [bitI_nat] at this
          have kg' : ∀ (k : Nat), k ≤ 1000000 → ∀ W, Below w.heap.size w W → Calls Try.prog 19 #[.slice A' fs.length c', .int .i64 (k : Int)] W fun e w' => e = .returned (.bool (bitAt fs k)) ∧ W = w' := by
            intro k hk W hB
            have := rget_ok fs (· < w.heap.size) A' c' (k : Int) W (hf.hold fun p hp => hB.cell hp) hb' (by omega)
            rwa [bitI_nat] at this
          have KG := Lib.hid kg
          have KG' := Lib.hid kg'
          have HPK := Lib.hid hpk
          obtain ⟨i0, hi0, hz0, hz1, hz2⟩ := info_parts bool_info
          clear hM hm hb hf hb' h0 h1 hF kg kg' hpk hl hl'
          go_enter Try.func8, Try.ntmps8
          go_wp2_with (first
            | (go_at_call 11; refine kr.mono ?_; clear kr; rintro e w1 ⟨rfl, rfl⟩)
            | (go_at_call 22; refine kf.mono ?_; clear kf; rintro e w1 ⟨rfl, rfl⟩))
          go_loopw [8, 9] (fun ov iv wr => ∃ (k : Nat) (vo : Value), k ≤ 128 ∧ iv = .int .i64 (k : Int) ∧ vo = ov ∧ wr.ownsRow w.heap.size 4 1 vo k (bools (mbits ms fs k)) ∧ Below w.heap.size w wr) (fun _ iv _ => 128 - (intOf iv).toNat)
          case atStart => exact ⟨0, _, Nat.zero_le _, rfl, rfl, World.ownsRow_nil _ _ _ _, Below.refl _ _⟩
          case round =>
            obtain ⟨k, vo, hk, rfl, rfl, hown, hBr⟩ := hrel
            by_cases hlt : k < 128
            · have kk := KG.out k (by omega) wr hBr
              have kk' := KG'.out k (by omega) wr hBr
              have hkI : (k : Int) < 128 := by omega
              have hsz := hBr.size
              have hsu := mbits_succ ms fs k
              obtain ⟨b, hb⟩ : ∃ b, bitAt ms k = b := ⟨_, rfl⟩
              obtain ⟨b', hb'⟩ : ∃ b, bitAt fs k = b := ⟨_, rfl⟩
              rw [hb] at kk hsu
              rw [hb'] at kk' hsu
              have HSU := Lib.hid hsu
              clear KG KG' hb hb' hsu
              cases b
              · rw [Bool.false_or] at HSU
                go_wp2_with (first
                  | (go_at_call 19; refine kk.mono ?_; clear kk; rintro e w' ⟨rfl, rfl⟩)
                  | (go_at_call 19; refine kk'.mono ?_; clear kk'; rintro e w' ⟨rfl, rfl⟩)
                  | (at_builtin; refine wpList_append_own _ rfl _ _ 43 rfl w.heap.size 4 i0 (.bool false) 1 1 Try.underlying43 hi0 hz0 hz1 hz2 rfl (by decide) _ _ _ rfl (hown.alloc _) ⟨wr.heap.size, 0, none⟩ 1 1 [.bool b'] rfl rfl ?c1 ?c2 ?c3 ?c4 ?c5 ?_))
                case c1 => exact new_first _ _ _
                case c2 => intro u hu; simp at hu; subst hu; rfl
                case c3 => simp only [maxLen]; omega
                case c4 => omega
                case c5 => simp; omega
                intro v' w3 hown' hgrow _
                have hb' := app_below hBr hsz hown hgrow
                clear hgrow hown
                go_wp2
                go_roundw
                case rel =>
                  refine ⟨k + 1, _, by omega, by go_num, rfl, ?_, hb'⟩
                  rw [HSU.out, bools_snoc]
                  exact hown'
                case measure => simp [intOf]; omega
              · rw [Bool.true_or] at HSU
                clear kk'
                go_wp2_with (first
                  | (go_at_call 19; refine kk.mono ?_; clear kk; rintro e w' ⟨rfl, rfl⟩)
                  | (at_builtin; refine wpList_append_own _ rfl _ _ 43 rfl w.heap.size 4 i0 (.bool false) 1 1 Try.underlying43 hi0 hz0 hz1 hz2 rfl (by decide) _ _ _ rfl (hown.alloc _) ⟨wr.heap.size, 0, none⟩ 1 1 [.bool true] rfl rfl ?c1 ?c2 ?c3 ?c4 ?c5 ?_))
                case c1 => exact new_first _ _ _
                case c2 => intro u hu; simp at hu; subst hu; rfl
                case c3 => simp only [maxLen]; omega
                case c4 => omega
                case c5 => simp; omega
                intro v' w3 hown' hgrow _
                have hb' := app_below hBr hsz hown hgrow
                clear hgrow hown
                go_wp2
                go_roundw
                case rel =>
                  refine ⟨k + 1, _, by omega, by go_num, rfl, ?_, hb'⟩
                  rw [HSU.out, bools_snoc]
                  exact hown'
                case measure => simp [intOf]; omega
            · obtain rfl : k = 128 := by omega
              obtain ⟨A2, c2, rfl, hc2, hm2, hr2⟩ := Row.of_own hown
              have kp := rpack_ok (mbits ms fs 128) A2 c2 wr hr2 (by rw [mbits_len]; omega)
              rw [mbits_len] at kp
              have HPK := Lib.hid HPK.out
              clear KG KG' hown hr2
              go_wp2_with (go_at_call 23; refine kp.mono ?_; clear kp; rintro e w3 ⟨v, rfl, ho3, hb3⟩)
              refine bodyPost_ret (v := .tuple #[v, .int .i64 0]) (by simp [results, Try.results8, go_sem]) rfl ⟨_, rfl, ?_, hBr.trans (hb3.mono hBr.size)⟩
              show w3.ownsRow w.heap.size 5 1 v (joined ms (wide fs)).length (u8s (joined ms (wide fs)))
              rw [HPK.out]
              exact own_base ho3 hBr.size
        · have kf : Calls Try.prog 22 #[.slice A' fs.length c', .int .i64 n] w fun e w' => e = .returned (.bool false) ∧ w = w' := kf.mono fun e w' h => ⟨answers_false h.1 hF, h.2⟩
          rw [marked_no (fun h => hF h.2.2)]
          clear hM hm hb hf hb' h0 h1 hF
          go_enter Try.func8, Try.ntmps8
          go_wp2_with (first
            | (go_at_call 11; refine kr.mono ?_; clear kr; rintro e w1 ⟨rfl, rfl⟩)
            | (go_at_call 22; refine kf.mono ?_; clear kf; rintro e w1 ⟨rfl, rfl⟩))
          refine bodyPost_ret (v := .tuple #[.slice none 0 0, .int .i64 60]) (by simp [results, Try.results8, go_sem]) rfl (BytesOf.none 60 (Below.refl _ _))
  · have kr : Calls Try.prog 11 #[.slice A ms.length c] w fun e w' => e = .returned (.bool false) ∧ w = w' := kr.mono fun e w' h => ⟨answers_false h.1 hM, h.2⟩
    rw [marked_no (fun h => hM h.1)]
    clear hM hm hb hf hb'
    go_enter Try.func8, Try.ntmps8
    go_wp2_with (go_at_call 11; refine kr.mono ?_; clear kr; rintro e w1 ⟨rfl, rfl⟩)
    refine bodyPost_ret (v := .tuple #[.slice none 0 0, .int .i64 60]) (by simp [results, Try.results8, go_sem]) rfl (BytesOf.none 60 (Below.refl _ _))
end Go.Proofs.Ytbahcbnnogdmfaa
