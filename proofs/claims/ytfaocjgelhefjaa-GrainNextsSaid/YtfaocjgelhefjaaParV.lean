/- Layer 7 (param), the document's: are parameters right? By contracts. -/
import Derived.Test.YtfaocjgelhefjaaParT
import Derived.Test.YtfaocjgelhefjaaParS0
import Derived.Test.YtfaocjgelhefjaaParS1
import Derived.Test.YtfaocjgelhefjaaParS2
import Derived.Test.YtfaocjgelhefjaaParS3
import Derived.Test.YtfaocjgelhefjaaParS4
import Derived.Test.YtfaocjgelhefjaaParS5
import Derived.Test.YtfaocjgelhefjaaParS6
namespace Go.Proofs.Ytfaocjgelhefjaa
open Go.RowKit
set_option linter.unusedVariables false

theorem ticks_of (p : Par) (T : Nat) (s : Par.Spans p) (h : Par.Halt p T) (w : World) :
    Calls Try.prog 21 #[.agg p.vals] w fun e w' => e = .returned (.int .u64 (T : Int)) ∧ Below w.heap.size w w' :=
  ticks_is p T w (by have := s.inc1; omega) (by have := s.bias1; omega) s.quot1 s.cap1 s.over h
theorem refright_ok (p : Par) (T : Nat) (w : World) (h : Par.Right p T) :
    Calls Try.prog 9 #[.agg p.vals] w fun e w' => e = .returned (.bool true) ∧ Below w.heap.size w w' := by
  have s := h.spans
  have kt := fun w => ticks_of p T s h.halt w
  have hm := h.most
  have hs := h.score
  obtain ⟨s0, s1, s2, s3, s4, s5, s6, s7, s8, s9, s10, s11, s12, s13, s14, s15, s16, s17, s18, s19, s20, s21, s22, s23, s24, s25, s26, s27, s28, s29, s30, s31, s32, s33, s34, s35, s36, s37, s38, s39, s40, s41, s42, s43, s44⟩ := s
  have h_inc : Par.okW (p.inc, 1, 2147483648) = true := (Par.okW_iff _).2 ⟨by simp only; omega, by simp only; omega⟩
  have h_eff : Par.okW (p.maxEff, p.inc, 1099511627776) = true := (Par.okW_iff _).2 ⟨by simp only; omega, by simp only; omega⟩
  have h_whole : p.maxEff % p.inc = 0 := by omega
  have h_floor : p.inc ≤ p.floor := by omega
  have h_over : p.floor < p.cap := by omega
  have h_cap : Par.okW (p.cap, p.maxEff, 1099511627776) = true := (Par.okW_iff _).2 ⟨by simp only; omega, by simp only; omega⟩
  have h_up : Par.okW (p.up, p.inc, 1099511627776) = true := (Par.okW_iff _).2 ⟨by simp only; omega, by simp only; omega⟩
  have h_down : p.down ≤ 1099511627776 := by omega
  have h_bias : Par.okW (p.bias, 1, 4294967296) = true := (Par.okW_iff _).2 ⟨by simp only; omega, by simp only; omega⟩
  have h_biasEm : Par.okW (p.biasEm, p.bias, 4294967296) = true := (Par.okW_iff _).2 ⟨by simp only; omega, by simp only; omega⟩
  have h_quot : Par.okW (p.quot, 1, 1099511627776) = true := (Par.okW_iff _).2 ⟨by simp only; omega, by simp only; omega⟩
  have h_quotEm : Par.okW (p.quotEm, 1, p.quot) = true := (Par.okW_iff _).2 ⟨by simp only; omega, by simp only; omega⟩
  have h_recover : p.recover ≤ 4294967296 := by omega
  have h_score : Par.okW (p.scoreCap, 1, 72057594037927936) = true := (Par.okW_iff _).2 ⟨by simp only; omega, by simp only; omega⟩
  have h_rate : p.rate ≤ 4294967296 := by omega
  have h_bond : p.bond ≤ 1099511627776 := by omega
  have h_delay : Par.okI (p.delay, 0, 1000) = true := (Par.okI_iff _).2 ⟨by simp only; omega, by simp only; omega⟩
  have h_wait : Par.okI (p.wait, 0, 50) = true := (Par.okI_iff _).2 ⟨by simp only; omega, by simp only; omega⟩
  have h_enact : Par.okI (p.enact, 0, 1000) = true := (Par.okI_iff _).2 ⟨by simp only; omega, by simp only; omega⟩
  have h_poll : Par.okI (p.poll, 1, 1000) = true := (Par.okI_iff _).2 ⟨by simp only; omega, by simp only; omega⟩
  have h_streak : Par.okI (p.streak, 0, 64) = true := (Par.okI_iff _).2 ⟨by simp only; omega, by simp only; omega⟩
  have h_boost : Par.okI (p.boost, 0, 1000) = true := (Par.okI_iff _).2 ⟨by simp only; omega, by simp only; omega⟩
  have h_absent : Par.okI (p.absent, 0, 10000) = true := (Par.okI_iff _).2 ⟨by simp only; omega, by simp only; omega⟩
  have h_burn : Par.okI (p.burn, 0, 10000) = true := (Par.okI_iff _).2 ⟨by simp only; omega, by simp only; omega⟩
  have h_quorum : Par.okI (p.quorum, 0, 10000) = true := (Par.okI_iff _).2 ⟨by simp only; omega, by simp only; omega⟩
  have h_churn : Par.okI (p.churn, 1, 64) = true := (Par.okI_iff _).2 ⟨by simp only; omega, by simp only; omega⟩
  exact right_fine p T w h_inc h_eff h_whole h_floor h_over h_cap h_up h_down h_bias h_biasEm h_quot h_quotEm h_recover h_score h_rate h_bond h_delay h_wait h_enact h_poll h_streak h_boost h_absent h_burn h_quorum h_churn kt hm hs
theorem refright_no (p : Par) (w : World) (hn : ¬ ∃ T, Par.Right p T) :
    Calls Try.prog 9 #[.agg p.vals] w fun e w' => e = .returned (.bool false) ∧ Below w.heap.size w w' := by
  by_cases h_inc : Par.okW (p.inc, 1, 2147483648) = true
  case neg => exact right_no_inc p w (eq_false_of_ne_true h_inc)
  by_cases h_eff : Par.okW (p.maxEff, p.inc, 1099511627776) = true
  case neg => exact right_no_eff p w h_inc (eq_false_of_ne_true h_eff)
  by_cases h_whole : p.maxEff % p.inc = 0
  case neg => exact right_no_whole p w h_inc h_eff h_whole
  by_cases h_floor : p.inc ≤ p.floor
  case neg => exact right_no_floor p w h_inc h_eff h_whole h_floor
  by_cases h_over : p.floor < p.cap
  case neg => exact right_no_over p w h_inc h_eff h_whole h_floor h_over
  by_cases h_cap : Par.okW (p.cap, p.maxEff, 1099511627776) = true
  case neg => exact right_no_cap p w h_inc h_eff h_whole h_floor h_over (eq_false_of_ne_true h_cap)
  by_cases h_up : Par.okW (p.up, p.inc, 1099511627776) = true
  case neg => exact right_no_up p w h_inc h_eff h_whole h_floor h_over h_cap (eq_false_of_ne_true h_up)
  by_cases h_down : p.down ≤ 1099511627776
  case neg => exact right_no_down p w h_inc h_eff h_whole h_floor h_over h_cap h_up h_down
  by_cases h_bias : Par.okW (p.bias, 1, 4294967296) = true
  case neg => exact right_no_bias p w h_inc h_eff h_whole h_floor h_over h_cap h_up h_down (eq_false_of_ne_true h_bias)
  by_cases h_biasEm : Par.okW (p.biasEm, p.bias, 4294967296) = true
  case neg => exact right_no_biasEm p w h_inc h_eff h_whole h_floor h_over h_cap h_up h_down h_bias (eq_false_of_ne_true h_biasEm)
  by_cases h_quot : Par.okW (p.quot, 1, 1099511627776) = true
  case neg => exact right_no_quot p w h_inc h_eff h_whole h_floor h_over h_cap h_up h_down h_bias h_biasEm (eq_false_of_ne_true h_quot)
  by_cases h_quotEm : Par.okW (p.quotEm, 1, p.quot) = true
  case neg => exact right_no_quotEm p w h_inc h_eff h_whole h_floor h_over h_cap h_up h_down h_bias h_biasEm h_quot (eq_false_of_ne_true h_quotEm)
  by_cases h_recover : p.recover ≤ 4294967296
  case neg => exact right_no_recover p w h_inc h_eff h_whole h_floor h_over h_cap h_up h_down h_bias h_biasEm h_quot h_quotEm h_recover
  by_cases h_score : Par.okW (p.scoreCap, 1, 72057594037927936) = true
  case neg => exact right_no_score p w h_inc h_eff h_whole h_floor h_over h_cap h_up h_down h_bias h_biasEm h_quot h_quotEm h_recover (eq_false_of_ne_true h_score)
  by_cases h_rate : p.rate ≤ 4294967296
  case neg => exact right_no_rate p w h_inc h_eff h_whole h_floor h_over h_cap h_up h_down h_bias h_biasEm h_quot h_quotEm h_recover h_score h_rate
  by_cases h_bond : p.bond ≤ 1099511627776
  case neg => exact right_no_bond p w h_inc h_eff h_whole h_floor h_over h_cap h_up h_down h_bias h_biasEm h_quot h_quotEm h_recover h_score h_rate h_bond
  by_cases h_delay : Par.okI (p.delay, 0, 1000) = true
  case neg => exact right_no_delay p w h_inc h_eff h_whole h_floor h_over h_cap h_up h_down h_bias h_biasEm h_quot h_quotEm h_recover h_score h_rate h_bond (eq_false_of_ne_true h_delay)
  by_cases h_wait : Par.okI (p.wait, 0, 50) = true
  case neg => exact right_no_wait p w h_inc h_eff h_whole h_floor h_over h_cap h_up h_down h_bias h_biasEm h_quot h_quotEm h_recover h_score h_rate h_bond h_delay (eq_false_of_ne_true h_wait)
  by_cases h_enact : Par.okI (p.enact, 0, 1000) = true
  case neg => exact right_no_enact p w h_inc h_eff h_whole h_floor h_over h_cap h_up h_down h_bias h_biasEm h_quot h_quotEm h_recover h_score h_rate h_bond h_delay h_wait (eq_false_of_ne_true h_enact)
  by_cases h_poll : Par.okI (p.poll, 1, 1000) = true
  case neg => exact right_no_poll p w h_inc h_eff h_whole h_floor h_over h_cap h_up h_down h_bias h_biasEm h_quot h_quotEm h_recover h_score h_rate h_bond h_delay h_wait h_enact (eq_false_of_ne_true h_poll)
  by_cases h_streak : Par.okI (p.streak, 0, 64) = true
  case neg => exact right_no_streak p w h_inc h_eff h_whole h_floor h_over h_cap h_up h_down h_bias h_biasEm h_quot h_quotEm h_recover h_score h_rate h_bond h_delay h_wait h_enact h_poll (eq_false_of_ne_true h_streak)
  by_cases h_boost : Par.okI (p.boost, 0, 1000) = true
  case neg => exact right_no_boost p w h_inc h_eff h_whole h_floor h_over h_cap h_up h_down h_bias h_biasEm h_quot h_quotEm h_recover h_score h_rate h_bond h_delay h_wait h_enact h_poll h_streak (eq_false_of_ne_true h_boost)
  by_cases h_absent : Par.okI (p.absent, 0, 10000) = true
  case neg => exact right_no_absent p w h_inc h_eff h_whole h_floor h_over h_cap h_up h_down h_bias h_biasEm h_quot h_quotEm h_recover h_score h_rate h_bond h_delay h_wait h_enact h_poll h_streak h_boost (eq_false_of_ne_true h_absent)
  by_cases h_burn : Par.okI (p.burn, 0, 10000) = true
  case neg => exact right_no_burn p w h_inc h_eff h_whole h_floor h_over h_cap h_up h_down h_bias h_biasEm h_quot h_quotEm h_recover h_score h_rate h_bond h_delay h_wait h_enact h_poll h_streak h_boost h_absent (eq_false_of_ne_true h_burn)
  by_cases h_quorum : Par.okI (p.quorum, 0, 10000) = true
  case neg => exact right_no_quorum p w h_inc h_eff h_whole h_floor h_over h_cap h_up h_down h_bias h_biasEm h_quot h_quotEm h_recover h_score h_rate h_bond h_delay h_wait h_enact h_poll h_streak h_boost h_absent h_burn (eq_false_of_ne_true h_quorum)
  by_cases h_churn : Par.okI (p.churn, 1, 64) = true
  case neg => exact right_no_churn p w h_inc h_eff h_whole h_floor h_over h_cap h_up h_down h_bias h_biasEm h_quot h_quotEm h_recover h_score h_rate h_bond h_delay h_wait h_enact h_poll h_streak h_boost h_absent h_burn h_quorum (eq_false_of_ne_true h_churn)
  have s : Par.Spans p := by
    have g_inc := (Par.okW_iff _).1 h_inc
    have g_eff := (Par.okW_iff _).1 h_eff
    have g_cap := (Par.okW_iff _).1 h_cap
    have g_up := (Par.okW_iff _).1 h_up
    have g_bias := (Par.okW_iff _).1 h_bias
    have g_biasEm := (Par.okW_iff _).1 h_biasEm
    have g_quot := (Par.okW_iff _).1 h_quot
    have g_quotEm := (Par.okW_iff _).1 h_quotEm
    have g_score := (Par.okW_iff _).1 h_score
    have g_delay := (Par.okI_iff _).1 h_delay
    have g_wait := (Par.okI_iff _).1 h_wait
    have g_enact := (Par.okI_iff _).1 h_enact
    have g_poll := (Par.okI_iff _).1 h_poll
    have g_streak := (Par.okI_iff _).1 h_streak
    have g_boost := (Par.okI_iff _).1 h_boost
    have g_absent := (Par.okI_iff _).1 h_absent
    have g_burn := (Par.okI_iff _).1 h_burn
    have g_quorum := (Par.okI_iff _).1 h_quorum
    have g_churn := (Par.okI_iff _).1 h_churn
    simp only at g_inc g_eff g_cap g_up g_bias g_biasEm g_quot g_quotEm g_score g_delay g_wait g_enact g_poll g_streak g_boost g_absent g_burn g_quorum g_churn
    constructor <;> omega
  obtain ⟨T, hT⟩ := Par.halt_is s.quot0 s.over
  have kt := fun w => ticks_of p T s hT w
  by_cases hm : T ≤ 1048576
  · exact right_small p T w h_inc h_eff h_whole h_floor h_over h_cap h_up h_down h_bias h_biasEm h_quot h_quotEm h_recover h_score h_rate h_bond h_delay h_wait h_enact h_poll h_streak h_boost h_absent h_burn h_quorum h_churn kt hm (fun hs => hn ⟨T, s, hT, hm, hs⟩)
  · exact right_long p T w h_inc h_eff h_whole h_floor h_over h_cap h_up h_down h_bias h_biasEm h_quot h_quotEm h_recover h_score h_rate h_bond h_delay h_wait h_enact h_poll h_streak h_boost h_absent h_burn h_quorum h_churn kt hm
end Go.Proofs.Ytfaocjgelhefjaa
