/- The reference of layer 5 (coder): more of a reader. By contracts. -/
import Derived.Test.YtmagjfjmaojemaaCoderY
import Derived.Deep.RegionHeld3
import Derived.Laws.AppendOwnNone
namespace Go.Proofs.Ytmagjfjmaojemaa
open Go.RowKit
set_option linter.unusedVariables false
set_option linter.unusedSimpArgs false

theorem RR.trans {w w1 w2 : World} {d B : Nat} {bs : List Nat} {s s' : Nat × Nat} {A : Option Addr} {c : Nat} (h : RR w d B bs s A c w1) (k : RR w1 d B bs s' A c w2) : RR w d B bs s' A c w2 := ⟨k.1, grown_trans h.2 k.2⟩

theorem rdNum_max {bs : List Nat} {p n c e : Nat} (hs : scan 0 0 (bs.drop p) = (n, c, e)) (hn : n < 18446744073709551616) : rdNum bs (p, 0) 18446744073709551615 = if e ≠ 0 then (0, (p, e)) else (n, (p + c, 0)) := by
  unfold rdNum
  rw [if_neg (by simp)]
  simp only [hs]
  by_cases h : e ≠ 0
  · rw [if_pos h, if_pos h]
  · rw [if_neg h, if_neg h, if_neg (by omega)]
theorem rdInt_nat {bs : List Nat} {s : Nat × Nat} {mo : Nat} : rdInt bs s (mo : Int) = rdNum bs s mo := by
  unfold rdInt rdNum
  by_cases h1 : s.2 ≠ 0
  · rw [if_pos h1, if_pos h1]
  · rw [if_neg h1, if_neg h1]
    by_cases h2 : (scan 0 0 (bs.drop s.1)).2.2 ≠ 0
    · rw [if_pos h2, if_pos h2]
    · rw [if_neg h2, if_neg h2]
      by_cases h3 : mo < (scan 0 0 (bs.drop s.1)).1
      · rw [if_pos (by omega), if_pos h3]
      · rw [if_neg (by omega), if_neg h3]

theorem rdNum_le {bs : List Nat} {s : Nat × Nat} {mo : Nat} : (rdNum bs s mo).1 ≤ mo := by
  unfold rdNum
  split
  · exact Nat.zero_le _
  · split
    · exact Nat.zero_le _
    · split
      · exact Nat.zero_le _
      · simp only; omega

set_option maxRecDepth 100000 in
set_option maxHeartbeats 2000000 in
theorem refrint_is (d B : Nat) (bs : List Nat) (s : Nat × Nat) (A : Option Addr) (cp : Nat) (most : Int) (w : World) (hR : RefR w d B bs s A cp) (h0 : -9223372036854775808 ≤ most) (h1 : most ≤ 9223372036854775807) :
    Calls Try.prog 24 #[.pointer (some ⟨d, 0, none⟩), .int .i64 most] w fun ev w' => ev = .returned (.int .i64 ((rdInt bs s most).1 : Int)) ∧ RR w d B bs (rdInt bs s most).2 A cp w' := by
  by_cases hneg : most < 0
  · obtain ⟨p, e0⟩ := s
    obtain ⟨c0, c1, c2, f1, f2⟩ := hR.cells
    simp only at c1 c2
    have kn := refnum_is d B bs (p, e0) A cp 18446744073709551615 w hR (by omega)
    by_cases he : e0 = 0
    · subst he
      obtain ⟨n, c, e, hs, hcs⟩ := scan_two (l := bs.drop p) (fun x hx => hR.bytes x (List.mem_of_mem_drop hx))
      have hn : n < 18446744073709551616 := by rcases hcs with h | h <;> omega
      rw [rdNum_max hs hn] at kn
      rw [rdInt_parts most hs]
      have HCS := Lib.hid hcs
      clear hs hcs
      by_cases he0 : e = 0
      · subst he0
        rw [if_neg (by simp), if_pos (.inl hneg)]
        rw [if_neg (by simp)] at kn
        go_enter Try.func24, Try.ntmps24
        go_wp2_with (go_at_call 22; refine kn.mono ?_; clear kn; rintro ev w1 ⟨rfl, hR1, hg1⟩; obtain ⟨d0, d1, d2, g1, g2⟩ := hR1.cells; simp only at d1 d2)
        have hR2 := hR1.moved p hR.place
        have hR3 := hR2.1.stopped 51 (by omega)
        exact bodyPost_ret (v := .int .i64 0) (by simp [results, Try.results24, go_sem]) rfl ⟨rfl, (RR.trans ⟨hR1, hg1⟩ hR2).trans hR3⟩
      · rw [if_pos he0] at kn ⊢
        have he1 : ((e : Int) != 0) = true := by simp; omega
        have he2 : ((e : Int) == 0) = false := by simp; omega
        clear he0
        go_enter Try.func24, Try.ntmps24
        go_wp2_with (go_at_call 22; refine kn.mono ?_; clear kn; rintro ev w1 ⟨rfl, hR1, hg1⟩; obtain ⟨d0, d1, d2, g1, g2⟩ := hR1.cells; simp only at d1 d2)
        have hR2 := hR1.moved p hR.place
        exact bodyPost_ret (v := .int .i64 0) (by simp [results, Try.results24, go_sem]) rfl ⟨rfl, RR.trans ⟨hR1, hg1⟩ hR2⟩
    · have hrd : rdInt bs (p, e0) most = (0, (p, e0)) := by unfold rdInt; rw [if_pos he]
      have hrn : rdNum bs (p, e0) 18446744073709551615 = (0, (p, e0)) := by unfold rdNum; rw [if_pos he]
      rw [hrn] at kn
      rw [hrd]
      have he1 : ((e0 : Int) != 0) = true := by simp; omega
      have he2 : ((e0 : Int) == 0) = false := by simp; omega
      clear hrd hrn he
      go_enter Try.func24, Try.ntmps24
      go_wp2_with (go_at_call 22; refine kn.mono ?_; clear kn; rintro ev w1 ⟨rfl, hR1, hg1⟩; obtain ⟨d0, d1, d2, g1, g2⟩ := hR1.cells; simp only at d1 d2)
      have hR2 := hR1.moved p hR.place
      exact bodyPost_ret (v := .int .i64 0) (by simp [results, Try.results24, go_sem]) rfl ⟨rfl, RR.trans ⟨hR1, hg1⟩ hR2⟩
  · obtain ⟨mo, rfl⟩ := Int.eq_ofNat_of_zero_le (by omega : 0 ≤ most)
    have kn := refnum_is d B bs s A cp mo w hR (by omega)
    rw [rdInt_nat]
    have hle := rdNum_le (bs := bs) (s := s) (mo := mo)
    obtain ⟨R, hRR⟩ : ∃ R, Hid (rdNum bs s mo = R) := ⟨_, rfl⟩
    rw [hRR.out] at kn hle ⊢
    have hm0 : (0 : Int) ≤ (mo : Int) := by omega
    have hwr : IntKind.u64.wrap (mo : Int) = (mo : Int) := IntWalk.u64_in _ (by omega)
    have hwi : IntKind.i64.wrap (R.1 : Int) = (R.1 : Int) := IntWalk.i64_in _ (by omega)
    clear hneg
    go_enter Try.func24, Try.ntmps24
    go_wp2_with (go_at_call 22; refine kn.mono ?_; clear kn; rintro ev w1 ⟨rfl, hR1⟩)
    exact bodyPost_ret (v := .int .i64 (R.1 : Int)) (by simp [results, Try.results24, go_sem]) rfl ⟨rfl, hR1⟩

theorem refdone_is (d B : Nat) (bs : List Nat) (s : Nat × Nat) (A : Option Addr) (cp : Nat) (w : World) (hR : RefR w d B bs s A cp) :
    Calls Try.prog 31 #[.pointer (some ⟨d, 0, none⟩)] w fun ev w' => ev = .returned (.int .i64 (rdDone bs s : Nat)) ∧ ∃ k, w' = w.drewN k := by
  obtain ⟨p, e0⟩ := s
  obtain ⟨c0, c1, c2, f1, f2⟩ := hR.cells
  simp only at c1 c2
  by_cases he : e0 = 0
  · subst he
    by_cases hlt : p < bs.length
    · have hd : rdDone bs (p, 0) = 52 := by unfold rdDone; rw [if_pos ⟨rfl, hlt⟩]
      rw [hd]
      have hlD : decide (p < bs.length) = true := by simpa using hlt
      clear hd hlt
      go_enter Try.func31, Try.ntmps31
      go_wp2
      go_quiet (fail)
      go_wp2_with fail
      exact bodyPost_ret (v := .int .i64 52) (by simp [results, Try.results31, go_sem]) rfl ⟨rfl, _, rfl⟩
    · have hd : rdDone bs (p, 0) = 0 := by unfold rdDone; rw [if_neg (fun h => hlt h.2)]
      rw [hd]
      have hlD : decide (p < bs.length) = false := by simpa using hlt
      clear hd hlt
      go_enter Try.func31, Try.ntmps31
      go_wp2
      go_quiet (fail)
      go_wp2_with fail
      exact bodyPost_ret (v := .int .i64 0) (by simp [results, Try.results31, go_sem]) rfl ⟨rfl, _, rfl⟩
  · have hd : rdDone bs (p, e0) = e0 := by unfold rdDone; rw [if_neg (fun h => he h.1)]
    rw [hd]
    have he1 : ((e0 : Int) != 0) = true := by simp; omega
    have he2 : ((e0 : Int) == 0) = false := by simp; omega
    clear hd he
    go_enter Try.func31, Try.ntmps31
    go_wp2
    go_quiet (fail)
    go_wp2_with fail
    exact bodyPost_ret (v := .int .i64 (e0 : Int)) (by simp [results, Try.results31, go_sem]) rfl ⟨rfl, _, rfl⟩
end Go.Proofs.Ytmagjfjmaojemaa
