/- Layer 5 (coder): a reader's calls. By contracts. -/
import Derived.Test.YtokaclacejhppaaCoderR
import Derived.Lib.SliceRun
namespace Go.Proofs.Ytokaclacejhppaa
open Go.RowKit
set_option linter.unusedVariables false

theorem scan_cases {l : List Nat} (hl : ∀ x ∈ l, x < 256) : ∃ n c e, scan 0 0 l = (n, c, e) ∧ ((e = 0 ∧ n < 18446744073709551616 ∧ 0 < c ∧ c ≤ l.length) ∨ (e = 50 ∧ n = 0 ∧ c = 0) ∨ (e = 51 ∧ n = 0 ∧ c = 0)) := by
  rcases scan_err l 0 0 with h | h | h
  · rcases hs : scan 0 0 l with ⟨n, c, e⟩
    rw [hs] at h
    have h0 : e = 0 := h
    subst h0
    obtain ⟨h1, h2, h3, _⟩ := scan_fits hl hs
    exact ⟨n, c, 0, rfl, .inl ⟨rfl, h1, h2, h3⟩⟩
  · exact ⟨0, 0, 50, h, .inr (.inl ⟨rfl, rfl, rfl⟩)⟩
  · exact ⟨0, 0, 51, h, .inr (.inr ⟨rfl, rfl, rfl⟩)⟩

/-- What a call on a reader leaves. -/
def Rd (w : World) (b : Nat) (F : Nat → Prop) (bs : List Nat) (s : Nat × Nat) (A : Option Addr) (c : Nat) (w' : World) : Prop := ReaderAt w' b F bs s A c ∧ w.grownBy w' (some b)

theorem ReaderAt.moved {w : World} {b : Nat} {F : Nat → Prop} {bs : List Nat} {s : Nat × Nat} {A : Option Addr} {c : Nat} (h : ReaderAt w b F bs s A c) (n : Nat) (hn : n ≤ bs.length) (w' : World) (hw : w' = (w.setCell ⟨b, 0, none⟩ (.int .i64 (n : Int)))) : Rd w b F bs (n, s.2) A c w' := by
  subst hw
  have hg := grown_set w b 0 (.int .i64 (n : Int))
  refine ⟨⟨?_, fun k x hx => ?_, h.room, h.most, hn, h.small, h.apart, h.bytes⟩, hg⟩
  · rw [heap_setCell_same w b 0 _ _ _ h.block]; rfl
  · obtain ⟨a, hA, hb, hc⟩ := h.lies k x hx
    refine ⟨a, hA, hb, ?_⟩
    rw [World.cell?_setCell_other]
    · exact hc
    · intro e
      have h2 : (a.add k).block = b := by rw [← e]
      rw [addr_block] at h2
      exact h.apart (h2 ▸ hb)
theorem ReaderAt.stopped {w : World} {b : Nat} {F : Nat → Prop} {bs : List Nat} {s : Nat × Nat} {A : Option Addr} {c : Nat} (h : ReaderAt w b F bs s A c) (e : Nat) (he : e ≤ 100) (w' : World) (hw : w' = (w.setCell ⟨b, 1, none⟩ (.int .i64 (e : Int)))) : Rd w b F bs (s.1, e) A c w' := by
  subst hw
  have hg := grown_set w b 1 (.int .i64 (e : Int))
  refine ⟨⟨?_, fun k x hx => ?_, h.room, h.most, h.place, he, h.apart, h.bytes⟩, hg⟩
  · rw [heap_setCell_same w b 1 _ _ _ h.block]; rfl
  · obtain ⟨a, hA, hb, hc⟩ := h.lies k x hx
    refine ⟨a, hA, hb, ?_⟩
    rw [World.cell?_setCell_other]
    · exact hc
    · intro e
      have h2 : (a.add k).block = b := by rw [← e]
      rw [addr_block] at h2
      exact h.apart (h2 ▸ hb)
theorem ReaderAt.drewN {w : World} {b : Nat} {F : Nat → Prop} {bs : List Nat} {s : Nat × Nat} {A : Option Addr} {c : Nat} (h : ReaderAt w b F bs s A c) (n : Nat) : ReaderAt (w.drewN n) b F bs s A c := h.grown (grown_drew w n none) (by simp) (by simp)
theorem Rd.drew {w w' : World} {b : Nat} {F : Nat → Prop} {bs : List Nat} {s : Nat × Nat} {A : Option Addr} {c n : Nat} (h : Rd (w.drewN n) b F bs s A c w') : Rd w b F bs s A c w' := ⟨h.1, grown_trans (grown_drew w n _) h.2⟩

theorem scan_two {l : List Nat} (hl : ∀ x ∈ l, x < 256) : ∃ n c e, scan 0 0 l = (n, c, e) ∧ ((e = 0 ∧ n < 18446744073709551616 ∧ 0 < c ∧ c ≤ l.length) ∨ (e ≠ 0 ∧ e ≤ 100 ∧ n = 0 ∧ c = 0)) := by
  obtain ⟨n, c, e, h, h1 | ⟨rfl, rfl, rfl⟩ | ⟨rfl, rfl, rfl⟩⟩ := scan_cases hl
  · exact ⟨n, c, e, h, .inl h1⟩
  · exact ⟨0, 0, 50, h, .inr ⟨by omega, by omega, rfl, rfl⟩⟩
  · exact ⟨0, 0, 51, h, .inr ⟨by omega, by omega, rfl, rfl⟩⟩

set_option maxRecDepth 100000 in
set_option maxHeartbeats 1000000 in
theorem rnum_is (b : Nat) (F : Nat → Prop) (bs : List Nat) (s : Nat × Nat) (A : Option Addr) (cp : Nat) (most : Nat) (w : World) (hR : ReaderAt w b F bs s A cp) (hm : most < 18446744073709551616) :
    Calls Try.prog 64 #[.pointer (some ⟨b, 0, none⟩), .int .u64 (most : Int)] w fun ev w' => ev = .returned (.int .u64 ((rdNum bs s most).1 : Int)) ∧ Rd w b F bs (rdNum bs s most).2 A cp w' := by
  obtain ⟨p, e0⟩ := s
  obtain ⟨c0, c1, c2, f0, f1⟩ := hR.cells
  simp only at c0 c1
  by_cases he : e0 = 0
  · subst he
    have ks := rshut_no b w c1
    obtain ⟨n, c, e, hs, hcs⟩ := scan_two (l := bs.drop p) (fun x hx => hR.bytes x (List.mem_of_mem_drop hx))
    have hrd : rdNum bs (p, 0) most = if e ≠ 0 then (0, (p, e)) else if most < n then (0, (p, 51)) else (n, (p + c, 0)) := by
      unfold rdNum
      rw [if_neg (by simp)]
      simp only [hs]
    rw [hrd]
    have HSC := Lib.hid hs
    clear hrd hs
    rcases hcs with ⟨rfl, hn, hc0, hcl⟩ | ⟨he0, he1, rfl, rfl⟩
    · have hcl2 : p + c ≤ bs.length := by rw [List.length_drop] at hcl; omega
      have kn := number_is b F bs (p, 0) A cp w hR n c 0 (p + c) HSC rfl
      have hpc : ((p + c : Nat) : Int) = (p : Int) + (c : Int) := by omega
      rw [if_neg (by simp)]
      clear hcl
      by_cases hgt : most < n
      · rw [if_pos hgt]
        have hgI2 : decide (most < n) = true := by simpa using hgt
        clear hpc
        go_enter Try.func64, Try.ntmps64
        go_wp2_with (first
          | (go_at_call 39; refine ks.mono ?_; rintro e w' ⟨rfl, rfl⟩)
          | (go_at_call 60; refine kn.mono ?_; rintro e w' ⟨rfl, kq, rfl⟩)
          | (go_at_call 29; refine (move_not b 51 _ _ (w.drewN kq) c1 f1 (by omega)).mono ?_; rintro e w' ⟨rfl, rfl⟩))
        go_ret
        exact ⟨rfl, ((hR.drewN _).stopped 51 (by omega) _ rfl).drew⟩
      · rw [if_neg hgt]
        have hgI2 : decide (most < n) = false := by simpa using hgt
        have km := fun kq => move_ok b ((p + c : Nat) : Int) _ (w.drewN kq) c0 f0
        clear hpc hgt
        go_enter Try.func64, Try.ntmps64
        go_wp2_with (first
          | (go_at_call 39; refine ks.mono ?_; rintro e w' ⟨rfl, rfl⟩)
          | (go_at_call 60; refine kn.mono ?_; rintro e w' ⟨rfl, kq, rfl⟩)
          | (go_at_call 29; refine (move_ok b ((p : Int) + (c : Int)) _ (w.drewN kq) c0 f0).mono ?_; rintro e w' ⟨rfl, rfl⟩))
        go_ret
        exact ⟨rfl, ((hR.drewN _).moved (p + c) hcl2 _ (by rw [Int.natCast_add])).drew⟩
    · have kn := number_is b F bs (p, 0) A cp w hR 0 0 e 0 HSC (by show _ = _; rw [if_neg he0])
      rw [if_pos he0]
      have hE := Lib.hid he0
      clear he0
      go_enter Try.func64, Try.ntmps64
      go_wp2_with (first
        | (go_at_call 39; refine ks.mono ?_; rintro e w' ⟨rfl, rfl⟩)
        | (go_at_call 60; refine kn.mono ?_; rintro e w' ⟨rfl, kq, rfl⟩)
        | (go_at_call 29; refine (move_not b e _ _ (w.drewN kq) c1 f1 hE.out).mono ?_; rintro e w' ⟨rfl, rfl⟩))
      go_ret
      exact ⟨rfl, ((hR.drewN _).stopped e he1 _ rfl).drew⟩
  · have ks := rshut_yes b e0 w c1 he
    have hrd : rdNum bs (p, e0) most = (0, (p, e0)) := by unfold rdNum; rw [if_pos he]
    rw [hrd]
    clear hrd he
    go_enter Try.func64, Try.ntmps64
    go_wp2_with (go_at_call 39; refine ks.mono ?_; rintro e w' ⟨rfl, rfl⟩)
    go_ret
    exact ⟨rfl, hR, grown_refl _ _⟩
end Go.Proofs.Ytokaclacejhppaa
