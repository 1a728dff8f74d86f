/- Layer 5 (coder): more of a reader's calls. By contracts. -/
import Derived.Test.YtokaclacejhppaaCoderS
namespace Go.Proofs.Ytokaclacejhppaa
open Go.RowKit
set_option linter.unusedVariables false

/-- What count tells: of a number, where it ends and why it failed. -/
theorem rdInt_parts {bs : List Nat} {p n c e : Nat} (most : Int) (hs : scan 0 0 (bs.drop p) = (n, c, e)) :
    rdInt bs (p, 0) most = if e ≠ 0 then (0, (p, e)) else if most < 0 ∨ most < (n : Int) then (0, (p, 51)) else (n, (p + c, 0)) := by
  unfold rdInt
  rw [if_neg (by simp)]
  simp only [hs]

set_option maxRecDepth 100000 in
set_option maxHeartbeats 1000000 in
/-- The failure's number and what else is told. -/
theorem count_bad (b : Nat) (F : Nat → Prop) (bs : List Nat) (p : Nat) (A : Option Addr) (cp : Nat) (most : Int) (w : World) (hR : ReaderAt w b F bs (p, 0) A cp) (h0 : -9223372036854775808 ≤ most) (h1 : most ≤ 9223372036854775807) (y : Nat) (hy : y ≠ 0) (h : rdInt bs (p, 0) most = (0, (p, y))) :
    Calls Try.prog 40 #[.pointer (some ⟨b, 0, none⟩), .int .i64 most] w fun ev w' => ev = .returned (.tuple #[.int .i64 0, .int .i64 0, .int .i64 (y : Int)]) ∧ ∃ k, w' = w.drewN k := by
  obtain ⟨n, c, e, hs, hcs⟩ := scan_two (l := bs.drop p) (fun x hx => hR.bytes x (List.mem_of_mem_drop hx))
  rw [rdInt_parts most hs] at h
  have HSC := Lib.hid hs
  clear hs
  rcases hcs with ⟨rfl, hn, hc0, hcl⟩ | ⟨he0, he1, rfl, rfl⟩
  · have kn := number_is b F bs (p, 0) A cp w hR n c 0 (p + c) HSC rfl
    rw [if_neg (by simp)] at h
    by_cases hb : most < 0 ∨ most < (n : Int)
    · rw [if_pos hb] at h
      simp only [Prod.mk.injEq, true_and] at h
      subst h
      clear hcl hy
      by_cases hneg : most < 0
      · clear hb
        go_enter Try.func40, Try.ntmps40
        go_wp2_with (go_at_call 60; refine kn.mono ?_; rintro e w' ⟨rfl, kq, rfl⟩)
        refine bodyPost_ret (v := .tuple #[.int .i64 0, .int .i64 0, .int .i64 51]) (by simp [results, Try.results40, go_sem]) rfl ⟨rfl, _, rfl⟩
      · obtain ⟨mo, rfl⟩ := Int.eq_ofNat_of_zero_le (by omega : 0 ≤ most)
        have hlt : decide (mo < n) = true := by simp; omega
        have hwr : IntKind.u64.wrap (mo : Int) = (mo : Int) := IntWalk.u64_in _ (by omega)
        have hng : decide ((mo : Int) < 0) = false := by simp
        have hng2 : ((mo : Int) < 0) = False := by simp
        clear hb hneg
        go_enter Try.func40, Try.ntmps40
        go_wp2_with (go_at_call 60; refine kn.mono ?_; rintro e w' ⟨rfl, kq, rfl⟩)
        refine bodyPost_ret (v := .tuple #[.int .i64 0, .int .i64 0, .int .i64 51]) (by simp [results, Try.results40, go_sem]) rfl ⟨rfl, _, rfl⟩
    · rw [if_neg hb] at h
      simp only [Prod.mk.injEq] at h
      exact absurd h.2.2.symm hy
  · have kn := number_is b F bs (p, 0) A cp w hR 0 0 e 0 HSC (by show _ = _; rw [if_neg he0])
    rw [if_pos he0] at h
    simp only [Prod.mk.injEq, true_and] at h
    subst h
    have hE1 : ((e : Int) != 0) = true := by simp; omega
    have hE2 : ((e : Int) == 0) = false := by simp; omega
    clear he0 hy
    go_enter Try.func40, Try.ntmps40
    go_wp2_with (go_at_call 60; refine kn.mono ?_; rintro e w' ⟨rfl, kq, rfl⟩)
    refine bodyPost_ret (v := .tuple #[.int .i64 0, .int .i64 0, .int .i64 (e : Int)]) (by simp [results, Try.results40, go_sem]) rfl ⟨rfl, _, rfl⟩

set_option maxRecDepth 100000 in
set_option maxHeartbeats 1000000 in
theorem count_ok (b : Nat) (F : Nat → Prop) (bs : List Nat) (p : Nat) (A : Option Addr) (cp : Nat) (most : Int) (w : World) (hR : ReaderAt w b F bs (p, 0) A cp) (h1 : most ≤ 9223372036854775807) (n q : Nat) (h : rdInt bs (p, 0) most = (n, (q, 0))) :
    (Calls Try.prog 40 #[.pointer (some ⟨b, 0, none⟩), .int .i64 most] w fun ev w' => ev = .returned (.tuple #[.int .i64 (n : Int), .int .i64 (q : Int), .int .i64 0]) ∧ ∃ k, w' = w.drewN k) ∧ (n : Int) ≤ most ∧ q ≤ bs.length := by
  obtain ⟨n', c, e, hs, hcs⟩ := scan_two (l := bs.drop p) (fun x hx => hR.bytes x (List.mem_of_mem_drop hx))
  rw [rdInt_parts most hs] at h
  have HSC := Lib.hid hs
  clear hs
  rcases hcs with ⟨rfl, hn, hc0, hcl⟩ | ⟨he0, he1, rfl, rfl⟩
  · have kn := number_is b F bs (p, 0) A cp w hR n' c 0 (p + c) HSC rfl
    rw [if_neg (by simp)] at h
    by_cases hb : most < 0 ∨ most < (n' : Int)
    · rw [if_pos hb] at h
      simp only [Prod.mk.injEq] at h
      omega
    · rw [if_neg hb] at h
      simp only [Prod.mk.injEq, and_true] at h
      obtain ⟨rfl, rfl⟩ := h
      rw [List.length_drop] at hcl
      have hpl := hR.place
      refine ⟨?_, by omega, by simp only at hpl; omega⟩
      obtain ⟨mo, rfl⟩ := Int.eq_ofNat_of_zero_le (by omega : 0 ≤ most)
      have hlt : decide (mo < n') = false := by simp; omega
      have hwr : IntKind.u64.wrap (mo : Int) = (mo : Int) := IntWalk.u64_in _ (by omega)
      have hwi : IntKind.i64.wrap (n' : Int) = (n' : Int) := IntWalk.i64_in _ (by omega)
      have hng : decide ((mo : Int) < 0) = false := by simp
      have hng2 : ((mo : Int) < 0) = False := by simp
      have hpc : ((p + c : Nat) : Int) = (p : Int) + (c : Int) := by omega
      have HPC := Lib.hid hpc
      clear hb hcl hpc
      go_enter Try.func40, Try.ntmps40
      go_wp2_with (go_at_call 60; refine kn.mono ?_; rintro e w' ⟨rfl, kq, rfl⟩)
      refine bodyPost_ret (v := .tuple #[.int .i64 (n' : Int), .int .i64 ((p : Int) + (c : Int)), .int .i64 0]) (by simp [results, Try.results40, go_sem]) rfl ⟨by rw [HPC.out], _, rfl⟩
  · rw [if_pos he0] at h
    simp only [Prod.mk.injEq] at h
    exact absurd h.2.2 he0

theorem rdInt_two {bs : List Nat} {p : Nat} {most : Int} (hb : ∀ x ∈ bs, x < 256) : (∃ y, y ≠ 0 ∧ y ≤ 100 ∧ rdInt bs (p, 0) most = (0, (p, y))) ∨ ∃ n q, rdInt bs (p, 0) most = (n, (q, 0)) := by
  obtain ⟨n, c, e, hs, hcs⟩ := scan_two (l := bs.drop p) (fun x hx => hb x (List.mem_of_mem_drop hx))
  rw [rdInt_parts most hs]
  rcases hcs with ⟨rfl, hn, hc0, hcl⟩ | ⟨he0, he1, rfl, rfl⟩
  · rw [if_neg (by simp)]
    by_cases h : most < 0 ∨ most < (n : Int)
    · rw [if_pos h]; exact .inl ⟨51, by omega, by omega, rfl⟩
    · rw [if_neg h]; exact .inr ⟨_, _, rfl⟩
  · rw [if_pos he0]; exact .inl ⟨e, he0, he1, rfl⟩

set_option maxRecDepth 100000 in
set_option maxHeartbeats 1000000 in
theorem rint_is (b : Nat) (F : Nat → Prop) (bs : List Nat) (s : Nat × Nat) (A : Option Addr) (cp : Nat) (most : Int) (w : World) (hR : ReaderAt w b F bs s A cp) (h0 : -9223372036854775808 ≤ most) (h1 : most ≤ 9223372036854775807) :
    Calls Try.prog 22 #[.pointer (some ⟨b, 0, none⟩), .int .i64 most] w fun ev w' => ev = .returned (.int .i64 ((rdInt bs s most).1 : Int)) ∧ Rd w b F bs (rdInt bs s most).2 A cp w' := by
  obtain ⟨p, e0⟩ := s
  obtain ⟨c0, c1, c2, f0, f1⟩ := hR.cells
  simp only at c0 c1
  by_cases he : e0 = 0
  · subst he
    have ks := rshut_no b w c1
    rcases rdInt_two (p := p) (most := most) hR.bytes with ⟨y, hy0, hy1, hr⟩ | ⟨n, q, hr⟩
    · have kc := count_bad b F bs p A cp most w hR h0 h1 y hy0 hr
      rw [hr]
      have hY := Lib.hid hy0
      clear hr hy0
      go_enter Try.func22, Try.ntmps22
      go_wp2_with (first
        | (go_at_call 39; refine ks.mono ?_; rintro e w' ⟨rfl, rfl⟩)
        | (go_at_call 40; refine kc.mono ?_; rintro e w' ⟨rfl, kq, rfl⟩)
        | (go_at_call 29; refine (move_not b y _ _ (w.drewN kq) c1 f1 hY.out).mono ?_; rintro e w' ⟨rfl, rfl⟩))
      go_ret
      exact ⟨rfl, ((hR.drewN _).stopped y hy1 _ rfl).drew⟩
    · obtain ⟨kc, hnm, hq⟩ := count_ok b F bs p A cp most w hR h1 n q hr
      rw [hr]
      clear hr
      go_enter Try.func22, Try.ntmps22
      go_wp2_with (first
        | (go_at_call 39; refine ks.mono ?_; rintro e w' ⟨rfl, rfl⟩)
        | (go_at_call 40; refine kc.mono ?_; rintro e w' ⟨rfl, kq, rfl⟩)
        | (go_at_call 29; refine (move_ok b (q : Int) _ (w.drewN kq) c0 f0).mono ?_; rintro e w' ⟨rfl, rfl⟩))
      go_ret
      exact ⟨rfl, ((hR.drewN _).moved q hq _ rfl).drew⟩
  · have ks := rshut_yes b e0 w c1 he
    have hrd : rdInt bs (p, e0) most = (0, (p, e0)) := by unfold rdInt; rw [if_pos he]
    rw [hrd]
    clear hrd he
    go_enter Try.func22, Try.ntmps22
    go_wp2_with (go_at_call 39; refine ks.mono ?_; rintro e w' ⟨rfl, rfl⟩)
    go_ret
    exact ⟨rfl, hR, grown_refl _ _⟩

theorem rflag_is (b : Nat) (F : Nat → Prop) (bs : List Nat) (s : Nat × Nat) (A : Option Addr) (cp : Nat) (w : World) (hR : ReaderAt w b F bs s A cp) :
    Calls Try.prog 65 #[.pointer (some ⟨b, 0, none⟩)] w fun ev w' => ev = .returned (.bool ((rdNum bs s 1).1 == 1)) ∧ Rd w b F bs (rdNum bs s 1).2 A cp w' := by
  have k := rnum_is b F bs s A cp 1 w hR (by omega)
  obtain ⟨x, hx⟩ : ∃ x, Hid ((rdNum bs s 1).1 = x) := ⟨_, rfl⟩
  obtain ⟨s', hs'⟩ : ∃ s', Hid ((rdNum bs s 1).2 = s') := ⟨_, rfl⟩
  rw [hx.out, hs'.out] at k ⊢
  go_enter Try.func65, Try.ntmps65
  go_wp2_with (go_at_call 64; refine k.mono ?_; rintro e w' ⟨rfl, hL⟩)
  go_ret
  refine ⟨?_, hL⟩
  show Ending.returned (Value.bool ((x : Int) == 1)) = _
  have e : ((x : Int) == 1) = (x == 1) := by
    rw [Bool.eq_iff_iff]
    simp
    omega
  rw [e]

theorem rerr_is (b : Nat) (F : Nat → Prop) (bs : List Nat) (s : Nat × Nat) (A : Option Addr) (cp : Nat) (w : World) (hR : ReaderAt w b F bs s A cp) :
    Calls Try.prog 23 #[.pointer (some ⟨b, 0, none⟩)] w fun ev w' => ev = .returned (.int .i64 (s.2 : Int)) ∧ w = w' := by
  obtain ⟨c0, c1, c2, f0, f1⟩ := hR.cells
  go_enter Try.func23, Try.ntmps23
  go_wp2
  go_ret
  exact ⟨rfl, rfl⟩

/-- The failure, also that bytes are left. -/
def rdDone (bs : List Nat) (s : Nat × Nat) : Nat := if s.2 = 0 ∧ s.1 < bs.length then 52 else s.2

theorem rdone_is (b : Nat) (F : Nat → Prop) (bs : List Nat) (s : Nat × Nat) (A : Option Addr) (cp : Nat) (w : World) (hR : ReaderAt w b F bs s A cp) :
    Calls Try.prog 25 #[.pointer (some ⟨b, 0, none⟩)] w fun ev w' => ev = .returned (.int .i64 (rdDone bs s : Nat)) ∧ ∃ k, w' = w.drewN k := by
  obtain ⟨p, e0⟩ := s
  obtain ⟨c0, c1, c2, f0, f1⟩ := hR.cells
  simp only at c0 c1
  have ke := rerr_is b F bs (p, e0) A cp w hR
  by_cases he : e0 = 0
  · subst he
    have ks := rshut_no b w c1
    clear ke
    by_cases hlt : p < bs.length
    · have hd : rdDone bs (p, 0) = 52 := by unfold rdDone; rw [if_pos ⟨rfl, hlt⟩]
      rw [hd]
      have hlD : decide (p < bs.length) = true := by simpa using hlt
      clear hd hlt
      go_enter Try.func25, Try.ntmps25
      go_wp2_with (go_at_call 39; refine ks.mono ?_; rintro e w' ⟨rfl, rfl⟩)
      go_quiet (fail)
      go_wp2_with fail
      refine bodyPost_ret (v := .int .i64 52) (by simp [results, Try.results25, go_sem]) rfl ⟨rfl, _, rfl⟩
    · have hd : rdDone bs (p, 0) = 0 := by unfold rdDone; rw [if_neg (fun h => hlt h.2)]
      rw [hd]
      have hlD : decide (p < bs.length) = false := by simpa using hlt
      clear hd hlt
      go_enter Try.func25, Try.ntmps25
      go_wp2_with (go_at_call 39; refine ks.mono ?_; rintro e w' ⟨rfl, rfl⟩)
      go_quiet (fail)
      go_wp2_with fail
      refine bodyPost_ret (v := .int .i64 0) (by simp [results, Try.results25, go_sem]) rfl ⟨rfl, _, rfl⟩
  · have ks := rshut_yes b e0 w c1 he
    have hd : rdDone bs (p, e0) = e0 := by unfold rdDone; rw [if_neg (fun h => he h.1)]
    rw [hd]
    clear hd he
    go_enter Try.func25, Try.ntmps25
    go_wp2_with (first
      | (go_at_call 39; refine ks.mono ?_; rintro e w' ⟨rfl, rfl⟩)
      | (go_at_call 23; refine ke.mono ?_; rintro e w' ⟨rfl, rfl⟩))
    refine bodyPost_ret (v := .int .i64 (e0 : Int)) (by simp [results, Try.results25, go_sem]) rfl ⟨rfl, 0, rfl⟩

theorem rnum_nil (m : Int) (w : World) :
    Calls Try.prog 64 #[.pointer none, .int .u64 m] w fun ev w' => ev = .returned (.int .u64 0) ∧ w = w' := by
  have ks := rshut_nil w
  go_enter Try.func64, Try.ntmps64
  go_wp2_with (go_at_call 39; refine ks.mono ?_; rintro e w' ⟨rfl, rfl⟩)
  refine bodyPost_ret (v := .int .u64 0) (by simp [results, Try.results64, go_sem]) rfl ⟨rfl, rfl⟩

theorem rint_nil (m : Int) (w : World) :
    Calls Try.prog 22 #[.pointer none, .int .i64 m] w fun ev w' => ev = .returned (.int .i64 0) ∧ w = w' := by
  have ks := rshut_nil w
  go_enter Try.func22, Try.ntmps22
  go_wp2_with (go_at_call 39; refine ks.mono ?_; rintro e w' ⟨rfl, rfl⟩)
  refine bodyPost_ret (v := .int .i64 0) (by simp [results, Try.results22, go_sem]) rfl ⟨rfl, rfl⟩

theorem rraw_nil (m : Int) (w : World) :
    Calls Try.prog 62 #[.pointer none, .int .i64 m] w fun ev w' => ev = .returned (.slice none 0 0) ∧ w = w' := by
  have ks := rshut_nil w
  go_enter Try.func62, Try.ntmps62
  go_wp2_with (go_at_call 39; refine ks.mono ?_; rintro e w' ⟨rfl, rfl⟩)
  refine bodyPost_ret (v := .slice none 0 0) (by simp [results, Try.results62, go_sem]) rfl ⟨rfl, rfl⟩

theorem rflag_nil (w : World) :
    Calls Try.prog 65 #[.pointer none] w fun ev w' => ev = .returned (.bool false) ∧ w = w' := by
  have k := rnum_nil 1 w
  go_enter Try.func65, Try.ntmps65
  go_wp2_with (go_at_call 64; refine k.mono ?_; rintro e w' ⟨rfl, rfl⟩)
  go_ret
  exact ⟨rfl, rfl⟩
theorem rerr_nil (w : World) :
    Calls Try.prog 23 #[.pointer none] w fun ev w' => ev = .returned (.int .i64 1) ∧ w = w' := by
  go_enter Try.func23, Try.ntmps23
  go_wp2
  go_ret
  exact ⟨rfl, rfl⟩
theorem rdone_nil (w : World) :
    Calls Try.prog 25 #[.pointer none] w fun ev w' => ev = .returned (.int .i64 1) ∧ w = w' := by
  have ks := rshut_nil w
  have ke := rerr_nil w
  go_enter Try.func25, Try.ntmps25
  go_wp2_with (first
    | (go_at_call 39; refine ks.mono ?_; rintro e w' ⟨rfl, rfl⟩)
    | (go_at_call 23; refine ke.mono ?_; rintro e w' ⟨rfl, rfl⟩))
  refine bodyPost_ret (v := .int .i64 1) (by simp [results, Try.results25, go_sem]) rfl ⟨rfl, rfl⟩
end Go.Proofs.Ytokaclacejhppaa
