/- The reference of layer 5 (coder): a reader. By contracts. · The reference of layer 5 (coder): more of a reader. By contracts. -/
import Derived.Test.YtjgbpgdnmghcpaaCoderT
import Derived.Deep.RegionHeld3
import Derived.Laws.AppendOwnNone
namespace Go.Proofs.Ytjgbpgdnmghcpaa
open Go.RowKit
set_option linter.unusedVariables false
set_option linter.unusedSimpArgs false

/-- In block d lies the reference's reader of the bytes, at its place, with its failure. -/
structure RefR (w : World) (d B : Nat) (bs : List Nat) (s : Nat × Nat) (A : Option Addr) (c : Nat) : Prop where
  block : w.heap[d]? = some (.cells #[.slice A bs.length c, .int .i64 (s.1 : Int), .int .i64 (s.2 : Int)] 91 (0, 0))
  lies : Lies w (· < B) A bs
  room : bs.length ≤ c
  most : c ≤ maxLen
  place : s.1 ≤ bs.length
  small : s.2 ≤ 100
  apart : B ≤ d
  bytes : ∀ x ∈ bs, x < 256
  few : bs.length ≤ 3000

theorem RefR.lt {w : World} {d B : Nat} {bs : List Nat} {s : Nat × Nat} {A : Option Addr} {c : Nat} (h : RefR w d B bs s A c) : d < w.heap.size := by
  have := h.block
  rw [Array.getElem?_eq_some_iff] at this
  exact this.1
theorem RefR.grown {w w' : World} {d B : Nat} {bs : List Nat} {s : Nat × Nat} {A : Option Addr} {c : Nat} (h : RefR w d B bs s A c) {row : Option Nat} (hg : w.grownBy w' row) (hd : some d ≠ row) (hB : ∀ k, k < B → some k ≠ row) : RefR w' d B bs s A c :=
  ⟨by rw [hg.block d h.lt hd]; exact h.block, h.lies.grown hg hB, h.room, h.most, h.place, h.small, h.apart, h.bytes, h.few⟩
theorem RefR.cells {w : World} {d B : Nat} {bs : List Nat} {s : Nat × Nat} {A : Option Addr} {c : Nat} (h : RefR w d B bs s A c) :
    w.cell? ⟨d, 0, none⟩ = some (.slice A bs.length c) ∧ w.cell? ⟨d, 1, none⟩ = some (.int .i64 (s.1 : Int)) ∧ w.cell? ⟨d, 2, none⟩ = some (.int .i64 (s.2 : Int)) ∧ w.frozen? ⟨d, 1, none⟩ = false ∧ w.frozen? ⟨d, 2, none⟩ = false :=
  ⟨cell_arr h.block rfl, cell_arr h.block rfl, cell_arr h.block rfl, frozen_of_row w d 1 _ _ h.block, frozen_of_row w d 2 _ _ h.block⟩

/-- What a call on it leaves. -/
def RR (w : World) (d B : Nat) (bs : List Nat) (s : Nat × Nat) (A : Option Addr) (c : Nat) (w' : World) : Prop := RefR w' d B bs s A c ∧ w.grownBy w' (some d)

theorem RefR.set {w : World} {d B : Nat} {bs : List Nat} {s : Nat × Nat} {A : Option Addr} {c : Nat} (h : RefR w d B bs s A c) (j : Nat) (v : Value) (s' : Nat × Nat) (h1 : s'.1 ≤ bs.length) (h2 : s'.2 ≤ 100)
    (hc : (#[.slice A bs.length c, .int .i64 (s.1 : Int), .int .i64 (s.2 : Int)] : Array Value).setIfInBounds j v = #[.slice A bs.length c, .int .i64 (s'.1 : Int), .int .i64 (s'.2 : Int)]) : RR w d B bs s' A c (w.setCell ⟨d, j, none⟩ v) := by
  have hg := grown_set w d j v
  refine ⟨⟨?_, h.lies.grown hg (fun k hk e => by injection e with e; have := h.apart; omega), h.room, h.most, h1, h2, h.apart, h.bytes, h.few⟩, hg⟩
  rw [heap_setCell_same w d j _ _ _ h.block, hc]
theorem RefR.stopped {w : World} {d B : Nat} {bs : List Nat} {s : Nat × Nat} {A : Option Addr} {c : Nat} (h : RefR w d B bs s A c) (e : Nat) (he : e ≤ 100) : RR w d B bs (s.1, e) A c (w.setCell ⟨d, 2, none⟩ (.int .i64 (e : Int))) := h.set 2 _ _ h.place he rfl
theorem RefR.moved {w : World} {d B : Nat} {bs : List Nat} {s : Nat × Nat} {A : Option Addr} {c : Nat} (h : RefR w d B bs s A c) (n : Nat) (hn : n ≤ bs.length) : RR w d B bs (n, s.2) A c (w.setCell ⟨d, 1, none⟩ (.int .i64 (n : Int))) := h.set 1 _ _ hn h.small rfl

set_option maxRecDepth 100000 in
set_option maxHeartbeats 3000000 in
theorem refnum_is (d B : Nat) (bs : List Nat) (s : Nat × Nat) (A : Option Addr) (cp : Nat) (most : Nat) (w : World) (hR : RefR w d B bs s A cp) (hmo : most < 18446744073709551616) :
    Calls Try.prog 70 #[.pointer (some ⟨d, 0, none⟩), .int .u64 (most : Int)] w fun ev w' => ev = .returned (.int .u64 ((rdNum bs s most).1 : Int)) ∧ RR w d B bs (rdNum bs s most).2 A cp w' := by
  obtain ⟨p, e0⟩ := s
  obtain ⟨c0, c1, c2, f1, f2⟩ := hR.cells
  simp only at c1 c2
  have hfew := hR.few
  have hpl := hR.place
  simp only at hpl
  by_cases he : e0 = 0
  · subst he
    obtain ⟨n, c, e, hs, hcs⟩ := scan_two (l := bs.drop p) (fun x hx => hR.bytes x (List.mem_of_mem_drop hx))
    have hrd : rdNum bs (p, 0) most = if e ≠ 0 then (0, (p, e)) else if most < n then (0, (p, 51)) else (n, (p + c, 0)) := by
      unfold rdNum
      rw [if_neg (by simp)]
      simp only [hs]
    rw [hrd]
    obtain ⟨R, hRR⟩ : ∃ R, Hid ((if e ≠ 0 then (0, (p, e)) else if most < n then (0, (p, 51)) else (n, (p + c, 0)) : Nat × (Nat × Nat)) = R) := ⟨_, rfl⟩
    rw [hRR.out]
    clear hrd
    have HS0 := Lib.hid hs
    have hw9 : IntKind.i64.wrap ((p : Int) + 9) = (p : Int) + 9 := IntWalk.i64_in _ (by omega)
    clear hs
    go_enter Try.func70, Try.ntmps70
    go_wp2
    go_loop [5, 6, 7] (fun nv uv iv => ∃ (q t m u : Nat), Hid (q = p + t) ∧ q ≤ bs.length ∧ t ≤ 9 ∧ nv = .int .u64 (m : Int) ∧ uv = .int .u64 (u : Int) ∧ iv = .int .i64 (q : Int) ∧ Hid (u = 128 ^ t) ∧ Hid (m < 128 ^ t) ∧ Hid (scan t m (bs.drop q) = (n, c, e))) (fun _ _ iv => bs.length - (intOf iv).toNat)
    case atStart => exact ⟨p, 0, 0, 1, rfl, hpl, by omega, rfl, rfl, rfl, rfl, by show _ < _; simp, HS0⟩
    case round =>
      obtain ⟨q, t, m, u, HQ, hq, ht9, rfl, rfl, rfl, HU, HM, HS⟩ := hrel
      by_cases hlt : q < bs.length
      · obtain ⟨a, rfl, hab, hca⟩ := hR.lies.get hlt
        obtain ⟨x, hx⟩ : ∃ x, Hid (bs[q] = x) := ⟨bs[q], Lib.hid rfl⟩
        have hx256 : x < 256 := by rw [← hx.out]; exact hR.bytes _ (List.getElem_mem hlt)
        have hdrop : bs.drop q = x :: bs.drop (q + 1) := by rw [List.drop_eq_getElem_cons hlt, hx.out]
        rw [hx.out] at hca
        have HD := Lib.hid hdrop
        have hqI : (q : Int) < (bs.length : Int) := by omega
        clear hdrop
        by_cases hbad : (t = 9 ∧ 1 < x) ∨ (0 < t ∧ x = 0)
        · have hr := HS.out
          rw [HD.out, scan_bad hbad] at hr
          simp only [Prod.mk.injEq] at hr
          obtain ⟨rfl, rfl, rfl⟩ := hr
          obtain rfl : R = (0, (p, 51)) := hRR.out.symm
          have hst := hR.stopped 51 (by omega)
          rcases hbad with ⟨h9, hx1⟩ | ⟨ht0, rfl⟩
          · have e9 : ((q : Int) == (p : Int) + 9) = true := by have := HQ.out; simp; omega
            have hx1I : (1 : Int) < (x : Int) := by omega
            clear h9 hx1
            go_wp2
            exact bodyPost_ret (v := .int .u64 0) (by simp [results, Try.results70, go_sem]) rfl ⟨rfl, hst⟩
          · have hgt : decide (p < q) = true := by have := HQ.out; simp; omega
            have hgt2 : p < q := by have := HQ.out; omega
            by_cases h9 : t = 9
            · have e9 : ((q : Int) == (p : Int) + 9) = true := by have := HQ.out; simp; omega
              clear h9
              go_wp2
              exact bodyPost_ret (v := .int .u64 0) (by simp [results, Try.results70, go_sem]) rfl ⟨rfl, hst⟩
            · have e9 : ((q : Int) == (p : Int) + 9) = false := by have := HQ.out; simp; omega
              clear h9
              go_wp2
              exact bodyPost_ret (v := .int .u64 0) (by simp [results, Try.results70, go_sem]) rfl ⟨rfl, hst⟩
        · skip
          have hroom := scan_room (i := t) (x := x) (m := m) ht9 HM.out hbad
          obtain ⟨y, hy⟩ : ∃ y, Hid (x % 128 = y) := ⟨_, rfl⟩
          rw [hy.out] at hroom
          obtain ⟨V, hV⟩ : ∃ V, Hid (y * u = V) := ⟨_, rfl⟩
          have hVV : m + V < 18446744073709551616 := by rw [← hV.out, HU.out]; exact hroom
          obtain ⟨M, hM⟩ : ∃ M, Hid (m + V = M) := ⟨_, rfl⟩
          have hMb : M < 18446744073709551616 := by rw [← hM.out]; exact hVV
          have hMs : m + x % 128 * 128 ^ t = M := by rw [← hM.out, ← hV.out, hy.out, HU.out]
          have HMS := Lib.hid hMs
          have hy128 : y < 128 := by rw [← hy.out]; omega
          have hyI : (x : Int) % 128 = (y : Int) := by rw [← hy.out]; simp
          have hyT : Int.tmod (x : Int) 128 = (y : Int) := by rw [Int.tmod_eq_emod_of_nonneg (by omega)]; exact hyI
          have hyw : IntKind.u64.wrap (y : Int) = (y : Int) := IntWalk.u64_in _ (by omega)
          have hVI : (y : Int) * (u : Int) = (V : Int) := by rw [← hV.out]; simp
          have hVw : IntKind.u64.wrap (V : Int) = (V : Int) := IntWalk.u64_in _ (by omega)
          have hMI : IntKind.u64.wrap ((m : Int) + (V : Int)) = (M : Int) := by have := hM.out; rw [IntWalk.u64_in _ (by omega)]; omega
          clear hroom hVV hMs
          by_cases h9 : t = 9
          · have e9 : ((q : Int) == (p : Int) + 9) = true := by have := HQ.out; simp; omega
            have hx1 : ¬ 1 < x := fun h1 => hbad (.inl ⟨h9, h1⟩)
            have hx0 : x ≠ 0 := fun h1 => hbad (.inr ⟨by omega, h1⟩)
            have hx1I : (x : Int) ≤ 1 := by omega
            have hx0I : ((x : Int) == 0) = false := by simp; omega
            have hxI : (x : Int) < 128 := by omega
            have hx128 : x < 128 := by omega
            clear h9 hx1 hx0
            have hr := HS.out
            rw [HD.out, scan_last hbad hx128] at hr
            simp only [Prod.mk.injEq] at hr
            obtain ⟨hn, hcn, rfl⟩ := hr
            have hMn : M = n := by
              have h2 := HMS.out
              rw [Nat.mod_eq_of_lt hx128] at h2
              omega
            subst hMn
            have hqc : q + 1 = p + c := by have := HQ.out; omega
            by_cases hgt : most < M
            · obtain rfl : R = (0, (p, 51)) := by rw [← hRR.out, if_neg (by simp), if_pos hgt]
              have hst := hR.stopped 51 (by omega)
              have hg1 : decide (most < M) = true := by simpa using hgt
              clear hgt hbad
              go_wp2
              exact bodyPost_ret (v := .int .u64 0) (by simp [results, Try.results70, go_sem]) rfl ⟨rfl, hst⟩
            · obtain rfl : R = (M, (p + c, 0)) := by rw [← hRR.out, if_neg (by simp), if_neg hgt]
              have hst := hR.moved (q + 1) (by omega)
              rw [hqc] at hst
              have hq1 : ((p + c : Nat) : Int) = (q : Int) + 1 := by omega
              rw [hq1] at hst
              have hg1 : decide (most < M) = false := by simpa using hgt
              clear hgt hbad hq1
              go_wp2
              exact bodyPost_ret (v := .int .u64 (M : Int)) (by simp [results, Try.results70, go_sem]) rfl ⟨rfl, hst⟩
          · have e9 : ((q : Int) == (p : Int) + 9) = false := by have := HQ.out; simp; omega
            by_cases ht0 : t = 0
            · have hgt1 : decide (p < q) = false := by have := HQ.out; simp; omega
              have hgt2 : (p < q) = False := by have := HQ.out; simp; omega
              clear ht0
              by_cases hx128 : x < 128
              · have hxI : (x : Int) < 128 := by omega
                by_cases hxz : x = 0
                · have hx0I : ((x : Int) == 0) = true := by rw [hxz]; rfl
                  clear hxz
                  have hr := HS.out
                  rw [HD.out, scan_last hbad hx128] at hr
                  simp only [Prod.mk.injEq] at hr
                  obtain ⟨hn, hcn, rfl⟩ := hr
                  have hMn : M = n := by
                    have h2 := HMS.out
                    rw [Nat.mod_eq_of_lt hx128] at h2
                    omega
                  subst hMn
                  have hqc : q + 1 = p + c := by have := HQ.out; omega
                  by_cases hgt : most < M
                  · obtain rfl : R = (0, (p, 51)) := by rw [← hRR.out, if_neg (by simp), if_pos hgt]
                    have hst := hR.stopped 51 (by omega)
                    have hg1 : decide (most < M) = true := by simpa using hgt
                    clear hgt hbad
                    go_wp2
                    exact bodyPost_ret (v := .int .u64 0) (by simp [results, Try.results70, go_sem]) rfl ⟨rfl, hst⟩
                  · obtain rfl : R = (M, (p + c, 0)) := by rw [← hRR.out, if_neg (by simp), if_neg hgt]
                    have hst := hR.moved (q + 1) (by omega)
                    rw [hqc] at hst
                    have hq1 : ((p + c : Nat) : Int) = (q : Int) + 1 := by omega
                    rw [hq1] at hst
                    have hg1 : decide (most < M) = false := by simpa using hgt
                    clear hgt hbad hq1
                    go_wp2
                    exact bodyPost_ret (v := .int .u64 (M : Int)) (by simp [results, Try.results70, go_sem]) rfl ⟨rfl, hst⟩
                · have hx0I : ((x : Int) == 0) = false := by simp; omega
                  clear hxz
                  have hr := HS.out
                  rw [HD.out, scan_last hbad hx128] at hr
                  simp only [Prod.mk.injEq] at hr
                  obtain ⟨hn, hcn, rfl⟩ := hr
                  have hMn : M = n := by
                    have h2 := HMS.out
                    rw [Nat.mod_eq_of_lt hx128] at h2
                    omega
                  subst hMn
                  have hqc : q + 1 = p + c := by have := HQ.out; omega
                  by_cases hgt : most < M
                  · obtain rfl : R = (0, (p, 51)) := by rw [← hRR.out, if_neg (by simp), if_pos hgt]
                    have hst := hR.stopped 51 (by omega)
                    have hg1 : decide (most < M) = true := by simpa using hgt
                    clear hgt hbad
                    go_wp2
                    exact bodyPost_ret (v := .int .u64 0) (by simp [results, Try.results70, go_sem]) rfl ⟨rfl, hst⟩
                  · obtain rfl : R = (M, (p + c, 0)) := by rw [← hRR.out, if_neg (by simp), if_neg hgt]
                    have hst := hR.moved (q + 1) (by omega)
                    rw [hqc] at hst
                    have hq1 : ((p + c : Nat) : Int) = (q : Int) + 1 := by omega
                    rw [hq1] at hst
                    have hg1 : decide (most < M) = false := by simpa using hgt
                    clear hgt hbad hq1
                    go_wp2
                    exact bodyPost_ret (v := .int .u64 (M : Int)) (by simp [results, Try.results70, go_sem]) rfl ⟨rfl, hst⟩
              · have hr := HS.out
                rw [HD.out, scan_more hbad (by omega), HMS.out] at hr
                have HR2 := Lib.hid hr
                have ht8 : t ≤ 8 := by omega
                have hxI : (128 : Int) ≤ (x : Int) := by omega
                have hMlt : Hid (M < 128 ^ (t + 1)) := by show _ < _; rw [← HMS.out]; exact scan_grow HM.out
                have hu8 : Hid (u * 128 = 128 ^ (t + 1)) := by show _ = _; rw [HU.out, Nat.pow_succ]
                have hu9 : u * 128 < 18446744073709551616 := by
                  rw [hu8.out]
                  exact Nat.lt_of_le_of_lt (Nat.pow_le_pow_right (by omega) (by omega : t + 1 ≤ 9)) (by decide)
                have huw : IntKind.u64.wrap ((u : Int) * 128) = ((u * 128 : Nat) : Int) := by rw [IntWalk.u64_in _ (by omega)]; simp
                clear hr hbad
                go_wp2
                go_round
                case rel => exact ⟨q + 1, t + 1, M, u * 128, by show _ = _; have := HQ.out; omega, by omega, by omega, rfl, by go_num, by go_num, hu8, hMlt, HR2⟩
                case measure => simp [intOf]; omega
            · have hx0 : x ≠ 0 := fun h1 => hbad (.inr ⟨by omega, h1⟩)
              have hx0I : ((x : Int) == 0) = false := by simp; omega
              clear hx0 ht0
              by_cases hx128 : x < 128
              · have hxI : (x : Int) < 128 := by omega
                have hr := HS.out
                rw [HD.out, scan_last hbad hx128] at hr
                simp only [Prod.mk.injEq] at hr
                obtain ⟨hn, hcn, rfl⟩ := hr
                have hMn : M = n := by
                  have h2 := HMS.out
                  rw [Nat.mod_eq_of_lt hx128] at h2
                  omega
                subst hMn
                have hqc : q + 1 = p + c := by have := HQ.out; omega
                by_cases hgt : most < M
                · obtain rfl : R = (0, (p, 51)) := by rw [← hRR.out, if_neg (by simp), if_pos hgt]
                  have hst := hR.stopped 51 (by omega)
                  have hg1 : decide (most < M) = true := by simpa using hgt
                  clear hgt hbad
                  go_wp2
                  exact bodyPost_ret (v := .int .u64 0) (by simp [results, Try.results70, go_sem]) rfl ⟨rfl, hst⟩
                · obtain rfl : R = (M, (p + c, 0)) := by rw [← hRR.out, if_neg (by simp), if_neg hgt]
                  have hst := hR.moved (q + 1) (by omega)
                  rw [hqc] at hst
                  have hq1 : ((p + c : Nat) : Int) = (q : Int) + 1 := by omega
                  rw [hq1] at hst
                  have hg1 : decide (most < M) = false := by simpa using hgt
                  clear hgt hbad hq1
                  go_wp2
                  exact bodyPost_ret (v := .int .u64 (M : Int)) (by simp [results, Try.results70, go_sem]) rfl ⟨rfl, hst⟩
              · have hr := HS.out
                rw [HD.out, scan_more hbad (by omega), HMS.out] at hr
                have HR2 := Lib.hid hr
                have ht8 : t ≤ 8 := by omega
                have hxI : (128 : Int) ≤ (x : Int) := by omega
                have hMlt : Hid (M < 128 ^ (t + 1)) := by show _ < _; rw [← HMS.out]; exact scan_grow HM.out
                have hu8 : Hid (u * 128 = 128 ^ (t + 1)) := by show _ = _; rw [HU.out, Nat.pow_succ]
                have hu9 : u * 128 < 18446744073709551616 := by
                  rw [hu8.out]
                  exact Nat.lt_of_le_of_lt (Nat.pow_le_pow_right (by omega) (by omega : t + 1 ≤ 9)) (by decide)
                have huw : IntKind.u64.wrap ((u : Int) * 128) = ((u * 128 : Nat) : Int) := by rw [IntWalk.u64_in _ (by omega)]; simp
                clear hr hbad
                go_wp2
                go_round
                case rel => exact ⟨q + 1, t + 1, M, u * 128, by show _ = _; have := HQ.out; omega, by omega, by omega, rfl, by go_num, by go_num, hu8, hMlt, HR2⟩
                case measure => simp [intOf]; omega
      · have hqe : q = bs.length := by omega
        have hr := HS.out
        rw [hqe, List.drop_length, scan_nil] at hr
        simp only [Prod.mk.injEq] at hr
        obtain ⟨rfl, rfl, rfl⟩ := hr
        obtain rfl : R = (0, (p, 50)) := hRR.out.symm
        have hst := hR.stopped 50 (by omega)
        have hqI : (bs.length : Int) ≤ (q : Int) := by omega
        clear hqe hlt
        go_wp2
        exact bodyPost_ret (v := .int .u64 0) (by simp [results, Try.results70, go_sem]) rfl ⟨rfl, hst⟩
  · have hrd : rdNum bs (p, e0) most = (0, (p, e0)) := by unfold rdNum; rw [if_pos he]
    rw [hrd]
    have h1 : ((e0 : Int) != 0) = true := by simp; omega
    have h2 : ((e0 : Int) == 0) = false := by simp; omega
    clear hrd he
    go_enter Try.func70, Try.ntmps70
    go_wp2
    exact bodyPost_ret (v := .int .u64 0) (by simp [results, Try.results70, go_sem]) rfl ⟨rfl, hR, grown_refl _ _⟩
end Go.Proofs.Ytjgbpgdnmghcpaa
namespace Go.Proofs.Ytjgbpgdnmghcpaa
open Go.RowKit
set_option linter.unusedVariables false
set_option linter.unusedSimpArgs false

theorem RR.trans {w w1 w2 : World} {d B : Nat} {bs : List Nat} {s s' : Nat × Nat} {A : Option Addr} {c : Nat} (h : RR w d B bs s A c w1) (k : RR w1 d B bs s' A c w2) : RR w d B bs s' A c w2 := ⟨k.1, grown_trans h.2 k.2⟩

theorem rdNum_max {bs : List Nat} {p n c e : Nat} (hs : scan 0 0 (bs.drop p) = (n, c, e)) (hn : n < 18446744073709551616) : rdNum bs (p, 0) 18446744073709551615 = if e ≠ 0 then (0, (p, e)) else (n, (p + c, 0)) := by
  unfold rdNum
  rw [if_neg (by simp)]
  simp only [hs]
  by_cases h : e ≠ 0
  · rw [if_pos h, if_pos h]
  · rw [if_neg h, if_neg h, if_neg (by omega)]
theorem rdInt_nat {bs : List Nat} {s : Nat × Nat} {mo : Nat} : rdInt bs s (mo : Int) = rdNum bs s mo := by
  unfold rdInt rdNum
  by_cases h1 : s.2 ≠ 0
  · rw [if_pos h1, if_pos h1]
  · rw [if_neg h1, if_neg h1]
    by_cases h2 : (scan 0 0 (bs.drop s.1)).2.2 ≠ 0
    · rw [if_pos h2, if_pos h2]
    · rw [if_neg h2, if_neg h2]
      by_cases h3 : mo < (scan 0 0 (bs.drop s.1)).1
      · rw [if_pos (by omega), if_pos h3]
      · rw [if_neg (by omega), if_neg h3]

theorem rdNum_le {bs : List Nat} {s : Nat × Nat} {mo : Nat} : (rdNum bs s mo).1 ≤ mo := by
  unfold rdNum
  split
  · exact Nat.zero_le _
  · split
    · exact Nat.zero_le _
    · split
      · exact Nat.zero_le _
      · simp only; omega

set_option maxRecDepth 100000 in
set_option maxHeartbeats 2000000 in
theorem refrint_is (d B : Nat) (bs : List Nat) (s : Nat × Nat) (A : Option Addr) (cp : Nat) (most : Int) (w : World) (hR : RefR w d B bs s A cp) (h0 : -9223372036854775808 ≤ most) (h1 : most ≤ 9223372036854775807) :
    Calls Try.prog 71 #[.pointer (some ⟨d, 0, none⟩), .int .i64 most] w fun ev w' => ev = .returned (.int .i64 ((rdInt bs s most).1 : Int)) ∧ RR w d B bs (rdInt bs s most).2 A cp w' := by
  by_cases hneg : most < 0
  · obtain ⟨p, e0⟩ := s
    obtain ⟨c0, c1, c2, f1, f2⟩ := hR.cells
    simp only at c1 c2
    have kn := refnum_is d B bs (p, e0) A cp 18446744073709551615 w hR (by omega)
    by_cases he : e0 = 0
    · subst he
      obtain ⟨n, c, e, hs, hcs⟩ := scan_two (l := bs.drop p) (fun x hx => hR.bytes x (List.mem_of_mem_drop hx))
      have hn : n < 18446744073709551616 := by rcases hcs with h | h <;> omega
      rw [rdNum_max hs hn] at kn
      rw [rdInt_parts most hs]
      have HCS := Lib.hid hcs
      clear hs hcs
      by_cases he0 : e = 0
      · subst he0
        rw [if_neg (by simp), if_pos (.inl hneg)]
        rw [if_neg (by simp)] at kn
        go_enter Try.func71, Try.ntmps71
        go_wp2_with (go_at_call 70; refine kn.mono ?_; clear kn; rintro ev w1 ⟨rfl, hR1, hg1⟩; obtain ⟨d0, d1, d2, g1, g2⟩ := hR1.cells; simp only at d1 d2)
        have hR2 := hR1.moved p hR.place
        have hR3 := hR2.1.stopped 51 (by omega)
        exact bodyPost_ret (v := .int .i64 0) (by simp [results, Try.results71, go_sem]) rfl ⟨rfl, (RR.trans ⟨hR1, hg1⟩ hR2).trans hR3⟩
      · rw [if_pos he0] at kn ⊢
        have he1 : ((e : Int) != 0) = true := by simp; omega
        have he2 : ((e : Int) == 0) = false := by simp; omega
        clear he0
        go_enter Try.func71, Try.ntmps71
        go_wp2_with (go_at_call 70; refine kn.mono ?_; clear kn; rintro ev w1 ⟨rfl, hR1, hg1⟩; obtain ⟨d0, d1, d2, g1, g2⟩ := hR1.cells; simp only at d1 d2)
        have hR2 := hR1.moved p hR.place
        exact bodyPost_ret (v := .int .i64 0) (by simp [results, Try.results71, go_sem]) rfl ⟨rfl, RR.trans ⟨hR1, hg1⟩ hR2⟩
    · have hrd : rdInt bs (p, e0) most = (0, (p, e0)) := by unfold rdInt; rw [if_pos he]
      have hrn : rdNum bs (p, e0) 18446744073709551615 = (0, (p, e0)) := by unfold rdNum; rw [if_pos he]
      rw [hrn] at kn
      rw [hrd]
      have he1 : ((e0 : Int) != 0) = true := by simp; omega
      have he2 : ((e0 : Int) == 0) = false := by simp; omega
      clear hrd hrn he
      go_enter Try.func71, Try.ntmps71
      go_wp2_with (go_at_call 70; refine kn.mono ?_; clear kn; rintro ev w1 ⟨rfl, hR1, hg1⟩; obtain ⟨d0, d1, d2, g1, g2⟩ := hR1.cells; simp only at d1 d2)
      have hR2 := hR1.moved p hR.place
      exact bodyPost_ret (v := .int .i64 0) (by simp [results, Try.results71, go_sem]) rfl ⟨rfl, RR.trans ⟨hR1, hg1⟩ hR2⟩
  · obtain ⟨mo, rfl⟩ := Int.eq_ofNat_of_zero_le (by omega : 0 ≤ most)
    have kn := refnum_is d B bs s A cp mo w hR (by omega)
    rw [rdInt_nat]
    have hle := rdNum_le (bs := bs) (s := s) (mo := mo)
    obtain ⟨R, hRR⟩ : ∃ R, Hid (rdNum bs s mo = R) := ⟨_, rfl⟩
    rw [hRR.out] at kn hle ⊢
    have hm0 : (0 : Int) ≤ (mo : Int) := by omega
    have hwr : IntKind.u64.wrap (mo : Int) = (mo : Int) := IntWalk.u64_in _ (by omega)
    have hwi : IntKind.i64.wrap (R.1 : Int) = (R.1 : Int) := IntWalk.i64_in _ (by omega)
    clear hneg
    go_enter Try.func71, Try.ntmps71
    go_wp2_with (go_at_call 70; refine kn.mono ?_; clear kn; rintro ev w1 ⟨rfl, hR1⟩)
    exact bodyPost_ret (v := .int .i64 (R.1 : Int)) (by simp [results, Try.results71, go_sem]) rfl ⟨rfl, hR1⟩

end Go.Proofs.Ytjgbpgdnmghcpaa
