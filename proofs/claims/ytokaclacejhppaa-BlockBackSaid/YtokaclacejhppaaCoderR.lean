/- Layer 5 (coder): a reader in memory, and its calls. By contracts. -/
import Derived.Test.YtokaclacejhppaaCoderW
import Derived.Deep.CutRange
import Derived.Deep.CutBlock
namespace Go.Proofs.Ytokaclacejhppaa
open Go.RowKit
set_option linter.unusedVariables false

/-- In block b lies a reader of the bytes, at its place, with its failure; the bytes lie in blocks of which F is said. -/
structure ReaderAt (w : World) (b : Nat) (F : Nat → Prop) (bs : List Nat) (s : Nat × Nat) (A : Option Addr) (c : Nat) : Prop where
  block : w.heap[b]? = some (.cells #[.int .i64 (s.1 : Int), .int .i64 (s.2 : Int), .slice A bs.length c] 84 (0, 0))
  lies : Lies w F A bs
  room : bs.length ≤ c
  most : c ≤ maxLen
  place : s.1 ≤ bs.length
  small : s.2 ≤ 100
  apart : ¬ F b
  bytes : ∀ x ∈ bs, x < 256

theorem ReaderAt.lt {w : World} {b : Nat} {F : Nat → Prop} {bs : List Nat} {s : Nat × Nat} {A : Option Addr} {c : Nat} (h : ReaderAt w b F bs s A c) : b < w.heap.size := by
  have := h.block
  rw [Array.getElem?_eq_some_iff] at this
  exact this.1
theorem ReaderAt.grown {w w' : World} {b : Nat} {F : Nat → Prop} {bs : List Nat} {s : Nat × Nat} {A : Option Addr} {c : Nat} (h : ReaderAt w b F bs s A c) {row : Option Nat} (hg : w.grownBy w' row) (hb : some b ≠ row) (hF : ∀ k, F k → some k ≠ row) : ReaderAt w' b F bs s A c :=
  ⟨by rw [hg.block b h.lt hb]; exact h.block, h.lies.grown hg hF, h.room, h.most, h.place, h.small, h.apart, h.bytes⟩
theorem cell_arr {w : World} {b k : Nat} {C : Array Value} {t : TypeId} {v : Value} (h : w.heap[b]? = some (.cells C t (0, 0))) (hk : C[k]? = some v) : w.cell? ⟨b, k, none⟩ = some v := by
  rw [cell_of_row w b k _ t (0, 0) h]; exact hk
theorem ReaderAt.cells {w : World} {b : Nat} {F : Nat → Prop} {bs : List Nat} {s : Nat × Nat} {A : Option Addr} {c : Nat} (h : ReaderAt w b F bs s A c) :
    w.cell? ⟨b, 0, none⟩ = some (.int .i64 (s.1 : Int)) ∧ w.cell? ⟨b, 1, none⟩ = some (.int .i64 (s.2 : Int)) ∧ w.cell? ⟨b, 2, none⟩ = some (.slice A bs.length c) ∧ w.frozen? ⟨b, 0, none⟩ = false ∧ w.frozen? ⟨b, 1, none⟩ = false :=
  ⟨cell_arr h.block rfl, cell_arr h.block rfl, cell_arr h.block rfl, frozen_of_row w b 0 _ _ h.block, frozen_of_row w b 1 _ _ h.block⟩

theorem rshut_nil (w : World) :
    Calls Try.prog 39 #[.pointer none] w fun e w' => e = .returned (.bool true) ∧ w = w' := by
  go_enter Try.func39, Try.ntmps39
  go_wp2_with fail
  go_ret
  exact ⟨rfl, rfl⟩
theorem rshut_no (b : Nat) (w : World) (h : w.cell? ⟨b, 1, none⟩ = some (.int .i64 0)) :
    Calls Try.prog 39 #[.pointer (some ⟨b, 0, none⟩)] w fun e w' => e = .returned (.bool false) ∧ w = w' := by
  have k := failed_no b w h
  go_enter Try.func39, Try.ntmps39
  go_wp2_with (go_at_call 32; refine k.mono ?_; rintro e w' ⟨rfl, rfl⟩)
  go_ret
  exact ⟨rfl, rfl⟩
theorem rshut_yes (b e : Nat) (w : World) (h : w.cell? ⟨b, 1, none⟩ = some (.int .i64 (e : Int))) (he : e ≠ 0) :
    Calls Try.prog 39 #[.pointer (some ⟨b, 0, none⟩)] w fun e w' => e = .returned (.bool true) ∧ w = w' := by
  have k := failed_yes b e w h he
  clear he
  go_enter Try.func39, Try.ntmps39
  go_wp2_with (go_at_call 32; refine k.mono ?_; rintro e w' ⟨rfl, rfl⟩)
  go_ret
  exact ⟨rfl, rfl⟩

theorem or_up (m v i : Nat) (hm : m < 128 ^ i) (hv : m + v * 128 ^ i < 18446744073709551616) : bits .or .u64 (m : Int) ((v * 128 ^ i : Nat) : Int) = ((m + v * 128 ^ i : Nat) : Int) := by
  have hb := bits_nat .u64 64 (by decide) (fun n h1 h2 => IntWalk.u64_in _ (by omega)) m (v * 128 ^ i) (by omega) (by omega)
  rw [hb.2]
  congr 1
  have e : (128 : Nat) ^ i = 2 ^ (7 * i) := by rw [Nat.pow_mul]
  rw [e] at hm ⊢
  rw [Nat.or_comm, Nat.mul_comm v, ← Nat.two_pow_add_eq_or_of_lt hm v, Nat.add_comm]

theorem scan_room {i x m : Nat} (h9 : i ≤ 9) (hm : m < 128 ^ i) (h : ¬ ((i = 9 ∧ 1 < x) ∨ (0 < i ∧ x = 0))) : m + x % 128 * 128 ^ i < 18446744073709551616 := by
  rcases Nat.lt_or_ge i 9 with h1 | h1
  · have h2 : x % 128 * 128 ^ i ≤ 127 * 128 ^ i := Nat.mul_le_mul_right _ (by omega)
    have h3 : (128 : Nat) ^ i ≤ 128 ^ 8 := Nat.pow_le_pow_right (by omega) (by omega)
    have h4 : (128 : Nat) ^ 8 = 72057594037927936 := by decide
    omega
  · obtain rfl : i = 9 := by omega
    have h2 : ¬ 1 < x := fun hx => h (.inl ⟨rfl, hx⟩)
    have h4 : (128 : Nat) ^ 9 = 9223372036854775808 := by decide
    rw [h4] at hm ⊢
    have : x % 128 ≤ 1 := by omega
    omega

theorem scan_grow {i x m : Nat} (hm : m < 128 ^ i) : m + x % 128 * 128 ^ i < 128 ^ (i + 1) := by
  have h2 : x % 128 * 128 ^ i ≤ 127 * 128 ^ i := Nat.mul_le_mul_right _ (by omega)
  rw [Nat.pow_succ]
  omega

theorem Lies.past {w : World} {S : Nat → Prop} {A : Option Addr} {xs : List Nat} {j c : Nat} (h : Lies w S A xs) (hj : j ≤ xs.length) (hc : xs.length ≤ c) : Lies w S (if c = j then A else Option.map (fun x => x.add j) A) (xs.drop j) := by
  rcases A with _ | a
  · have : xs = [] := by
      cases xs with
      | nil => rfl
      | cons x r => obtain ⟨a, ha, _⟩ := h 0 x rfl; cases ha
    subst this
    simpa using Lies.nil _ _ _
  · exact h.behind hj hc

set_option maxRecDepth 100000 in
set_option maxHeartbeats 2000000 in
theorem number_is (b : Nat) (F : Nat → Prop) (bs : List Nat) (s : Nat × Nat) (A : Option Addr) (cp : Nat) (w : World) (hR : ReaderAt w b F bs s A cp) (n c e en : Nat) (h : Hid (scan 0 0 (bs.drop s.1) = (n, c, e))) (hen : Hid (en = if e = 0 then s.1 + c else 0)) :
    Calls Try.prog 60 #[.pointer (some ⟨b, 0, none⟩)] w fun ev w' => ev = .returned (.tuple #[.int .u64 (n : Int), .int .i64 (en : Int), .int .i64 (e : Int)]) ∧ ∃ k, w' = w.drewN k := by
  obtain ⟨p, e0⟩ := s
  obtain ⟨c0, c1, c2, f0, f1⟩ := hR.cells
  have hcm := hR.most
  unfold maxLen at hcm
  have hpl := hR.place
  have hrm := hR.room
  have hp1 : (p : Int) ≤ (bs.length : Int) := by have : p ≤ bs.length := hpl; omega
  have hp2 : (bs.length : Int) ≤ (cp : Int) := by omega
  simp only at c0
  have hbh := hR.lies.past (j := p) hpl hrm
  have hby : ∀ x ∈ bs.drop p, x < 256 := fun x hx => hR.bytes x (List.mem_of_mem_drop hx)
  have hdl : (bs.drop p).length = bs.length - p := by simp
  go_enter Try.func60, Try.ntmps60
  go_wp2
  go_quiet (fail)
  generalize (if cp = p then A else Option.map (fun x => x.add p) A) = A2 at hbh ⊢
  generalize bs.length - p = L at hdl ⊢
  generalize cp - p = C2
  obtain ⟨l, hl⟩ : ∃ l, Hid (bs.drop p = l) := ⟨_, rfl⟩
  rw [hl.out] at hbh hby hdl h
  subst hdl
  have HBH := Lib.hid hbh
  have HBY := Lib.hid hby
  have hlm : l.length ≤ 9223372036854775807 := by rw [← hl.out, List.length_drop]; omega
  have hpl2 : p + l.length ≤ 9223372036854775807 := by rw [← hl.out, List.length_drop]; omega
  clear hbh hby hp1 hp2 hpl hrm hcm
  go_wp2
  go_loop [18, 2] (fun iv nv => ∃ i m : Nat, i ≤ l.length ∧ (i < l.length → i ≤ 9) ∧ iv = .int .i64 (i : Int) ∧ nv = .int .u64 (m : Int) ∧ m < 128 ^ i ∧ Hid (scan i m (l.drop i) = (n, c, e))) (fun iv _ => l.length - (intOf iv).toNat)
  case atStart => exact ⟨0, 0, Nat.zero_le _, fun _ => by omega, rfl, rfl, by simp, h⟩
  case round =>
    obtain ⟨i, m, hi, hi9, rfl, rfl, hm, HS⟩ := hrel
    by_cases hlt : i < l.length
    · obtain ⟨a, rfl, hab, hca⟩ := HBH.out.get hlt
      have h9 := hi9 hlt
      obtain ⟨x, hx⟩ : ∃ x, Hid (l[i] = x) := ⟨l[i], Lib.hid rfl⟩
      have hx256 : x < 256 := by rw [← hx.out]; exact HBY.out _ (List.getElem_mem hlt)
      have hdrop : l.drop i = x :: l.drop (i + 1) := by rw [List.drop_eq_getElem_cons hlt, hx.out]
      rw [hx.out] at hca
      have HD := Lib.hid hdrop
      have hiI : (i : Int) < (l.length : Int) := by omega
      clear hdrop hi9
      have hcast : IntKind.i64.wrap ((p : Int) + (i : Int)) = (p : Int) + (i : Int) := IntWalk.i64_in _ (by omega)
      have hcast2 : IntKind.i64.wrap ((p : Int) + (i : Int) + 1) = (p : Int) + (i : Int) + 1 := IntWalk.i64_in _ (by omega)
      have HC1 := Lib.hid hcast
      have HC2 := Lib.hid hcast2
      have hand := and127 ⟨x, hx256⟩
      simp only at hand
      obtain ⟨v, hv⟩ : ∃ v, Hid (x % 128 = v) := ⟨_, rfl⟩
      rw [hv.out] at hand
      have hv128 : v < 128 := by rw [← hv.out]; omega
      have hvw : IntKind.u64.wrap (v : Int) = (v : Int) := IntWalk.u64_in _ (by omega)
      clear hcast hcast2
      by_cases hbad : (i = 9 ∧ 1 < x) ∨ (0 < i ∧ x = 0)
      · have hr := HS.out
        rw [HD.out, scan_bad hbad] at hr
        simp only [Prod.mk.injEq] at hr
        obtain ⟨rfl, rfl, rfl⟩ := hr
        obtain rfl : en = 0 := by rw [hen.out]; rfl
        clear hen h
        rcases hbad with ⟨h9e, hx1⟩ | ⟨hi0, rfl⟩
        · have h9I : ((i : Int) == 9) = true := by simp; omega
          clear h9e
          have hx1I : (1 : Int) < (x : Int) := by omega
          go_wp2
          refine bodyPost_ret (v := .tuple #[.int .u64 0, .int .i64 0, .int .i64 51]) (by simp [results, Try.results60, go_sem]) rfl ⟨rfl, nq, rfl⟩
        · have hi0I : (0 : Int) < (i : Int) := by omega
          by_cases h9e : i = 9
          · have h9I : ((i : Int) == 9) = true := by simp; omega
            clear h9e
            go_wp2
            refine bodyPost_ret (v := .tuple #[.int .u64 0, .int .i64 0, .int .i64 51]) (by simp [results, Try.results60, go_sem]) rfl ⟨rfl, nq, rfl⟩
          · have h9I : ((i : Int) == 9) = false := by simp; omega
            go_wp2
            refine bodyPost_ret (v := .tuple #[.int .u64 0, .int .i64 0, .int .i64 51]) (by simp [results, Try.results60, go_sem]) rfl ⟨rfl, nq, rfl⟩
      · have hroom := scan_room (i := i) (x := x) (m := m) h9 hm hbad
        rw [hv.out] at hroom
        obtain ⟨V, hV⟩ : ∃ V, Hid (v * 128 ^ i = V) := ⟨_, rfl⟩
        have hor := or_up m v i hm hroom
        rw [hV.out] at hroom hor
        obtain ⟨M, hM⟩ : ∃ M, Hid (m + V = M) := ⟨_, rfl⟩
        rw [hM.out] at hroom hor
        have hsh : IntKind.u64.wrap ((v : Int) * 2 ^ (i * 7)) = (V : Int) := by
          have e : (v : Int) * 2 ^ (i * 7) = (V : Int) := by
            rw [← hV.out, Nat.mul_comm i 7, Int.pow_mul]; simp
          rw [e, IntWalk.u64_in _ (by have := hM.out; omega)]
        have hMs := hM.out
        rw [← hV.out, ← hv.out] at hMs
        have HMS := Lib.hid hMs
        clear hMs
        by_cases h9e : i = 9
        · have h9I : ((i : Int) == 9) = true := by simp; omega
          have hi0I : (0 : Int) < (i : Int) := by omega
          have hx1 : ¬ 1 < x := fun h1 => hbad (.inl ⟨h9e, h1⟩)
          have hx0 : x ≠ 0 := fun h1 => hbad (.inr ⟨by omega, h1⟩)
          have hx1I : (x : Int) ≤ 1 := by omega
          have hx0I : ((x : Int) == 0) = false := by simp; omega
          have hxI : (x : Int) < 128 := by omega
          have hx128 : x < 128 := by omega
          clear h9e hx1 hx0
          have hr := HS.out
          rw [HD.out, scan_last hbad hx128] at hr
          simp only [Prod.mk.injEq] at hr
          have HRR := Lib.hid hr
          have hcast := HC1.out
          have hcast2 := HC2.out
          clear hr hbad
          go_wp2
          go_quiet (fail)
          go_wp2_with fail
          refine bodyPost_ret (v := .tuple #[.int .u64 (M : Int), .int .i64 ((p : Int) + (i : Int) + 1), .int .i64 0]) (by simp [results, Try.results60, go_sem]) rfl ⟨?_, _, World.drewN_drewN _ _ _⟩
          have hn : (M : Int) = (n : Int) := by
            have h1 := HRR.out.1
            have h2 := HMS.out
            rw [Nat.mod_eq_of_lt hx128] at h2
            omega
          have hee : (p : Int) + (i : Int) + 1 = (en : Int) := by
            have h1 := HRR.out.2.1
            have h2 := hen.out
            rw [← HRR.out.2.2, if_pos rfl] at h2
            omega
          have he0 : (0 : Int) = (e : Int) := by have := HRR.out.2.2; omega
          rw [hn, hee, he0]
        · have h9I : ((i : Int) == 9) = false := by simp; omega
          by_cases hi0 : i = 0
          · have hi0I : (0 < i) = False := by simp; omega
            have hi0D : decide (0 < i) = false := by simp; omega
            clear hi0
            by_cases hx128 : x < 128
            · have hxI : (x : Int) < 128 := by omega
              have hr := HS.out
              rw [HD.out, scan_last hbad hx128] at hr
              simp only [Prod.mk.injEq] at hr
              have HRR := Lib.hid hr
              have hcast := HC1.out
              have hcast2 := HC2.out
              clear hr hbad
              go_wp2
              go_quiet (fail)
              go_wp2_with fail
              refine bodyPost_ret (v := .tuple #[.int .u64 (M : Int), .int .i64 ((p : Int) + (i : Int) + 1), .int .i64 0]) (by simp [results, Try.results60, go_sem]) rfl ⟨?_, _, World.drewN_drewN _ _ _⟩
              have hn : (M : Int) = (n : Int) := by
                have h1 := HRR.out.1
                have h2 := HMS.out
                rw [Nat.mod_eq_of_lt hx128] at h2
                omega
              have hee : (p : Int) + (i : Int) + 1 = (en : Int) := by
                have h1 := HRR.out.2.1
                have h2 := hen.out
                rw [← HRR.out.2.2, if_pos rfl] at h2
                omega
              have he0 : (0 : Int) = (e : Int) := by have := HRR.out.2.2; omega
              rw [hn, hee, he0]
            · have hr := HS.out
              rw [HD.out, scan_more hbad (by omega), HMS.out] at hr
              have HRR := Lib.hid hr
              have hi8 : i ≤ 8 := by omega
              have hxI : (128 : Int) ≤ (x : Int) := by omega
              have hMlt : M < 128 ^ (i + 1) := by rw [← HMS.out]; exact scan_grow hm
              have hMs := Lib.hid hMlt
              clear hr hbad hMlt
              go_wp2
              go_round
              case rel => exact ⟨i + 1, M, by omega, fun _ => by omega, by go_num, rfl, hMs.out, HRR.out⟩
              case measure => simp [intOf]; omega
          · have hi0I : (0 : Int) < (i : Int) := by omega
            have hx0 : x ≠ 0 := fun h1 => hbad (.inr ⟨by omega, h1⟩)
            have hx0I : ((x : Int) == 0) = false := by simp; omega
            clear hx0 hi0
            by_cases hx128 : x < 128
            · have hxI : (x : Int) < 128 := by omega
              have hr := HS.out
              rw [HD.out, scan_last hbad hx128] at hr
              simp only [Prod.mk.injEq] at hr
              have HRR := Lib.hid hr
              have hcast := HC1.out
              have hcast2 := HC2.out
              clear hr hbad
              go_wp2
              go_quiet (fail)
              go_wp2_with fail
              refine bodyPost_ret (v := .tuple #[.int .u64 (M : Int), .int .i64 ((p : Int) + (i : Int) + 1), .int .i64 0]) (by simp [results, Try.results60, go_sem]) rfl ⟨?_, _, World.drewN_drewN _ _ _⟩
              have hn : (M : Int) = (n : Int) := by
                have h1 := HRR.out.1
                have h2 := HMS.out
                rw [Nat.mod_eq_of_lt hx128] at h2
                omega
              have hee : (p : Int) + (i : Int) + 1 = (en : Int) := by
                have h1 := HRR.out.2.1
                have h2 := hen.out
                rw [← HRR.out.2.2, if_pos rfl] at h2
                omega
              have he0 : (0 : Int) = (e : Int) := by have := HRR.out.2.2; omega
              rw [hn, hee, he0]
            · have hr := HS.out
              rw [HD.out, scan_more hbad (by omega), HMS.out] at hr
              have HRR := Lib.hid hr
              have hi8 : i ≤ 8 := by omega
              have hxI : (128 : Int) ≤ (x : Int) := by omega
              have hMlt : M < 128 ^ (i + 1) := by rw [← HMS.out]; exact scan_grow hm
              have hMs := Lib.hid hMlt
              clear hr hbad hMlt
              go_wp2
              go_round
              case rel => exact ⟨i + 1, M, by omega, fun _ => by omega, by go_num, rfl, hMs.out, HRR.out⟩
              case measure => simp [intOf]; omega
    · obtain rfl : i = l.length := by omega
      have hr := HS.out
      rw [List.drop_length, scan_nil] at hr
      simp only [Prod.mk.injEq] at hr
      obtain ⟨rfl, rfl, rfl⟩ := hr
      obtain rfl : en = 0 := by rw [hen.out]; rfl
      clear hlt hen h hi9
      go_wp2
      refine bodyPost_ret (v := .tuple #[.int .u64 0, .int .i64 0, .int .i64 50]) (by simp [results, Try.results60, go_sem]) rfl ⟨rfl, nq, rfl⟩
end Go.Proofs.Ytokaclacejhppaa
