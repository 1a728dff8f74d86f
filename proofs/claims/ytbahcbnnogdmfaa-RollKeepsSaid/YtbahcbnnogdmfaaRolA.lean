/- Layer 20 (roll): nobody's marks; marks with more of them; the document's. By contracts. -/
import Derived.Test.YtbahcbnnogdmfaaRolM
import Derived.Test.YtbahcbnnogdmfaaBitD
namespace Go.Proofs.Ytbahcbnnogdmfaa
open Go.RowKit
set_option linter.unusedVariables false
set_option linter.unusedSimpArgs false

set_option maxRecDepth 100000 in
theorem empty_is (w : World) : Calls Try.prog 10 #[] w fun e w' => e = .returned (.slice (some ⟨w.heap.size, 0, none⟩) 16 16) ∧ w'.ownsRow w.heap.size 5 1 (.slice (some ⟨w.heap.size, 0, none⟩) 16 16) 16 (u8s nobody) ∧ Below w.heap.size w w' := by
  obtain ⟨i0, hi0, hz0, hz1, hz2⟩ := info_parts u8_info
  have ks := size_ok 128 w (by omega)
  have hmk : ∀ W : World, (Instr.makeSlice 22 (.int .i64 16) (.int .i64 16)).run Try.prog W =
      .ok (.slice (some ⟨W.heap.size, 0, none⟩) 16 16) (W.alloc (.cells (madeCells #[.int .u8 0] 16) 5)) := by
    intro W
    have h := run_make (P := Try.prog) W 22 5 i0 (.int .u8 0) Try.underlying22 hi0 hz0 .i64 .i64 16 16 (by omega) (by omega) (by rw [hz2]; omega) (by omega)
    rw [hz1] at h
    exact h
  clear hi0 hz0 hz1 hz2
  go_enter Try.func10, Try.ntmps10
  go_wp2_with (go_at_call 24; refine ks.mono ?_; clear ks; rintro e w' ⟨rfl, rfl⟩)
  clear hmk
  refine bodyPost_ret (v := .slice (some ⟨w.heap.size, 0, none⟩) 16 16) (by simp [results, Try.results10, go_sem]) rfl ⟨rfl, own_zeros w (Nat.le_refl _) 16 (by unfold maxLen; omega), (Below.refl _ w).alloc (Nat.le_refl _) _⟩

theorem splice_wide {fs : List Nat} (h : fs.length ≤ 16) : splice (u8s nobody) 0 (u8s fs) = u8s (wide fs) := by
  unfold splice wide nobody
  rw [List.take_zero, List.nil_append, Nat.zero_add, u8s_len, u8s_drop, List.drop_replicate, u8s_append]

theorem owns_bytes {w : World} {base g : Nat} {xs : List Nat} {n : Nat} (hb : base ≤ g) (hn : n = xs.length) (hm : n ≤ maxLen) (h : w.heap[g]? = some (.cells (u8s xs).toArray 5 (0, 0))) : w.ownsRow base 5 1 (.slice (some ⟨g, 0, none⟩) n n) n (u8s xs) :=
  ⟨by rw [u8s_len]; omega, .inr ⟨g, n, (u8s xs).toArray, rfl, hb, h, Nat.le_refl _, hm, by rw [List.size_toArray, u8s_len]; omega, by rw [hn, Nat.mul_one, ← u8s_len xs]; simp⟩⟩

/-- Of a row that fills its block: what its block holds. -/
theorem full_block {w : World} {base g n : Nat} {e : TypeId} {xs : List Value} (h : w.ownsRow base e 1 (.slice (some ⟨g, 0, none⟩) n n) n xs) : w.heap[g]? = some (.cells xs.toArray e (0, 0)) := by
  rcases h.2 with ⟨h1, _⟩ | ⟨g', cap, cur, h1, hg, hh, hnc, hcm, hs, ht⟩
  · cases h1
  · cases h1
    rw [hh]
    have : cur.toList.take (n * 1) = cur.toList := List.take_of_length_le (by rw [Array.length_toList, hs]; exact Nat.le_refl _)
    rw [this] at ht
    rw [← ht]

set_option maxRecDepth 100000 in
set_option maxHeartbeats 1000000 in
theorem mark_is (ms fs : List Nat) (n : Int) (A A' : Option Addr) (c c' : Nat) (w : World) (hm : Lies w (· < w.heap.size) A ms) (hb : ∀ x ∈ ms, x < 256) (hf : Lies w (· < w.heap.size) A' fs) (hb' : ∀ x ∈ fs, x < 256) :
    Calls Try.prog 7 #[.slice A ms.length c, .slice A' fs.length c', .int .i64 n] w fun e w' => BytesOf w (marked ms fs n) e w' := by
  by_cases hn : 128 < n
  · rw [marked_no (fun h => by have := h.2.1; omega)]
    have hD : decide ((128 : Int) < n) = true := decide_eq_true hn
    go_enter Try.func7, Try.ntmps7
    go_wp2
    refine bodyPost_ret (v := .tuple #[.slice none 0 0, .int .i64 60]) (by simp [results, Try.results7, go_sem]) rfl (BytesOf.none 60 (Below.refl _ _))
  · have hn' : n ≤ 128 := by omega
    have hD : decide ((128 : Int) < n) = false := decide_eq_false hn
    by_cases hF : FieldI fs n
    · have kc := check_yes fs _ A' c' n w hf hb' hF
      have hfl := field_len hF hn'
      have hfw := wide_marks hF hn'
      have hall := wide_all hb'
      have hwl := wide_len hfl
      obtain ⟨y, xs, hr⟩ : ∃ y xs, marked ms fs n = (xs, y) := ⟨_, _, rfl⟩
      have kj : ∀ W g, Below w.heap.size w W → W.ownsRow w.heap.size 5 1 (.slice (some ⟨g, 0, none⟩) 16 16) 16 (u8s (wide fs)) →
          Calls Try.prog 21 #[.slice A ms.length c, .slice (some ⟨g, 0, none⟩) 16 16, .int .i64 128] W fun e w' => ∃ v, e = .returned (.tuple #[v, .int .i64 (y : Int)]) ∧ w'.ownsRow w.heap.size 5 1 v xs.length (u8s xs) ∧ Below W.heap.size W w' := by
        intro W g hB ho
        have hmW : Lies W (· < w.heap.size) A ms := hm.hold fun p hp => hB.cell hp
        have hwW : Lies W (· < W.heap.size) (some ⟨g, 0, none⟩) (wide fs) := Lies.ofRow (own_row ho)
        by_cases hM : IsMarks ms
        · rw [marked_yes hM hn' hF] at hr
          cases hr
          have k := join_ok ms (wide fs) _ _ A (some ⟨g, 0, none⟩) c 16 128 W hmW hb hwW hall ⟨hM, hfw⟩
          rw [hwl] at k
          refine k.mono ?_
          rintro e w' ⟨v, rfl, ho2, hb2⟩
          refine ⟨v, rfl, ?_, hb2⟩
          rw [joined_len]
          exact own_base ho2 hB.size
        · rw [marked_no (fun h => hM h.1)] at hr
          cases hr
          have k := join_no ms (wide fs) _ _ A (some ⟨g, 0, none⟩) c 16 128 W hmW hb hwW hall (fun h => hM h.1)
          rw [hwl] at k
          refine k.mono ?_
          rintro e w' ⟨rfl, hb2⟩
          exact ⟨_, rfl, World.ownsRow_nil _ _ _ _, hb2⟩
      rw [hr]
      have hsrc : ∀ W, Below w.heap.size w W → 0 < (u8s fs).length → ∃ ad, A' = some ad ∧ ∀ j v, (u8s fs)[j]? = some v → W.cell? (ad.add j) = some v := by
        intro W hB h0
        rw [u8s_len] at h0
        obtain ⟨a, rfl, _⟩ := hf.get h0
        refine ⟨a, rfl, fun j v hv => ?_⟩
        have h := hf.src fs.length j v (by rw [List.take_length]; exact hv)
        exact (hB.cell (World.block_lt_of_cell? w _ h)).trans h
      have hmin : (u8s fs).length = Nat.min fs.length 16 := by rw [u8s_len]; exact (Nat.min_eq_left hfl).symm
      have HS := Lib.hid hsrc
      have HM := Lib.hid hmin
      have HJ := Lib.hid kj
      have HL := Lib.hid hfl
      clear hsrc hmin kj hwl hall hfw hr hF hfl hb hb' hm hf
      go_enter Try.func7, Try.ntmps7
      go_wp2_with (first
        | (go_at_call 20; refine kc.mono ?_; clear kc; rintro e w1 ⟨rfl, hb1⟩)
        | (go_at_call 10; refine (empty_is _).mono ?_; rintro e w2 ⟨rfl, ho2, hb2⟩; have hB2 : Below w.heap.size w w2 := Below.then hb1 hb2; have hg := full_block ho2; clear ho2 hb2)
        | (with_reducible refine wpList_copy_splice rfl (.tmp 18) (.tmp 19) 22 22 rfl 5 Try.underlying22 u8_size _ _ _ _ _ _ rfl rfl w1.heap.size 0 (u8s nobody) 5 hg (u8s fs) ?c1 ?c2 ?c3 u8s_one w.heap.size w hB2 hb1.size ?_))
      case c1 => exact HM.out
      case c2 => intro h; exact HS.out _ hB2 h
      case c3 => rw [u8s_len, u8s_len]; have := HL.out; simp [nobody]; omega
      intro w3 HG hB3
      have hG := HG.out
      rw [splice_wide HL.out] at hG
      have hown := owns_bytes (base := w.heap.size) hb1.size (wide_len HL.out).symm (by unfold maxLen; omega) hG
      have kj := HJ.out w3 w1.heap.size hB3 hown
      clear hG HG hown HJ
      go_wp2_with (go_at_call 21; refine kj.mono ?_; clear kj; rintro e w4 ⟨v, rfl, ho4, hb4⟩)
      refine bodyPost_ret (v := .tuple #[v, .int .i64 (y : Int)]) (by simp [results, Try.results7, go_sem]) rfl ⟨_, rfl, ho4, Below.then hB3 hb4⟩
    · rw [marked_no (fun h => hF h.2.2)]
      have kc := check_no fs _ A' c' n w hf hb' hF
      clear hF hb hb' hm hf
      go_enter Try.func7, Try.ntmps7
      go_wp2_with (go_at_call 20; refine kc.mono ?_; clear kc; rintro e w1 ⟨rfl, hb1⟩)
      refine bodyPost_ret (v := .tuple #[.slice none 0 0, .int .i64 60]) (by simp [results, Try.results7, go_sem]) rfl (BytesOf.none 60 hb1)

/-- The document's. -/
theorem rright_is (xs : List Nat) (S : Nat → Prop) (A : Option Addr) (c : Nat) (w : World) (hx : Lies w S A xs) (hb : ∀ x ∈ xs, x < 256) (hl : xs.length ≤ 100000) :
    Calls Try.prog 11 #[.slice A xs.length c] w fun e w' => Answers (IsMarks xs) e ∧ w = w' := by
  have k := right_ok xs S A c 128 w hx hb hl
  clear hx hb hl
  go_enter Try.func11, Try.ntmps11
  go_wp2_with (go_at_call 22; refine k.mono ?_; clear k; rintro e w1 ⟨⟨r, rfl, hr⟩, rfl⟩; have HR := Lib.hid hr; clear hr)
  go_ret
  exact ⟨⟨_, rfl, HR.out⟩, rfl⟩
end Go.Proofs.Ytbahcbnnogdmfaa
