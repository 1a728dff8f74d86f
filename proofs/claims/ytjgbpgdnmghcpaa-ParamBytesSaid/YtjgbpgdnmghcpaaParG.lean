/- Layer 7 (param): parameters as bytes. By contracts. -/
import Derived.Test.YtjgbpgdnmghcpaaParF
import Derived.Test.YtjgbpgdnmghcpaaParL
namespace Go.Proofs.Ytjgbpgdnmghcpaa
open Go.RowKit
set_option linter.unusedVariables false
set_option linter.unusedSimpArgs false

set_option maxRecDepth 100000 in
theorem pwrite_no (A : Option Addr) (p : Par) (w : World) (hf : p.Fits) (h : ¬ ∃ T, Par.Right p T) :
    Calls Try.prog 43 #[.pointer A, .agg p.vals] w fun e w' => e = .returned (.int .i64 70) ∧ Below w.heap.size w w' := by
  have hP := ParAt.new w p 24
  have hB : Below w.heap.size w (w.alloc (.cells p.vals 24)) := (Below.refl _ _).alloc (Nat.le_refl _) _
  have kc := fun w => check_no p w hf h
  clear h hf
  go_enter Try.func43, Try.ntmps43
  go_wp2_with (first
    | (refine load_par _ rfl rfl _ p _ rfl (by assumption) ?_)
    | (go_at_call 12; refine (kc _).mono ?_; rintro e w1 ⟨rfl, hb1⟩; have hB := Below.then hB hb1))
  go_ret
  exact ⟨rfl, hB⟩

theorem nums_fit {p : Par} (hf : p.Fits) : ∀ n ∈ p.nums, n < 18446744073709551616 := by
  intro n hn
  rcases List.mem_append.1 hn with h | h
  · exact hf.us n h
  · obtain ⟨x, hx, rfl⟩ := List.mem_map.1 h
    have := hf.is x hx
    omega
theorem nums_len (p : Par) : p.nums.length = 24 := by simp [Par.nums, Par.us, Par.is]
theorem bytes_is {p : Par} (hf : p.Fits) (pre : List Nat) (hl : pre.length ≤ 1000) : wall (pre, 0) p.nums = (pre ++ p.bytes, 0) ∧ p.bytes.length ≤ 240 := by
  have h := wall_ok pre p.nums (nums_fit hf) (by rw [nums_len]; omega)
  have h2 := h.2
  rw [nums_len] at h2
  exact ⟨h.1, h2⟩

set_option maxRecDepth 100000 in
set_option maxHeartbeats 1000000 in
theorem encode_ok (p : Par) (N : Nat) (w : World) (h : Par.Right p N) (hf : p.Fits) :
    Calls Try.prog 19 #[.agg p.vals] w fun e w' => ∃ v, e = .returned (.tuple #[v, .int .i64 0]) ∧ w'.ownsRow w.heap.size 5 1 v p.bytes.length (u8s p.bytes) ∧ Below w.heap.size w w' := by
  have hz := run_zero
  have hP := (ParAt.new w p 24).up ((Below.refl _ _).alloc (Nat.le_refl _) (.cells zeroWriter 78))
  have hB : Below w.heap.size w ((w.alloc (.cells p.vals 24)).alloc (.cells zeroWriter 78)) := ((Below.refl _ _).alloc (Nat.le_refl _) _).alloc (by simp) _
  have hnew := writer_new (w.alloc (.cells p.vals 24))
  have kw := pwrite_is _ _ _ p N _ h hf hnew
  have hb := (bytes_is hf [] (by simp)).1
  rw [List.nil_append] at hb
  rw [hb] at kw
  have hs : (w.alloc (.cells p.vals 24)).heap.size = w.heap.size + 1 := by simp
  rw [hs] at kw
  clear h hf hb hnew hs
  go_enter Try.func19, Try.ntmps19
  go_wp2_with (first
    | (refine load_par _ rfl rfl _ p _ rfl (by assumption) ?_)
    | (go_at_call 43; refine kw.mono ?_; clear kw; rintro e w1 ⟨rfl, ⟨F', hW1, hF1⟩, hg1⟩; have hB1 := hB.trans (below_of_grown hg1 (Nat.le_succ _) (by simp; omega)))
    | (go_at_call 44; refine (out_ok _ _ _ _ hW1).mono ?_; rintro e w2 ⟨v, rfl, hown, hb2⟩))
  refine bodyPost_ret (v := .tuple #[v, .int .i64 0]) (by simp [results, Try.results19, go_sem]) rfl ⟨v, rfl, ?_, Below.then hB1 hb2⟩
  exact ⟨hown.1, hown.2.imp id fun ⟨g, cap, cur, h1, h2, h3⟩ => ⟨g, cap, cur, h1, Nat.le_trans hB1.size h2, h3⟩⟩

set_option maxRecDepth 100000 in
set_option maxHeartbeats 1000000 in
theorem encode_no (p : Par) (w : World) (hf : p.Fits) (h : ¬ ∃ T, Par.Right p T) :
    Calls Try.prog 19 #[.agg p.vals] w fun e w' => e = .returned (.tuple #[.slice none 0 0, .int .i64 70]) ∧ Below w.heap.size w w' := by
  have hz := run_zero
  have hP := (ParAt.new w p 24).up ((Below.refl _ _).alloc (Nat.le_refl _) (.cells zeroWriter 78))
  have hB : Below w.heap.size w ((w.alloc (.cells p.vals 24)).alloc (.cells zeroWriter 78)) := ((Below.refl _ _).alloc (Nat.le_refl _) _).alloc (by simp) _
  have kw := fun A w => pwrite_no A p w hf h
  clear h hf
  go_enter Try.func19, Try.ntmps19
  go_wp2_with (first
    | (refine load_par _ rfl rfl _ p _ rfl (by assumption) ?_)
    | (go_at_call 43; refine (kw _ _).mono ?_; clear kw; rintro e w1 ⟨rfl, hb1⟩))
  refine bodyPost_ret (v := .tuple #[.slice none 0 0, .int .i64 70]) (by simp [results, Try.results19, go_sem]) rfl ⟨rfl, Below.then hB hb1⟩
end Go.Proofs.Ytjgbpgdnmghcpaa
