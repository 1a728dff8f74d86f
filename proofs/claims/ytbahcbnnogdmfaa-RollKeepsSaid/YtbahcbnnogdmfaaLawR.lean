/- Layer 20 (roll): lists of bytes that come in with a law's arguments; the chapter's example, which every law of the layer asks for first. -/
import Derived.Test.YtbahcbnnogdmfaaRolA
import Derived.Test.YtbahcbnnogdmfaaRolR
namespace Go.Proofs.Ytbahcbnnogdmfaa
open Go.ChangeShapes Go.WideShapes Go.ChangeAt Go.RowKit Go.Deep
set_option linter.unusedVariables false
set_option linter.unusedSimpArgs false

section
variable {H : Type} {enc : TypeId × Value → H} {w : World} {base : Nat} {held : Bool}
/-- A list of lists of bytes that comes in: what they are, and where they lie. -/
theorem open_bss {A : Option Addr} {n c : Nat} {d : DataW H} {p : List MemPlace} (h : DataW.Trod enc Try.prog w base (fun _ => true) held 33 (.slice A n c) d p) :
    ∃ l : List BV, n = l.length ∧ (∀ b ∈ l, b.bs.length ≤ maxLen) ∧ l.length ≤ c ∧ c ≤ maxLen ∧ (A = none → c = 0) ∧ Ring w A l := by
  obtain ⟨fuel, hf⟩ := h
  rcases open_slice1 Try.underlying33 (by kernel_rfl) hf with ⟨hcs, _⟩ | ⟨a, len, cap, m, n2, V, D, Pl, hcs, hb, hl, hm, hmm, hx, hi⟩
  · simp [Value.cells] at hcs
    obtain ⟨rfl, rfl, rfl⟩ := hcs
    exact ⟨[], rfl, by simp, Nat.le_refl _, Nat.zero_le _, fun _ => rfl, Ring.nil _ _⟩
  · simp [Value.cells] at hcs
    obtain ⟨rfl, rfl, rfl⟩ := hcs
    simp only [if_true] at hmm
    have hone : ∀ i, i < n → ∃ b : BV, w.cell? (a.add i) = some b.val ∧ b.bs.length ≤ maxLen ∧ Row w w.heap.size b.row (u8s b.bs) ∧ ∀ x ∈ b.bs, x < 256 := by
      intro i hin
      obtain ⟨hc, ht⟩ := hi i (by omega)
      obtain ⟨Ab, ns, cb, hv, h1, h2, h3, h4, h5⟩ := open_u8cell Try.underlying22 Try.underlying5 (by kernel_rfl) ht
      exact ⟨⟨Ab, ns, cb⟩, by rw [hc, hv]; rfl, Nat.le_trans h2 h3, h4, h1⟩
    have hch := fun i : Fin n => hone i.1 i.2
    refine ⟨List.ofFn fun i : Fin n => (hch i).choose, by simp, ?_, by simpa using hl, hm, fun e => by simp at e, fun k v hv => ?_, ?_⟩
    · intro b hb
      obtain ⟨i, rfl⟩ := (List.mem_ofFn).1 hb
      exact (hch i).choose_spec.2.1
    · obtain ⟨b, hb, rfl⟩ := bvs_of hv
      rw [List.getElem?_ofFn] at hb
      split at hb
      · rename_i hk
        cases hb
        have hs := (hch ⟨k, hk⟩).choose_spec
        have hbl := World.block_lt_of_cell? w _ hs.1
        rw [addr_block] at hbl
        exact ⟨a, rfl, hbl, hs.1⟩
      · cases hb
    · intro b hb
      obtain ⟨i, rfl⟩ := (List.mem_ofFn).1 hb
      exact (hch i).choose_spec.2.2
end

/-- A list of one byte that was made just now. -/
theorem one_row (w : World) (x : Nat) : Row (w.alloc (.cells #[.int .u8 (x : Int)] 5)) (w.alloc (.cells #[.int .u8 (x : Int)] 5)).heap.size (some ⟨w.heap.size, 0, none⟩) (u8s [x]) :=
  (Lie.made w (u8s [x]) 5).row fun k _ e => by subst e; simp
theorem ring_more {w : World} {A : Option Addr} {l : List BV} (h : Ring w A l) (o : Obj) : Ring (w.alloc o) A l := h.up ((Below.refl _ _).alloc (Nat.le_refl _) o)
theorem row_more {w : World} {A : Option Addr} {xs : List Value} (h : Row w w.heap.size A xs) (o : Obj) : Row (w.alloc o) (w.alloc o).heap.size A xs := row_kept h ((Below.refl _ _).alloc (Nat.le_refl _) o)

/-- The ring of the example. -/
theorem ring_four (w : World) : Ring (((((w.alloc (.cells #[.int .u8 1] 5)).alloc (.cells #[.int .u8 1] 5)).alloc (.cells #[.int .u8 0] 5)).alloc (.cells #[.int .u8 1] 5)).alloc
    (.cells #[.slice (some ⟨w.heap.size, 0, none⟩) 1 1, .slice (some ⟨w.heap.size + 1, 0, none⟩) 1 1, .slice (some ⟨w.heap.size + 1 + 1, 0, none⟩) 1 1, .slice (some ⟨w.heap.size + 1 + 1 + 1, 0, none⟩) 1 1] 22))
    (some ⟨w.heap.size + 1 + 1 + 1 + 1, 0, none⟩) [⟨some ⟨w.heap.size, 0, none⟩, [1], 1⟩, ⟨some ⟨w.heap.size + 1, 0, none⟩, [1], 1⟩, ⟨some ⟨w.heap.size + 1 + 1, 0, none⟩, [0], 1⟩, ⟨some ⟨w.heap.size + 1 + 1 + 1, 0, none⟩, [1], 1⟩] := by
  have h1 := one_row w 1
  have h2 := one_row (w.alloc (.cells #[.int .u8 1] 5)) 1
  have h3 := one_row ((w.alloc (.cells #[.int .u8 1] 5)).alloc (.cells #[.int .u8 1] 5)) 0
  have h4 := one_row (((w.alloc (.cells #[.int .u8 1] 5)).alloc (.cells #[.int .u8 1] 5)).alloc (.cells #[.int .u8 0] 5)) 1
  have h5 := Lie.made ((((w.alloc (.cells #[.int .u8 1] 5)).alloc (.cells #[.int .u8 1] 5)).alloc (.cells #[.int .u8 0] 5)).alloc (.cells #[.int .u8 1] 5))
    (bvs [⟨some ⟨w.heap.size, 0, none⟩, [1], 1⟩, ⟨some ⟨w.heap.size + 1, 0, none⟩, [1], 1⟩, ⟨some ⟨w.heap.size + 1 + 1, 0, none⟩, [0], 1⟩, ⟨some ⟨w.heap.size + 1 + 1 + 1, 0, none⟩, [1], 1⟩]) 22
  have h1' := row_more (row_more (row_more (row_more h1 (.cells #[.int .u8 1] 5)) (.cells #[.int .u8 0] 5)) (.cells #[.int .u8 1] 5)) (.cells #[.slice (some ⟨w.heap.size, 0, none⟩) 1 1, .slice (some ⟨w.heap.size + 1, 0, none⟩) 1 1, .slice (some ⟨w.heap.size + 1 + 1, 0, none⟩) 1 1, .slice (some ⟨w.heap.size + 1 + 1 + 1, 0, none⟩) 1 1] 22)
  have h2' := row_more (row_more (row_more h2 (.cells #[.int .u8 0] 5)) (.cells #[.int .u8 1] 5)) (.cells #[.slice (some ⟨w.heap.size, 0, none⟩) 1 1, .slice (some ⟨w.heap.size + 1, 0, none⟩) 1 1, .slice (some ⟨w.heap.size + 1 + 1, 0, none⟩) 1 1, .slice (some ⟨w.heap.size + 1 + 1 + 1, 0, none⟩) 1 1] 22)
  have h3' := row_more (row_more h3 (.cells #[.int .u8 1] 5)) (.cells #[.slice (some ⟨w.heap.size, 0, none⟩) 1 1, .slice (some ⟨w.heap.size + 1, 0, none⟩) 1 1, .slice (some ⟨w.heap.size + 1 + 1, 0, none⟩) 1 1, .slice (some ⟨w.heap.size + 1 + 1 + 1, 0, none⟩) 1 1] 22)
  have h4' := row_more h4 (.cells #[.slice (some ⟨w.heap.size, 0, none⟩) 1 1, .slice (some ⟨w.heap.size + 1, 0, none⟩) 1 1, .slice (some ⟨w.heap.size + 1 + 1, 0, none⟩) 1 1, .slice (some ⟨w.heap.size + 1 + 1 + 1, 0, none⟩) 1 1] 22)
  refine ⟨?_, fun b hb => ?_⟩
  · have h6 := Lie.row (B := w.heap.size + 1 + 1 + 1 + 1 + 1) h5 fun k _ e => by subst e; simp
    simp only [World.size_alloc] at h6 ⊢
    exact h6
  · simp only [List.mem_cons, List.not_mem_nil, or_false] at hb
    rcases hb with rfl | rfl | rfl | rfl
    · exact ⟨h1', by simp⟩
    · simp only [World.size_alloc] at h2' ⊢
      exact ⟨h2', by simp⟩
    · simp only [World.size_alloc] at h3' ⊢
      exact ⟨h3', by simp⟩
    · simp only [World.size_alloc] at h4' ⊢
      exact ⟨h4', by simp⟩

theorem ex_field : FieldI [1] 3 := by
  refine ⟨by omega, by decide, rfl, fun k hk => ?_⟩
  have hk' : 3 ≤ k := hk
  unfold bitAt
  by_cases h : k < 8
  · have : k / 8 = 0 := by omega
    rw [this]
    have h8 : k = 3 ∨ k = 4 ∨ k = 5 ∨ k = 6 ∨ k = 7 := by omega
    rcases h8 with rfl | rfl | rfl | rfl | rfl <;> decide
  · rw [getD_past 0 (by simp; omega)]
    exact Nat.zero_testBit _
theorem ex_marked : marked nobody [1] 3 = ([1, 0, 0, 0, 0, 0, 0, 0, 0, 0, 0, 0, 0, 0, 0, 0], 0) := by
  rw [marked_yes nobody_marks (by decide) ex_field]
  decide

set_option maxRecDepth 100000 in
set_option maxHeartbeats 1000000 in
theorem roll_awake (w : World) :
    Calls Try.prog 6 #[] w fun e w' => e = .returned (.bool true) ∧ Below w.heap.size w w' := by
  have k1 := empty_is w
  have k2 : ∀ (W : World) (hB : Below w.heap.size w W) (h : W.ownsRow w.heap.size 5 1 (.slice (some ⟨w.heap.size, 0, none⟩) 16 16) 16 (u8s nobody)), Calls Try.prog 7 #[.slice (some ⟨w.heap.size, 0, none⟩) 16 16, .slice (some ⟨W.heap.size, 0, none⟩) 1 1, .int .i64 3] (W.alloc (.cells #[.int .u8 1] 5)) fun e w' => ∃ g c, e = .returned (.tuple #[.slice (some ⟨g, 0, none⟩) 16 c, .int .i64 0]) ∧ w'.cell? ⟨g, 0, none⟩ = some (.int .u8 1) ∧ g < w'.heap.size ∧ Below w.heap.size w w' := by
    intro W hB h
    have hm := row_more (own_row h) (.cells #[.int .u8 1] 5)
    have hf := one_row W 1
    have k := mark_is nobody [1] 3 (some ⟨w.heap.size, 0, none⟩) (some ⟨W.heap.size, 0, none⟩) 16 1 _ (Lies.ofRow hm) nobody_all (Lies.ofRow hf) (by simp)
    rw [ex_marked] at k
    refine k.mono ?_
    rintro e w' ⟨v, rfl, ho, hb⟩
    obtain ⟨g, c, rfl, hg, hgl⟩ := own_cons ho (by decide)
    refine ⟨g, c, rfl, own_cell ho rfl, hgl, ?_⟩
    exact Below.trans (hB.alloc hB.size _) (hb.mono (Nat.le_trans hB.size (by simp)))
  have kr := fun W => run_is [⟨some ⟨W.heap.size, 0, none⟩, [1], 1⟩, ⟨some ⟨W.heap.size + 1, 0, none⟩, [1], 1⟩, ⟨some ⟨W.heap.size + 1 + 1, 0, none⟩, [0], 1⟩, ⟨some ⟨W.heap.size + 1 + 1 + 1, 0, none⟩, [1], 1⟩] 0 _ 4 _ (ring_four W) (Nat.le_refl _) (by decide) (by decide)
  have el : (lasting ((([1] : List Nat) :: [1] :: [0] :: [1] :: [])) 0) = 2 := by decide
  simp only [List.map_cons, List.map_nil, el, List.length_cons, List.length_nil] at kr
  have K2 := Lib.hid k2
  have KR := Lib.hid kr
  clear k2 kr el
  go_enter Try.func6, Try.ntmps6
  go_wp2_with (first
    | (go_at_call 10; refine k1.mono ?_; clear k1; rintro e w1 ⟨rfl, ho1, hb1⟩; have k2 := K2.out w1 hb1 ho1; clear K2 ho1 hb1)
    | (go_at_call 7; refine k2.mono ?_; clear k2; rintro e w2 ⟨g, c2, rfl, hc2, hg2, hB2⟩; have kr := KR.out w2; clear KR)
    | (go_at_call 16; refine kr.mono ?_; clear kr; rintro e w3 ⟨rfl, hb3⟩; have hc3 : w3.cell? ⟨g, 0, none⟩ = some (.int .u8 1) := (hb3.cell (p := ⟨g, 0, none⟩) (by simp; omega)).trans (by
        rw [World.cell?_alloc_lt _ _ _ (by simp; omega), World.cell?_alloc_lt _ _ _ (by simp; omega), World.cell?_alloc_lt _ _ _ (by simp; omega), World.cell?_alloc_lt _ _ _ (by simp; omega), World.cell?_alloc_lt _ _ _ (by simp; omega)]
        exact hc2)))
  go_ret
  refine ⟨rfl, hB2.trans (Below.mono (Below.trans (((((Below.refl _ w2).alloc (Nat.le_refl _) _).alloc (by simp) _).alloc (by simp; omega) _).alloc (by simp; omega) _ |>.alloc (by simp; omega) _) (hb3.mono (by simp; omega))) hB2.size)⟩
end Go.Proofs.Ytbahcbnnogdmfaa
