/- Layer 7 (param): parameters are written. By contracts. -/
import Derived.Test.YtokaclacejhppaaParD
import Derived.Test.YtokaclacejhppaaCoderO
import Derived.Test.YtokaclacejhppaaCoderN
namespace Go.Proofs.Ytokaclacejhppaa
open Go.RowKit
set_option linter.unusedVariables false

/-- A writer behind numbers more. -/
def wall (s : List Nat × Nat) (l : List Nat) : List Nat × Nat := l.foldl (fun s n => wput s (form n)) s
theorem wall_nil (s : List Nat × Nat) : wall s [] = s := rfl
theorem wall_snoc (s : List Nat × Nat) (l : List Nat) (n : Nat) : wall s (l ++ [n]) = wput (wall s l) (form n) := by simp [wall]
theorem wall_append (s : List Nat × Nat) (l r : List Nat) : wall s (l ++ r) = wall (wall s l) r := by simp [wall]
theorem wall_ok (pre : List Nat) : ∀ (l : List Nat), (∀ n ∈ l, n < 18446744073709551616) → pre.length + l.length * 10 ≤ 131072 → wall (pre, 0) l = (pre ++ l.flatMap form, 0) ∧ (l.flatMap form).length ≤ l.length * 10 := by
  intro l
  induction l generalizing pre with
  | nil => intro _ _; simp [wall]
  | cons n l ih =>
    intro hn hl
    simp only [List.length_cons] at hl
    have h10 := form_word (hn n List.mem_cons_self)
    have e : wput (pre, 0) (form n) = (pre ++ form n, 0) := by
      unfold wput
      rw [if_neg (by simp), if_neg (by simp only; omega)]
    have h := ih (pre ++ form n) (fun x hx => hn x (List.mem_cons_of_mem _ hx)) (by rw [List.length_append]; omega)
    refine ⟨?_, ?_⟩
    · show wall (wput (pre, 0) (form n)) l = _
      rw [e, h.1]
      simp
    · rw [List.flatMap_cons, List.length_append, List.length_cons]
      have := h.2
      omega

/-- All the numbers of parameters, and their bytes. -/
def Par.nums (p : Par) : List Nat := p.us ++ p.is.map Int.toNat
def Par.bytes (p : Par) : List Nat := p.nums.flatMap form

theorem ParAt.grown {w w' : World} {b g : Nat} {p : Par} {T : TypeId} (h : ParAt w g p T) (hg : w.grownBy w' (some b)) (hn : g ≠ b) : ParAt w' g p T :=
  (hg.block g h.lt (fun e => by injection e with e; exact hn e)).trans h
theorem cell_grown_at {w w' : World} {b g k : Nat} {v : Value} (hg : w.grownBy w' (some b)) (hn : g ≠ b) (h : w.cell? ⟨g, k, none⟩ = some v) : w'.cell? ⟨g, k, none⟩ = some v := by
  have hl : g < w.heap.size := World.block_lt_of_cell? w _ h
  rw [World.cell?_of_block (w := w) (hg.block g hl (fun e => by injection e with e; exact hn e))]
  exact h
theorem FieldsW.grown {w w' : World} {b g c : Nat} {l : List (Nat × Nat × Nat)} (h : FieldsW w g c l) (hg : w.grownBy w' (some b)) (hn : g ≠ b) : FieldsW w' g c l := fun k x hk =>
  ⟨cell_grown_at hg hn (h k x hk).1, cell_grown_at hg hn (h k x hk).2.1, cell_grown_at hg hn (h k x hk).2.2⟩
theorem FieldsI.grown {w w' : World} {b g c : Nat} {l : List (Int × Int × Int)} (h : FieldsI w g c l) (hg : w.grownBy w' (some b)) (hn : g ≠ b) : FieldsI w' g c l := fun k x hk =>
  ⟨cell_grown_at hg hn (h k x hk).1, cell_grown_at hg hn (h k x hk).2.1, cell_grown_at hg hn (h k x hk).2.2⟩

theorem Left.from {w0 w1 w2 : World} {b : Nat} {F F1 : Nat → Prop} {s : List Nat × Nat} (h0 : w0.grownBy w1 (some b)) (hF : ∀ k, F1 k → F k ∨ w0.heap.size ≤ k) (h : Left w1 b F1 s w2) : Left w0 b F s w2 := by
  obtain ⟨⟨F', hW, hF'⟩, hg⟩ := h
  refine ⟨⟨F', hW, fun k hk => ?_⟩, grown_trans h0 hg⟩
  rcases hF' k hk with h | h
  · exact hF k h
  · exact .inr (Nat.le_trans h0.size h)

set_option maxRecDepth 100000 in
set_option maxHeartbeats 4000000 in
theorem pwrite_is (b : Nat) (F : Nat → Prop) (s : List Nat × Nat) (p : Par) (N : Nat) (w : World) (h : Par.Right p N) (hf : p.Fits) (hW : Writes w b F s) :
    Calls Try.prog 51 #[.pointer (some ⟨b, 0, none⟩), .agg p.vals] w fun e w' => e = .returned (.int .i64 0) ∧ Left w b F (wall s p.nums) w' := by
  have hP := ParAt.new w p 37
  have hB : Below w.heap.size w (w.alloc (.cells p.vals 37)) := (Below.refl _ _).alloc (Nat.le_refl _) _
  have kc := fun w => check_ok p N w h
  have hbl := hW.lt
  have hUS := Lib.hid hf.us
  have hIS := Lib.hid hf.is
  have hsp := h.spans
  have hI0 : ∀ x ∈ p.is, 0 ≤ x := by
    intro x hx
    obtain ⟨_, _, _, _, _, _, _, _, _, _, _, _, _, _, _, _, _, _, _, _, _, _, _, _, _, _, _, _, _, _, _, _, _, _, _, _, _, _, _, _, _, _, _, _, _⟩ := hsp
    simp only [Par.is, List.mem_cons, List.mem_nil_iff, or_false] at hx
    rcases hx with rfl | rfl | rfl | rfl | rfl | rfl | rfl | rfl | rfl | rfl <;> omega
  have HI0 := Lib.hid hI0
  clear h hf hsp hI0
  go_enter Try.func51, Try.ntmps51
  go_wp2_with (first
    | (refine load_par _ rfl rfl _ p _ rfl (by assumption) ?_)
    | (go_at_call 67; refine (kc _).mono ?_; rintro e w1 ⟨rfl, hb1⟩; have hP := hP.up hb1; have hB := Below.then hB hb1)
    | (go_at_call 68; refine (words_is _ p _ _ hP).mono ?_; rintro e w2 ⟨g1, rfl, hF1, hg1, hb2⟩; have hP2 := hP.up hb2; have hB2 := Below.then hB hb2))
  have hW2 := hW.grown (grown_below hB2 none) (by simp) (by simp)
  have hbl2 : b < w2.heap.size := Nat.lt_of_lt_of_le hbl hB2.size
  have hgb : w.heap.size ≠ b := by omega
  have hgl := hP2.lt
  have hg1b : g1 ≠ b := by have := hB.size; omega
  have hg1l := hF1.lt
  have HB2 := Lib.hid hB2
  have HW2 := Lib.hid hW2
  clear hW2 hW hP hB hb1 hb2 hB2 hg1
  go_loopw [17] (fun iv wr => ∃ (k : Nat), k ≤ 14 ∧ iv = .int .i64 (k : Int) ∧ Hid (Left w2 b F (wall s (p.us.take k)) wr)) (fun iv _ => 14 - (intOf iv).toNat)
  case atStart => exact ⟨0, by omega, rfl, ⟨⟨F, HW2.out, fun k h => .inl h⟩, grown_refl _ _⟩⟩
  case round =>
    obtain ⟨k, hk, rfl, HL⟩ := hrel
    obtain ⟨⟨Fr, hWr, hFr⟩, hgr⟩ := HL.out
    have hszr := hgr.size
    have hPr := hP2.grown hgr hgb
    have hFr1 := hF1.grown hgr hg1b
    by_cases hlt : k < 14
    · obtain ⟨x, hx⟩ : ∃ x, Hid (p.wspan[k]? = some x) := ⟨p.wspan[k]'(by simpa [Par.wspan] using hlt), List.getElem?_eq_getElem _⟩
      have hxu : p.us[k]? = some x.1 := by
        have h1 : p.us = p.wspan.map (·.1) := rfl
        rw [h1, List.getElem?_map, hx.out]; rfl
      obtain ⟨c0, c1, c2⟩ := hFr1 k x hx.out
      have cx := hPr.words k x hx.out
      have hxl : x.1 < 18446744073709551616 := hUS.out _ (List.mem_of_getElem? hxu)
      have hsn : wall s (p.us.take (k + 1)) = wput (wall s (p.us.take k)) (form x.1) := by
        obtain ⟨hk2, e⟩ := List.getElem?_eq_some_iff.1 hxu
        rw [List.take_succ_eq_append_getElem hk2, wall_snoc, e]
      have HSN := Lib.hid hsn
      obtain ⟨y, lo, hi⟩ := x
      simp only at c1 c2 cx hxl
      have hgrl : w.heap.size < wr.heap.size := by omega
      have cx1 : (wr.alloc (.cells #[.pointer (some ⟨w.heap.size, k, none⟩), .int .u64 (lo : Int), .int .u64 (hi : Int)] 120)).cell? ⟨w.heap.size, k, none⟩ = some (.int .u64 (y : Int)) := (World.cell?_alloc_lt _ _ _ hgrl).trans cx
      have hWa := hWr.below ((Below.refl _ wr).alloc (Nat.le_refl _) (.cells #[.pointer (some ⟨w.heap.size, k, none⟩), .int .u64 (lo : Int), .int .u64 (hi : Int)] 120))
      have kn := num_is b Fr _ y _ hWa hxl
      have hga := grown_trans hgr (grown_alloc wr (.cells #[.pointer (some ⟨w.heap.size, k, none⟩), .int .u64 (lo : Int), .int .u64 (hi : Int)] 120) (some b))
      have HGA := Lib.hid hga
      have HFR := Lib.hid hFr
      clear hsn hxu hxl hWa hga hFr HL hgr hWr
      go_wp2_with (go_at_call 52; refine kn.mono ?_; clear kn; rintro e w3 ⟨rfl, hL3⟩)
      go_roundw
      case rel => exact ⟨k + 1, by omega, by go_num, by show Left _ _ _ _ _; rw [HSN.out]; exact Left.from HGA.out HFR.out hL3⟩
      case measure => simp [intOf]; omega
    · obtain rfl : k = 14 := by omega
      have HL1 : Hid (Left w2 b F (wall s p.us) wr) := HL.out
      have hWr' := hWr.lt
      have ki := ints_is w.heap.size p _ wr hPr
      clear hlt hk HL hWr hFr
      go_wp2_with (go_at_call 69; refine ki.mono ?_; clear ki; rintro e w4 ⟨g2, rfl, hF2, hg2, hb4⟩)
      have hPr4 := hPr.up hb4
      have hg2b : g2 ≠ b := by omega
      have hg2l := hF2.lt
      have hL4 : Left w2 b F (wall s p.us) w4 := by
        obtain ⟨⟨Fa, ha, ha'⟩, hga⟩ := HL1.out
        exact ⟨⟨Fa, ha.below hb4, ha'⟩, grown_trans hga (grown_below hb4 _)⟩
      have HL4 := Lib.hid hL4
      have hgl4 := hPr4.lt
      clear hPr hFr1 hgr HL1 hL4 hb4 hg2 hszr hWr'
      go_loopw [30] (fun iv wr => ∃ (k : Nat), k ≤ 10 ∧ iv = .int .i64 (k : Int) ∧ Hid (w4.grownBy wr (some b)) ∧ Hid (Left w2 b F (wall (wall s p.us) ((p.is.take k).map Int.toNat)) wr)) (fun iv _ => 10 - (intOf iv).toNat)
      case atStart => exact ⟨0, by omega, rfl, grown_refl _ _, by show Left _ _ _ _ _; rw [List.take_zero, List.map_nil, wall_nil]; exact HL4.out⟩
      case round =>
        obtain ⟨k, hk, rfl, HG4, HL⟩ := hrel
        obtain ⟨⟨Fr, hWr, hFr⟩, hgr⟩ := HL.out
        have hszr := hgr.size
        have hPq := hPr4.grown HG4.out hgb
        have hFq := hF2.grown HG4.out hg2b
        by_cases hlt : k < 10
        · obtain ⟨x, hx⟩ : ∃ x, Hid (p.ispan[k]? = some x) := ⟨p.ispan[k]'(by simpa [Par.ispan] using hlt), List.getElem?_eq_getElem _⟩
          have hxu : p.is[k]? = some x.1 := by
            have h1 : p.is = p.ispan.map (·.1) := rfl
            rw [h1, List.getElem?_map, hx.out]; rfl
          obtain ⟨c0, c1, c2⟩ := hFq k x hx.out
          have cx := hPq.ints k x hx.out
          have hxl := hIS.out _ (List.mem_of_getElem? hxu)
          have hx0 := HI0.out _ (List.mem_of_getElem? hxu)
          have hsn : wall (wall s p.us) ((p.is.take (k + 1)).map Int.toNat) = wint (wall (wall s p.us) ((p.is.take k).map Int.toNat)) x.1 := by
            obtain ⟨hk2, e⟩ := List.getElem?_eq_some_iff.1 hxu
            rw [List.take_succ_eq_append_getElem hk2, List.map_append, e]
            unfold wint
            rw [if_neg (by omega)]
            exact wall_snoc _ _ _
          have HSN := Lib.hid hsn
          obtain ⟨y, lo, hi⟩ := x
          simp only at c0 c1 c2 cx hxl hx0
          have hgrl : w.heap.size < wr.heap.size := hPq.lt
          have cx1 : (wr.alloc (.cells #[.pointer (some ⟨w.heap.size, 14 + k, none⟩), .int .i64 lo, .int .i64 hi] 125)).cell? ⟨w.heap.size, 14 + k, none⟩ = some (.int .i64 y) := (World.cell?_alloc_lt _ _ _ hgrl).trans cx
          have hWa := hWr.below ((Below.refl _ wr).alloc (Nat.le_refl _) (.cells #[.pointer (some ⟨w.heap.size, 14 + k, none⟩), .int .i64 lo, .int .i64 hi] 125))
          have kn := int_is b Fr _ y _ hWa hxl.1 hxl.2
          have hga := grown_trans hgr (grown_alloc wr (.cells #[.pointer (some ⟨w.heap.size, 14 + k, none⟩), .int .i64 lo, .int .i64 hi] 125) (some b))
          have hga4 := grown_trans HG4.out (grown_alloc wr (.cells #[.pointer (some ⟨w.heap.size, 14 + k, none⟩), .int .i64 lo, .int .i64 hi] 125) (some b))
          have HGA := Lib.hid hga
          have HGA4 := Lib.hid hga4
          have HFR := Lib.hid hFr
          clear hsn hxu hxl hWa hga hga4 hFr HL hgr hWr
          go_wp2_with (go_at_call 14; refine kn.mono ?_; clear kn; rintro e w5 ⟨rfl, hL5⟩)
          go_roundw
          case rel => exact ⟨k + 1, by omega, by go_num, grown_trans HGA4.out hL5.2, by show Left _ _ _ _ _; rw [HSN.out]; exact Left.from HGA.out HFR.out hL5⟩
          case measure => simp [intOf]; omega
        · obtain rfl : k = 10 := by omega
          have HF : Hid (Left w2 b F (wall s p.nums) wr) := by
            have h1 : p.is.take 10 = p.is := List.take_of_length_le (by simp [Par.is])
            have h2 := HL.out
            rw [h1, ← wall_append] at h2
            exact h2
          clear hlt hk hFr hgr hWr
          go_wp2
          go_ret
          exact ⟨rfl, Left.from (grown_below HB2.out none |> fun h => ⟨h.os, h.tape, h.output, h.size, fun i hi hn => h.block i hi (by simp)⟩) (fun k h => .inl h) HF.out⟩
end Go.Proofs.Ytokaclacejhppaa
