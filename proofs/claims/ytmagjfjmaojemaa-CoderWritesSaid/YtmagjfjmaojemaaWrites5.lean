/- Law CoderWrites (P5.1): whatever is written, in whatever order, is the document's bytes, or has its failure. -/
import Derived.Test.YtmagjfjmaojemaaAwake5
import Derived.Test.YtmagjfjmaojemaaCoderX
import Derived.Test.YtmagjfjmaojemaaFew5
import Derived.Test.YtmagjfjmaojemaaLaw8
import Derived.Test.YtmagjfjmaojemaaRows
namespace Go.Proofs.Ytmagjfjmaojemaa.CoderWrites
open Go.RowKit Go.ChangeShapes Go.WideShapes Go.ChangeAt
set_option linter.unusedVariables false
set_option linter.unusedSimpArgs false

/-- A writer in block b and the reference's in block d; neither lies in the other's memory. -/
def Two (w : World) (b d : Nat) (s t : List Nat × Nat) : Prop := ∃ F v, Writes w b F s ∧ RefW w d (fun k => v.ownBlock = some k) t v ∧ (∀ k, F k → k ≠ d ∧ v.ownBlock ≠ some k) ∧ v.ownBlock ≠ some b

theorem writes_apart {w : World} {b : Nat} {F : Nat → Prop} {s : List Nat × Nat} (h : Writes w b F s) : ∀ k, F k → k ≠ b ∧ k < w.heap.size := by
  obtain ⟨m, p, pre, tail, part, h⟩ := h
  exact h.apart
theorem own_lt {w : World} {d : Nat} {G : Nat → Prop} {t : List Nat × Nat} {v : Value} (h : RefW w d G t v) : ∀ g, v.ownBlock = some g → d + 1 ≤ g ∧ g < w.heap.size := fun g hg => h.owns.lt g hg

theorem two_left {w w' : World} {b d : Nat} {F : Nat → Prop} {v : Value} {s s' t : List Nat × Nat} {L : Nat} (hbd : b ≠ d) (hLb : L ≤ b) (hLw : L ≤ w.heap.size) (hW : Writes w b F s) (hR : RefW w d (fun k => v.ownBlock = some k) t v) (hF : ∀ k, F k → k ≠ d ∧ v.ownBlock ≠ some k) (hv : v.ownBlock ≠ some b)
    (h : Left w b F s' w') : Two w' b d s' t ∧ Below L w w' := by
  obtain ⟨⟨F', hW', hF'⟩, hg⟩ := h
  refine ⟨⟨F', v, hW', hR.grown hg (fun e => hbd (by injection e with e; exact e.symm)) (fun k hk e => by injection e with e; subst e; exact hv hk), fun k hk => ?_, hv⟩, below_of_grown hg hLb hLw⟩
  rcases hF' k hk with h1 | h1
  · exact hF k h1
  · have := hR.lt
    exact ⟨by omega, fun e => by have := (own_lt hR k e).2; omega⟩

theorem two_right {w w' : World} {b d : Nat} {F : Nat → Prop} {v : Value} {s t t' : List Nat × Nat} {L : Nat} (hbd : b ≠ d) (hLd : L ≤ d) (hLw : L ≤ w.heap.size) (hW : Writes w b F s) (hR : RefW w d (fun k => v.ownBlock = some k) t v) (hF : ∀ k, F k → k ≠ d ∧ v.ownBlock ≠ some k) (hv : v.ownBlock ≠ some b)
    (h : RLeft w d (fun k => v.ownBlock = some k) t' w') : Two w' b d s t' ∧ Below L w w' := by
  obtain ⟨⟨G', v', hR', hG'⟩, hk⟩ := h
  have hnew : ∀ g, v'.ownBlock = some g → v.ownBlock = some g ∨ w.heap.size ≤ g := fun g hg => hG' g (hR'.foot g hg)
  have hb := hW.lt
  refine ⟨⟨F, v', ?_, ⟨hR'.block, hR'.owns, fun g hg => hg, hR'.most, hR'.small⟩, fun k hk => ⟨(hF k hk).1, fun e => ?_⟩, fun e => ?_⟩, hk.below (fun k hk => ?_) hLw⟩
  · obtain ⟨m, p, pre, tail, part, h⟩ := hW
    exact ⟨m, p, pre, tail, part, h.keep hk (fun e => by rcases e with e | e; exact hbd e; exact hv e) (fun k hk e => by rcases e with e | e; exact (hF k hk).1 e; exact (hF k hk).2 e)⟩
  · rcases hnew k e with h1 | h1
    · exact (hF k hk).2 h1
    · have := (writes_apart hW k hk).2; omega
  · rcases hnew b e with h1 | h1
    · exact hv h1
    · omega
  · rcases hk with h1 | h1
    · omega
    · have := (own_lt hR k h1).1; omega

theorem refw_new (w : World) : RefW (w.alloc (.cells #[.slice none 0 0, .int .i64 0] 36)) w.heap.size (fun k => (Value.slice none 0 0).ownBlock = some k) ([], 0) (.slice none 0 0) :=
  ⟨heap_alloc_new w _, World.ownsRow_nil _ _ _ _, fun g hg => hg, by simp, by simp⟩

theorem two_new (w : World) : Two ((w.alloc (.cells zeroWriter 32)).alloc (.cells #[.slice none 0 0, .int .i64 0] 36)) w.heap.size (w.heap.size + 1) ([], 0) ([], 0) := by
  have h := refw_new (w.alloc (.cells zeroWriter 32))
  rw [World.size_alloc] at h
  exact ⟨fun _ => False, .slice none 0 0, (writer_new w).below ((Below.refl _ _).alloc (Nat.le_refl _) _), h, fun k hk => hk.elim, by intro e; cases e⟩

theorem refraw2 (xs : List Nat) (S : Nat → Prop) (A : Option Addr) (c : Nat) (w : World) (hx : Lies w S A xs) (hl : xs.length ≤ 1000000) (hAc : A = none → c = 0) :
    Calls Try.prog 17 #[.slice A xs.length c] w fun e w' => ∃ (a : Addr) (c' : Nat), e = .returned (.slice (some a) (form xs.length ++ xs).length c') ∧ Lies w' (fun k => w.heap.size ≤ k) (some a) (form xs.length ++ xs) ∧ Below w.heap.size w w' := by
  refine (refraw_is xs S A c w hx hl hAc).mono ?_
  rintro e w' ⟨v, rfl, hown, hb⟩
  rw [← List.length_append] at hown
  obtain ⟨A', c', rfl, _, _, _, hL⟩ := Lies.own hown
  obtain ⟨a, rfl, _, _⟩ := hL.get (k := 0) (by have := form_pos xs.length; simp; omega)
  exact ⟨a, c', rfl, hL.imp (fun _ _ h => h.1), hb⟩
theorem refform2 (n : Nat) (w : World) (hn : n < 18446744073709551616) :
    Calls Try.prog 12 #[.int .u64 (n : Int)] w fun e w' => ∃ (a : Addr) (c' : Nat), e = .returned (.slice (some a) (form n).length c') ∧ Lies w' (fun k => w.heap.size ≤ k) (some a) (form n) ∧ Below w.heap.size w w' := by
  refine (refform_is n w hn).mono ?_
  rintro e w' ⟨v, rfl, hown, hb⟩
  obtain ⟨A', c', rfl, _, _, _, hL⟩ := Lies.own hown
  obtain ⟨a, rfl, _, _⟩ := hL.get (k := 0) (form_pos n)
  exact ⟨a, c', rfl, hL.imp (fun _ _ h => h.1), hb⟩

theorem grown_cell {w w' : World} {b g : Nat} (hg : w.grownBy w' (some b)) (hne : g ≠ b) (hl : g < w.heap.size) (j : Nat) : w'.cell? ⟨g, j, none⟩ = w.cell? ⟨g, j, none⟩ :=
  World.cell?_of_block (a := ⟨g, j, none⟩) (hg.block g hl (fun e => hne (by injection e)))
theorem below_cell {w w' : World} {g : Nat} (hb : Below w.heap.size w w') (hl : g < w.heap.size) (j : Nat) : w'.cell? ⟨g, j, none⟩ = w.cell? ⟨g, j, none⟩ := hb.cell (p := ⟨g, j, none⟩) hl

set_option maxRecDepth 100000 in
set_option maxHeartbeats 8000000 in
theorem walk (ops : List OpV) (A : Option Addr) (c : Nat) (w : World) (ho : OpsIn w w.heap.size A ops) (hlc : ops.length ≤ c) (hcm : c ≤ maxLen) :
    Calls Try.prog 3 #[.slice A ops.length c] w fun e w' => e = .returned (.bool true) ∧ Below w.heap.size w w' := by
  have hz := run_zero
  by_cases hfew : Few ops
  · have HFEW := Lib.hid hfew
    clear hfew
    go_enter Try.func3, Try.ntmps3
    go_wp2_with (first
      | (go_at_call 8; refine (coder_awake _).mono ?_; rintro e w1 ⟨rfl, hb1⟩)
      | (go_at_call 9; refine (few_yes ops A c w.heap.size _ (ho.below hb1) hb1.size HFEW.out).mono ?_; rintro e w2 ⟨rfl, hb2⟩))
    have h60 : ops.length ≤ 60 := HFEW.out.2
    have hnew := two_new w2
    have hB2 : Below w.heap.size w w2 := hb1.trans (hb2.mono hb1.size)
    have hB2' := (hB2.alloc hB2.size (.cells zeroWriter 32)).alloc (Nat.le_trans hB2.size (by simp)) (.cells #[.slice none 0 0, .int .i64 0] 36)
    have hLb : w.heap.size ≤ w2.heap.size := hB2.size
    have hLd : w.heap.size ≤ w2.heap.size + 1 := by omega
    have hbd : w2.heap.size ≠ w2.heap.size + 1 := by omega
    go_loopw [20] (fun iv wr => ∃ (k : Nat) (s : List Nat × Nat), k ≤ ops.length ∧ iv = .int .i64 (k : Int) ∧ Hid (Two wr w2.heap.size (w2.heap.size + 1) s s) ∧ Below w.heap.size w wr) (fun iv _ => ops.length - (intOf iv).toNat)
    case atStart => exact ⟨0, ([], 0), Nat.zero_le _, rfl, hnew, hB2'⟩
    case round =>
      obtain ⟨k, s, hk, rfl, HT, hBr⟩ := hrel
      by_cases hlt : k < ops.length
      · obtain ⟨hin, a, rfl, c0, c1, c2, c3⟩ := (ho.below hBr).at (List.getElem?_eq_getElem hlt)
        have hob := HFEW.out.1 ops[k] (List.getElem_mem hlt)
        obtain ⟨o, hoo⟩ : ∃ o, Hid (ops[k] = o) := ⟨ops[k], Lib.hid rfl⟩
        rw [hoo.out] at hin c0 c1 c2 c3 hob
        have hkI : (k : Int) < (ops.length : Int) := by omega
        obtain ⟨F, v, hW, hR, hF, hv⟩ := HT.out
        have hbl := hW.lt
        have hdl := hR.lt
        have hal := (Below.refl wr.heap.size wr).alloc (Nat.le_refl _) (.cells #[.int .i64 o.kd, .int .i64 o.i, .int .u64 (o.n : Int), .slice o.row o.bs.length o.cap] 39)
        have hWa := hW.below hal
        have hRa := hR.grown (grown_below hal none) (by simp) (by simp)
        have hBa := hBr.alloc hBr.size (.cells #[.int .i64 o.kd, .int .i64 o.i, .int .u64 (o.n : Int), .slice o.row o.bs.length o.cap] 39)
        have hina := hin.below ((Below.refl w.heap.size wr).alloc hBr.size (.cells #[.int .i64 o.kd, .int .i64 o.i, .int .u64 (o.n : Int), .slice o.row o.bs.length o.cap] 39))
        have hneb : wr.heap.size ≠ w2.heap.size := by omega
        have hrl : wr.heap.size < (wr.alloc (.cells #[.int .i64 o.kd, .int .i64 o.i, .int .u64 (o.n : Int), .slice o.row o.bs.length o.cap] 39)).heap.size := by simp
        have HQ1 := Lib.hid (new_row wr #[.int .i64 o.kd, .int .i64 o.i, .int .u64 (o.n : Int), .slice o.row o.bs.length o.cap] 39 1 _ rfl)
        have HQ2 := Lib.hid (new_row wr #[.int .i64 o.kd, .int .i64 o.i, .int .u64 (o.n : Int), .slice o.row o.bs.length o.cap] 39 2 _ rfl)
        have HQ3 := Lib.hid (new_row wr #[.int .i64 o.kd, .int .i64 o.i, .int .u64 (o.n : Int), .slice o.row o.bs.length o.cap] 39 3 _ rfl)
        clear hW hR HT
        by_cases h1 : o.kd = 1
        · have e1 : (o.kd == 1) = true := by rw [h1]; rfl
          clear h1
          obtain ⟨txt, ee, hS⟩ : ∃ txt ee, Hid (wput s (form o.n) = (txt, ee)) := ⟨_, _, rfl⟩
          by_cases hE0 : ee = 0
          · subst hE0
            go_wp2_with (first
              | (go_at_call 10; refine (num_is w2.heap.size _ s o.n _ hWa hin.word).mono ?_; rintro e w3 ⟨rfl, hL3⟩; have hg3 := hL3.2; obtain ⟨⟨F3, v3, hW3, hR3, hF3, hv3⟩, hB3⟩ := two_left (L := w.heap.size) hbd hLb hBa.size hWa hRa hF hv hL3; have p1 := (grown_cell hg3 hneb hrl 1).trans HQ1.out; have p2 := (grown_cell hg3 hneb hrl 2).trans HQ2.out; have p3 := (grown_cell hg3 hneb hrl 3).trans HQ3.out)
              | (go_at_call 12; refine (refform2 o.n _ hin.word).mono ?_; rintro e w4 ⟨a4, c4, rfl, hL4, hb4⟩; have hW4 := hW3.below hb4; have hR4 := hR3.grown (grown_below hb4 none) (by simp) (by simp); have hB4 := (hBa.trans hB3).trans (hb4.mono (hBa.trans hB3).size))
              | (go_at_call 11; refine (refput_is (w2.heap.size + 1) _ s v3 _ _ a4 c4 _ hR4 hL4 (by have := form_word hin.word; omega)).mono ?_; rintro e w5 ⟨rfl, hRL5⟩; obtain ⟨⟨Fz, vz, hWz, hRz, hFz, hvz⟩, hBz0⟩ := two_right (L := w.heap.size) hbd hLd hB4.size hW4 hR4 hF3 hv3 hRL5; have hBz := hB4.trans hBz0; rw [hS.out] at hWz hRz)
              | (go_at_call 18; refine (out_ok w2.heap.size _ _ _ hWz).mono ?_; rintro e w8 ⟨v8, rfl, hown8, hb8⟩; obtain ⟨A8, c8, rfl, hl81, hl82, hl83, hL8⟩ := Lies.own hown8; clear hl83; have hR8 := hRz.grown (grown_below hb8 none) (by simp) (by simp); obtain ⟨d0, d1, g0, g1⟩ := hR8.cells; have hm8 := hR8.most; obtain ⟨Ar, cr, hvr, hlr1, hlr2, hlr3, hLr⟩ := Lies.own hR8.owns; clear hlr3; rw [hvr] at d0; have kS := same_true txt _ _ A8 Ar c8 cr _ hL8 hLr (by unfold maxLen; simp only at hm8; omega))
              | (go_at_call 19; refine kS.mono ?_; clear kS; rintro e w9 ⟨rfl, hb9⟩))
            go_roundw
            case rel =>
              have hW9 := (hWz.below hb8).below hb9
              have hR9 := hR8.grown (grown_below hb9 none) (by simp) (by simp)
              have hB8 := hBz.trans (hb8.mono hBz.size)
              exact ⟨k + 1, (txt, 0), by omega, by go_num, ⟨_, _, hW9, hR9, hFz, hvz⟩, hB8.trans (hb9.mono hB8.size)⟩
            case measure => simp [intOf]; omega
          · have hE : Hid ((txt, ee).2 ≠ 0) := hE0
            have hE1 : ((ee : Int) != 0) = true := by simp; omega
            have hE2 : ((ee : Int) == 0) = false := by simp; omega
            clear hE0
            go_wp2_with (first
              | (go_at_call 10; refine (num_is w2.heap.size _ s o.n _ hWa hin.word).mono ?_; rintro e w3 ⟨rfl, hL3⟩; have hg3 := hL3.2; obtain ⟨⟨F3, v3, hW3, hR3, hF3, hv3⟩, hB3⟩ := two_left (L := w.heap.size) hbd hLb hBa.size hWa hRa hF hv hL3; have p1 := (grown_cell hg3 hneb hrl 1).trans HQ1.out; have p2 := (grown_cell hg3 hneb hrl 2).trans HQ2.out; have p3 := (grown_cell hg3 hneb hrl 3).trans HQ3.out)
              | (go_at_call 12; refine (refform2 o.n _ hin.word).mono ?_; rintro e w4 ⟨a4, c4, rfl, hL4, hb4⟩; have hW4 := hW3.below hb4; have hR4 := hR3.grown (grown_below hb4 none) (by simp) (by simp); have hB4 := (hBa.trans hB3).trans (hb4.mono (hBa.trans hB3).size))
              | (go_at_call 11; refine (refput_is (w2.heap.size + 1) _ s v3 _ _ a4 c4 _ hR4 hL4 (by have := form_word hin.word; omega)).mono ?_; rintro e w5 ⟨rfl, hRL5⟩; obtain ⟨⟨Fz, vz, hWz, hRz, hFz, hvz⟩, hBz0⟩ := two_right (L := w.heap.size) hbd hLd hB4.size hW4 hR4 hF3 hv3 hRL5; have hBz := hB4.trans hBz0; rw [hS.out] at hWz hRz)
              | (go_at_call 18; refine (out_bad w2.heap.size _ _ _ hWz hE.out).mono ?_; rintro e w8 ⟨rfl, hb8⟩; have hR8 := hRz.grown (grown_below hb8 none) (by simp) (by simp); obtain ⟨d0, d1, g0, g1⟩ := hR8.cells; simp only at d1))
            go_roundw
            case rel => exact ⟨k + 1, (txt, ee), by omega, by go_num, ⟨_, _, hWz.below hb8, hR8, hFz, hvz⟩, hBz.trans (hb8.mono hBz.size)⟩
            case measure => simp [intOf]; omega
        · have n1 : (o.kd == 1) = false := by simpa using h1
          by_cases h2 : o.kd = 2
          · have e2 : (o.kd == 2) = true := by rw [h2]; rfl
            clear h1 h2
            obtain ⟨txt, ee, hS⟩ : ∃ txt ee, Hid (rint s o.i = (txt, ee)) := ⟨_, _, rfl⟩
            have hS2 : Hid (wint s o.i = (txt, ee)) := hS.out
            by_cases hE0 : ee = 0
            · subst hE0
              go_wp2_with (first
                | (go_at_call 13; refine (int_is w2.heap.size _ s o.i _ hWa hin.lo hin.hi).mono ?_; rintro e w3 ⟨rfl, hL3⟩; have hg3 := hL3.2; obtain ⟨⟨F3, v3, hW3, hR3, hF3, hv3⟩, hB3⟩ := two_left (L := w.heap.size) hbd hLb hBa.size hWa hRa hF hv hL3; have p1 := (grown_cell hg3 hneb hrl 1).trans HQ1.out; have p2 := (grown_cell hg3 hneb hrl 2).trans HQ2.out; have p3 := (grown_cell hg3 hneb hrl 3).trans HQ3.out)
                | (go_at_call 14; refine (refint_is (w2.heap.size + 1) _ s v3 o.i _ hR3 hin.lo hin.hi).mono ?_; rintro e w5 ⟨rfl, hRL5⟩; have hB4 := hBa.trans hB3; obtain ⟨⟨Fz, vz, hWz, hRz, hFz, hvz⟩, hBz0⟩ := two_right (L := w.heap.size) hbd hLd hB4.size hW3 hR3 hF3 hv3 hRL5; have hBz := hB4.trans hBz0; rw [hS.out] at hRz; rw [hS2.out] at hWz)
                | (go_at_call 18; refine (out_ok w2.heap.size _ _ _ hWz).mono ?_; rintro e w8 ⟨v8, rfl, hown8, hb8⟩; obtain ⟨A8, c8, rfl, hl81, hl82, hl83, hL8⟩ := Lies.own hown8; clear hl83; have hR8 := hRz.grown (grown_below hb8 none) (by simp) (by simp); obtain ⟨d0, d1, g0, g1⟩ := hR8.cells; have hm8 := hR8.most; obtain ⟨Ar, cr, hvr, hlr1, hlr2, hlr3, hLr⟩ := Lies.own hR8.owns; clear hlr3; rw [hvr] at d0; have kS := same_true txt _ _ A8 Ar c8 cr _ hL8 hLr (by unfold maxLen; simp only at hm8; omega))
                | (go_at_call 19; refine kS.mono ?_; clear kS; rintro e w9 ⟨rfl, hb9⟩))
              go_roundw
              case rel =>
                have hW9 := (hWz.below hb8).below hb9
                have hR9 := hR8.grown (grown_below hb9 none) (by simp) (by simp)
                have hB8 := hBz.trans (hb8.mono hBz.size)
                exact ⟨k + 1, (txt, 0), by omega, by go_num, ⟨_, _, hW9, hR9, hFz, hvz⟩, hB8.trans (hb9.mono hB8.size)⟩
              case measure => simp [intOf]; omega
            · have hE : Hid ((txt, ee).2 ≠ 0) := hE0
              have hE1 : ((ee : Int) != 0) = true := by simp; omega
              have hE2 : ((ee : Int) == 0) = false := by simp; omega
              clear hE0
              go_wp2_with (first
                | (go_at_call 13; refine (int_is w2.heap.size _ s o.i _ hWa hin.lo hin.hi).mono ?_; rintro e w3 ⟨rfl, hL3⟩; have hg3 := hL3.2; obtain ⟨⟨F3, v3, hW3, hR3, hF3, hv3⟩, hB3⟩ := two_left (L := w.heap.size) hbd hLb hBa.size hWa hRa hF hv hL3; have p1 := (grown_cell hg3 hneb hrl 1).trans HQ1.out; have p2 := (grown_cell hg3 hneb hrl 2).trans HQ2.out; have p3 := (grown_cell hg3 hneb hrl 3).trans HQ3.out)
                | (go_at_call 14; refine (refint_is (w2.heap.size + 1) _ s v3 o.i _ hR3 hin.lo hin.hi).mono ?_; rintro e w5 ⟨rfl, hRL5⟩; have hB4 := hBa.trans hB3; obtain ⟨⟨Fz, vz, hWz, hRz, hFz, hvz⟩, hBz0⟩ := two_right (L := w.heap.size) hbd hLd hB4.size hW3 hR3 hF3 hv3 hRL5; have hBz := hB4.trans hBz0; rw [hS.out] at hRz; rw [hS2.out] at hWz)
                | (go_at_call 18; refine (out_bad w2.heap.size _ _ _ hWz hE.out).mono ?_; rintro e w8 ⟨rfl, hb8⟩; have hR8 := hRz.grown (grown_below hb8 none) (by simp) (by simp); obtain ⟨d0, d1, g0, g1⟩ := hR8.cells; simp only at d1))
              go_roundw
              case rel => exact ⟨k + 1, (txt, ee), by omega, by go_num, ⟨_, _, hWz.below hb8, hR8, hFz, hvz⟩, hBz.trans (hb8.mono hBz.size)⟩
              case measure => simp [intOf]; omega
          · have n2 : (o.kd == 2) = false := by simpa using h2
            by_cases h3 : o.kd = 3
            · have e3 : (o.kd == 3) = true := by rw [h3]; rfl
              clear h1 h2 h3
              by_cases hon : o.i = 1
              · have o1 : (o.i == 1) = true := by rw [hon]; rfl
                clear hon
                obtain ⟨txt, ee, hS⟩ : ∃ txt ee, Hid (rint s 1 = (txt, ee)) := ⟨_, _, rfl⟩
                have hS2 : Hid (wput s (form (if true then 1 else 0)) = (txt, ee)) := hS.out
                by_cases hE0 : ee = 0
                · subst hE0
                  go_wp2_with (first
                    | (go_at_call 15; refine (flag_is w2.heap.size _ s true _ hWa).mono ?_; rintro e w3 ⟨rfl, hL3⟩; have hg3 := hL3.2; obtain ⟨⟨F3, v3, hW3, hR3, hF3, hv3⟩, hB3⟩ := two_left (L := w.heap.size) hbd hLb hBa.size hWa hRa hF hv hL3; have p1 := (grown_cell hg3 hneb hrl 1).trans HQ1.out)
                    | (go_at_call 14; refine (refint_is (w2.heap.size + 1) _ s v3 1 _ hR3 (by omega) (by omega)).mono ?_; rintro e w5 ⟨rfl, hRL5⟩; have hB4 := hBa.trans hB3; obtain ⟨⟨Fz, vz, hWz, hRz, hFz, hvz⟩, hBz0⟩ := two_right (L := w.heap.size) hbd hLd hB4.size hW3 hR3 hF3 hv3 hRL5; have hBz := hB4.trans hBz0; rw [hS.out] at hRz; rw [hS2.out] at hWz)
                    | (go_at_call 18; refine (out_ok w2.heap.size _ _ _ hWz).mono ?_; rintro e w8 ⟨v8, rfl, hown8, hb8⟩; obtain ⟨A8, c8, rfl, hl81, hl82, hl83, hL8⟩ := Lies.own hown8; clear hl83; have hR8 := hRz.grown (grown_below hb8 none) (by simp) (by simp); obtain ⟨d0, d1, g0, g1⟩ := hR8.cells; have hm8 := hR8.most; obtain ⟨Ar, cr, hvr, hlr1, hlr2, hlr3, hLr⟩ := Lies.own hR8.owns; clear hlr3; rw [hvr] at d0; have kS := same_true txt _ _ A8 Ar c8 cr _ hL8 hLr (by unfold maxLen; simp only at hm8; omega))
                    | (go_at_call 19; refine kS.mono ?_; clear kS; rintro e w9 ⟨rfl, hb9⟩))
                  go_roundw
                  case rel =>
                    have hW9 := (hWz.below hb8).below hb9
                    have hR9 := hR8.grown (grown_below hb9 none) (by simp) (by simp)
                    have hB8 := hBz.trans (hb8.mono hBz.size)
                    exact ⟨k + 1, (txt, 0), by omega, by go_num, ⟨_, _, hW9, hR9, hFz, hvz⟩, hB8.trans (hb9.mono hB8.size)⟩
                  case measure => simp [intOf]; omega
                · have hE : Hid ((txt, ee).2 ≠ 0) := hE0
                  have hE1 : ((ee : Int) != 0) = true := by simp; omega
                  have hE2 : ((ee : Int) == 0) = false := by simp; omega
                  clear hE0
                  go_wp2_with (first
                    | (go_at_call 15; refine (flag_is w2.heap.size _ s true _ hWa).mono ?_; rintro e w3 ⟨rfl, hL3⟩; have hg3 := hL3.2; obtain ⟨⟨F3, v3, hW3, hR3, hF3, hv3⟩, hB3⟩ := two_left (L := w.heap.size) hbd hLb hBa.size hWa hRa hF hv hL3; have p1 := (grown_cell hg3 hneb hrl 1).trans HQ1.out)
                    | (go_at_call 14; refine (refint_is (w2.heap.size + 1) _ s v3 1 _ hR3 (by omega) (by omega)).mono ?_; rintro e w5 ⟨rfl, hRL5⟩; have hB4 := hBa.trans hB3; obtain ⟨⟨Fz, vz, hWz, hRz, hFz, hvz⟩, hBz0⟩ := two_right (L := w.heap.size) hbd hLd hB4.size hW3 hR3 hF3 hv3 hRL5; have hBz := hB4.trans hBz0; rw [hS.out] at hRz; rw [hS2.out] at hWz)
                    | (go_at_call 18; refine (out_bad w2.heap.size _ _ _ hWz hE.out).mono ?_; rintro e w8 ⟨rfl, hb8⟩; have hR8 := hRz.grown (grown_below hb8 none) (by simp) (by simp); obtain ⟨d0, d1, g0, g1⟩ := hR8.cells; simp only at d1))
                  go_roundw
                  case rel => exact ⟨k + 1, (txt, ee), by omega, by go_num, ⟨_, _, hWz.below hb8, hR8, hFz, hvz⟩, hBz.trans (hb8.mono hBz.size)⟩
                  case measure => simp [intOf]; omega
              · have o1 : (o.i == 1) = false := by simpa using hon
                clear hon
                obtain ⟨txt, ee, hS⟩ : ∃ txt ee, Hid (rint s 0 = (txt, ee)) := ⟨_, _, rfl⟩
                have hS2 : Hid (wput s (form (if false then 1 else 0)) = (txt, ee)) := hS.out
                by_cases hE0 : ee = 0
                · subst hE0
                  go_wp2_with (first
                    | (go_at_call 15; refine (flag_is w2.heap.size _ s false _ hWa).mono ?_; rintro e w3 ⟨rfl, hL3⟩; have hg3 := hL3.2; obtain ⟨⟨F3, v3, hW3, hR3, hF3, hv3⟩, hB3⟩ := two_left (L := w.heap.size) hbd hLb hBa.size hWa hRa hF hv hL3; have p1 := (grown_cell hg3 hneb hrl 1).trans HQ1.out)
                    | (go_at_call 14; refine (refint_is (w2.heap.size + 1) _ s v3 0 _ hR3 (by omega) (by omega)).mono ?_; rintro e w5 ⟨rfl, hRL5⟩; have hB4 := hBa.trans hB3; obtain ⟨⟨Fz, vz, hWz, hRz, hFz, hvz⟩, hBz0⟩ := two_right (L := w.heap.size) hbd hLd hB4.size hW3 hR3 hF3 hv3 hRL5; have hBz := hB4.trans hBz0; rw [hS.out] at hRz; rw [hS2.out] at hWz)
                    | (go_at_call 18; refine (out_ok w2.heap.size _ _ _ hWz).mono ?_; rintro e w8 ⟨v8, rfl, hown8, hb8⟩; obtain ⟨A8, c8, rfl, hl81, hl82, hl83, hL8⟩ := Lies.own hown8; clear hl83; have hR8 := hRz.grown (grown_below hb8 none) (by simp) (by simp); obtain ⟨d0, d1, g0, g1⟩ := hR8.cells; have hm8 := hR8.most; obtain ⟨Ar, cr, hvr, hlr1, hlr2, hlr3, hLr⟩ := Lies.own hR8.owns; clear hlr3; rw [hvr] at d0; have kS := same_true txt _ _ A8 Ar c8 cr _ hL8 hLr (by unfold maxLen; simp only at hm8; omega))
                    | (go_at_call 19; refine kS.mono ?_; clear kS; rintro e w9 ⟨rfl, hb9⟩))
                  go_roundw
                  case rel =>
                    have hW9 := (hWz.below hb8).below hb9
                    have hR9 := hR8.grown (grown_below hb9 none) (by simp) (by simp)
                    have hB8 := hBz.trans (hb8.mono hBz.size)
                    exact ⟨k + 1, (txt, 0), by omega, by go_num, ⟨_, _, hW9, hR9, hFz, hvz⟩, hB8.trans (hb9.mono hB8.size)⟩
                  case measure => simp [intOf]; omega
                · have hE : Hid ((txt, ee).2 ≠ 0) := hE0
                  have hE1 : ((ee : Int) != 0) = true := by simp; omega
                  have hE2 : ((ee : Int) == 0) = false := by simp; omega
                  clear hE0
                  go_wp2_with (first
                    | (go_at_call 15; refine (flag_is w2.heap.size _ s false _ hWa).mono ?_; rintro e w3 ⟨rfl, hL3⟩; have hg3 := hL3.2; obtain ⟨⟨F3, v3, hW3, hR3, hF3, hv3⟩, hB3⟩ := two_left (L := w.heap.size) hbd hLb hBa.size hWa hRa hF hv hL3; have p1 := (grown_cell hg3 hneb hrl 1).trans HQ1.out)
                    | (go_at_call 14; refine (refint_is (w2.heap.size + 1) _ s v3 0 _ hR3 (by omega) (by omega)).mono ?_; rintro e w5 ⟨rfl, hRL5⟩; have hB4 := hBa.trans hB3; obtain ⟨⟨Fz, vz, hWz, hRz, hFz, hvz⟩, hBz0⟩ := two_right (L := w.heap.size) hbd hLd hB4.size hW3 hR3 hF3 hv3 hRL5; have hBz := hB4.trans hBz0; rw [hS.out] at hRz; rw [hS2.out] at hWz)
                    | (go_at_call 18; refine (out_bad w2.heap.size _ _ _ hWz hE.out).mono ?_; rintro e w8 ⟨rfl, hb8⟩; have hR8 := hRz.grown (grown_below hb8 none) (by simp) (by simp); obtain ⟨d0, d1, g0, g1⟩ := hR8.cells; simp only at d1))
                  go_roundw
                  case rel => exact ⟨k + 1, (txt, ee), by omega, by go_num, ⟨_, _, hWz.below hb8, hR8, hFz, hvz⟩, hBz.trans (hb8.mono hBz.size)⟩
                  case measure => simp [intOf]; omega
            · have n3 : (o.kd == 3) = false := by simpa using h3
              by_cases h4 : o.kd = 4
              · have e4 : (o.kd == 4) = true := by rw [h4]; rfl
                have hxa : Lies (wr.alloc (.cells #[.int .i64 o.kd, .int .i64 o.i, .int .u64 (o.n : Int), .slice o.row o.bs.length o.cap] 39)) (· ≠ w2.heap.size) o.row o.bs := hina.lies.imp (fun q _ hq e => by omega)
                have kw := raw_is w2.heap.size _ s o.bs o.row o.cap _ hWa hxa hin.room hin.most
                have kr := fun (W : World) (h : Lies W (· < w.heap.size) o.row o.bs) => refraw2 o.bs _ o.row o.cap W h (by omega) hin.none
                obtain ⟨ys, hys⟩ : ∃ ys, Hid (form o.bs.length ++ o.bs = ys) := ⟨_, rfl⟩
                have hyl : Hid (ys.length ≤ 1000000) := by show _ ≤ _; rw [← hys.out, List.length_append]; have := form_word (n := o.bs.length) (by omega); omega
                rw [hys.out] at kw
                simp only [hys.out] at kr
                clear h1 h2 h3 h4
                obtain ⟨txt, ee, hS⟩ : ∃ txt ee, Hid (wput s ys = (txt, ee)) := ⟨_, _, rfl⟩
                by_cases hE0 : ee = 0
                · subst hE0
                  go_wp2_with (first
                    | (go_at_call 16; refine kw.mono ?_; clear kw hxa; rintro e w3 ⟨rfl, hL3⟩; have hg3 := hL3.2; obtain ⟨⟨F3, v3, hW3, hR3, hF3, hv3⟩, hB3⟩ := two_left (L := w.heap.size) hbd hLb hBa.size hWa hRa hF hv hL3; have p1 := (grown_cell hg3 hneb hrl 1).trans HQ1.out; have p2 := (grown_cell hg3 hneb hrl 2).trans HQ2.out; have p3 := (grown_cell hg3 hneb hrl 3).trans HQ3.out)
                    | (go_at_call 17; refine (kr _ (hina.below hB3).lies).mono ?_; clear kr; rintro e w4 ⟨a4, c4, rfl, hL4, hb4⟩; have hW4 := hW3.below hb4; have hR4 := hR3.grown (grown_below hb4 none) (by simp) (by simp); have hB4 := (hBa.trans hB3).trans (hb4.mono (hBa.trans hB3).size))
                    | (go_at_call 11; refine (refput_is (w2.heap.size + 1) _ s v3 _ _ a4 c4 _ hR4 hL4 hyl.out).mono ?_; rintro e w5 ⟨rfl, hRL5⟩; obtain ⟨⟨Fz, vz, hWz, hRz, hFz, hvz⟩, hBz0⟩ := two_right (L := w.heap.size) hbd hLd hB4.size hW4 hR4 hF3 hv3 hRL5; have hBz := hB4.trans hBz0; rw [hS.out] at hWz hRz)
                    | (go_at_call 18; refine (out_ok w2.heap.size _ _ _ hWz).mono ?_; rintro e w8 ⟨v8, rfl, hown8, hb8⟩; obtain ⟨A8, c8, rfl, hl81, hl82, hl83, hL8⟩ := Lies.own hown8; clear hl83; have hR8 := hRz.grown (grown_below hb8 none) (by simp) (by simp); obtain ⟨d0, d1, g0, g1⟩ := hR8.cells; have hm8 := hR8.most; obtain ⟨Ar, cr, hvr, hlr1, hlr2, hlr3, hLr⟩ := Lies.own hR8.owns; clear hlr3; rw [hvr] at d0; have kS := same_true txt _ _ A8 Ar c8 cr _ hL8 hLr (by unfold maxLen; simp only at hm8; omega))
                    | (go_at_call 19; refine kS.mono ?_; clear kS; rintro e w9 ⟨rfl, hb9⟩))
                  go_roundw
                  case rel =>
                    have hW9 := (hWz.below hb8).below hb9
                    have hR9 := hR8.grown (grown_below hb9 none) (by simp) (by simp)
                    have hB8 := hBz.trans (hb8.mono hBz.size)
                    exact ⟨k + 1, (txt, 0), by omega, by go_num, ⟨_, _, hW9, hR9, hFz, hvz⟩, hB8.trans (hb9.mono hB8.size)⟩
                  case measure => simp [intOf]; omega
                · have hE : Hid ((txt, ee).2 ≠ 0) := hE0
                  have hE1 : ((ee : Int) != 0) = true := by simp; omega
                  have hE2 : ((ee : Int) == 0) = false := by simp; omega
                  clear hE0
                  go_wp2_with (first
                    | (go_at_call 16; refine kw.mono ?_; clear kw hxa; rintro e w3 ⟨rfl, hL3⟩; have hg3 := hL3.2; obtain ⟨⟨F3, v3, hW3, hR3, hF3, hv3⟩, hB3⟩ := two_left (L := w.heap.size) hbd hLb hBa.size hWa hRa hF hv hL3; have p1 := (grown_cell hg3 hneb hrl 1).trans HQ1.out; have p2 := (grown_cell hg3 hneb hrl 2).trans HQ2.out; have p3 := (grown_cell hg3 hneb hrl 3).trans HQ3.out)
                    | (go_at_call 17; refine (kr _ (hina.below hB3).lies).mono ?_; clear kr; rintro e w4 ⟨a4, c4, rfl, hL4, hb4⟩; have hW4 := hW3.below hb4; have hR4 := hR3.grown (grown_below hb4 none) (by simp) (by simp); have hB4 := (hBa.trans hB3).trans (hb4.mono (hBa.trans hB3).size))
                    | (go_at_call 11; refine (refput_is (w2.heap.size + 1) _ s v3 _ _ a4 c4 _ hR4 hL4 hyl.out).mono ?_; rintro e w5 ⟨rfl, hRL5⟩; obtain ⟨⟨Fz, vz, hWz, hRz, hFz, hvz⟩, hBz0⟩ := two_right (L := w.heap.size) hbd hLd hB4.size hW4 hR4 hF3 hv3 hRL5; have hBz := hB4.trans hBz0; rw [hS.out] at hWz hRz)
                    | (go_at_call 18; refine (out_bad w2.heap.size _ _ _ hWz hE.out).mono ?_; rintro e w8 ⟨rfl, hb8⟩; have hR8 := hRz.grown (grown_below hb8 none) (by simp) (by simp); obtain ⟨d0, d1, g0, g1⟩ := hR8.cells; simp only at d1))
                  go_roundw
                  case rel => exact ⟨k + 1, (txt, ee), by omega, by go_num, ⟨_, _, hWz.below hb8, hR8, hFz, hvz⟩, hBz.trans (hb8.mono hBz.size)⟩
                  case measure => simp [intOf]; omega
              · have n4 : (o.kd == 4) = false := by simpa using h4
                clear h1 h2 h3 h4
                obtain ⟨txt, ee, hS⟩ : ∃ txt ee, Hid (s = (txt, ee)) := ⟨_, _, rfl⟩
                have hWz := hWa
                have hRz := hRa
                have hFz := hF
                have hvz := hv
                have hBz := hBa
                rw [hS.out] at hWz hRz
                by_cases hE0 : ee = 0
                · subst hE0
                  go_wp2_with (first
                    | (go_at_call 18; refine (out_ok w2.heap.size _ _ _ hWz).mono ?_; rintro e w8 ⟨v8, rfl, hown8, hb8⟩; obtain ⟨A8, c8, rfl, hl81, hl82, hl83, hL8⟩ := Lies.own hown8; clear hl83; have hR8 := hRz.grown (grown_below hb8 none) (by simp) (by simp); obtain ⟨d0, d1, g0, g1⟩ := hR8.cells; have hm8 := hR8.most; obtain ⟨Ar, cr, hvr, hlr1, hlr2, hlr3, hLr⟩ := Lies.own hR8.owns; clear hlr3; rw [hvr] at d0; have kS := same_true txt _ _ A8 Ar c8 cr _ hL8 hLr (by unfold maxLen; simp only at hm8; omega))
                    | (go_at_call 19; refine kS.mono ?_; clear kS; rintro e w9 ⟨rfl, hb9⟩))
                  go_roundw
                  case rel =>
                    have hW9 := (hWz.below hb8).below hb9
                    have hR9 := hR8.grown (grown_below hb9 none) (by simp) (by simp)
                    have hB8 := hBz.trans (hb8.mono hBz.size)
                    exact ⟨k + 1, (txt, 0), by omega, by go_num, ⟨_, _, hW9, hR9, hFz, hvz⟩, hB8.trans (hb9.mono hB8.size)⟩
                  case measure => simp [intOf]; omega
                · have hE : Hid ((txt, ee).2 ≠ 0) := hE0
                  have hE1 : ((ee : Int) != 0) = true := by simp; omega
                  have hE2 : ((ee : Int) == 0) = false := by simp; omega
                  clear hE0
                  go_wp2_with (first
                    | (go_at_call 18; refine (out_bad w2.heap.size _ _ _ hWz hE.out).mono ?_; rintro e w8 ⟨rfl, hb8⟩; have hR8 := hRz.grown (grown_below hb8 none) (by simp) (by simp); obtain ⟨d0, d1, g0, g1⟩ := hR8.cells; simp only at d1))
                  go_roundw
                  case rel => exact ⟨k + 1, (txt, ee), by omega, by go_num, ⟨_, _, hWz.below hb8, hR8, hFz, hvz⟩, hBz.trans (hb8.mono hBz.size)⟩
                  case measure => simp [intOf]; omega
      · obtain rfl : k = ops.length := by omega
        clear hlt hk
        go_wp2
        go_ret
        exact ⟨rfl, hBr⟩
  · have HFEW := Lib.hid hfew
    clear hfew
    go_enter Try.func3, Try.ntmps3
    go_wp2_with (first
      | (go_at_call 8; refine (coder_awake _).mono ?_; rintro e w1 ⟨rfl, hb1⟩)
      | (go_at_call 9; refine (few_no ops A c w.heap.size _ (ho.below hb1) hb1.size hlc hcm HFEW.out).mono ?_; rintro e w2 ⟨rfl, hb2⟩))
    go_ret
    exact ⟨rfl, hb1.trans (hb2.mono hb1.size)⟩

theorem own : ownKnob Try.prog.godebug = none := by kernel_rfl
theorem laidOut : laidOutB Try.prog = true := by kernel_rfl

set_option maxRecDepth 100000 in
theorem lifted (os : Os) (started : os.Started) (H : Type) (enc : TypeId × Value → H) :
    ReturnsInHanded {} Try.checked os 3 .any (Rows.coderWritesSpec.pre6 enc Try.prog Try.f3 Rows.coderWritesRow.domain false) (Rows.coderWritesSpec.post enc Try.prog Try.f3 false true false false) := by
  refine returnsInHanded_of_change (C := Try.checked) own started (by kernel_rfl) Try.func3
    (ChangeSpec.witness6 (enc := enc) (C := Try.checked) false ⟨#[], #[.slice none 0 0], []⟩ 8 (by kernel_rfl) (by kernel_rfl) (by kernel_rfl) (by kernel_rfl)) ?_
  intro W base args ds gs before hval0 hW hcnd _
  have hval : ∀ (j : Nat) t v, Try.f3.params[j]? = some t → args[j]? = some v → Value.okWide Try.prog W .any base t v := hval0
  have hW' := hW
  obtain ⟨p, q, hA0, hV, rfl, hfz, hnd⟩ := hW
  have hlt : ∀ x ∈ p ++ q, x.block < W.heap.size := fun x hx => hW'.lt x hx
  have hA : DataW.TrodAll enc Try.prog W 0 (fun _ => true) true Try.f3.params.toList args.toList ds p := hA0
  rw [Try.params3] at hA hval
  obtain ⟨v0, vs0, d0, ds0, p0, q0, hargs, rfl, rfl, h0, r0⟩ := trodAll_cons hA
  obtain ⟨rfl, rfl, rfl⟩ := trodAll_nil r0
  obtain rfl : args = #[v0] := by cases args; simp_all
  obtain ⟨rfl, rfl⟩ := trodVars_none hV
  obtain ⟨A0, n0, c0, rfl⟩ := okWide_slice Try.underlying22 (hval 0 22 v0 rfl rfl)
  obtain ⟨ops0, hl0, hc0, hm0, ho0⟩ := open_ops h0
  subst hl0
  clear hA0 hval0
  refine (walk ops0 A0 c0 W ho0 hc0 hm0).mono fun e W' ⟨he, hg⟩ => ?_
  subst he
  exact ⟨_, rfl, law_post laidOut (by kernel_rfl) rfl rfl Try.underlying4 rfl hW' hg⟩

theorem over : Rows.coderWritesRow.holds Try.pinned (OpenSpec.ofChange Rows.coderWritesSpec) :=
  OpenClaim.holds_of_wide 3 Try.f3 rfl rfl rfl rfl rfl rfl rfl ⟨rfl, rfl, rfl, rfl, rfl⟩ rfl rfl rfl rfl rfl (by kernel_rfl) Try.func3 (by kernel_rfl)
    (of_decide_eq_true (by kernel_rfl)) (by unfold Func.isWrapper; first | (rw [if_pos (by decide +kernel)]; kernel_rfl) | (rw [if_neg (by decide +kernel)]; exact ⟨rfl, rfl⟩))
    (fun os started H enc _ => lifted os started H enc)

/-- The statement. -/
theorem proved : Rows.CoderWritesSaid := over
#print axioms proved

end Go.Proofs.Ytmagjfjmaojemaa.CoderWrites
