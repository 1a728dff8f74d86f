/- Layer 16 (line): a line as a law goes on with it: where it lies, what it leaves as it was; the chapter's examples. -/
import Derived.Test.YtmpkhjbfanbfiaaLinE
import Derived.Test.YtmpkhjbfanbfiaaLinS
namespace Go.Proofs.Ytmpkhjbfanbfiaa
open Go.RowKit Go.Shelf
set_option linter.unusedVariables false
set_option linter.unusedSimpArgs false

/-- A line that a call has made since world w0, in block g. -/
structure HasLine (w0 w : World) (g : Nat) (l : List Int) : Prop where
  old : w0.heap.size ≤ g
  lies : ∃ A c, LineAt w g A c l
  below : Below w0.heap.size w0 w
theorem HasLine.lt {w0 w : World} {g : Nat} {l : List Int} (h : HasLine w0 w g l) : g < w.heap.size := by
  obtain ⟨A, c, hL⟩ := h.lies
  exact hL.lt
theorem HasLine.up {w0 w w' : World} {g : Nat} {l : List Int} (h : HasLine w0 w g l) (hb : Below w.heap.size w w') : HasLine w0 w' g l := by
  obtain ⟨A, c, hL⟩ := h.lies
  exact ⟨h.old, ⟨A, c, hL.below hb⟩, Below.then h.below hb⟩
theorem HasLine.turn {w0 w w' : World} {g : Nat} {l l' : List Int} (h : HasLine w0 w g l) (hL : ∃ A c, LineAt w' g A c l') (hg : w.grownBy w' (some g)) : HasLine w0 w' g l' :=
  ⟨h.old, hL, h.below.grown hg h.below.size (fun k hk => by cases hk; exact h.old)⟩

section
variable {w0 w : World} {g : Nat} {l : List Int}
theorem HasLine.len (h : HasLine w0 w g l) : Calls Try.prog 19 #[.pointer (some ⟨g, 0, none⟩)] w fun e w' => e = .returned (.int .i64 (l.length : Int)) ∧ w = w' := by
  obtain ⟨A, c, hL⟩ := h.lies
  exact len_is g A c l w hL
theorem HasLine.list (h : HasLine w0 w g l) (hl : l.length ≤ 1000000) : Calls Try.prog 18 #[.pointer (some ⟨g, 0, none⟩)] w fun e w' => ∃ A c, e = .returned (.slice A l.length c) ∧ w'.ownsRow w.heap.size 3 1 (.slice A l.length c) l.length (ivals l) ∧ HasLine w0 w' g l ∧ Below w.heap.size w w' := by
  obtain ⟨A, c, hL⟩ := h.lies
  refine (list_is g A c l w hL hl).mono ?_
  rintro e w' ⟨v, rfl, hown, hb⟩
  obtain ⟨A', c', rfl, -, -, -, -⟩ := Lie.own hown
  exact ⟨A', c', rfl, hown, h.up hb, hb⟩
theorem HasLine.place_no (h : HasLine w0 w g l) (x : Int) (hx : x ∉ l) : Calls Try.prog 17 #[.pointer (some ⟨g, 0, none⟩), .int .i64 x] w fun e w' => e = .returned (.tuple #[.int .i64 0, .bool false]) ∧ w = w' := by
  obtain ⟨A, c, hL⟩ := h.lies
  exact Go.Proofs.Ytmpkhjbfanbfiaa.place_no g A c l x w hL hx
theorem HasLine.place_yes (h : HasLine w0 w g l) (x : Int) (k : Nat) (hx : Lib.idxOf l x = (k : Int)) : Calls Try.prog 17 #[.pointer (some ⟨g, 0, none⟩), .int .i64 x] w fun e w' => e = .returned (.tuple #[.int .i64 (k : Int), .bool true]) ∧ w = w' := by
  obtain ⟨A, c, hL⟩ := h.lies
  exact Go.Proofs.Ytmpkhjbfanbfiaa.place_yes g A c l x k w hL hx
theorem HasLine.drop_no (h : HasLine w0 w g l) (x : Int) (hx : x ∉ l) : Calls Try.prog 16 #[.pointer (some ⟨g, 0, none⟩), .int .i64 x] w fun e w' => e = .returned (.bool false) ∧ w = w' := by
  obtain ⟨A, c, hL⟩ := h.lies
  exact Go.Proofs.Ytmpkhjbfanbfiaa.drop_no g A c l x w hL hx
theorem HasLine.drop_yes (h : HasLine w0 w g l) (x : Int) (hx : x ∈ l) (hn : l.Nodup) (hl : l.length ≤ 1000000) : Calls Try.prog 16 #[.pointer (some ⟨g, 0, none⟩), .int .i64 x] w fun e w' => e = .returned (.bool true) ∧ HasLine w0 w' g (without l x) ∧ w.grownBy w' (some g) := by
  obtain ⟨A, c, hL⟩ := h.lies
  refine (Go.Proofs.Ytmpkhjbfanbfiaa.drop_yes g A c l x w hL hx hn hl).mono ?_
  rintro e w' ⟨rfl, h2, hg⟩
  exact ⟨rfl, h.turn h2 hg, hg⟩
theorem HasLine.pop (h : HasLine w0 w g l) (most : Int) (hl : l.length ≤ 1000000) : Calls Try.prog 13 #[.pointer (some ⟨g, 0, none⟩), .int .i64 most] w fun e w' => ∃ A c, e = .returned (.slice A (l.take most.toNat).length c) ∧ w'.ownsRow w.heap.size 3 1 (.slice A (l.take most.toNat).length c) (l.take most.toNat).length (ivals (l.take most.toNat)) ∧ HasLine w0 w' g (l.drop most.toNat) ∧ w.grownBy w' (some g) := by
  obtain ⟨A, c, hL⟩ := h.lies
  refine (pop_is g A c l most w hL hl).mono ?_
  rintro e w' ⟨v, rfl, hown, h2, hg⟩
  obtain ⟨A', c', rfl, -, -, -, -⟩ := Lie.own hown
  exact ⟨A', c', rfl, hown, h.turn h2 hg, hg⟩
theorem HasLine.push_below (h : HasLine w0 w g l) (x : Int) (hx : x < 0) : Calls Try.prog 10 #[.pointer (some ⟨g, 0, none⟩), .int .i64 x] w fun e w' => e = .returned (.int .i64 2) ∧ w = w' := by
  obtain ⟨A, c, hL⟩ := h.lies
  exact Go.Proofs.Ytmpkhjbfanbfiaa.push_below g A c l x w hL hx
theorem HasLine.push_twice (h : HasLine w0 w g l) (x : Int) (hx : ¬ x < 0) (hm : x ∈ l) : Calls Try.prog 10 #[.pointer (some ⟨g, 0, none⟩), .int .i64 x] w fun e w' => e = .returned (.int .i64 231) ∧ w = w' := by
  obtain ⟨A, c, hL⟩ := h.lies
  exact Go.Proofs.Ytmpkhjbfanbfiaa.push_twice g A c l x w hL hx hm
theorem HasLine.push_full (h : HasLine w0 w g l) (x : Int) (hx : ¬ x < 0) (hm : x ∉ l) (hf : 256 ≤ l.length) : Calls Try.prog 10 #[.pointer (some ⟨g, 0, none⟩), .int .i64 x] w fun e w' => e = .returned (.int .i64 161) ∧ w = w' := by
  obtain ⟨A, c, hL⟩ := h.lies
  exact Go.Proofs.Ytmpkhjbfanbfiaa.push_full g A c l x w hL hx hm hf
theorem HasLine.push_ok (h : HasLine w0 w g l) (x : Int) (hx : ¬ x < 0) (hm : x ∉ l) (hf : ¬ 256 ≤ l.length) : Calls Try.prog 10 #[.pointer (some ⟨g, 0, none⟩), .int .i64 x] w fun e w' => e = .returned (.int .i64 0) ∧ HasLine w0 w' g (l ++ [x]) ∧ w.grownBy w' (some g) := by
  obtain ⟨A, c, hL⟩ := h.lies
  refine (Go.Proofs.Ytmpkhjbfanbfiaa.push_ok g A c l x w hL hx hm hf).mono ?_
  rintro e w' ⟨rfl, h2, hg⟩
  exact ⟨rfl, h.turn h2 hg, hg⟩
end
/-- A new line, in a world that goes on from w0. -/
theorem has_new (l : List Int) (S : Nat → Prop) (A : Option Addr) (c : Nat) (w0 w : World) (hb : Below w0.heap.size w0 w) (hr : Lie w S A (ivals l)) (hA : A = none → c = 0) (h : ¬ ∃ x ∈ l, x < 0) (h2 : l.Nodup) (h3 : l.length ≤ 256) :
    Calls Try.prog 7 #[.slice A l.length c] w fun e w' => ∃ g, e = .returned (.tuple #[.pointer (some ⟨g, 0, none⟩), .int .i64 0]) ∧ w.heap.size ≤ g ∧ HasLine w0 w' g l ∧ Below w.heap.size w w' := by
  refine (new_ok l S A c w hr hA h h2 h3).mono ?_
  rintro e w' ⟨g, rfl, hg, hL, hb2⟩
  exact ⟨g, rfl, hg, ⟨Nat.le_trans hb.size hg, hL, Below.then hb hb2⟩, hb2⟩

set_option maxRecDepth 100000 in
set_option maxHeartbeats 1000000 in
theorem line_awake (w : World) : Calls Try.prog 6 #[] w fun e w' => e = .returned (.bool true) ∧ Below w.heap.size w w' := by
  have hb0 : Below w.heap.size w (w.alloc (.cells #[.int .i64 4, .int .i64 7, .int .i64 9] 3)) := (Below.refl _ _).alloc (Nat.le_refl _) _
  have kn := has_new [4, 7, 9] _ _ 3 w _ hb0 (Lie.made w (ivals [4, 7, 9]) 3) (fun e => by cases e) (by decide) (by decide) (by decide)
  rw [show [(4 : Int), 7, 9].length = 3 from rfl] at kn
  have kp := fun (g : Nat) (w1 : World) (h : HasLine w w1 g [4, 7, 9]) => h.pop 2 (by decide)
  rw [show [(4 : Int), 7, 9].take (2 : Int).toNat = [4, 7] from rfl, show [(4 : Int), 7, 9].drop (2 : Int).toNat = [9] from rfl, show [(4 : Int), 7].length = 2 from rfl] at kp
  have kd := fun (g : Nat) (w1 : World) (h : HasLine w w1 g [9]) => h.drop_yes 9 (by decide) (by decide) (by decide)
  rw [show without [9] 9 = [] from rfl] at kd
  have ku := fun (g : Nat) (w1 : World) (h : HasLine w w1 g []) => h.push_ok 9 (by decide) (by decide) (by decide)
  rw [show ([] : List Int) ++ [9] = [9] from rfl] at ku
  have kl := fun (g : Nat) (w1 : World) (h : HasLine w w1 g [9]) => h.place_yes 9 0 (by rfl)
  rw [show ((0 : Nat) : Int) = 0 from rfl] at kl
  have ke := fun (g : Nat) (w1 : World) (h : HasLine w w1 g [9]) => h.len
  rw [show (([9] : List Int).length : Int) = 1 from rfl] at ke
  have ks := fun (A A' : Option Addr) (c c' : Nat) (S S' : Nat → Prop) (w1 : World) (h : Lie w1 S A (ivals [4, 7])) (h' : Lie w1 S' A' (ivals [4, 7])) => rsame_true [4, 7] S S' A A' c c' w1 h h' (by decide)
  rw [show [(4 : Int), 7].length = 2 from rfl] at ks
  clear hb0
  go_enter Try.func6, Try.ntmps6
  go_wp2_with (first
    | (go_at_call 7; refine kn.mono ?_; clear kn; rintro e w1 ⟨g, rfl, hg1, hL1, hb1⟩; clear hg1 hb1)
    | (go_at_call 13; refine (kp g w1 hL1).mono ?_; clear kp; rintro e w2 ⟨A2, c2, rfl, hown2, hL2, hg2⟩; have hL3 := hL2.up ((Below.refl _ w2).alloc (Nat.le_refl _) (.cells #[.int .i64 4, .int .i64 7] 3)); obtain ⟨A3, c3, e3, -, -, -, hl2⟩ := Lie.own hown2; injection e3 with e4 e5 e6; subst e4 e6; have hl3 := hl2.below ((Below.refl _ w2).alloc (Nat.le_refl _) (.cells #[.int .i64 4, .int .i64 7] 3)); clear hl2 e5 hg2 hown2)
    | (go_at_call 12; refine (ks _ _ _ _ _ _ _ hl3 (Lie.made w2 (ivals [4, 7]) 3)).mono ?_; clear ks; rintro e w4 ⟨rfl, hb4⟩; have hL4 := hL3.up hb4; clear hb4)
    | (go_at_call 16; refine (kd g w4 hL4).mono ?_; clear kd; rintro e w5 ⟨rfl, hL5, hg5⟩; clear hg5)
    | (go_at_call 10; refine (ku g w5 hL5).mono ?_; clear ku; rintro e w6 ⟨rfl, hL6, hg6⟩; clear hg6)
    | (go_at_call 17; refine (kl g w6 hL6).mono ?_; clear kl; rintro e w7 ⟨rfl, rfl⟩)
    | (go_at_call 19; refine (ke g w6 hL6).mono ?_; clear ke; rintro e w8 ⟨rfl, rfl⟩))
  go_ret
  exact ⟨by first | rfl | simp, hL6.below⟩
end Go.Proofs.Ytmpkhjbfanbfiaa
