/- Layer 16 (line): New, Push, Pop, Drop, Place, List, Len, of a line and of one that is none. By contracts. -/
import Derived.Test.YtmpkhjbfanbfiaaLinC
namespace Go.Proofs.Ytmpkhjbfanbfiaa
open Go.RowKit Go.Shelf
set_option linter.unusedVariables false
set_option linter.unusedSimpArgs false

set_option maxRecDepth 100000 in
theorem len_is (g : Nat) (A : Option Addr) (c : Nat) (l : List Int) (w : World) (h : LineAt w g A c l) :
    Calls Try.prog 19 #[.pointer (some ⟨g, 0, none⟩)] w fun e w' => e = .returned (.int .i64 (l.length : Int)) ∧ w = w' := by
  have k := size_is g A c l w h
  have hlt := h.lt
  have c0 := h.cell
  clear h
  go_enter Try.func19, Try.ntmps19
  go_wp2_with (go_at_call 25; refine k.mono ?_; clear k; rintro e w1 ⟨rfl, rfl⟩)
  go_ret
  exact ⟨rfl, rfl⟩
theorem len_none (w : World) :
    Calls Try.prog 19 #[.pointer none] w fun e w' => e = .returned (.int .i64 0) ∧ w = w' := by
  go_enter Try.func19, Try.ntmps19
  go_wp2
  go_ret
  exact ⟨rfl, rfl⟩

set_option maxRecDepth 100000 in
theorem list_is (g : Nat) (A : Option Addr) (c : Nat) (l : List Int) (w : World) (h : LineAt w g A c l) (hl : l.length ≤ 1000000) :
    Calls Try.prog 18 #[.pointer (some ⟨g, 0, none⟩)] w fun e w' => ∃ v, e = .returned v ∧ w'.ownsRow w.heap.size 3 1 v l.length (ivals l) ∧ Below w.heap.size w w' := by
  have k := all_is g A c l w h (by omega)
  have c0 := h.cell
  clear h
  go_enter Try.func18, Try.ntmps18
  go_wp2_with (go_at_call 27; refine k.mono ?_; clear k; rintro e w1 ⟨v1, rfl, hown1, hb1⟩)
  refine bodyPost_ret (v := v1) (by simp [results, Try.results18, go_sem]) rfl ⟨_, rfl, hown1, hb1⟩
theorem list_none (w : World) :
    Calls Try.prog 18 #[.pointer none] w fun e w' => e = .returned (.slice none 0 0) ∧ w = w' := by
  go_enter Try.func18, Try.ntmps18
  go_wp2
  go_ret
  exact ⟨rfl, rfl⟩

set_option maxRecDepth 100000 in
theorem place_no (g : Nat) (A : Option Addr) (c : Nat) (l : List Int) (x : Int) (w : World) (h : LineAt w g A c l) (hx : x ∉ l) :
    Calls Try.prog 17 #[.pointer (some ⟨g, 0, none⟩), .int .i64 x] w fun e w' => e = .returned (.tuple #[.int .i64 0, .bool false]) ∧ w = w' := by
  have k := find_no g A c l x w h hx
  have c0 := h.cell
  clear h hx
  go_enter Try.func17, Try.ntmps17
  go_wp2_with (go_at_call 24; refine k.mono ?_; clear k; rintro e w1 ⟨rfl, rfl⟩)
  go_ret2
  exact ⟨rfl, rfl⟩
set_option maxRecDepth 100000 in
theorem place_yes (g : Nat) (A : Option Addr) (c : Nat) (l : List Int) (x : Int) (k : Nat) (w : World) (h : LineAt w g A c l) (hx : Lib.idxOf l x = (k : Int)) :
    Calls Try.prog 17 #[.pointer (some ⟨g, 0, none⟩), .int .i64 x] w fun e w' => e = .returned (.tuple #[.int .i64 (k : Int), .bool true]) ∧ w = w' := by
  have k := find_yes g A c l x k w h hx
  have c0 := h.cell
  clear h hx
  go_enter Try.func17, Try.ntmps17
  go_wp2_with (go_at_call 24; refine k.mono ?_; clear k; rintro e w1 ⟨rfl, rfl⟩)
  go_ret2
  exact ⟨rfl, rfl⟩
theorem place_none (x : Int) (w : World) :
    Calls Try.prog 17 #[.pointer none, .int .i64 x] w fun e w' => e = .returned (.tuple #[.int .i64 0, .bool false]) ∧ w = w' := by
  go_enter Try.func17, Try.ntmps17
  go_wp2
  go_ret2
  exact ⟨rfl, rfl⟩

set_option maxRecDepth 100000 in
/-- Nobody of that number waits: nothing changes. -/
theorem drop_no (g : Nat) (A : Option Addr) (c : Nat) (l : List Int) (x : Int) (w : World) (h : LineAt w g A c l) (hx : x ∉ l) :
    Calls Try.prog 16 #[.pointer (some ⟨g, 0, none⟩), .int .i64 x] w fun e w' => e = .returned (.bool false) ∧ w = w' := by
  have k := place_no g A c l x w h hx
  clear h hx
  go_enter Try.func16, Try.ntmps16
  go_wp2_with (go_at_call 17; refine k.mono ?_; clear k; rintro e w1 ⟨rfl, rfl⟩)
  go_ret
  exact ⟨rfl, rfl⟩
theorem drop_none (x : Int) (w : World) :
    Calls Try.prog 16 #[.pointer none, .int .i64 x] w fun e w' => e = .returned (.bool false) ∧ w = w' := by
  have k := place_none x w
  go_enter Try.func16, Try.ntmps16
  go_wp2_with (go_at_call 17; refine k.mono ?_; clear k; rintro e w1 ⟨rfl, rfl⟩)
  go_ret
  exact ⟨rfl, rfl⟩
set_option maxRecDepth 100000 in
theorem drop_yes (g : Nat) (A : Option Addr) (c : Nat) (l : List Int) (x : Int) (w : World) (h : LineAt w g A c l) (hx : x ∈ l) (hn : l.Nodup) (hl : l.length ≤ 1000000) :
    Calls Try.prog 16 #[.pointer (some ⟨g, 0, none⟩), .int .i64 x] w fun e w' => e = .returned (.bool true) ∧ (∃ A' c', LineAt w' g A' c' (without l x)) ∧ w.grownBy w' (some g) := by
  rcases fnd_cases l x with ⟨h0, _⟩ | ⟨k, hk, hkx, hi, _⟩
  · exact absurd hx h0
  have k1 := place_yes g A c l x k w h hi
  have k2 := take_is g A c l k (k + 1) w h (by omega) (by omega) hl
  rw [without_cut hn hk hkx] at k2
  have e1 : ((k + 1 : Nat) : Int) = (k : Int) + 1 := by omega
  rw [e1] at k2
  have c0 := h.cell
  have hw : IntKind.i64.wrap ((k : Int) + 1) = (k : Int) + 1 := by rw [IntKind.wrap_i64]; omega
  have K2 := Lib.hid k2
  clear h hx hn hi hkx k2 e1
  go_enter Try.func16, Try.ntmps16
  go_wp2_with (first
    | (go_at_call 17; refine k1.mono ?_; clear k1; rintro e w1 ⟨rfl, rfl⟩)
    | (go_at_call 26; refine K2.out.mono ?_; clear K2; rintro e w2 ⟨v2, rfl, hown2, hL2, hg2⟩; clear hown2))
  go_ret
  exact ⟨rfl, hL2, hg2⟩

theorem pop_none (x : Int) (w : World) :
    Calls Try.prog 13 #[.pointer none, .int .i64 x] w fun e w' => e = .returned (.slice none 0 0) ∧ w = w' := by
  go_enter Try.func13, Try.ntmps13
  go_wp2
  go_ret
  exact ⟨rfl, rfl⟩

theorem push_none (x : Int) (w : World) :
    Calls Try.prog 10 #[.pointer none, .int .i64 x] w fun e w' => e = .returned (.int .i64 1) ∧ w = w' := by
  go_enter Try.func10, Try.ntmps10
  go_wp2
  go_ret
  exact ⟨rfl, rfl⟩
set_option maxRecDepth 100000 in
theorem push_below (g : Nat) (A : Option Addr) (c : Nat) (l : List Int) (x : Int) (w : World) (h : LineAt w g A c l) (hx : x < 0) :
    Calls Try.prog 10 #[.pointer (some ⟨g, 0, none⟩), .int .i64 x] w fun e w' => e = .returned (.int .i64 2) ∧ w = w' := by
  have k1 := below_is x true w (decide_eq_true hx)
  clear h hx
  go_enter Try.func10, Try.ntmps10
  go_wp2_with (go_at_call 21; refine k1.mono ?_; clear k1; rintro e w1 ⟨rfl, rfl⟩)
  go_ret
  exact ⟨rfl, rfl⟩
set_option maxRecDepth 100000 in
theorem push_twice (g : Nat) (A : Option Addr) (c : Nat) (l : List Int) (x : Int) (w : World) (h : LineAt w g A c l) (hx : ¬ x < 0) (hm : x ∈ l) :
    Calls Try.prog 10 #[.pointer (some ⟨g, 0, none⟩), .int .i64 x] w fun e w' => e = .returned (.int .i64 231) ∧ w = w' := by
  rcases fnd_cases l x with ⟨h0, _⟩ | ⟨k, hk, hkx, hi, _⟩
  · exact absurd hm h0
  have k1 := below_is x false w (decide_eq_false hx)
  have k2 := find_yes g A c l x k w h hi
  have c0 := h.cell
  clear h hx hm hi hkx
  go_enter Try.func10, Try.ntmps10
  go_wp2_with (first
    | (go_at_call 21; refine k1.mono ?_; clear k1; rintro e w1 ⟨rfl, rfl⟩)
    | (go_at_call 24; refine k2.mono ?_; clear k2; rintro e w2 ⟨rfl, rfl⟩))
  go_ret
  exact ⟨rfl, rfl⟩
set_option maxRecDepth 100000 in
theorem push_full (g : Nat) (A : Option Addr) (c : Nat) (l : List Int) (x : Int) (w : World) (h : LineAt w g A c l) (hx : ¬ x < 0) (hm : x ∉ l) (hf : 256 ≤ l.length) :
    Calls Try.prog 10 #[.pointer (some ⟨g, 0, none⟩), .int .i64 x] w fun e w' => e = .returned (.int .i64 161) ∧ w = w' := by
  have k1 := below_is x false w (decide_eq_false hx)
  have k2 := find_no g A c l x w h hm
  have k3 := size_is g A c l w h
  have c0 := h.cell
  clear h hx hm
  go_enter Try.func10, Try.ntmps10
  go_wp2_with (first
    | (go_at_call 21; refine k1.mono ?_; clear k1; rintro e w1 ⟨rfl, rfl⟩)
    | (go_at_call 24; refine k2.mono ?_; clear k2; rintro e w2 ⟨rfl, rfl⟩)
    | (go_at_call 25; refine k3.mono ?_; clear k3; rintro e w3 ⟨rfl, rfl⟩))
  go_ret
  exact ⟨rfl, rfl⟩
set_option maxRecDepth 100000 in
theorem push_ok (g : Nat) (A : Option Addr) (c : Nat) (l : List Int) (x : Int) (w : World) (h : LineAt w g A c l) (hx : ¬ x < 0) (hm : x ∉ l) (hf : ¬ 256 ≤ l.length) :
    Calls Try.prog 10 #[.pointer (some ⟨g, 0, none⟩), .int .i64 x] w fun e w' => e = .returned (.int .i64 0) ∧ (∃ A' c', LineAt w' g A' c' (l ++ [x])) ∧ w.grownBy w' (some g) := by
  have k1 := below_is x false w (decide_eq_false hx)
  have k2 := find_no g A c l x w h hm
  have k3 := size_is g A c l w h
  have hb0 : Below w.heap.size w (w.alloc (.cells #[.int .i64 x] 3)) := (Below.refl _ _).alloc (Nat.le_refl _) _
  have k4 := join_is g A c l [x] (some ⟨w.heap.size, 0, none⟩) 1 _ _ (h.below hb0) (Lie.made w (ivals [x]) 3) (fun e => by cases e) (by simp; omega)
  rw [show [x].length = 1 from rfl] at k4
  have c0 := h.cell
  have K4 := Lib.hid k4
  have HB := Lib.hid hb0
  clear h hx hm k4 hb0
  go_enter Try.func10, Try.ntmps10
  go_wp2_with (first
    | (go_at_call 21; refine k1.mono ?_; clear k1; rintro e w1 ⟨rfl, rfl⟩)
    | (go_at_call 24; refine k2.mono ?_; clear k2; rintro e w2 ⟨rfl, rfl⟩)
    | (go_at_call 25; refine k3.mono ?_; clear k3; rintro e w3 ⟨rfl, rfl⟩)
    | (go_at_call 23; refine K4.out.mono ?_; clear K4; rintro e w4 ⟨rfl, hL4, hg4⟩))
  go_ret
  exact ⟨rfl, hL4, grown_trans (grown_below HB.out _) hg4⟩
end Go.Proofs.Ytmpkhjbfanbfiaa
