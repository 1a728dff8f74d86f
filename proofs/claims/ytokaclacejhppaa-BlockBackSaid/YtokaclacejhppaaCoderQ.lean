/- Layer 5 (coder): a number and bytes are written; a writer's calls. By contracts. -/
import Derived.Test.YtokaclacejhppaaCoderP
namespace Go.Proofs.Ytokaclacejhppaa
open Go.RowKit
set_option linter.unusedVariables false

/-- In block b lies a writer that has written so, with its failure; its pieces lie in blocks of which F is said. -/
def Writes (w : World) (b : Nat) (F : Nat → Prop) (s : List Nat × Nat) : Prop := ∃ m p pre tail part, WriterAt w b F s m p pre tail part

theorem Writes.grown {w w' : World} {b : Nat} {F : Nat → Prop} {s : List Nat × Nat} (h : Writes w b F s) {row : Option Nat} (hg : w.grownBy w' row) (hb : some b ≠ row) (hF : ∀ k, F k → some k ≠ row) : Writes w' b F s := by
  obtain ⟨m, p, pre, tail, part, h⟩ := h
  exact ⟨m, p, pre, tail, part, h.grown hg hb hF⟩
theorem Writes.below {w w' : World} {b : Nat} {F : Nat → Prop} {s : List Nat × Nat} (h : Writes w b F s) (hb : Below w.heap.size w w') : Writes w' b F s :=
  h.grown (grown_below hb none) (by simp) (by simp)
theorem Writes.lt {w : World} {b : Nat} {F : Nat → Prop} {s : List Nat × Nat} (h : Writes w b F s) : b < w.heap.size := by
  obtain ⟨m, p, pre, tail, part, h⟩ := h
  exact h.lt

/-- Behind a failure. -/
theorem WriterAt.failing {w : World} {b : Nat} {F : Nat → Prop} {s : List Nat × Nat} {m : Nat} {p : Value} {pre tail part : List Nat} (h : WriterAt w b F s m p pre tail part) (e : Nat) (he : e ≤ 100) (w' : World) (hw : w' = w.setCell ⟨b, 1, none⟩ (.int .i64 (e : Int)) ∨ w' = (w.setCell ⟨b, 1, none⟩ (.int .i64 (e : Int))).drew) :
    WriterAt w' b F (s.1, e) m p pre tail part ∧ w.grownBy w' (some b) := by
  have hg : w.grownBy w' (some b) := by
    rcases hw with rfl | rfl
    · exact grown_set w b 1 _
    · exact grown_trans (grown_set w b 1 _) (grown_drew _ 1 _)
  have hh : w'.heap = (w.setCell ⟨b, 1, none⟩ (.int .i64 (e : Int))).heap := by rcases hw with rfl | rfl <;> rfl
  refine ⟨⟨h.text, h.short, h.whole, h.same, h.most, he, ?_, fun k hk => ⟨(h.apart k hk).1, Nat.lt_of_lt_of_le (h.apart k hk).2 hg.size⟩, ?_⟩, hg⟩
  · exact Chain.hold (fun k hk hf => hg.block k hk (fun e => (h.apart k hf).1 (by injection e))) (fun _ h => h) _ _ _ h.chain
  · rw [hh, heap_setCell_same w b 1 _ _ _ h.block]
    rfl

/-- What a call on a writer leaves. -/
def Left (w : World) (b : Nat) (F : Nat → Prop) (s : List Nat × Nat) (w' : World) : Prop := (∃ F', Writes w' b F' s ∧ ∀ k, F' k → F k ∨ w.heap.size ≤ k) ∧ w.grownBy w' (some b)

set_option maxRecDepth 100000 in
set_option maxHeartbeats 2000000 in
theorem write_is (b : Nat) (F : Nat → Prop) (s : List Nat × Nat) (n : Nat) (xs : List Nat) (A : Option Addr) (c : Nat) (w : World) (hW : Writes w b F s) (hx : Lies w (· ≠ b) A xs) (hc : xs.length ≤ c) (hcm : c ≤ maxLen) (hn : n < 18446744073709551616) :
    Calls Try.prog 27 #[.pointer (some ⟨b, 0, none⟩), .int .u64 (n : Int), .slice A xs.length c] w fun e w' => e = .returned (.tuple #[]) ∧ Left w b F (wput s (form n ++ xs)) w' := by
  obtain ⟨m, p, pre, tail, part, hWr⟩ := hW
  have hcm2 := hcm
  unfold maxLen at hcm2
  obtain ⟨txt, e⟩ := s
  obtain ⟨c0, c1, c2, f0, f1, f2⟩ := hWr.cells
  by_cases he : e = 0
  · subst he
    have kf := form_ok n w hn
    obtain ⟨H, hH⟩ : ∃ H, Hid (form n = H) := ⟨_, rfl⟩
    have hHl : H.length ≤ 10 := by rw [← hH.out]; exact form_word hn
    rw [hH.out] at kf ⊢
    obtain ⟨N, hN⟩ : ∃ N, Hid (txt.length = N) := ⟨_, rfl⟩
    have hNm : N ≤ 131072 := by rw [← hN.out]; exact hWr.most
    have hNI : (N : Int) ≤ 131072 := by omega
    have hHI : (H.length : Int) ≤ 10 := by omega
    have hXI : (xs.length : Int) ≤ 9223372036854775807 := by omega
    have ks := wshut_no b w c1
    simp only [hN.out] at c0
    by_cases hfit : N + H.length + xs.length ≤ 131072
    · have hput : wput (txt, 0) (H ++ xs) = (txt ++ H ++ xs, 0) := by
        unfold wput
        rw [if_neg (by simp), if_neg (by simp only [List.length_append]; rw [hN.out]; omega)]
        simp
      rw [hput]
      have hfI : (xs.length : Int) ≤ 131072 - (N : Int) - (H.length : Int) := by omega
      clear hput
      have hHmost : H.length ≤ 10 := hHl
      go_enter Try.func27, Try.ntmps27
      go_wp2_with (first
        | (go_at_call 28; refine ks.mono ?_; rintro e w' ⟨rfl, rfl⟩)
        | (go_at_call 43; refine kf.mono ?_; rintro e w1 ⟨v, rfl, hown, hb1⟩; obtain ⟨hA, hC, rfl, hl1, hl2, _, hL⟩ := Lies.own hown; have hg1 := grown_below hb1 (some b); have hW1 := hWr.grown (grown_below hb1 none) (by simp) (by simp); have d0 := hW1.cells.1; simp only [hN.out] at d0; have k2 := put_ok b F txt H hA hC m p pre tail part w1 hW1 (hL.imp (fun k _ h e => by have := hWr.lt; have := h.1; omega)) hl1 (by rw [hN.out]; omega))
        | (go_at_call 44; refine k2.mono ?_; clear k2; rintro e w2 ⟨rfl, ⟨F2, m2, p2, pre2, tail2, part2, hW2, hF2⟩, hg2⟩; have k3 := put_ok b F2 (txt ++ H) xs A c m2 p2 pre2 tail2 part2 w2 hW2 ((hx.grown hg1 (fun k hk e => hk (by injection e))).grown hg2 (fun k hk e => hk (by injection e))) hc (by rw [List.length_append, hN.out]; omega))
        | (go_at_call 44; refine k3.mono ?_; clear k3; rintro e w3 ⟨rfl, ⟨F3, m3, p3, pre3, tail3, part3, hW3, hF3⟩, hg3⟩))
      go_end0
      refine ⟨rfl, ⟨F3, ⟨m3, p3, pre3, tail3, part3, hW3⟩, fun k hk => ?_⟩, grown_trans (grown_trans hg1 hg2) hg3⟩
      rcases hF3 k hk with h1 | h1
      · rcases hF2 k h1 with h2 | h2
        · exact .inl h2
        · exact .inr (Nat.le_trans hg1.size h2)
      · exact .inr (Nat.le_trans hg1.size (Nat.le_trans hg2.size h1))
    · have hput : wput (txt, 0) (H ++ xs) = (txt, 3) := by
        unfold wput
        rw [if_neg (by simp), if_pos (by simp only [List.length_append]; rw [hN.out]; omega)]
      rw [hput]
      have hfI : 131072 - (N : Int) - (H.length : Int) < (xs.length : Int) := by omega
      clear hput
      go_enter Try.func27, Try.ntmps27
      go_wp2_with (first
        | (go_at_call 28; refine ks.mono ?_; rintro e w' ⟨rfl, rfl⟩)
        | (go_at_call 43; refine kf.mono ?_; rintro e w1 ⟨v, rfl, hown, hb1⟩; obtain ⟨hA, hC, rfl, hl1, hl2, _, hL⟩ := Lies.own hown; have hg1 := grown_below hb1 (some b); have hW1 := hWr.grown (grown_below hb1 none) (by simp) (by simp); obtain ⟨d0, d1, _, g0, g1, _⟩ := hW1.cells; simp only [hN.out] at d0))
      go_region_with (go_at_call 29; refine (move_not b 3 (N : Int) _ w1.drew d1 g1 (by omega)).mono ?_; rintro e w' ⟨rfl, rfl⟩)
      go_wp2_with fail
      obtain ⟨hW2, hg2⟩ := hW1.failing 3 (by omega) _ (.inr rfl)
      refine bodyPost_ret (v := .tuple #[]) (by simp [results, Try.results27, go_sem]) rfl ⟨rfl, ⟨F, ⟨m, p, pre, tail, part, hW2⟩, fun k hk => .inl hk⟩, grown_trans hg1 hg2⟩
  · have ks := wshut_yes b e w c1 he
    have hput : wput (txt, e) (form n ++ xs) = (txt, e) := by unfold wput; rw [if_pos he]
    rw [hput]
    clear hput he
    go_enter Try.func27, Try.ntmps27
    go_wp2_with (go_at_call 28; refine ks.mono ?_; rintro e w' ⟨rfl, rfl⟩)
    refine bodyPost_ret (v := .tuple #[]) (by simp [results, Try.results27, go_sem]) rfl ⟨rfl, ⟨F, ⟨m, p, pre, tail, part, hWr⟩, fun k hk => .inl hk⟩, grown_refl _ _⟩

theorem write_nil (v1 : Int) (A : Option Addr) (n c : Nat) (w : World) :
    Calls Try.prog 27 #[.pointer none, .int .u64 v1, .slice A n c] w fun e w' => e = .returned (.tuple #[]) ∧ w = w' := by
  have ks := wshut_nil w
  go_enter Try.func27, Try.ntmps27
  go_wp2_with (go_at_call 28; refine ks.mono ?_; rintro e w' ⟨rfl, rfl⟩)
  refine bodyPost_ret (v := .tuple #[]) (by simp [results, Try.results27, go_sem]) rfl ⟨rfl, rfl⟩

theorem num_is (b : Nat) (F : Nat → Prop) (s : List Nat × Nat) (n : Nat) (w : World) (hW : Writes w b F s) (hn : n < 18446744073709551616) :
    Calls Try.prog 52 #[.pointer (some ⟨b, 0, none⟩), .int .u64 (n : Int)] w fun e w' => e = .returned (.tuple #[]) ∧ Left w b F (wput s (form n)) w' := by
  have k := write_is b F s n [] none 0 w hW (Lies.nil _ _ _) (by simp) (by simp [maxLen]) hn
  rw [List.append_nil] at k
  go_enter Try.func52, Try.ntmps52
  go_wp2_with (go_at_call 27; refine k.mono ?_; rintro e w' ⟨rfl, hL⟩)
  go_end0
  exact ⟨rfl, hL⟩
theorem num_nil (n : Int) (w : World) :
    Calls Try.prog 52 #[.pointer none, .int .u64 n] w fun e w' => e = .returned (.tuple #[]) ∧ w = w' := by
  have k := write_nil n none 0 0 w
  go_enter Try.func52, Try.ntmps52
  go_wp2_with (go_at_call 27; refine k.mono ?_; rintro e w' ⟨rfl, rfl⟩)
  go_end0
  exact ⟨rfl, rfl⟩

theorem form_flag (on : Bool) : form (if on then 1 else 0) = [if on then 1 else 0] := by cases on <;> exact form_small (by decide)
theorem flag_is (b : Nat) (F : Nat → Prop) (s : List Nat × Nat) (on : Bool) (w : World) (hW : Writes w b F s) :
    Calls Try.prog 53 #[.pointer (some ⟨b, 0, none⟩), .bool on] w fun e w' => e = .returned (.tuple #[]) ∧ Left w b F (wput s (form (if on then 1 else 0))) w' := by
  cases on
  · have k := write_is b F s 0 [] none 0 w hW (Lies.nil _ _ _) (by simp) (by simp [maxLen]) (by omega)
    rw [List.append_nil] at k
    go_enter Try.func53, Try.ntmps53
    go_wp2_with (go_at_call 27; refine k.mono ?_; rintro e w' ⟨rfl, hL⟩)
    go_end0
    exact ⟨rfl, hL⟩
  · have k := write_is b F s 1 [] none 0 w hW (Lies.nil _ _ _) (by simp) (by simp [maxLen]) (by omega)
    rw [List.append_nil] at k
    go_enter Try.func53, Try.ntmps53
    go_wp2_with (go_at_call 27; refine k.mono ?_; rintro e w' ⟨rfl, hL⟩)
    go_end0
    exact ⟨rfl, hL⟩
theorem flag_nil (on : Bool) (w : World) :
    Calls Try.prog 53 #[.pointer none, .bool on] w fun e w' => e = .returned (.tuple #[]) ∧ w = w' := by
  have k1 := write_nil 1 none 0 0 w
  have k0 := write_nil 0 none 0 0 w
  cases on
  · go_enter Try.func53, Try.ntmps53
    go_wp2_with (go_at_call 27; refine k0.mono ?_; rintro e w' ⟨rfl, rfl⟩)
    go_end0
    exact ⟨rfl, rfl⟩
  · go_enter Try.func53, Try.ntmps53
    go_wp2_with (go_at_call 27; refine k1.mono ?_; rintro e w' ⟨rfl, rfl⟩)
    go_end0
    exact ⟨rfl, rfl⟩

theorem raw_is (b : Nat) (F : Nat → Prop) (s : List Nat × Nat) (xs : List Nat) (A : Option Addr) (c : Nat) (w : World) (hW : Writes w b F s) (hx : Lies w (· ≠ b) A xs) (hc : xs.length ≤ c) (hcm : c ≤ maxLen) :
    Calls Try.prog 50 #[.pointer (some ⟨b, 0, none⟩), .slice A xs.length c] w fun e w' => e = .returned (.tuple #[]) ∧ Left w b F (wput s (form xs.length ++ xs)) w' := by
  have hcm2 := hcm
  unfold maxLen at hcm2
  have k := write_is b F s xs.length xs A c w hW hx hc hcm (by omega)
  have hwr : IntKind.u64.wrap (xs.length : Int) = (xs.length : Int) := IntWalk.u64_in _ (by omega)
  go_enter Try.func50, Try.ntmps50
  go_wp2_with (go_at_call 27; refine k.mono ?_; rintro e w' ⟨rfl, hL⟩)
  go_end0
  exact ⟨rfl, hL⟩
theorem raw_nil (A : Option Addr) (n c : Nat) (w : World) (hn : n ≤ maxLen) :
    Calls Try.prog 50 #[.pointer none, .slice A n c] w fun e w' => e = .returned (.tuple #[]) ∧ w = w' := by
  unfold maxLen at hn
  have k := write_nil (n : Int) A n c w
  have hwr : IntKind.u64.wrap (n : Int) = (n : Int) := IntWalk.u64_in _ (by omega)
  go_enter Try.func50, Try.ntmps50
  go_wp2_with (go_at_call 27; refine k.mono ?_; rintro e w' ⟨rfl, rfl⟩)
  go_end0
  exact ⟨rfl, rfl⟩

/-- What an Int writes. -/
def wint (s : List Nat × Nat) (i : Int) : List Nat × Nat := if i < 0 then wneg s else wput s (form i.toNat)

theorem int_is (b : Nat) (F : Nat → Prop) (s : List Nat × Nat) (i : Int) (w : World) (hW : Writes w b F s) (h0 : -9223372036854775808 ≤ i) (h1 : i ≤ 9223372036854775807) :
    Calls Try.prog 14 #[.pointer (some ⟨b, 0, none⟩), .int .i64 i] w fun e w' => e = .returned (.tuple #[]) ∧ Left w b F (wint s i) w' := by
  by_cases hi : i < 0
  · obtain ⟨m, p, pre, tail, part, hWr⟩ := hW
    obtain ⟨c0, c1, c2, f0, f1, f2⟩ := hWr.cells
    have hw : wint s i = wneg s := by unfold wint; rw [if_pos hi]
    rw [hw]
    obtain ⟨txt, e⟩ := s
    simp only at c0 c1
    by_cases he : e = 0
    · subst he
      have ks := wshut_no b w c1
      clear hw
      go_enter Try.func14, Try.ntmps14
      go_wp2_with (go_at_call 28; refine ks.mono ?_; rintro e w' ⟨rfl, rfl⟩)
      go_region_with (go_at_call 29; refine (move_not b 2 (txt.length : Int) _ w.drew c1 f1 (by omega)).mono ?_; rintro e w' ⟨rfl, rfl⟩)
      go_wp2_with fail
      go_end0
      obtain ⟨hW2, hg2⟩ := hWr.failing 2 (by omega) _ (.inr rfl)
      exact ⟨rfl, ⟨F, ⟨m, p, pre, tail, part, hW2⟩, fun k hk => .inl hk⟩, hg2⟩
    · have ks := wshut_yes b e w c1 he
      have hp : wneg (txt, e) = (txt, e) := by unfold wneg; rw [if_pos he]
      rw [hp]
      clear hp he hw
      go_enter Try.func14, Try.ntmps14
      go_wp2_with (go_at_call 28; refine ks.mono ?_; rintro e w' ⟨rfl, rfl⟩)
      go_end0
      exact ⟨rfl, ⟨F, ⟨m, p, pre, tail, part, hWr⟩, fun k hk => .inl hk⟩, grown_refl _ _⟩
  · obtain ⟨n, rfl⟩ := Int.eq_ofNat_of_zero_le (by omega : 0 ≤ i)
    have hw : wint s (n : Int) = wput s (form n) := by unfold wint; rw [if_neg hi]; rfl
    have k := write_is b F s n [] none 0 w hW (Lies.nil _ _ _) (by simp) (by simp [maxLen]) (by omega)
    rw [List.append_nil, ← hw] at k
    have hwr : IntKind.u64.wrap (n : Int) = (n : Int) := IntWalk.u64_in _ (by omega)
    have hn0 : (0 : Int) ≤ (n : Int) := by omega
    clear hw hi
    go_enter Try.func14, Try.ntmps14
    go_wp2_with (go_at_call 27; refine k.mono ?_; rintro e w' ⟨rfl, hL⟩)
    go_end0
    exact ⟨rfl, hL⟩
theorem int_nil (i : Int) (w : World) :
    Calls Try.prog 14 #[.pointer none, .int .i64 i] w fun e w' => e = .returned (.tuple #[]) ∧ w = w' := by
  have ks := wshut_nil w
  have k : ∀ n, Calls Try.prog 27 #[.pointer none, .int .u64 n, .slice none 0 0] w fun e w' => e = .returned (.tuple #[]) ∧ w = w' := fun n => write_nil n none 0 0 w
  by_cases hi : i < 0
  · go_enter Try.func14, Try.ntmps14
    go_wp2_with (go_at_call 28; refine ks.mono ?_; rintro e w' ⟨rfl, rfl⟩)
    go_end0
    exact ⟨rfl, rfl⟩
  · have hi0 : 0 ≤ i := by omega
    clear hi
    go_enter Try.func14, Try.ntmps14
    go_wp2_with (go_at_call 27; refine (k _).mono ?_; rintro e w' ⟨rfl, rfl⟩)
    go_end0
    exact ⟨rfl, rfl⟩
end Go.Proofs.Ytokaclacejhppaa
