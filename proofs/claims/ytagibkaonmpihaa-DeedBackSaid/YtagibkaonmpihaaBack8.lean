/- Law DeedBack (P8.3): what is encoded is decoded as it was; cut off, or with a byte more, it is not. No condition. -/
import Derived.Test.YtagibkaonmpihaaDeedTop
import Derived.Test.YtagibkaonmpihaaDeedIn
import Derived.Test.YtagibkaonmpihaaSeq
import Derived.Test.YtagibkaonmpihaaRows
namespace Go.Proofs.Ytagibkaonmpihaa.DeedBack
open Go.RowKit Go.ChangeShapes Go.WideShapes Go.ChangeAt
set_option linter.unusedVariables false
set_option linter.unusedSimpArgs false

set_option maxRecDepth 100000 in
theorem walk_long (d : Dd) (A : Option Addr) (c : Nat) (cut : Int) (w : World) (h : 200 < d.bits.length ∨ cut < 0) :
    Calls Try.prog 5 #[.agg (d.vals A c), .int .i64 cut] w fun e w' => e = .returned (.bool true) ∧ Below w.heap.size w w' := by
  have hD := DeedAt.new w d A c 27
  have hB : Below w.heap.size w (w.alloc (.cells (d.vals A c) 27)) := (Below.refl _ _).alloc (Nat.le_refl _) _
  by_cases h1 : 200 < d.bits.length
  · have dl : decide ((200 : Int) < (d.bits.length : Int)) = true := by simp; omega
    clear h h1
    go_enter Try.func5, Try.ntmps5
    go_wp2_with (go_at_call 7; refine (deed_awake _).mono ?_; rintro e w1 ⟨rfl, hb1⟩; have c6 := (hD.next hb1).k6; have hB1 := Below.then hB hb1)
    go_ret
    exact ⟨rfl, hB1⟩
  · have dl : decide ((200 : Int) < (d.bits.length : Int)) = false := by simp; omega
    have dc : decide (cut < 0) = true := by have := h.resolve_left h1; simp; omega
    clear h h1
    go_enter Try.func5, Try.ntmps5
    go_wp2_with (go_at_call 7; refine (deed_awake _).mono ?_; rintro e w1 ⟨rfl, hb1⟩; have c6 := (hD.next hb1).k6; have hB1 := Below.then hB hb1)
    go_ret
    exact ⟨rfl, hB1⟩

set_option maxRecDepth 100000 in
theorem walk_bad (d : Dd) (A : Option Addr) (c : Nat) (cut : Int) (w : World) (hl : d.bits.length ≤ 200) (hc : 0 ≤ cut) (hf : d.Fits) (hR : ¬ d.Right) :
    Calls Try.prog 5 #[.agg (d.vals A c), .int .i64 cut] w fun e w' => e = .returned (.bool true) ∧ Below w.heap.size w w' := by
  have hD := DeedAt.new w d A c 27
  have hB : Below w.heap.size w (w.alloc (.cells (d.vals A c) 27)) := (Below.refl _ _).alloc (Nat.le_refl _) _
  have dl : decide ((200 : Int) < (d.bits.length : Int)) = false := by simp; omega
  have dc : decide (cut < 0) = false := by simp; omega
  have ke := fun w => dencode_no d A c w hf hR
  clear hl hc hf hR
  go_enter Try.func5, Try.ntmps5
  go_wp2_with (first
    | (go_at_call 7; refine (deed_awake _).mono ?_; rintro e w1 ⟨rfl, hb1⟩; have hD1 := hD.next hb1; have c6 := hD1.k6; have hB1 := Below.then hB hb1)
    | (refine load_deed _ rfl rfl _ d A c _ rfl hD1 ?_)
    | (go_at_call 8; refine (ke _).mono ?_; clear ke; rintro e w2 ⟨rfl, hb2⟩; have hB2 := Below.then hB1 hb2))
  go_ret
  exact ⟨rfl, hB2⟩

theorem lies_some {w : World} {S : Nat → Prop} {A : Option Addr} {xs : List Nat} (h : Lies w S A xs) (h0 : 0 < xs.length) : ∃ a, A = some a := by
  obtain ⟨a, ha, _⟩ := h.get h0
  exact ⟨a, ha⟩
theorem lies_cut {w : World} {S : Nat → Prop} {A : Option Addr} {xs : List Nat} (h : Lies w S A xs) (n : Nat) : Lies w S A (xs.take n) := fun k x hx => h k x (by
  rw [List.getElem?_take] at hx
  by_cases hk : k < n
  · rwa [if_pos hk] at hx
  · rw [if_neg hk] at hx; cases hx)
theorem src_more {w : World} {S : Nat → Prop} {a : Addr} {xs : List Nat} (h : Lies w S (some a) xs) : ∀ o j u, (u8s xs)[j]? = some u → (w.alloc o).cell? (a.add j) = some u := fun o j u hj => by
  have hsrc := h.src xs.length
  rw [List.take_length] at hsrc
  rw [World.cell?_alloc_lt _ _ _ (World.block_lt_of_cell? w _ (hsrc j u hj))]; exact hsrc j u hj

set_option maxRecDepth 100000 in
set_option maxHeartbeats 4000000 in
theorem walk_ok (d : Dd) (A : Option Addr) (c : Nat) (cut : Int) (w : World) (hl : d.bits.length ≤ 200) (hc : 0 ≤ cut) (hcm : cut ≤ 9223372036854775807) (hR : d.Right) (hx : Lies w (· < w.heap.size) A d.bits) (hbc : d.bits.length ≤ c) (hm : c ≤ maxLen) :
    Calls Try.prog 5 #[.agg (d.vals A c), .int .i64 cut] w fun e w' => e = .returned (.bool true) ∧ Below w.heap.size w w' := by
  obtain ⟨i0, hi0, hz0, hz1, hz2⟩ := info_parts u8_info
  have hz := zero_deed
  have hD := DeedAt.new w d A c 27
  have hB : Below w.heap.size w (w.alloc (.cells (d.vals A c) 27)) := (Below.refl _ _).alloc (Nat.le_refl _) _
  have dl : decide ((200 : Int) < (d.bits.length : Int)) = false := by simp; omega
  have dc : decide (cut < 0) = false := by simp; omega
  obtain ⟨bs, hbs⟩ : ∃ bs, Hid (d.bytes = bs) := ⟨_, rfl⟩
  have hlen := bytes_len hR
  have hlt := bytes_lt hR
  rw [hbs.out] at hlen hlt
  obtain ⟨n, hn⟩ : ∃ n, Hid (bs.length = n) := ⟨_, rfl⟩
  rw [hn.out] at hlen
  have ke := fun w hx => dencode_ok d A c w hR hx hbc hm
  rw [hbs.out, hn.out] at ke
  -- all of it
  have hd0 : DRaw bs (0, 0) d 0 (n, 0) := by
    have := draw_form hR (bs := bs) (rest := []) (pos := 0) (by omega) (by rw [List.drop_zero, hbs.out, List.append_nil])
    rwa [hbs.out, hn.out, Nat.zero_add] at this
  have k1 : ∀ (W : World) (S : Nat → Prop) (A' : Option Addr) (c' : Nat), Lies W S A' bs → Calls Try.prog 18 #[.slice A' n c'] W fun e w' => ∃ B c'', e = .returned (.tuple #[.agg (d.vals B c''), .int .i64 0]) ∧ Lies w' (fun k => W.heap.size ≤ k) B d.bits ∧ d.bits.length ≤ c'' ∧ c'' ≤ maxLen ∧ Below W.heap.size W w' := fun W S A' c' h => by
    have k := ddecode_ok bs S A' c' d (n, 0) W h (by rw [hn.out]; omega) hlt (Lib.hid hd0) (Lib.hid rfl) (Lib.hid (by unfold rdDone; rw [hn.out, if_neg (by simp)]))
    rwa [hn.out] at k
  -- cut off
  obtain ⟨j, hj⟩ : ∃ j : Nat, cut.tmod (n : Int) = (j : Int) := ⟨(cut.tmod n).toNat, by rw [Int.toNat_of_nonneg]; exact Int.tmod_nonneg _ hc⟩
  have hjn : j < n := by have := Int.tmod_lt_of_pos cut (show (0 : Int) < n by omega); omega
  have k2 : ∀ (W : World) (S : Nat → Prop) (A' : Option Addr) (c' : Nat), Lies W S A' (bs.take j) → Calls Try.prog 18 #[.slice A' j c'] W fun e w' => e = .returned (.tuple #[.agg (Dd.none.vals none 0), .int .i64 50]) ∧ Below W.heap.size W w' := fun W S A' c' h => by
    obtain ⟨d', y, st, h1, h2⟩ := draw_cut hR (bs := bs.take j) (j := j) (by rw [hbs.out]) (by rw [hbs.out, hn.out]; exact hjn)
    have hjl : (bs.take j).length = j := by rw [List.length_take, hn.out]; omega
    have k := ddecode_no (bs.take j) S A' c' d' y 50 st W h (by rw [hjl]; omega) (fun x hx => hlt x (List.mem_of_mem_take hx)) (Lib.hid h1) (Lib.hid (by unfold derr; rw [if_neg (by omega), h2])) (Lib.hid (by decide))
    rwa [hjl] at k
  -- a byte more
  obtain ⟨XS, HXS⟩ : ∃ XS, Hid (bs ++ [0] = XS) := ⟨bs ++ [0], rfl⟩
  have hXl : XS.length = n + 1 := by rw [← HXS.out, List.length_append, hn.out]; rfl
  have k3 : ∀ (W : World) (S : Nat → Prop) (A' : Option Addr) (c' : Nat), Lies W S A' XS → Calls Try.prog 18 #[.slice A' (n + 1) c'] W fun e w' => e = .returned (.tuple #[.agg (Dd.none.vals none 0), .int .i64 52]) ∧ Below W.heap.size W w' := fun W S A' c' h => by
    have hdx : DRaw XS (0, 0) d 0 (n, 0) := by
      have := draw_form hR (bs := XS) (rest := [0]) (pos := 0) (by omega) (by rw [List.drop_zero, hbs.out, HXS.out])
      rwa [hbs.out, hn.out, Nat.zero_add] at this
    have k := ddecode_left XS S A' c' d 0 52 (n, 0) W h (by omega) (fun x hx => by
      rw [← HXS.out] at hx
      rcases List.mem_append.1 hx with h | h
      · exact hlt x h
      · simp at h; omega) (Lib.hid hdx) (Lib.hid rfl) (Lib.hid rfl) (Lib.hid (by unfold rdDone; rw [if_pos ⟨rfl, by rw [hXl]; exact Nat.lt_succ_self _⟩])) (Lib.hid (by decide))
    rwa [hXl] at k
  have HX := Lib.hid hx
  have HM := Lib.hid hm
  have HN := hn
  have HXL := Lib.hid hXl
  have n1 : ((n : Int) == 0) = false := by simp; omega
  have n2 : (n : Int) ≠ 0 := by omega
  have kj1 : (0 : Int) ≤ (j : Int) := by omega
  have ks : ∀ (W : World) (S S' : Nat → Prop) (A A' : Option Addr) (c c' : Nat), Lies W S A d.bits → Lies W S' A' d.bits → Calls Try.prog 17 #[.agg (d.vals A c), .agg (d.vals A' c')] W fun e w' => e = .returned (.bool true) ∧ Below W.heap.size W w' := fun W S S' A A' c c' h h' => dsame_is d S S' A A' c c' W h h' (by unfold maxLen; omega)
  clear hl hc hcm hR hx hm hbs hlt hd0 hn hXl
  go_enter Try.func5, Try.ntmps5
  go_upto_region 8 with (first
    | (go_at_call 7; refine (deed_awake _).mono ?_; rintro e w1 ⟨rfl, hb1⟩; have hD1 := hD.next hb1; have c6 := hD1.k6; have hB1 := Below.then hB hb1; have x1 := HX.out.hold fun a ha => hB1.cell ha)
    | (refine load_deed _ rfl rfl _ d A c _ rfl hD1 ?_)
    | (go_at_call 8; refine (ke _ (x1.imp (fun k hk h => Nat.lt_of_lt_of_le h hB1.size))).mono ?_; clear ke; rintro e w2 ⟨v2, rfl, hown2, hb2⟩; obtain ⟨A1, c1, rfl, hc1a, hc1b, -, hL1⟩ := Lies.own hown2; have hD2 := hD1.next hb2; have hB2 := Below.then hB1 hb2; obtain ⟨a1, rfl⟩ := lies_some hL1 (by rw [HN.out]; omega); clear hown2))
  have x2 := x1.hold fun a ha => hb2.cell (Nat.lt_of_lt_of_le ha hB1.size)
  clear x1 hB1 hb1 hD1 hD c6
  go_upto_region 9 with (first
    | (go_at_call 18; refine (k1 _ _ _ _ hL1).mono ?_; clear k1; rintro e w3 ⟨B3, c3, rfl, hL3, hr3, hm3, hb3⟩)
    | (refine store_deed _ _ rfl rfl w3.heap.size d Dd.none B3 none c3 0 _ rfl rfl (DeedAt.new w3 Dd.none none 0 _) ?_))
  generalize hW4 : World.setRow _ _ _ = w4
  have hX4 : DeedAt w4 w3.heap.size d B3 c3 27 := by rw [← hW4]; exact DeedAt.set (DeedAt.new w3 Dd.none none 0 _)
  have hb4 : Below w3.heap.size w3 w4 := by rw [← hW4]; exact below_setRow ((Below.refl _ _).alloc (Nat.le_refl _) _) (Nat.le_refl _) _
  clear hW4
  have hb24 : Below w2.heap.size w2 w4 := Below.then hb3 hb4
  have hD4 := hD2.next hb24
  have hL4 := hL1.grown (grown_below hb24 none) (by simp)
  have hY4 := hL3.grown (grown_below hb4 none) (by simp)
  have x4 := x2.hold fun a ha => hb24.cell (Nat.lt_of_lt_of_le ha hB2.size)
  have hB4 := Below.then hB2 hb24
  clear hD2 hL1 hL3 x2 hB2 hb24 hb3 hb4
  have q1 : j ≤ c1 := by omega
  have q2 : (j : Int) ≤ (c1 : Int) := by omega
  have q3 : (j : Int) ≤ (n : Int) := by omega
  have hJ := lies_cut hL4 j
  go_upto_region 10 with (first
    | (go_at_call 18; refine (k2 _ _ _ _ hJ).mono ?_; clear k2; rintro e w5 ⟨rfl, hb5⟩)
    | (refine store_deed _ _ rfl rfl w5.heap.size Dd.none Dd.none none none 0 0 _ rfl rfl (DeedAt.new w5 Dd.none none 0 _) ?_))
  generalize hW6 : World.setRow _ _ _ = w6
  have hb6 : Below w4.heap.size w4 w6 := by rw [← hW6]; exact below_setRow ((Below.then hb5 (Below.refl _ _)).alloc hb5.size _) hb5.size _
  clear hW6
  have hD6 := hD4.next hb6
  have hX6 := hX4.next hb6
  have hL6 := hL4.grown (grown_below hb6 none) (by simp)
  have hY6 := hY4.grown (grown_below hb6 none) (by simp)
  have x6 := x4.hold fun a ha => hb6.cell (Nat.lt_of_lt_of_le ha hB4.size)
  have hB6 := Below.then hB4 hb6
  have HS6 := Lib.hid (src_more hL6)
  clear hD4 hX4 hL4 hY4 x4 hB4 hb5 hb6 hJ q1 q2 q3
  go_wp2_with (at_builtin; refine wpList_append_own _ rfl _ _ 23 rfl w6.heap.size 5 i0 (.int .u8 0) 1 1 Try.underlying23 hi0 hz0 hz1 hz2 rfl (by decide) _ _ _ rfl (World.ownsRow_made w6 #[] 0 (Nat.le_refl _) (Nat.zero_le _) rfl) a1 n c1 (u8s bs) rfl ?c1 ?c2 ?c3 ?c4 ?c5 ?c6 ?_)
  case c1 => rw [u8s_len, HN.out, Nat.mul_one]
  case c2 => exact HS6.out _
  case c3 => exact u8s_one
  case c4 => simp only [maxLen]; omega
  case c5 => omega
  case c6 => simp
  intro v7 w7 hown7 hgrow7 _
  have hb7 : Below w6.heap.size w6 w7 := ((Below.refl _ w6).alloc (Nat.le_refl _) _).grown hgrow7 (by simp) (by intro k hk; simp [Value.ownBlock] at hk; omega)
  clear hgrow7
  (try simp only [Nat.zero_add, Array.toList_empty, List.nil_append] at hown7)
  have hown7b : (w7.alloc (.cells (u8s [0]).toArray 5)).ownsRow w6.heap.size 5 1 v7 n (u8s bs) := World.ownsRow.alloc hown7 _
  have HF7 := Lib.hid (new_first w7 (.int .u8 0) 5)
  go_wp2_with (at_builtin; refine wpList_append_own _ rfl _ _ 23 rfl w6.heap.size 5 i0 (.int .u8 0) 1 1 Try.underlying23 hi0 hz0 hz1 hz2 rfl (by decide) _ _ _ rfl hown7b ⟨w7.heap.size, 0, none⟩ 1 1 (u8s [0]) rfl ?d1 ?d2 ?d3 ?d4 ?d5 ?d6 ?_)
  case d1 => rfl
  case d2 => exact HF7.out
  case d3 => exact u8s_one
  case d4 => simp only [maxLen]; omega
  case d5 => omega
  case d6 => have := hb7.size; simp; omega
  intro v8 w8 hown8 hgrow8 _
  have hb8 : Below w6.heap.size w6 w8 := ((Below.then hb7 (Below.refl _ _)).alloc hb7.size _).grown hgrow8 (by have := hb7.size; simp; omega) (fun k hk => (hown7.lt k hk).1)
  clear hgrow8
  rw [← u8s_append, HXS.out] at hown8
  obtain ⟨A8, c8, rfl, hc8a, hc8b, -, hL8⟩ := Lies.own hown8
  clear hown8 hown7b hown7 hb7 HF7
  go_upto_region 11 with (first
    | (go_at_call 18; refine (k3 _ _ _ _ hL8).mono ?_; clear k3; rintro e w9 ⟨rfl, hb9⟩)
    | (refine store_deed _ _ rfl rfl w9.heap.size Dd.none Dd.none none none 0 0 _ rfl rfl (DeedAt.new w9 Dd.none none 0 _) ?_))
  generalize hWt : World.setRow _ _ _ = wt
  have hbt : Below w6.heap.size w6 wt := by rw [← hWt]; exact below_setRow ((Below.then hb8 hb9).alloc (Below.then hb8 hb9).size _) (Below.then hb8 hb9).size _
  have hDt := hD6.next hbt
  have hXt := hX6.next hbt
  have hYt := hY6.grown (grown_below hbt none) (by simp)
  have xt := x6.hold fun a ha => hbt.cell (Nat.lt_of_lt_of_le ha hB6.size)
  have hBt := Below.then hB6 hbt
  clear hWt hD6 hX6 hY6 x6 hB6 hb8 hb9 hbt hL6 HS6 hL8 HXS HXL HN HM HX hi0
  refine region_list [] (fun _ w' => Below wt.heap.size wt w') (by kernel_rfl) (by kernel_rfl) (Below.refl _ _).drew ?_
  iterate 3 ((refine' SeqS.calm _ (by rfl) (by rfl) (fun w => ?_) ?_; rotate_left; · (go_simp <;> with_reducible rfl)); simp only [Act.put, List.setIfInBounds_toArray, List.set_cons_zero, List.set_cons_succ])
  refine SeqS.take _ (by rfl) (by rfl) (fun p w' hS => exec_load_deed _ rfl _ d B3 c3 _ rfl (hXt.next hS)) ?_
  simp only [Act.put, List.setIfInBounds_toArray, List.set_cons_zero, List.set_cons_succ]
  refine SeqS.call (below_call (Nat.le_refl _) (fun w _ => dplain_is d B3 c3 w)) (by rfl) (by rfl) (fun w => ?_) ?_; · go_simp
  simp only [Act.put, List.setIfInBounds_toArray, List.set_cons_zero, List.set_cons_succ]
  refine SeqS.take _ (by rfl) (by rfl) (fun p w' hS => exec_load_deed _ rfl _ d A c _ rfl (hDt.next hS)) ?_
  simp only [Act.put, List.setIfInBounds_toArray, List.set_cons_zero, List.set_cons_succ]
  refine SeqS.call (below_call (Nat.le_refl _) (fun w _ => dplain_is d A c w)) (by rfl) (by rfl) (fun w => ?_) ?_; · go_simp
  simp only [Act.put, List.setIfInBounds_toArray, List.set_cons_zero, List.set_cons_succ]
  refine SeqS.call (below_call (Nat.le_refl _) (fun w hS => ks w _ _ B3 A c3 c (hYt.grown (grown_below hS none) (by simp)) (xt.grown (grown_below hS none) (by simp)))) (by rfl) (by rfl) (fun w => ?_) ?_; · go_simp
  simp only [Act.put, List.setIfInBounds_toArray, List.set_cons_zero, List.set_cons_succ]
  iterate 10 ((refine' SeqS.calm _ (by rfl) (by rfl) (fun w => ?_) ?_; rotate_left; · (go_simp <;> with_reducible rfl)); simp only [Act.put, List.setIfInBounds_toArray, List.set_cons_zero, List.set_cons_succ])
  intro w10 hw10
  have hB10 := Below.then hBt hw10
  go_wp2
  go_ret
  exact ⟨rfl, hB10⟩

/-- Whatever deed. -/
theorem walk (d : Dd) (A : Option Addr) (c : Nat) (cut : Int) (w : World) (hf : d.Fits) (hx : Lies w (· < w.heap.size) A d.bits) (hbc : d.bits.length ≤ c) (hm : c ≤ maxLen) (h0 : -9223372036854775808 ≤ cut) (h1 : cut ≤ 9223372036854775807) :
    Calls Try.prog 5 #[.agg (d.vals A c), .int .i64 cut] w fun e w' => e = .returned (.bool true) ∧ Below w.heap.size w w' := by
  by_cases h : 200 < d.bits.length ∨ cut < 0
  · exact walk_long d A c cut w h
  · by_cases hR : d.Right
    · exact walk_ok d A c cut w (by omega) (by omega) h1 hR hx hbc hm
    · exact walk_bad d A c cut w (by omega) (by omega) hf hR

theorem own : ownKnob Try.prog.godebug = none := by kernel_rfl
theorem laidOut : laidOutB Try.prog = true := by kernel_rfl

set_option maxRecDepth 100000 in
theorem lifted (os : Os) (started : os.Started) (H : Type) (enc : TypeId × Value → H) :
    ReturnsInHanded {} Try.checked os 5 .any (Rows.deedBackSpec.pre6 enc Try.prog Try.f5 Rows.deedBackRow.domain false) (Rows.deedBackSpec.post enc Try.prog Try.f5 false true false false) := by
  refine returnsInHanded_of_change (C := Try.checked) own started (by kernel_rfl) Try.func5
    (ChangeSpec.witness6 (enc := enc) (C := Try.checked) false ⟨#[], #[.agg #[.int .i64 0, .int .i64 0, .int .i64 0, .int .i64 0, .int .u64 0, .int .i64 0, .slice none 0 0, .int .i64 0, .int .u64 0, .int .u64 0, .int .u64 0, .int .u64 0, .int .u64 0, .int .u64 0, .int .u64 0, .int .u64 0, .int .u64 0, .int .u64 0, .int .u64 0, .int .u64 0, .int .u64 0, .int .u64 0, .int .i64 0, .int .i64 0, .int .i64 0, .int .i64 0, .int .i64 0, .int .i64 0, .int .i64 0, .int .i64 0, .int .i64 0, .int .i64 0, .int .i64 0, .bool false], .int .i64 0], []⟩ 8 (by kernel_rfl) (by kernel_rfl) (by kernel_rfl) (by kernel_rfl)) ?_
  intro W base args ds gs before hval0 hW hcnd _
  have hval : ∀ (j : Nat) t v, Try.f5.params[j]? = some t → args[j]? = some v → Value.okWide Try.prog W .any base t v := hval0
  have hW' := hW
  obtain ⟨p, q, hA0, hV, rfl, hfz, hnd⟩ := hW
  have hlt : ∀ x ∈ p ++ q, x.block < W.heap.size := fun x hx => hW'.lt x hx
  have hA : DataW.TrodAll enc Try.prog W 0 (fun _ => true) true Try.f5.params.toList args.toList ds p := hA0
  rw [Try.params5] at hA hval
  obtain ⟨v0, vs0, d0, ds0, p0, q0, hargs, rfl, rfl, h0, r0⟩ := trodAll_cons hA
  obtain ⟨v1, vs1, d1, ds1, p1, q1, rfl, rfl, rfl, h1, r1⟩ := trodAll_cons r0
  obtain ⟨rfl, rfl, rfl⟩ := trodAll_nil r1
  obtain rfl : args = #[v0, v1] := by cases args; simp_all
  obtain ⟨rfl, rfl⟩ := trodVars_none hV
  obtain ⟨a0, A0, c0, rfl, f0, hc0, hm0, hr0⟩ := open_deed (hval 0 27 v0 rfl rfl) h0
  obtain ⟨a1, rfl, rfl, rfl, w1⟩ := open_int Try.underlying3 (hval 1 3 v1 rfl rfl) h1
  have b1 := i64_fits w1
  clear hA0 hval0
  refine (walk a0 A0 c0 a1 W f0 hr0 hc0 hm0 b1.1 b1.2).mono fun e W' ⟨he, hg⟩ => ?_
  subst he
  exact ⟨_, rfl, law_post laidOut (by kernel_rfl) rfl rfl Try.underlying4 rfl hW' hg⟩

theorem over : Rows.deedBackRow.holds Try.pinned (OpenSpec.ofChange Rows.deedBackSpec) :=
  OpenClaim.holds_of_wide 5 Try.f5 rfl rfl rfl rfl rfl rfl rfl ⟨rfl, rfl, rfl, rfl, rfl⟩ rfl rfl rfl rfl rfl (by kernel_rfl) Try.func5 (by kernel_rfl)
    (of_decide_eq_true (by kernel_rfl)) (by unfold Func.isWrapper; first | (rw [if_pos (by decide +kernel)]; kernel_rfl) | (rw [if_neg (by decide +kernel)]; exact ⟨rfl, rfl⟩))
    (fun os started H enc _ => lifted os started H enc)

/-- The statement. -/
theorem proved : Rows.DeedBackSaid := over
#print axioms proved
end Go.Proofs.Ytagibkaonmpihaa.DeedBack
