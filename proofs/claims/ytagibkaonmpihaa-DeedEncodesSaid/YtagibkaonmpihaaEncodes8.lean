/- Law DeedEncodes (P8.1): any deed is right just if the document says so, and has the document's bytes. No condition. -/
import Derived.Test.YtagibkaonmpihaaDeedTop
import Derived.Test.YtagibkaonmpihaaDeedV
import Derived.Test.YtagibkaonmpihaaDeedX
import Derived.Test.YtagibkaonmpihaaRows
namespace Go.Proofs.Ytagibkaonmpihaa.DeedEncodes
open Go.RowKit Go.ChangeShapes Go.WideShapes Go.ChangeAt Go.Deep
set_option linter.unusedVariables false
set_option linter.unusedSimpArgs false

set_option maxRecDepth 100000 in
theorem open_deed2 {H : Type} {enc : TypeId × Value → H} {w : World} {base : Nat} {held : Bool} {r : Reach} {b0 : Nat} {v : Value} {d : DataW H} {pl : List MemPlace}
    (hv : Value.okWide Try.prog w r b0 27 v) (h : DataW.Trod enc Try.prog w base (fun _ => true) held 27 v d pl) :
    ∃ (d : Dd) (A : Option Addr) (c : Nat), v = .agg (d.vals A c) ∧ d.Fits ∧ d.bits.length ≤ c ∧ c ≤ maxLen ∧ Lies w (· < w.heap.size) A d.bits ∧ (A = none → c = 0) := by
  obtain ⟨fs, hfs, hty⟩ := deed_fields
  obtain ⟨cs, rfl, hsz0⟩ := okWide_struct hfs hv
  have hsz : cs.size = 34 := hsz0.trans deed_cells
  obtain ⟨fuel, hf⟩ := h
  obtain ⟨ys, n2, hn2, hy, hlen, hyl, hfd⟩ := DataW.trod_struct hfs hf
  have hfield : ∀ (j : Nat) (ty : TypeId) (off k : Nat), (fs.map (fun f => (f.type, f.offset, Try.prog.cellsOf f.type)))[j]? = some (ty, off, k) → ∃ y, DataW.trod enc Try.prog w base (fun _ => true) held n2 ty ((cs.toList.drop off).take k) = some y := by
    intro j ty off k hjt
    rw [Array.getElem?_map] at hjt
    obtain ⟨f, hjf, he⟩ := Option.map_eq_some_iff.1 hjt
    simp only [Prod.mk.injEq] at he
    obtain ⟨rfl, rfl, rfl⟩ := he
    have hjl : j < ys.length := by rw [hyl]; exact (Array.getElem?_eq_some_iff.1 hjf).1
    have h1 := hfd j f hjf
    rw [List.getElem?_eq_getElem hjl] at h1
    exact ⟨_, by simpa [Value.cells] using h1⟩
  rw [hty] at hfield
  have hone : ∀ (off : Nat) (ho : off < 34), (cs.toList.drop off).take 1 = [cs[off]] := by
    intro off ho
    rw [List.drop_eq_getElem_cons (by simpa using (by omega : off < cs.size))]
    simp
  have hi : ∀ (j : Nat) (off : Nat) (ho : off < 34), (#[(3, 0, 1), (3, 1, 1), (3, 2, 1), (3, 3, 1), (22, 4, 1), (3, 5, 1), (23, 6, 1), (3, 7, 1), (25, 8, 24), (3, 32, 1), (4, 33, 1)] : Array (TypeId × Nat × Nat))[j]? = some (3, off, 1) → ∃ n : Int, cs[off] = .int .i64 n ∧ -9223372036854775808 ≤ n ∧ n ≤ 9223372036854775807 := by
    intro j off ho hjt
    obtain ⟨y, hy⟩ := hfield j _ _ _ hjt
    rw [hone off ho] at hy
    obtain ⟨z, q, _, u⟩ := DataW.trod_int Try.underlying3 hy
    simp only [List.cons.injEq, and_true] at q
    have b := i64_bounds u
    exact ⟨z, q, b.1, b.2⟩
  obtain ⟨z0, e0, l0⟩ := hi 0 0 (by omega) rfl
  obtain ⟨z1, e1, l1⟩ := hi 1 1 (by omega) rfl
  obtain ⟨z2, e2, l2⟩ := hi 2 2 (by omega) rfl
  obtain ⟨z3, e3, l3⟩ := hi 3 3 (by omega) rfl
  obtain ⟨z5, e5, l5⟩ := hi 5 5 (by omega) rfl
  obtain ⟨z7, e7, l7⟩ := hi 7 7 (by omega) rfl
  obtain ⟨z32, e32, l32⟩ := hi 9 32 (by omega) rfl
  obtain ⟨n4, e4, l4⟩ : ∃ n : Nat, cs[4] = .int .u64 (n : Int) ∧ n < 18446744073709551616 := by
    obtain ⟨y, hy⟩ := hfield 4 _ _ _ rfl
    rw [hone 4 (by omega)] at hy
    obtain ⟨z, q, _, u⟩ := DataW.trod_int Try.underlying22 hy
    simp only [List.cons.injEq, and_true] at q
    have b := u64_fits u
    exact ⟨z.toNat, by rw [q, Int.toNat_of_nonneg b.1], by omega⟩
  obtain ⟨b33, e33⟩ : ∃ b : Bool, cs[33] = .bool b := by
    obtain ⟨y, hy⟩ := hfield 10 _ _ _ rfl
    rw [hone 33 (by omega)] at hy
    obtain ⟨b, q, _⟩ := DataW.trod_bool Try.underlying4 hy
    simp only [List.cons.injEq, and_true] at q
    exact ⟨b, q⟩
  obtain ⟨p, ep, lp⟩ : ∃ p : Par, (cs.toList.drop 8).take 24 = p.vals.toList ∧ p.Fits := by
    obtain ⟨y, hy⟩ := hfield 8 _ _ _ rfl
    exact par_cells_open (by simp; omega) hy
  obtain ⟨A, xs, c, e6, hx, hc, hm, hr, hAc⟩ : ∃ (A : Option Addr) (xs : List Nat) (c : Nat), cs[6] = .slice A xs.length c ∧ (∀ x ∈ xs, x < 256) ∧ xs.length ≤ c ∧ c ≤ maxLen ∧ Row w w.heap.size A (u8s xs) ∧ (A = none → c = 0) := by
    obtain ⟨y, hy⟩ := hfield 6 _ _ _ rfl
    rw [hone 6 (by omega)] at hy
    obtain ⟨A, l, c, q⟩ := Joins.slice_form Try.underlying23 hy
    simp only [List.cons.injEq, and_true] at q
    rw [q] at hy
    obtain ⟨ns, rfl, h1, h2, h3, h4, h5⟩ := open_u8s Try.underlying23 Try.underlying5 (by kernel_rfl) ⟨n2, (by simpa [Value.cells] using hy : DataW.trod enc Try.prog w base (fun _ => true) held n2 23 (Value.slice A l c).cells.toList = some (y.1, y.2))⟩
    exact ⟨A, ns, c, q, h1, h2, h3, h4, h5⟩
  refine ⟨⟨z0, z1, z2, z3, n4, z5, xs, z7, p, z32, b33⟩, A, c, ?_, ⟨?_, l4, hx, lp⟩, hc, hm, Lies.ofRow hr, hAc⟩
  · congr 1
    apply Array.ext_getElem?
    intro k
    have hat : ∀ (j : Nat) (hj : j < 34), cs[j]? = some cs[j] := fun j hj => Array.getElem?_eq_getElem (by omega)
    by_cases hk : 8 ≤ k ∧ k < 32
    · obtain ⟨j, rfl⟩ : ∃ j, k = 8 + j := ⟨k - 8, by omega⟩
      have hj : j < 24 := by omega
      have h1 := congrArg (fun l => l[j]?) ep
      simp only [List.getElem?_take, List.getElem?_drop, if_pos hj, Array.getElem?_toList] at h1
      rw [h1]
      clear hk h1
      match j, hj with
      | 0, _ | 1, _ | 2, _ | 3, _ | 4, _ | 5, _ | 6, _ | 7, _ | 8, _ | 9, _ | 10, _ | 11, _ | 12, _ | 13, _ | 14, _ | 15, _ | 16, _ | 17, _ | 18, _ | 19, _ | 20, _ | 21, _ | 22, _ | 23, _ => rfl
      | n + 24, hj => exact absurd hj (by omega)
    · by_cases hk2 : k < 34
      · have : k = 0 ∨ k = 1 ∨ k = 2 ∨ k = 3 ∨ k = 4 ∨ k = 5 ∨ k = 6 ∨ k = 7 ∨ k = 32 ∨ k = 33 := by omega
        rcases this with rfl | rfl | rfl | rfl | rfl | rfl | rfl | rfl | rfl | rfl
        · rw [hat 0 (by omega), e0]; rfl
        · rw [hat 1 (by omega), e1]; rfl
        · rw [hat 2 (by omega), e2]; rfl
        · rw [hat 3 (by omega), e3]; rfl
        · rw [hat 4 (by omega), e4]; rfl
        · rw [hat 5 (by omega), e5]; rfl
        · rw [hat 6 (by omega), e6]; rfl
        · rw [hat 7 (by omega), e7]; rfl
        · rw [hat 32 (by omega), e32]; rfl
        · rw [hat 33 (by omega), e33]; rfl
      · rw [Array.getElem?_eq_none (by omega), Array.getElem?_eq_none (by rw [dvals_size]; omega)]
  · intro x hx
    simp only [List.mem_cons, List.mem_nil_iff, or_false] at hx
    rcases hx with rfl | rfl | rfl | rfl | rfl | rfl | rfl <;> assumption

set_option maxRecDepth 100000 in
theorem walk_long (d : Dd) (A : Option Addr) (c : Nat) (w : World) (h : 200 < d.bits.length) :
    Calls Try.prog 3 #[.agg (d.vals A c)] w fun e w' => e = .returned (.bool true) ∧ Below w.heap.size w w' := by
  have hD := DeedAt.new w d A c 27
  have hB : Below w.heap.size w (w.alloc (.cells (d.vals A c) 27)) := (Below.refl _ _).alloc (Nat.le_refl _) _
  have dl : decide ((200 : Int) < (d.bits.length : Int)) = true := by simp; omega
  clear h
  go_enter Try.func3, Try.ntmps3
  go_wp2_with (go_at_call 7; refine (deed_awake _).mono ?_; rintro e w1 ⟨rfl, hb1⟩; have c6 := (hD.next hb1).k6; have hB1 := Below.then hB hb1)
  go_ret
  exact ⟨rfl, hB1⟩

set_option maxRecDepth 100000 in
set_option maxHeartbeats 2000000 in
theorem walk_bad (d : Dd) (A : Option Addr) (c : Nat) (w : World) (hl : d.bits.length ≤ 200) (hf : d.Fits) (hR : ¬ d.Right) :
    Calls Try.prog 3 #[.agg (d.vals A c)] w fun e w' => e = .returned (.bool true) ∧ Below w.heap.size w w' := by
  have hz := run_zero
  have hD := DeedAt.new w d A c 27
  have hB : Below w.heap.size w (w.alloc (.cells (d.vals A c) 27)) := (Below.refl _ _).alloc (Nat.le_refl _) _
  have dl : decide ((200 : Int) < (d.bits.length : Int)) = false := by simp; omega
  have ke := fun w => dencode_no d A c w hf hR
  have kw := fun a w => dwrite_no a d A c w hf hR
  have kr := fun w => right_no d A c w hf hR
  have kq := fun w => rright_is d A c w false hf ⟨fun h => (by cases h), fun h => absurd h hR⟩
  clear hl hf hR
  go_enter Try.func3, Try.ntmps3
  go_upto_region 6 with (first
    | (go_at_call 7; refine (deed_awake _).mono ?_; rintro e w1 ⟨rfl, hb1⟩; have hD1 := hD.next hb1; have c6 := hD1.k6; have hB1 := Below.then hB hb1)
    | (refine load_deed _ rfl rfl _ d A c _ rfl hD1 ?_)
    | (go_at_call 8; refine (ke _).mono ?_; clear ke; rintro e w2 ⟨rfl, hb2⟩; have hD2 := hD1.next hb2; have hB2 := Below.then hB1 hb2))
  have hb3 : Below w2.heap.size w2 (w2.alloc (.cells zeroWriter 37)) := (Below.refl _ _).alloc (Nat.le_refl _) _
  have hW3 := writer_new w2
  have hD3 := hD2.next hb3
  have hB3 := Below.then hB2 hb3
  clear hD hD1 hD2 hB hB1 c6
  go_wp2_with (first
    | (refine load_deed _ rfl rfl _ d A c _ rfl (by assumption) ?_)
    | (go_at_call 9; refine (kw _ _).mono ?_; clear kw; rintro e w4 ⟨rfl, hb4⟩; have hD4 := hD3.next hb4; have hW4 := hW3.below hb4; have hB4 := Below.then hB3 hb4; clear hD3 hW3)
    | (go_at_call 10; refine (out_ok _ _ _ _ hW4).mono ?_; rintro e w5 ⟨v, rfl, hown, hb5⟩; obtain ⟨A5, c5, rfl, -, -, -, -⟩ := Lies.own hown; have hD5 := hD4.next hb5; have hB5 := Below.then hB4 hb5; clear hD4 hW4 hown)
    | (go_at_call 12; refine (dplain_is d A c _).mono ?_; rintro e w6 ⟨rfl, hb6⟩; have hD6 := hD5.next hb6; have hB6 := Below.then hB5 hb6; clear hD5)
    | (go_at_call 11; refine (kq _).mono ?_; clear kq; rintro e w7 ⟨rfl, hb7⟩; have hD7 := hD6.next hb7; have hB7 := Below.then hB6 hb7; clear hD6)
    | (go_at_call 13; refine (kr _).mono ?_; clear kr; rintro e w8 ⟨rfl, hb8⟩; have hB8 := Below.then hB7 hb8))
  go_ret
  exact ⟨rfl, hB8⟩

set_option maxRecDepth 100000 in
set_option maxHeartbeats 4000000 in
theorem walk_ok (d : Dd) (A : Option Addr) (c : Nat) (w : World) (hl : d.bits.length ≤ 200) (hf : d.Fits) (hR : d.Right) (hx : Lies w (· < w.heap.size) A d.bits) (hbc : d.bits.length ≤ c) (hm : c ≤ maxLen) (hA : A = none → c = 0) :
    Calls Try.prog 3 #[.agg (d.vals A c)] w fun e w' => e = .returned (.bool true) ∧ Below w.heap.size w w' := by
  have hz := run_zero
  have hD := DeedAt.new w d A c 27
  have hB : Below w.heap.size w (w.alloc (.cells (d.vals A c) 27)) := (Below.refl _ _).alloc (Nat.le_refl _) _
  have dl : decide ((200 : Int) < (d.bits.length : Int)) = false := by simp; omega
  have hlen := bytes_len hR
  have hwb := wputs_bytes hR [] (by simp)
  rw [List.nil_append] at hwb
  have ke := fun w hx => dencode_ok d A c w hR hx hbc hm
  have kw : ∀ (b : Nat) (W : World), Writes W b (fun _ => False) ([], 0) → Lies W (· ≠ b) A d.bits → Calls Try.prog 9 #[.pointer (some ⟨b, 0, none⟩), .agg (d.vals A c)] W fun e w' => e = .returned (.int .i64 0) ∧ Left W b (fun _ => False) (d.bytes, 0) w' := fun b W hW hx => by
    have k := dwrite_ok b _ ([], 0) d A c W hR hW hx hbc hm
    rwa [hwb] at k
  have kr := fun w => right_ok d A c w hR
  have kq := fun w => rright_is d A c w true hf ⟨fun _ => hR, fun _ => rfl⟩
  have kf := fun w hx => rform_is d A c w hR hx hA
  obtain ⟨bs, hbs⟩ : ∃ bs, Hid (d.bytes = bs) := ⟨_, rfl⟩
  rw [hbs.out] at ke kw kf hlen
  obtain ⟨n, hn⟩ : ∃ n, Hid (bs.length = n) := ⟨_, rfl⟩
  rw [hn.out] at ke kf hlen
  have ks : ∀ (W : World) (S S' : Nat → Prop) (A A' : Option Addr) (c c' : Nat), Lies W S A bs → Lies W S' A' bs → Calls Try.prog 14 #[.slice A n c, .slice A' n c'] W fun e w' => e = .returned (.bool true) ∧ Below W.heap.size W w' := fun W S S' A A' c c' h h' => by
    have k := same_true bs S S' A A' c c' W h h' (by rw [hn.out]; unfold maxLen; omega)
    rwa [hn.out] at k
  have HX := Lib.hid hx
  have HN := hn
  clear hl hf hR hx hbc hm hA hwb hbs hlen hn
  go_enter Try.func3, Try.ntmps3
  go_upto_region 6 with (first
    | (go_at_call 7; refine (deed_awake _).mono ?_; rintro e w1 ⟨rfl, hb1⟩; have hD1 := hD.next hb1; have c6 := hD1.k6; have hB1 := Below.then hB hb1; have x1 := HX.out.hold fun a ha => hB1.cell ha)
    | (refine load_deed _ rfl rfl _ d A c _ rfl hD1 ?_)
    | (go_at_call 8; refine (ke _ (x1.imp (fun k hk h => Nat.lt_of_lt_of_le h hB1.size))).mono ?_; clear ke; rintro e w2 ⟨v2, rfl, hown2, hb2⟩; obtain ⟨A2, c2, rfl, -, -, -, hL2⟩ := Lies.own hown2; have hD2 := hD1.next hb2; have hB2 := Below.then hB1 hb2; clear hown2))
  have hb3 : Below w2.heap.size w2 (w2.alloc (.cells zeroWriter 37)) := (Below.refl _ _).alloc (Nat.le_refl _) _
  have hW3 := writer_new w2
  have hD3 := hD2.next hb3
  have hB3 := Below.then hB2 hb3
  have hL3 := hL2.grown (grown_below hb3 none) (by simp)
  have x3 := HX.out.hold fun a ha => hB3.cell ha
  have hs2 := hB2.size
  have hs2b := hD2.lt
  have x3b := x3.imp (S' := (· ≠ w2.heap.size)) (fun k _ h => by omega)
  clear hD hD1 hD2 hB hB1 c6 x1 hL2
  go_upto_region 9 with (first
    | (refine load_deed _ rfl rfl _ d A c _ rfl (by assumption) ?_)
    | (go_at_call 9; refine (kw _ _ hW3 x3b).mono ?_; clear kw; rintro e w4 ⟨rfl, ⟨F4, hW4, -⟩, hg4⟩; have hD4 := hD3.grown hg4 (fun e => by injection e with e; omega); have hL4 := hL3.grown hg4 (fun k hk e => by have := hk.2.1; injection e with e; omega); have hB4 := hB3.trans (below_of_grown hg4 hs2 hB3.size); clear hD3 hW3 hL3 x3 x3b hg4)
    | (go_at_call 10; refine (out_ok _ _ _ _ hW4).mono ?_; rintro e w5 ⟨v5, rfl, hown5, hb5⟩; rw [HN.out] at hown5; obtain ⟨A5, c5, rfl, -, -, -, hL5⟩ := Lies.own hown5; have hD5 := hD4.next hb5; have hB5 := Below.then hB4 hb5; have hM5 := hL4.grown (grown_below hb5 none) (by simp); clear hD4 hW4 hown5 hL4))
  go_wp2_with (first
    | (refine load_deed _ rfl rfl _ d A c _ rfl (by assumption) ?_)
    | (go_at_call 11; refine (kq _).mono ?_; clear kq; rintro e w7 ⟨rfl, hb7⟩; have hD7 := hD6.next hb7; have hB7 := Below.then hB6 hb7; have hL7 := hL6.grown (grown_below hb7 none) (by simp); have hM7 := hM6.grown (grown_below hb7 none) (by simp); clear hD6 hL6 hM6)
    | (go_at_call 13; refine (kr _).mono ?_; clear kr; rintro e w8 ⟨rfl, hb8⟩; have hD8 := hD7.next hb8; have hB8 := Below.then hB7 hb8; have hL8 := hL7.grown (grown_below hb8 none) (by simp); have hM8 := hM7.grown (grown_below hb8 none) (by simp); clear hD7 hL7 hM7)
    | (go_at_call 15; refine (kf _ ((HX.out.hold fun a ha => hB9.cell ha).imp (fun k _ h => Nat.lt_of_lt_of_le h hB9.size))).mono ?_; clear kf; rintro e w10 ⟨v10, rfl, hown10, hb10⟩; obtain ⟨A10, c10, rfl, -, -, -, hL10⟩ := Lies.own hown10; have hB10 := Below.then hB9 hb10; have hM10 := hM9.grown (grown_below hb10 none) (by simp); have hO10 := hL9.grown (grown_below hb10 none) (by simp); clear hown10 hL9 hM9)
    | (go_at_call 14; refine (ks _ _ _ _ _ _ _ hM10 hL10).mono ?_; rintro e w11 ⟨rfl, hb11⟩; have hB11 := Below.then hB10 hb11; have hM11 := hM10.grown (grown_below hb11 none) (by simp); have hO11 := hO10.grown (grown_below hb11 none) (by simp); clear hM10 hL10 hO10)
    | (go_at_call 14; refine (ks _ _ _ _ _ _ _ hO11 hM11).mono ?_; rintro e w12 ⟨rfl, hb12⟩; have hB12 := Below.then hB11 hb12)
    | (go_at_call 12; refine (dplain_is d A c _).mono ?_; rintro e w9 ⟨rfl, hb9⟩; have hB9 := Below.then hB8 hb9; have hL9 := hL8.grown (grown_below hb9 none) (by simp); have hM9 := hM8.grown (grown_below hb9 none) (by simp); clear hL8 hM8)
    | (go_at_call 12; refine (dplain_is d A c _).mono ?_; rintro e w6 ⟨rfl, hb6⟩; have hD6 := hD5.next hb6; have hB6 := Below.then hB5 hb6; have hL6 := hL5.grown (grown_below hb6 none) (by simp); have hM6 := hM5.grown (grown_below hb6 none) (by simp); clear hD5 hL5 hM5))
  go_ret
  exact ⟨rfl, hB12⟩

/-- Whatever deed. -/
theorem walk (d : Dd) (A : Option Addr) (c : Nat) (w : World) (hf : d.Fits) (hx : Lies w (· < w.heap.size) A d.bits) (hbc : d.bits.length ≤ c) (hm : c ≤ maxLen) (hA : A = none → c = 0) :
    Calls Try.prog 3 #[.agg (d.vals A c)] w fun e w' => e = .returned (.bool true) ∧ Below w.heap.size w w' := by
  by_cases h : 200 < d.bits.length
  · exact walk_long d A c w h
  · by_cases hR : d.Right
    · exact walk_ok d A c w (by omega) hf hR hx hbc hm hA
    · exact walk_bad d A c w (by omega) hf hR

theorem own : ownKnob Try.prog.godebug = none := by kernel_rfl
theorem laidOut : laidOutB Try.prog = true := by kernel_rfl

set_option maxRecDepth 100000 in
theorem lifted (os : Os) (started : os.Started) (H : Type) (enc : TypeId × Value → H) :
    ReturnsInHanded {} Try.checked os 3 .any (Rows.deedEncodesSpec.pre6 enc Try.prog Try.f3 Rows.deedEncodesRow.domain false) (Rows.deedEncodesSpec.post enc Try.prog Try.f3 false true false false) := by
  refine returnsInHanded_of_change (C := Try.checked) own started (by kernel_rfl) Try.func3
    (ChangeSpec.witness6 (enc := enc) (C := Try.checked) false ⟨#[], #[.agg #[.int .i64 0, .int .i64 0, .int .i64 0, .int .i64 0, .int .u64 0, .int .i64 0, .slice none 0 0, .int .i64 0, .int .u64 0, .int .u64 0, .int .u64 0, .int .u64 0, .int .u64 0, .int .u64 0, .int .u64 0, .int .u64 0, .int .u64 0, .int .u64 0, .int .u64 0, .int .u64 0, .int .u64 0, .int .u64 0, .int .i64 0, .int .i64 0, .int .i64 0, .int .i64 0, .int .i64 0, .int .i64 0, .int .i64 0, .int .i64 0, .int .i64 0, .int .i64 0, .int .i64 0, .bool false]], []⟩ 8 (by kernel_rfl) (by kernel_rfl) (by kernel_rfl) (by kernel_rfl)) ?_
  intro W base args ds gs before hval0 hW hcnd _
  have hval : ∀ (j : Nat) t v, Try.f3.params[j]? = some t → args[j]? = some v → Value.okWide Try.prog W .any base t v := hval0
  have hW' := hW
  obtain ⟨p, q, hA0, hV, rfl, hfz, hnd⟩ := hW
  have hlt : ∀ x ∈ p ++ q, x.block < W.heap.size := fun x hx => hW'.lt x hx
  have hA : DataW.TrodAll enc Try.prog W 0 (fun _ => true) true Try.f3.params.toList args.toList ds p := hA0
  rw [Try.params3] at hA hval
  obtain ⟨v0, vs0, d0, ds0, p0, q0, hargs, rfl, rfl, h0, r0⟩ := trodAll_cons hA
  obtain ⟨rfl, rfl, rfl⟩ := trodAll_nil r0
  obtain rfl : args = #[v0] := by cases args; simp_all
  obtain ⟨rfl, rfl⟩ := trodVars_none hV
  obtain ⟨a0, A0, c0, rfl, f0, hc0, hm0, hr0, hA0x⟩ := open_deed2 (hval 0 27 v0 rfl rfl) h0
  clear hA0 hval0
  refine (walk a0 A0 c0 W f0 hr0 hc0 hm0 hA0x).mono fun e W' ⟨he, hg⟩ => ?_
  subst he
  exact ⟨_, rfl, law_post laidOut (by kernel_rfl) rfl rfl Try.underlying4 rfl hW' hg⟩

theorem over : Rows.deedEncodesRow.holds Try.pinned (OpenSpec.ofChange Rows.deedEncodesSpec) :=
  OpenClaim.holds_of_wide 3 Try.f3 rfl rfl rfl rfl rfl rfl rfl ⟨rfl, rfl, rfl, rfl, rfl⟩ rfl rfl rfl rfl rfl (by kernel_rfl) Try.func3 (by kernel_rfl)
    (of_decide_eq_true (by kernel_rfl)) (by unfold Func.isWrapper; first | (rw [if_pos (by decide +kernel)]; kernel_rfl) | (rw [if_neg (by decide +kernel)]; exact ⟨rfl, rfl⟩))
    (fun os started H enc _ => lifted os started H enc)

/-- The statement. -/
theorem proved : Rows.DeedEncodesSaid := over
#print axioms proved
end Go.Proofs.Ytagibkaonmpihaa.DeedEncodes
