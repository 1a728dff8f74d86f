/- Law ParamBack (P7.4): what is encoded is decoded as it was, with anything behind it; what is decoded is encoded as the same bytes. No condition. -/
import Derived.Test.YtfdinnengniidaaAwake7
import Derived.Test.YtfdinnengniidaaLawP
import Derived.Test.YtfdinnengniidaaLawB
import Derived.Test.YtfdinnengniidaaParG
import Derived.Test.YtfdinnengniidaaParK
import Derived.Test.YtfdinnengniidaaParQ
import Derived.Test.YtfdinnengniidaaBytesV
import Derived.Test.YtfdinnengniidaaCoderX
import Derived.Deep.CutBlock
import Derived.Deep.DeepCutAuto
import Derived.Test.YtfdinnengniidaaRows
namespace Go.Proofs.Ytfdinnengniidaa.ParamBack
open Go.RowKit Go.ChangeShapes Go.WideShapes Go.ChangeAt
set_option linter.unusedVariables false
set_option linter.unusedSimpArgs false

theorem bytes_lt (p : Par) : ∀ x ∈ p.bytes, x < 256 := by
  intro x hx
  obtain ⟨n, _, h⟩ := List.mem_flatMap.1 hx
  exact form_lt n x h

/-- What was encoded is decoded as it was. -/
theorem pres_back {p : Par} {N : Nat} (h : Par.Right p N) (hf : p.Fits) (bs : List Nat) : PRes (p.bytes ++ bs) (0, 0) p 0 (p.bytes.length, 0) := by
  have s := h.spans
  have hi : ∀ n ∈ p.is.map Int.toNat, n < 18446744073709551616 ∧ n ≤ 2147483647 := by
    intro n hn
    obtain ⟨_, _, _, _, _, _, _, _, _, _, _, _, _, _, _, _, _, _, _, _, _, _, _, _, _, _, _, _, _, _, _, _, _, _, _, _, _, _, _, _, _, _, _, _, _⟩ := s
    obtain ⟨x, hx, rfl⟩ := List.mem_map.1 hn
    simp only [Par.is, List.mem_cons, List.mem_nil_iff, or_false] at hx
    rcases hx with rfl | rfl | rfl | rfl | rfl | rfl | rfl | rfl | rfl | rfl <;> omega
  have hpos : ∀ x ∈ p.is, 0 ≤ x := by
    intro x hx
    obtain ⟨_, _, _, _, _, _, _, _, _, _, _, _, _, _, _, _, _, _, _, _, _, _, _, _, _, _, _, _, _, _, _, _, _, _, _, _, _, _, _, _, _, _, _, _, _⟩ := s
    simp only [Par.is, List.mem_cons, List.mem_nil_iff, or_false] at hx
    rcases hx with rfl | rfl | rfl | rfl | rfl | rfl | rfl | rfl | rfl | rfl <;> omega
  have e0 : p.bytes = p.us.flatMap form ++ (p.is.map Int.toNat).flatMap form := by unfold Par.bytes Par.nums; rw [List.flatMap_append]
  have h1 := rdSeq_form (bs := p.bytes ++ bs) (rest := (p.is.map Int.toNat).flatMap form ++ bs) (pos := 0) (mo := 18446744073709551615) (l := p.us) (fun n hn => ⟨hf.us n hn, by have := hf.us n hn; omega⟩) (by rw [List.drop_zero, e0, List.append_assoc]) 14 (by simp [Par.us])
  rw [show p.us.take 14 = p.us from List.take_of_length_le (by simp [Par.us]), Nat.zero_add] at h1
  have h2 := rdSeq_form (bs := p.bytes ++ bs) (rest := bs) (pos := (p.us.flatMap form).length) (mo := 2147483647) (l := p.is.map Int.toNat) hi (by rw [e0, List.append_assoc, List.drop_left]) 10 (by simp [Par.is])
  rw [show (p.is.map Int.toNat).take 10 = p.is.map Int.toNat from List.take_of_length_le (by simp [Par.is])] at h2
  have hlen : (p.us.flatMap form).length + ((p.is.map Int.toNat).flatMap form).length = p.bytes.length := by rw [e0, List.length_append]
  rw [hlen] at h2
  refine ⟨by rw [h1, h2], .inr ⟨rfl, p, by rw [h1], ?_, .inl ⟨⟨N, h⟩, rfl, rfl⟩⟩⟩
  rw [h1, h2]
  simp only [List.map_map]
  rw [List.map_congr_left (g := id) (fun x hx => by simp only [Function.comp, id]; exact Int.toNat_of_nonneg (hpos x hx)), List.map_id]

/-- What was decoded has just these bytes. -/
theorem pres_fore {bs : List Nat} (hb : ∀ x ∈ bs, x < 256) {q : Par} {st : Nat × Nat} (h : PRes bs (0, 0) q 0 st) : (∃ N, Par.Right q N) ∧ q.Fits ∧ st.1 ≤ bs.length ∧ q.bytes = bs.take st.1 := by
  have hb14 := rdSeq_back hb (mo := 18446744073709551615) 14 (0, 0) (Nat.zero_le _)
  have hb10 := rdSeq_back hb (mo := 2147483647) 10 (rdSeq bs 18446744073709551615 14 (0, 0)).2
  have hfi := rdSeq_first (bs := bs) (mo := 2147483647) 10 (rdSeq bs 18446744073709551615 14 (0, 0)).2
  have hle1 := rdSeq_le bs 18446744073709551615 14 (0, 0)
  have hle2 := rdSeq_le bs 2147483647 10 (rdSeq bs 18446744073709551615 14 (0, 0)).2
  unfold PRes at h
  generalize rdSeq bs 18446744073709551615 14 (0, 0) = r1 at *
  generalize rdSeq bs 2147483647 10 r1.2 = r2 at *
  obtain ⟨xs, s1⟩ := r1
  obtain ⟨ys, s2⟩ := r2
  simp only at *
  obtain ⟨rfl, h⟩ := h
  rcases h with ⟨h0, _, h2⟩ | ⟨h0, p, h1, h2, ⟨hR, rfl, _⟩ | ⟨_, _, h3⟩⟩
  · exact absurd h2.symm h0
  · have hm : s1.2 = 0 := by
      rcases Nat.eq_zero_or_pos s1.2 with e | e
      · exact e
      · have := hfi (by omega)
        rw [this] at h0
        omega
    obtain ⟨_, a2, a3, a4⟩ := hb14 hm
    obtain ⟨_, b2, b3, b4⟩ := hb10 a3 h0
    refine ⟨hR, ⟨fun x hx => by rw [h1] at hx; have := hle1 x hx; omega, fun x hx => by
      rw [h2] at hx
      obtain ⟨y, hy, rfl⟩ := List.mem_map.1 hx
      have := hle2 y hy
      omega⟩, b3, ?_⟩
    have e0 : q.bytes = q.us.flatMap form ++ (q.is.map Int.toNat).flatMap form := by unfold Par.bytes Par.nums; rw [List.flatMap_append]
    rw [e0, h1, h2, List.map_map, List.map_congr_left (g := id) (fun x _ => by simp), List.map_id, a4, b4]
    simp only [List.drop_zero, Nat.sub_zero]
    generalize st.1 = r at *
    generalize s1.1 = m at *
    rw [show r = m + (r - m) by omega, List.take_add, show m + (r - m) - m = r - m by omega]
  · omega

theorem lies_cut {w : World} {S : Nat → Prop} {A : Option Addr} {xs : List Nat} (h : Lies w S A xs) (n : Nat) : Lies w S A (xs.take n) := fun k x hx => h k x (by
  rw [List.getElem?_take] at hx
  by_cases hk : k < n
  · rwa [if_pos hk] at hx
  · rw [if_neg hk] at hx; cases hx)
theorem bytes_pos (p : Par) : 0 < p.bytes.length := by
  have e : p.bytes = form p.inc ++ ((p.nums.drop 1).flatMap form) := by simp [Par.bytes, Par.nums, Par.us]
  rw [e, List.length_append]
  have := form_pos p.inc
  omega
theorem lies_some {w : World} {S : Nat → Prop} {A : Option Addr} {xs : List Nat} (h : Lies w S A xs) (h0 : 0 < xs.length) : ∃ a, A = some a := by
  obtain ⟨a, ha, _⟩ := h.get h0
  exact ⟨a, ha⟩
theorem src_more {w : World} {S : Nat → Prop} {a : Addr} {xs : List Nat} (h : Lies w S (some a) xs) : ∀ o j u, (u8s xs)[j]? = some u → (w.alloc o).cell? (a.add j) = some u := fun o j u hj => by
  have hsrc := h.src0
  rw [World.cell?_alloc_lt _ _ _ (World.block_lt_of_cell? w _ (hsrc j u hj))]; exact hsrc j u hj

set_option maxRecDepth 100000 in
set_option maxHeartbeats 4000000 in
theorem walk_no_ok (p : Par) (bs : List Nat) (B : Option Addr) (cb : Nat) (w : World) (hx : Lies w (· < w.heap.size) B bs) (hl2 : bs.length ≤ 2000) (hbb : ∀ x ∈ bs, x < 256) (hbc : bs.length ≤ cb) (hcm : cb ≤ maxLen) (hf : p.Fits) (hR : ¬ ∃ N, Par.Right p N) (q : Par) (Nq : Nat) (hRq : Par.Right q Nq) (hfq : q.Fits) (n : Nat) (hn : n ≤ bs.length) (hqb : q.bytes = bs.take n) (s2 : Nat) (HRES : Hid (PRes bs (0, 0) q 0 (n, s2))) :
    Calls Try.prog 7 #[.agg p.vals, .slice B bs.length cb] w fun e w' => e = .returned (.bool true) ∧ Below w.heap.size w w' := by
  unfold maxLen at hcm
  have hl : bs.length ≤ 140737488355328 := by omega
  have hP := ParAt.new w p 24
  have hB : Below w.heap.size w (w.alloc (.cells p.vals 24)) := (Below.refl _ _).alloc (Nat.le_refl _) _
  have dl : decide ((2000 : Int) < (bs.length : Int)) = false := by simp; omega
  have hnl : (bs.take n).length = n := by rw [List.length_take]; omega
  have ke := fun w => encode_ok q Nq w hRq hfq
  rw [hqb, hnl] at ke
  have ks : ∀ (W : World) (S S' : Nat → Prop) (A A' : Option Addr) (c c' : Nat), Lies W S A (bs.take n) → Lies W S' A' (bs.take n) → Calls Try.prog 20 #[.slice A n c, .slice A' n c'] W fun e w' => e = .returned (.bool true) ∧ Below W.heap.size W w' := fun W S S' A A' c c' h h' => by
    have k := same_true (bs.take n) S S' A A' c c' W h h' (by rw [hnl]; unfold maxLen; omega)
    rw [hnl] at k
    exact k
  have hmx : max (n : Int) 0 = (n : Int) := by omega
  have hnI : (n : Int) ≤ (bs.length : Int) := by omega
  have hnc : n ≤ cb := by omega
  have hncI : (n : Int) ≤ (cb : Int) := by omega
  clear hqb hRq hfq hnl
  have kn := fun w => encode_no p w hf hR
  clear hf hR
  go_enter Try.func7, Try.ntmps7
  go_upto_region 10 with (first
    | (refine load_par _ rfl rfl _ p _ rfl (by assumption) ?_)
    | (go_at_call 8; refine (param_awake _).mono ?_; rintro e w1 ⟨rfl, hb1⟩; have hP := hP.up hb1; have hB := Below.then hB hb1)
    | (go_at_call 19; refine (kn _).mono ?_; clear kn; rintro e w2 ⟨rfl, hb2⟩))
  have hBz := Below.then hB hb2
  have xz : Lies w2 (· < w.heap.size) B bs := hx.hold fun a ha => hBz.cell ha
  go_upto_region 11 with (first
    | (go_at_call 22; refine (decode_ok bs _ B cb q (n, s2) _ xz hl hbb HRES).mono ?_; rintro e w7 ⟨rfl, hb7⟩)
    | (refine store_par _ _ rfl rfl w7.heap.size q Par.none 24 rfl rfl (ParAt.new w7 Par.none 24) ?_))
  generalize hW8 : World.setRow _ _ _ = w8
  have hQ8 : ParAt w8 w7.heap.size q 24 := by rw [← hW8]; exact (ParAt.new w7 Par.none 24).set
  have hB8 : Below w.heap.size w w8 := by rw [← hW8]; exact below_setRow ((Below.then hBz hb7).alloc (Below.then hBz hb7).size _) (Below.then hBz hb7).size _
  have x8 : Lies w8 (· < w.heap.size) B bs := hx.hold fun a ha => hB8.cell ha
  clear hW8
  go_wp2_with (first
    | (refine load_par _ rfl rfl _ q _ rfl (by assumption) ?_)
    | (go_at_call 19; refine (ke _).mono ?_; clear ke; rintro e w9 ⟨v9, rfl, hown9, hb9⟩; obtain ⟨A9, c9, rfl, -, -, -, hL9⟩ := Lies.own hown9; have x9 := lies_cut (x8.hold fun a ha => hb9.cell (Nat.lt_of_lt_of_le ha hB8.size)) n; have hB9 := Below.then hB8 hb9)
    | (go_at_call 20; refine (ks _ _ _ _ _ _ _ hL9 x9).mono ?_; rintro e w10 ⟨rfl, hb10⟩))
  clear ks hmx hnI hnc hncI hn hl hQ8 hB8 x8 x9 hL9 hb9
  go_ret
  exact ⟨rfl, Below.then hB9 hb10⟩

set_option maxRecDepth 100000 in
set_option maxHeartbeats 4000000 in
theorem walk_no_bad (p : Par) (bs : List Nat) (B : Option Addr) (cb : Nat) (w : World) (hx : Lies w (· < w.heap.size) B bs) (hl2 : bs.length ≤ 2000) (hbb : ∀ x ∈ bs, x < 256) (hbc : bs.length ≤ cb) (hcm : cb ≤ maxLen) (hf : p.Fits) (hR : ¬ ∃ N, Par.Right p N) (ee : Nat) (hee : Hid (ee ≠ 0)) (st : Nat × Nat) (HRES : Hid (PRes bs (0, 0) Par.none ee st)) :
    Calls Try.prog 7 #[.agg p.vals, .slice B bs.length cb] w fun e w' => e = .returned (.bool true) ∧ Below w.heap.size w w' := by
  unfold maxLen at hcm
  have hl : bs.length ≤ 140737488355328 := by omega
  have hP := ParAt.new w p 24
  have hB : Below w.heap.size w (w.alloc (.cells p.vals 24)) := (Below.refl _ _).alloc (Nat.le_refl _) _
  have dl : decide ((2000 : Int) < (bs.length : Int)) = false := by simp; omega
  have kn := fun w => encode_no p w hf hR
  clear hf hR
  go_enter Try.func7, Try.ntmps7
  go_upto_region 10 with (first
    | (refine load_par _ rfl rfl _ p _ rfl (by assumption) ?_)
    | (go_at_call 8; refine (param_awake _).mono ?_; rintro e w1 ⟨rfl, hb1⟩; have hP := hP.up hb1; have hB := Below.then hB hb1)
    | (go_at_call 19; refine (kn _).mono ?_; clear kn; rintro e w2 ⟨rfl, hb2⟩))
  have hBz := Below.then hB hb2
  have xz : Lies w2 (· < w.heap.size) B bs := hx.hold fun a ha => hBz.cell ha
  go_upto_region 11 with (first
    | (go_at_call 22; refine (decode_bad bs _ B cb ee st _ xz hl hbb HRES hee.out).mono ?_; rintro e w7 ⟨rfl, hb7⟩)
    | (refine store_par _ _ rfl rfl w7.heap.size Par.none Par.none 24 rfl rfl (ParAt.new w7 Par.none 24) ?_))
  generalize hW8 : World.setRow _ _ _ = w8
  have hQ8 : ParAt w8 w7.heap.size Par.none 24 := by rw [← hW8]; exact (ParAt.new w7 Par.none 24).set
  have hB8 : Below w.heap.size w w8 := by rw [← hW8]; exact below_setRow ((Below.then hBz hb7).alloc (Below.then hBz hb7).size _) (Below.then hBz hb7).size _
  clear hW8
  have de : ((ee : Int) != 0) = true := by have := hee.out; simp; omega
  go_wp2_with (first
    | (refine load_par _ rfl rfl _ Par.none _ rfl (by assumption) ?_)
    | (refine build_par _ rfl rfl Par.none (by kernel_rfl) ?_)
    | (refine op_eql _ _ _ rfl rfl Par.none rfl rfl ?_))
  go_ret
  exact ⟨rfl, hB8⟩

set_option maxRecDepth 100000 in
set_option maxHeartbeats 4000000 in
theorem walk_yes_ok_some (p : Par) (bs : List Nat) (bB : Addr) (cb : Nat) (w : World) (hx : Lies w (· < w.heap.size) (some bB) bs) (hl2 : bs.length ≤ 2000) (hbb : ∀ x ∈ bs, x < 256) (hbc : bs.length ≤ cb) (hcm : cb ≤ maxLen) (hf : p.Fits) (N : Nat) (hR : Par.Right p N) (q : Par) (Nq : Nat) (hRq : Par.Right q Nq) (hfq : q.Fits) (n : Nat) (hn : n ≤ bs.length) (hqb : q.bytes = bs.take n) (s2 : Nat) (HRES : Hid (PRes bs (0, 0) q 0 (n, s2))) :
    Calls Try.prog 7 #[.agg p.vals, .slice (some bB) bs.length cb] w fun e w' => e = .returned (.bool true) ∧ Below w.heap.size w w' := by
  obtain ⟨i0, hi0, hz0, hz1, hz2⟩ := info_parts u8_info
  unfold maxLen at hcm
  have hl : bs.length ≤ 140737488355328 := by omega
  have hP := ParAt.new w p 24
  have hB : Below w.heap.size w (w.alloc (.cells p.vals 24)) := (Below.refl _ _).alloc (Nat.le_refl _) _
  have dl : decide ((2000 : Int) < (bs.length : Int)) = false := by simp; omega
  have hnl : (bs.take n).length = n := by rw [List.length_take]; omega
  have ke := fun w => encode_ok q Nq w hRq hfq
  rw [hqb, hnl] at ke
  have ks : ∀ (W : World) (S S' : Nat → Prop) (A A' : Option Addr) (c c' : Nat), Lies W S A (bs.take n) → Lies W S' A' (bs.take n) → Calls Try.prog 20 #[.slice A n c, .slice A' n c'] W fun e w' => e = .returned (.bool true) ∧ Below W.heap.size W w' := fun W S S' A A' c c' h h' => by
    have k := same_true (bs.take n) S S' A A' c c' W h h' (by rw [hnl]; unfold maxLen; omega)
    rw [hnl] at k
    exact k
  have hmx : max (n : Int) 0 = (n : Int) := by omega
  have hnI : (n : Int) ≤ (bs.length : Int) := by omega
  have hnc : n ≤ cb := by omega
  have hncI : (n : Int) ≤ (cb : Int) := by omega
  clear hqb hRq hfq hnl
  have hpres := pres_back hR hf bs
  have hPBl := (bytes_is hf [] (by simp)).2
  have hPBb := bytes_lt p
  have hPB0 := bytes_pos p
  have kn := fun w => encode_ok p N w hR hf
  obtain ⟨PB, hPB⟩ : ∃ PB, Hid (p.bytes = PB) := ⟨_, rfl⟩
  rw [hPB.out] at hpres hPBl hPBb hPB0 kn
  obtain ⟨XS, HXS⟩ : ∃ XS, Hid (PB ++ bs = XS) := ⟨_, rfl⟩
  have hxl : PB.length + bs.length = XS.length := by rw [← HXS.out, List.length_append]
  have hxb : ∀ x ∈ XS, x < 256 := by
    rw [← HXS.out]
    intro x hx'
    rcases List.mem_append.1 hx' with h | h
    · exact hPBb x h
    · exact hbb x h
  rw [HXS.out] at hpres
  skip
  have HXL := Lib.hid hxl
  have HXB := Lib.hid hxb
  have HPRES := Lib.hid hpres
  clear hf hR hpres hPBb hxb hxl hPB
  go_enter Try.func7, Try.ntmps7
  go_wp2_with (first
    | (refine load_par _ rfl rfl _ p _ rfl (by assumption) ?_)
    | (go_at_call 8; refine (param_awake _).mono ?_; rintro e w1 ⟨rfl, hb1⟩; have hP := hP.up hb1; have hB := Below.then hB hb1)
    | (go_at_call 19; refine (kn _).mono ?_; clear kn; rintro e w2 ⟨v2, rfl, hown2, hb2⟩; obtain ⟨A1, c1, rfl, hc1a, hc1b, _, hL1⟩ := Lies.own hown2; have hP2 := hP.up hb2; have hB2 := Below.then hB hb2; obtain ⟨a1, rfl⟩ := lies_some hL1 hPB0; have HS1 := Lib.hid (src_more hL1); clear hown2 hL1)
    | (at_builtin; refine wpList_append_own _ rfl _ _ 40 rfl w2.heap.size 5 i0 (.int .u8 0) 1 1 Try.underlying40 hi0 hz0 hz1 hz2 rfl (by decide) _ _ _ rfl (World.ownsRow_made w2 #[] 0 (Nat.le_refl _) (Nat.zero_le _) rfl) a1 PB.length c1 (u8s PB) rfl ?c1 ?c2 ?c3 ?c4 ?c5 ?c6 ?_))
  case c1 => simp [u8s_len]
  case c2 => exact HS1.out _
  case c3 => exact u8s_one
  case c4 => simp only [maxLen]; omega
  case c5 => omega
  case c6 => simp
  intro v3 w3 hown3 hgrow3 _
  have hb3 : Below w2.heap.size w2 w3 := ((Below.refl _ w2).alloc (Nat.le_refl _) _).grown hgrow3 (by simp) (by intro k hk; simp [Value.ownBlock] at hk; omega)
  clear hgrow3
  (try simp only [Nat.zero_add, Array.toList_empty, List.nil_append] at hown3)
  have x3 : Lies w3 (· < w.heap.size) (some bB) bs := hx.hold fun a ha => (Below.then hB2 hb3).cell ha
  have HS3 := Lib.hid x3.src0
  clear x3
  go_wp2_with (at_builtin; refine wpList_append_own _ rfl _ _ 40 rfl w2.heap.size 5 i0 (.int .u8 0) 1 1 Try.underlying40 hi0 hz0 hz1 hz2 rfl (by decide) _ _ _ rfl hown3 bB bs.length cb (u8s bs) rfl ?d1 ?d2 ?d3 ?d4 ?d5 ?d6 ?_)
  case d1 => simp [u8s_len]
  case d2 => exact HS3.out
  case d3 => exact u8s_one
  case d4 => simp only [maxLen]; omega
  case d5 => omega
  case d6 => exact hb3.size
  intro v4 w4 hown4 hgrow4 _
  have hb4 : Below w2.heap.size w2 w4 := hb3.grown hgrow4 hb3.size (fun k hk => (hown3.lt k hk).1)
  clear hgrow4
  rw [← u8s_append, HXL.out, HXS.out] at hown4
  obtain ⟨A4, c4, rfl, hc4a, hc4b, _, hL4⟩ := Lies.own hown4
  have hXSl : XS.length ≤ 140737488355328 := by have := HXL.out; omega
  go_upto_region 8 with (first
    | (go_at_call 22; refine (decode_ok XS _ A4 c4 p (PB.length, 0) _ hL4 hXSl HXB.out HPRES).mono ?_; rintro e w5 ⟨rfl, hb5⟩)
    | (refine store_par _ _ rfl rfl w5.heap.size p Par.none 24 rfl rfl (ParAt.new w5 Par.none 24) ?_))
  generalize hW6 : World.setRow _ _ _ = w6
  have hb25 := Below.then hb4 hb5
  have hQ6 : ParAt w6 w5.heap.size p 24 := by rw [← hW6]; exact (ParAt.new w5 Par.none 24).set
  have hP6 : ParAt w6 w.heap.size p 24 := by
    rw [← hW6]
    have h1 := hP2.up hb25
    exact (h1.up ((Below.refl _ w5).alloc (Nat.le_refl _) _)).setOther (Nat.ne_of_lt h1.lt)
  have hBz : Below w.heap.size w w6 := by rw [← hW6]; exact below_setRow ((Below.then hB2 hb25).alloc (Below.then hB2 hb25).size _) (Below.then hB2 hb25).size _
  have xz : Lies w6 (· < w.heap.size) (some bB) bs := hx.hold fun a ha => hBz.cell ha
  clear hW6 hown4 hL4 hown3
  go_upto_region 10 with (first
    | (refine load_par _ rfl rfl _ p _ rfl (by assumption) ?_)
    | (refine op_neq _ _ _ rfl rfl p rfl rfl ?_))
  go_upto_region 11 with (first
    | (go_at_call 22; refine (decode_ok bs _ (some bB) cb q (n, s2) _ xz hl hbb HRES).mono ?_; rintro e w7 ⟨rfl, hb7⟩)
    | (refine store_par _ _ rfl rfl w7.heap.size q Par.none 24 rfl rfl (ParAt.new w7 Par.none 24) ?_))
  generalize hW8 : World.setRow _ _ _ = w8
  have hQ8 : ParAt w8 w7.heap.size q 24 := by rw [← hW8]; exact (ParAt.new w7 Par.none 24).set
  have hB8 : Below w.heap.size w w8 := by rw [← hW8]; exact below_setRow ((Below.then hBz hb7).alloc (Below.then hBz hb7).size _) (Below.then hBz hb7).size _
  have x8 : Lies w8 (· < w.heap.size) (some bB) bs := hx.hold fun a ha => hB8.cell ha
  clear hW8
  go_wp2_with (first
    | (refine load_par _ rfl rfl _ q _ rfl (by assumption) ?_)
    | (go_at_call 19; refine (ke _).mono ?_; clear ke; rintro e w9 ⟨v9, rfl, hown9, hb9⟩; obtain ⟨A9, c9, rfl, -, -, -, hL9⟩ := Lies.own hown9; have x9 := lies_cut (x8.hold fun a ha => hb9.cell (Nat.lt_of_lt_of_le ha hB8.size)) n; have hB9 := Below.then hB8 hb9)
    | (go_at_call 20; refine (ks _ _ _ _ _ _ _ hL9 x9).mono ?_; rintro e w10 ⟨rfl, hb10⟩))
  clear ks hmx hnI hnc hncI hn hl hQ8 hB8 x8 x9 hL9 hb9
  go_ret
  exact ⟨rfl, Below.then hB9 hb10⟩

set_option maxRecDepth 100000 in
set_option maxHeartbeats 4000000 in
theorem walk_yes_bad_some (p : Par) (bs : List Nat) (bB : Addr) (cb : Nat) (w : World) (hx : Lies w (· < w.heap.size) (some bB) bs) (hl2 : bs.length ≤ 2000) (hbb : ∀ x ∈ bs, x < 256) (hbc : bs.length ≤ cb) (hcm : cb ≤ maxLen) (hf : p.Fits) (N : Nat) (hR : Par.Right p N) (ee : Nat) (hee : Hid (ee ≠ 0)) (st : Nat × Nat) (HRES : Hid (PRes bs (0, 0) Par.none ee st)) :
    Calls Try.prog 7 #[.agg p.vals, .slice (some bB) bs.length cb] w fun e w' => e = .returned (.bool true) ∧ Below w.heap.size w w' := by
  obtain ⟨i0, hi0, hz0, hz1, hz2⟩ := info_parts u8_info
  unfold maxLen at hcm
  have hl : bs.length ≤ 140737488355328 := by omega
  have hP := ParAt.new w p 24
  have hB : Below w.heap.size w (w.alloc (.cells p.vals 24)) := (Below.refl _ _).alloc (Nat.le_refl _) _
  have dl : decide ((2000 : Int) < (bs.length : Int)) = false := by simp; omega
  have hpres := pres_back hR hf bs
  have hPBl := (bytes_is hf [] (by simp)).2
  have hPBb := bytes_lt p
  have hPB0 := bytes_pos p
  have kn := fun w => encode_ok p N w hR hf
  obtain ⟨PB, hPB⟩ : ∃ PB, Hid (p.bytes = PB) := ⟨_, rfl⟩
  rw [hPB.out] at hpres hPBl hPBb hPB0 kn
  obtain ⟨XS, HXS⟩ : ∃ XS, Hid (PB ++ bs = XS) := ⟨_, rfl⟩
  have hxl : PB.length + bs.length = XS.length := by rw [← HXS.out, List.length_append]
  have hxb : ∀ x ∈ XS, x < 256 := by
    rw [← HXS.out]
    intro x hx'
    rcases List.mem_append.1 hx' with h | h
    · exact hPBb x h
    · exact hbb x h
  rw [HXS.out] at hpres
  skip
  have HXL := Lib.hid hxl
  have HXB := Lib.hid hxb
  have HPRES := Lib.hid hpres
  clear hf hR hpres hPBb hxb hxl hPB
  go_enter Try.func7, Try.ntmps7
  go_wp2_with (first
    | (refine load_par _ rfl rfl _ p _ rfl (by assumption) ?_)
    | (go_at_call 8; refine (param_awake _).mono ?_; rintro e w1 ⟨rfl, hb1⟩; have hP := hP.up hb1; have hB := Below.then hB hb1)
    | (go_at_call 19; refine (kn _).mono ?_; clear kn; rintro e w2 ⟨v2, rfl, hown2, hb2⟩; obtain ⟨A1, c1, rfl, hc1a, hc1b, _, hL1⟩ := Lies.own hown2; have hP2 := hP.up hb2; have hB2 := Below.then hB hb2; obtain ⟨a1, rfl⟩ := lies_some hL1 hPB0; have HS1 := Lib.hid (src_more hL1); clear hown2 hL1)
    | (at_builtin; refine wpList_append_own _ rfl _ _ 40 rfl w2.heap.size 5 i0 (.int .u8 0) 1 1 Try.underlying40 hi0 hz0 hz1 hz2 rfl (by decide) _ _ _ rfl (World.ownsRow_made w2 #[] 0 (Nat.le_refl _) (Nat.zero_le _) rfl) a1 PB.length c1 (u8s PB) rfl ?c1 ?c2 ?c3 ?c4 ?c5 ?c6 ?_))
  case c1 => simp [u8s_len]
  case c2 => exact HS1.out _
  case c3 => exact u8s_one
  case c4 => simp only [maxLen]; omega
  case c5 => omega
  case c6 => simp
  intro v3 w3 hown3 hgrow3 _
  have hb3 : Below w2.heap.size w2 w3 := ((Below.refl _ w2).alloc (Nat.le_refl _) _).grown hgrow3 (by simp) (by intro k hk; simp [Value.ownBlock] at hk; omega)
  clear hgrow3
  (try simp only [Nat.zero_add, Array.toList_empty, List.nil_append] at hown3)
  have x3 : Lies w3 (· < w.heap.size) (some bB) bs := hx.hold fun a ha => (Below.then hB2 hb3).cell ha
  have HS3 := Lib.hid x3.src0
  clear x3
  go_wp2_with (at_builtin; refine wpList_append_own _ rfl _ _ 40 rfl w2.heap.size 5 i0 (.int .u8 0) 1 1 Try.underlying40 hi0 hz0 hz1 hz2 rfl (by decide) _ _ _ rfl hown3 bB bs.length cb (u8s bs) rfl ?d1 ?d2 ?d3 ?d4 ?d5 ?d6 ?_)
  case d1 => simp [u8s_len]
  case d2 => exact HS3.out
  case d3 => exact u8s_one
  case d4 => simp only [maxLen]; omega
  case d5 => omega
  case d6 => exact hb3.size
  intro v4 w4 hown4 hgrow4 _
  have hb4 : Below w2.heap.size w2 w4 := hb3.grown hgrow4 hb3.size (fun k hk => (hown3.lt k hk).1)
  clear hgrow4
  rw [← u8s_append, HXL.out, HXS.out] at hown4
  obtain ⟨A4, c4, rfl, hc4a, hc4b, _, hL4⟩ := Lies.own hown4
  have hXSl : XS.length ≤ 140737488355328 := by have := HXL.out; omega
  go_upto_region 8 with (first
    | (go_at_call 22; refine (decode_ok XS _ A4 c4 p (PB.length, 0) _ hL4 hXSl HXB.out HPRES).mono ?_; rintro e w5 ⟨rfl, hb5⟩)
    | (refine store_par _ _ rfl rfl w5.heap.size p Par.none 24 rfl rfl (ParAt.new w5 Par.none 24) ?_))
  generalize hW6 : World.setRow _ _ _ = w6
  have hb25 := Below.then hb4 hb5
  have hQ6 : ParAt w6 w5.heap.size p 24 := by rw [← hW6]; exact (ParAt.new w5 Par.none 24).set
  have hP6 : ParAt w6 w.heap.size p 24 := by
    rw [← hW6]
    have h1 := hP2.up hb25
    exact (h1.up ((Below.refl _ w5).alloc (Nat.le_refl _) _)).setOther (Nat.ne_of_lt h1.lt)
  have hBz : Below w.heap.size w w6 := by rw [← hW6]; exact below_setRow ((Below.then hB2 hb25).alloc (Below.then hB2 hb25).size _) (Below.then hB2 hb25).size _
  have xz : Lies w6 (· < w.heap.size) (some bB) bs := hx.hold fun a ha => hBz.cell ha
  clear hW6 hown4 hL4 hown3
  go_upto_region 10 with (first
    | (refine load_par _ rfl rfl _ p _ rfl (by assumption) ?_)
    | (refine op_neq _ _ _ rfl rfl p rfl rfl ?_))
  go_upto_region 11 with (first
    | (go_at_call 22; refine (decode_bad bs _ (some bB) cb ee st _ xz hl hbb HRES hee.out).mono ?_; rintro e w7 ⟨rfl, hb7⟩)
    | (refine store_par _ _ rfl rfl w7.heap.size Par.none Par.none 24 rfl rfl (ParAt.new w7 Par.none 24) ?_))
  generalize hW8 : World.setRow _ _ _ = w8
  have hQ8 : ParAt w8 w7.heap.size Par.none 24 := by rw [← hW8]; exact (ParAt.new w7 Par.none 24).set
  have hB8 : Below w.heap.size w w8 := by rw [← hW8]; exact below_setRow ((Below.then hBz hb7).alloc (Below.then hBz hb7).size _) (Below.then hBz hb7).size _
  clear hW8
  have de : ((ee : Int) != 0) = true := by have := hee.out; simp; omega
  go_wp2_with (first
    | (refine load_par _ rfl rfl _ Par.none _ rfl (by assumption) ?_)
    | (refine build_par _ rfl rfl Par.none (by kernel_rfl) ?_)
    | (refine op_eql _ _ _ rfl rfl Par.none rfl rfl ?_))
  go_ret
  exact ⟨rfl, hB8⟩

set_option maxRecDepth 100000 in
set_option maxHeartbeats 4000000 in
theorem walk_yes_bad_none (p : Par) (w : World) (hf : p.Fits) (N : Nat) (hR : Par.Right p N) (ee : Nat) (hee : Hid (ee ≠ 0)) (st : Nat × Nat) (HRES : Hid (PRes ([] : List Nat) (0, 0) Par.none ee st)) :
    Calls Try.prog 7 #[.agg p.vals, .slice none 0 0] w fun e w' => e = .returned (.bool true) ∧ Below w.heap.size w w' := by
  obtain ⟨i0, hi0, hz0, hz1, hz2⟩ := info_parts u8_info
  have hl : ([] : List Nat).length ≤ 140737488355328 := by simp
  have hbb : ∀ x ∈ ([] : List Nat), x < 256 := by simp
  have hx : Lies w (· < w.heap.size) none [] := Lies.nil _ _ _
  have hP := ParAt.new w p 24
  have hB : Below w.heap.size w (w.alloc (.cells p.vals 24)) := (Below.refl _ _).alloc (Nat.le_refl _) _
  have hpres := pres_back hR hf ([] : List Nat)
  have hPBl := (bytes_is hf [] (by simp)).2
  have hPBb := bytes_lt p
  have hPB0 := bytes_pos p
  have kn := fun w => encode_ok p N w hR hf
  obtain ⟨PB, hPB⟩ : ∃ PB, Hid (p.bytes = PB) := ⟨_, rfl⟩
  rw [hPB.out] at hpres hPBl hPBb hPB0 kn
  obtain ⟨XS, HXS⟩ : ∃ XS, Hid (PB ++ ([] : List Nat) = XS) := ⟨_, rfl⟩
  have hxl : PB.length + ([] : List Nat).length = XS.length := by rw [← HXS.out, List.length_append]
  have hxb : ∀ x ∈ XS, x < 256 := by
    rw [← HXS.out]
    intro x hx'
    rcases List.mem_append.1 hx' with h | h
    · exact hPBb x h
    · exact hbb x h
  rw [HXS.out] at hpres
  rw [List.length_nil, Nat.add_zero] at hxl
  have HXL := Lib.hid hxl
  have HXB := Lib.hid hxb
  have HPRES := Lib.hid hpres
  clear hf hR hpres hPBb hxb hxl hPB
  go_enter Try.func7, Try.ntmps7
  go_wp2_with (first
    | (refine load_par _ rfl rfl _ p _ rfl (by assumption) ?_)
    | (go_at_call 8; refine (param_awake _).mono ?_; rintro e w1 ⟨rfl, hb1⟩; have hP := hP.up hb1; have hB := Below.then hB hb1)
    | (go_at_call 19; refine (kn _).mono ?_; clear kn; rintro e w2 ⟨v2, rfl, hown2, hb2⟩; obtain ⟨A1, c1, rfl, hc1a, hc1b, _, hL1⟩ := Lies.own hown2; have hP2 := hP.up hb2; have hB2 := Below.then hB hb2; obtain ⟨a1, rfl⟩ := lies_some hL1 hPB0; have HS1 := Lib.hid (src_more hL1); clear hown2 hL1)
    | (at_builtin; refine wpList_append_own _ rfl _ _ 40 rfl w2.heap.size 5 i0 (.int .u8 0) 1 1 Try.underlying40 hi0 hz0 hz1 hz2 rfl (by decide) _ _ _ rfl (World.ownsRow_made w2 #[] 0 (Nat.le_refl _) (Nat.zero_le _) rfl) a1 PB.length c1 (u8s PB) rfl ?c1 ?c2 ?c3 ?c4 ?c5 ?c6 ?_))
  case c1 => simp [u8s_len]
  case c2 => exact HS1.out _
  case c3 => exact u8s_one
  case c4 => simp only [maxLen]; omega
  case c5 => omega
  case c6 => simp
  intro v3 w3 hown3 hgrow3 _
  have hb3 : Below w2.heap.size w2 w3 := ((Below.refl _ w2).alloc (Nat.le_refl _) _).grown hgrow3 (by simp) (by intro k hk; simp [Value.ownBlock] at hk; omega)
  clear hgrow3
  (try simp only [Nat.zero_add, Array.toList_empty, List.nil_append] at hown3)
  go_wp2_with (at_builtin; refine wpList_append_own_none rfl _ _ 40 rfl w2.heap.size 5 i0 1 Try.underlying40 hi0 _ _ _ rfl hown3 rfl ?_)
  obtain ⟨v4, rfl⟩ : ∃ v4, v4 = v3 := ⟨_, rfl⟩
  obtain ⟨w4, rfl⟩ : ∃ w4, w4 = w3 := ⟨_, rfl⟩
  have hb4 := hb3
  have hown4 := hown3
  rw [HXL.out] at hown4; (first | rw [HXS.out] at hown4 | rw [show PB = XS by rw [← HXS.out, List.append_nil]] at hown4)
  obtain ⟨A4, c4, rfl, hc4a, hc4b, _, hL4⟩ := Lies.own hown4
  have hXSl : XS.length ≤ 140737488355328 := by have := HXL.out; omega
  go_upto_region 8 with (first
    | (go_at_call 22; refine (decode_ok XS _ A4 c4 p (PB.length, 0) _ hL4 hXSl HXB.out HPRES).mono ?_; rintro e w5 ⟨rfl, hb5⟩)
    | (refine store_par _ _ rfl rfl w5.heap.size p Par.none 24 rfl rfl (ParAt.new w5 Par.none 24) ?_))
  generalize hW6 : World.setRow _ _ _ = w6
  have hb25 := Below.then hb4 hb5
  have hQ6 : ParAt w6 w5.heap.size p 24 := by rw [← hW6]; exact (ParAt.new w5 Par.none 24).set
  have hP6 : ParAt w6 w.heap.size p 24 := by
    rw [← hW6]
    have h1 := hP2.up hb25
    exact (h1.up ((Below.refl _ w5).alloc (Nat.le_refl _) _)).setOther (Nat.ne_of_lt h1.lt)
  have hBz : Below w.heap.size w w6 := by rw [← hW6]; exact below_setRow ((Below.then hB2 hb25).alloc (Below.then hB2 hb25).size _) (Below.then hB2 hb25).size _
  have xz : Lies w6 (· < w.heap.size) none ([] : List Nat) := hx.hold fun a ha => hBz.cell ha
  clear hW6 hown4 hL4 hown3
  go_upto_region 10 with (first
    | (refine load_par _ rfl rfl _ p _ rfl (by assumption) ?_)
    | (refine op_neq _ _ _ rfl rfl p rfl rfl ?_))
  go_upto_region 11 with (first
    | (go_at_call 22; refine (decode_bad [] _ none 0 ee st _ xz hl hbb HRES hee.out).mono ?_; rintro e w7 ⟨rfl, hb7⟩)
    | (refine store_par _ _ rfl rfl w7.heap.size Par.none Par.none 24 rfl rfl (ParAt.new w7 Par.none 24) ?_))
  generalize hW8 : World.setRow _ _ _ = w8
  have hQ8 : ParAt w8 w7.heap.size Par.none 24 := by rw [← hW8]; exact (ParAt.new w7 Par.none 24).set
  have hB8 : Below w.heap.size w w8 := by rw [← hW8]; exact below_setRow ((Below.then hBz hb7).alloc (Below.then hBz hb7).size _) (Below.then hBz hb7).size _
  clear hW8
  have de : ((ee : Int) != 0) = true := by have := hee.out; simp; omega
  go_wp2_with (first
    | (refine load_par _ rfl rfl _ Par.none _ rfl (by assumption) ?_)
    | (refine build_par _ rfl rfl Par.none (by kernel_rfl) ?_)
    | (refine op_eql _ _ _ rfl rfl Par.none rfl rfl ?_))
  go_ret
  exact ⟨rfl, hB8⟩

set_option maxRecDepth 100000 in
set_option maxHeartbeats 1000000 in
theorem walk_big (p : Par) (bs : List Nat) (B : Option Addr) (cb : Nat) (w : World) (hl2 : 2000 < bs.length) (hbc : bs.length ≤ cb) (hcm : cb ≤ maxLen) :
    Calls Try.prog 7 #[.agg p.vals, .slice B bs.length cb] w fun e w' => e = .returned (.bool true) ∧ Below w.heap.size w w' := by
  unfold maxLen at hcm
  have hB : Below w.heap.size w (w.alloc (.cells p.vals 24)) := (Below.refl _ _).alloc (Nat.le_refl _) _
  have dl : decide ((2000 : Int) < (bs.length : Int)) = true := by simp; omega
  clear hl2
  go_enter Try.func7, Try.ntmps7
  go_wp2_with (go_at_call 8; refine (param_awake _).mono ?_; rintro e w1 ⟨rfl, hb1⟩; have hB := Below.then hB hb1)
  go_ret
  exact ⟨rfl, hB⟩

theorem walk (p : Par) (bs : List Nat) (B : Option Addr) (cb : Nat) (w : World) (hf : p.Fits) (hx : Lies w (· < w.heap.size) B bs) (hbb : ∀ x ∈ bs, x < 256) (hbc : bs.length ≤ cb) (hcm : cb ≤ maxLen) (hA : B = none → cb = 0) :
    Calls Try.prog 7 #[.agg p.vals, .slice B bs.length cb] w fun e w' => e = .returned (.bool true) ∧ Below w.heap.size w w' := by
  by_cases hl2 : bs.length ≤ 2000
  · obtain ⟨q, ee, st, hres⟩ := pres_is bs (0, 0)
    have hnone : B = none → bs = [] := fun hb => by
      subst hb
      cases bs with
      | nil => rfl
      | cons x r => obtain ⟨a, ha, _⟩ := hx 0 x rfl; cases ha
    by_cases he : ee = 0
    · subst he
      obtain ⟨⟨Nq, hRq⟩, hfq, hn, hqb⟩ := pres_fore hbb hres
      by_cases hR : ∃ N, Par.Right p N
      · obtain ⟨N, hR⟩ := hR
        cases B with
        | none =>
          obtain rfl := hnone rfl
          exact absurd (bytes_pos q) (by rw [hqb]; simp)
        | some bB => exact walk_yes_ok_some p bs bB cb w hx hl2 hbb hbc hcm hf N hR q Nq hRq hfq st.1 hn hqb st.2 hres
      · exact walk_no_ok p bs B cb w hx hl2 hbb hbc hcm hf hR q Nq hRq hfq st.1 hn hqb st.2 hres
    · obtain rfl := pres_bad hres he
      by_cases hR : ∃ N, Par.Right p N
      · obtain ⟨N, hR⟩ := hR
        cases B with
        | none =>
          obtain rfl := hnone rfl
          obtain rfl := hA rfl
          exact walk_yes_bad_none p w hf N hR ee he st hres
        | some bB => exact walk_yes_bad_some p bs bB cb w hx hl2 hbb hbc hcm hf N hR ee he st hres
      · exact walk_no_bad p bs B cb w hx hl2 hbb hbc hcm hf hR ee he st hres
  · exact walk_big p bs B cb w (by omega) hbc hcm

theorem own : ownKnob Try.prog.godebug = none := by kernel_rfl
theorem laidOut : laidOutB Try.prog = true := by kernel_rfl

set_option maxRecDepth 100000 in
theorem lifted (os : Os) (started : os.Started) (H : Type) (enc : TypeId × Value → H) :
    ReturnsInHanded {} Try.checked os 7 .any (Rows.paramBackSpec.pre6 enc Try.prog Try.f7 Rows.paramBackRow.domain false) (Rows.paramBackSpec.post enc Try.prog Try.f7 false true false false) := by
  refine returnsInHanded_of_change (C := Try.checked) own started (by kernel_rfl) Try.func7
    (ChangeSpec.witness6 (enc := enc) (C := Try.checked) false ⟨#[], #[.agg #[.int .u64 0, .int .u64 0, .int .u64 0, .int .u64 0, .int .u64 0, .int .u64 0, .int .u64 0, .int .u64 0, .int .u64 0, .int .u64 0, .int .u64 0, .int .u64 0, .int .u64 0, .int .u64 0, .int .i64 0, .int .i64 0, .int .i64 0, .int .i64 0, .int .i64 0, .int .i64 0, .int .i64 0, .int .i64 0, .int .i64 0, .int .i64 0], .slice none 0 0], []⟩ 8 (by kernel_rfl) (by kernel_rfl) (by kernel_rfl) (by kernel_rfl)) ?_
  intro W base args ds gs before hval0 hW hcnd _
  have hval : ∀ (j : Nat) t v, Try.f7.params[j]? = some t → args[j]? = some v → Value.okWide Try.prog W .any base t v := hval0
  have hW' := hW
  obtain ⟨p, q, hA0, hV, rfl, hfz, hnd⟩ := hW
  have hlt : ∀ x ∈ p ++ q, x.block < W.heap.size := fun x hx => hW'.lt x hx
  have hA : DataW.TrodAll enc Try.prog W 0 (fun _ => true) true Try.f7.params.toList args.toList ds p := hA0
  rw [Try.params7] at hA hval
  obtain ⟨v0, vs0, d0, ds0, p0, q0, hargs, rfl, rfl, h0, r0⟩ := trodAll_cons hA
  obtain ⟨v1, vs1, d1, ds1, p1, q1, rfl, rfl, rfl, h1, r1⟩ := trodAll_cons r0
  obtain ⟨rfl, rfl, rfl⟩ := trodAll_nil r1
  obtain rfl : args = #[v0, v1] := by cases args; simp_all
  obtain ⟨rfl, rfl⟩ := trodVars_none hV
  obtain ⟨a0, rfl, f0⟩ := open_par (hval 0 24 v0 rfl rfl) h0
  obtain ⟨A1, n1, c1, rfl⟩ := okWide_slice Try.underlying40 (hval 1 40 v1 rfl rfl)
  obtain ⟨ns1, hl1, hn1, hc1, hm1, hr1, hA1⟩ := open_u8s Try.underlying40 Try.underlying5 (by kernel_rfl) h1
  subst hl1
  clear hA0 hval0
  refine (walk a0 ns1 A1 c1 W f0 (Lies.ofRow hr1) hn1 hc1 hm1 hA1).mono fun e W' ⟨he, hg⟩ => ?_
  subst he
  exact ⟨_, rfl, law_post laidOut (by kernel_rfl) rfl rfl Try.underlying4 rfl hW' hg⟩

theorem over : Rows.paramBackRow.holds Try.pinned (OpenSpec.ofChange Rows.paramBackSpec) :=
  OpenClaim.holds_of_wide 7 Try.f7 rfl rfl rfl rfl rfl rfl rfl ⟨rfl, rfl, rfl, rfl, rfl⟩ rfl rfl rfl rfl rfl (by kernel_rfl) Try.func7 (by kernel_rfl)
    (of_decide_eq_true (by kernel_rfl)) (by unfold Func.isWrapper; first | (rw [if_pos (by decide +kernel)]; kernel_rfl) | (rw [if_neg (by decide +kernel)]; exact ⟨rfl, rfl⟩))
    (fun os started H enc _ => lifted os started H enc)

/-- The statement. -/
theorem proved : Rows.ParamBackSaid := over
#print axioms proved

end Go.Proofs.Ytfdinnengniidaa.ParamBack
