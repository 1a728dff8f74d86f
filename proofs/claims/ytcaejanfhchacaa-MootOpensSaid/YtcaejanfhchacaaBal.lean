/- Layer 22 (ballot): what votes weigh, both sides, and what passes. By contracts. -/
import Derived.Test.YtcaejanfhchacaaMemG
import Derived.Test.YtcaejanfhchacaaRecW
import Derived.Test.YtcaejanfhchacaaParA
namespace Go.Proofs.Ytcaejanfhchacaa
open Go.RowKit Go.Deep
set_option linter.unusedVariables false
set_option linter.unusedSimpArgs false

/-- A tally. -/
structure Tly where
  yes : Nat
  no : Nat
  act : Nat
def Tly.vals (t : Tly) : Array Value := #[.int .u64 (t.yes : Int), .int .u64 (t.no : Int), .int .u64 (t.act : Int)]
instance : Rec Tly := ⟨Tly.vals, 3, fun _ => rfl, by decide, fun d => by simp [Tly.vals, Value.oneCell']⟩
def Tly.zero : Tly := ⟨0, 0, 0⟩
structure Tly.Fits (t : Tly) : Prop where
  yes : t.yes ≤ 18446744073709551615
  no : t.no ≤ 18446744073709551615
  act : t.act ≤ 18446744073709551615
theorem size_tly : (Try.prog.info? 148).map (·.size) = some (Rec.z Tly) := by kernel_rfl
theorem get_below {w w' : World} (h : ∃ q, w' = w.drewN q) : Below w.heap.size w w' := by
  obtain ⟨q, rfl⟩ := h
  exact below_drewN (Below.refl _ _) q

/-- Whether so much for it, so much against it, of so much, pass. -/
def passes (q : Int) (t : Tly) : Bool :=
  decide (t.yes + t.no ≤ 18446744073709551615) && decide (0 ≤ q) && decide (0 < t.act) && decide (t.no < t.yes) && !decide ((t.yes + t.no) * 10000 < q.toNat * t.act)
set_option maxRecDepth 100000 in
set_option maxHeartbeats 2000000 in
theorem weigh_is (l : List Mem) (A : Option Addr) (c : Nat) (xs : List Nat) (A2 : Option Addr) (c2 : Nat) (P : Nat) (w : World) (hr : Row w w.heap.size A (rows l)) (hx : Row w w.heap.size A2 (u8s xs)) (hb : ∀ x ∈ xs, x < 256) (hl : l.length ≤ 100000) (hf : ∀ m ∈ l, m.s.Fits) (HY : Hid (presents l xs l.length = P)) :
    Calls Try.prog 109 #[.slice A l.length c, .slice A2 xs.length c2] w fun e w' => e = .returned (.tuple #[.int .u64 (tx P : Nat), .int .i64 (te P : Nat)]) ∧ Below w.heap.size w w' := by
  obtain ⟨i0, hi0, hz0, hz1, hz2⟩ := info_parts wd_info
  have HR := Lib.hid hr
  have HX := Lib.hid hx
  have HF := Lib.hid hf
  have HBY := Lib.hid hb
  clear hr hx hf hb
  go_enter Try.func109, Try.ntmps109
  go_wp2
  go_loopw [6, 11] (fun v6 iv wr => ∃ (k : Nat) (l1 : List Nat), k ≤ l.length ∧ iv = .int .i64 (k : Int) ∧ Hid (picked (isThere xs) l k = l1) ∧
      Hid (wr.ownsRow w.heap.size 35 1 v6 l1.length (u64s l1)) ∧ Below w.heap.size w wr) (fun _ iv _ => l.length - (intOf iv).toNat)
  case atStart => exact ⟨0, [], Nat.zero_le _, rfl, Lib.hid rfl, Lib.hid (World.ownsRow_nil _ _ _ _), Below.refl _ _⟩
  case round =>
    obtain ⟨k, l1, hk, rfl, HP, HO, hB⟩ := hrel
    by_cases hlt : k < l.length
    · obtain ⟨m, hs⟩ : ∃ m, l[k]? = some m := ⟨_, List.getElem?_eq_getElem hlt⟩
      obtain ⟨a, rfl, hab, hat0⟩ := rows_row (HR.out.below hB) hs
      have hat : LiesAt wr (a.add (k * 6)) (Rec.vals m) := hat0
      have hki : (k : Int) < (l.length : Int) := by omega
      have hk0 : (0 : Int) ≤ (k : Int) := by omega
      have kc := fun w => counts_is m w
      have HLN := Lib.hid (show l1.length ≤ k by rw [← HP.out]; exact picked_len _ _ _)
      clear hat0
      cases hc : m.counts with
      | false =>
        rw [hc] at kc
        have HP2 := Lib.hid ((picked_no hs (f := isThere xs) (by simp [isThere, hc])).trans HP.out)
        clear hs hc HP
        go_wp2_with (first
          | (refine load_rec 116 _ rfl rfl _ (Rec.vals m) rfl hat Try.underlying116 size_mem ?_)
          | (refine store_rec 116 _ _ rfl rfl _ (Rec.vals m) (Rec.vals Mem.zero) 116 rfl rfl (RecAt.new _ (Rec.vals Mem.zero) _) size_mem rfl (Rec.one m) ?_; intro w2 hS2 hb2 hsz hkp; clear hsz hkp; have hb2 := rec_made (Below.refl _ _) hb2; have HO2 := Lib.hid (own_kept HO.out hb2); have hB2 := Below.then hB hb2; clear hb2 hat)
          | (refine load_rec 116 _ rfl rfl _ (Rec.vals m) rfl hS2.lies Try.underlying116 size_mem ?_)
          | (go_at_call 112; refine (kc _).mono ?_; clear kc; rintro e w3 ⟨rfl, hb3⟩; have HO3 := Lib.hid (own_kept HO2.out hb3); have hB3 := Below.then hB2 hb3; clear hb3))
        go_roundw
        case rel => exact ⟨k + 1, l1, by omega, by go_num, HP2, HO3, hB3⟩
        case measure => simp [intOf]; omega
      | true =>
        rw [hc] at kc
        have kg := fun (w1 : World) (hx : Lies w1 (· < w.heap.size) A2 xs) => get_ok xs _ A2 c2 (k : Int) w1 hx HBY.out (by omega)
        rw [bitI_nat] at kg
        have KG := Lib.hid kg
        clear kg
        cases hbit : bitAt xs k with
        | true =>
          rw [hbit] at KG
          have HP2 := Lib.hid ((picked_yes hs (f := isThere xs) (by simp [isThere, hc, hbit])).trans (congrArg (· ++ [m.s.eff]) HP.out))
          clear hs hc HP hbit
          go_wp2_with (first
            | (refine load_rec 116 _ rfl rfl _ (Rec.vals m) rfl hat Try.underlying116 size_mem ?_)
            | (refine store_rec 116 _ _ rfl rfl _ (Rec.vals m) (Rec.vals Mem.zero) 116 rfl rfl (RecAt.new _ (Rec.vals Mem.zero) _) size_mem rfl (Rec.one m) ?_; intro w2 hS2 hb2 hsz hkp; clear hsz hkp; have hb2 := rec_made (Below.refl _ _) hb2; have HO2 := Lib.hid (own_kept HO.out hb2); have hB2 := Below.then hB hb2; clear hb2 hat)
            | (refine load_rec 116 _ rfl rfl _ (Rec.vals m) rfl hS2.lies Try.underlying116 size_mem ?_)
            | (go_at_call 112; refine (kc _).mono ?_; clear kc; rintro e w3 ⟨rfl, hb3⟩; have hS3 := hS2.up hb3; have HO3 := Lib.hid (own_kept HO2.out hb3); have hB3 := Below.then hB2 hb3; clear hb3)
            | (go_at_call 32; refine (KG.out _ (Lies.ofRow (HX.out.below hB3))).mono ?_; clear KG; rintro e w4 ⟨rfl, hq⟩; have hb4 := get_below hq; have hS4 := hS3.up hb4; have HO4 := Lib.hid (own_kept HO3.out hb4); have hB4 := Below.then hB3 hb4; have x1 : _ = some (Value.int IntKind.u64 (m.s.eff : Int)) := hS4.cell 1; clear hq hb4)
            | (at_builtin; refine wpList_append_lies _ rfl _ _ 177 rfl w.heap.size 35 i0 (.int .u64 0) 1 8 Try.underlying177 hi0 hz0 hz1 hz2 rfl (by decide) _ l1.length (u64s l1) rfl (own_boxed HO4.out _) ⟨w4.heap.size, 0, none⟩ 1 1 [.int .u64 (m.s.eff : Int)] rfl rfl (new_first _ _ _) ?c2 (by decide) ?c3 ?c4 ?c5 _ rfl ?_))
          case c2 => intro u hu; simp at hu; subst hu; rfl
          case c3 => have := HLN.out; simp only [maxLen]; omega
          case c4 => have := HLN.out; omega
          case c5 => have := hB4.size; simp; omega
          intro g5 cap5 w5 hown hg hat5 hlt5
          have hB5 : Below w.heap.size w w5 := (hB4.alloc hB4.size _).grown hg (Nat.le_trans hB4.size (by simp)) (fun b hb => (HO4.out.lt b hb).1)
          have HO5 : Hid (w5.ownsRow w.heap.size 35 1 (.slice (some ⟨g5, 0, none⟩) (l1.length + 1) cap5) (l1 ++ [m.s.eff]).length (u64s (l1 ++ [m.s.eff]))) := Lib.hid (by rw [u64s_snoc19, List.length_append]; exact hown)
          clear hown hg hat5 hlt5 HO HO2 HO3 HO4 x1
          go_wp2
          go_roundw
          case rel => exact ⟨k + 1, l1 ++ [m.s.eff], by omega, by go_num, HP2, HO5, hB5⟩
          case measure => simp [intOf]; omega
        | false =>
          rw [hbit] at KG
          have HP2 := Lib.hid ((picked_no hs (f := isThere xs) (by simp [isThere, hc, hbit])).trans HP.out)
          clear hs hc HP hbit
          go_wp2_with (first
            | (refine load_rec 116 _ rfl rfl _ (Rec.vals m) rfl hat Try.underlying116 size_mem ?_)
            | (refine store_rec 116 _ _ rfl rfl _ (Rec.vals m) (Rec.vals Mem.zero) 116 rfl rfl (RecAt.new _ (Rec.vals Mem.zero) _) size_mem rfl (Rec.one m) ?_; intro w2 hS2 hb2 hsz hkp; clear hsz hkp; have hb2 := rec_made (Below.refl _ _) hb2; have HO2 := Lib.hid (own_kept HO.out hb2); have hB2 := Below.then hB hb2; clear hb2 hat)
            | (refine load_rec 116 _ rfl rfl _ (Rec.vals m) rfl hS2.lies Try.underlying116 size_mem ?_)
            | (go_at_call 112; refine (kc _).mono ?_; clear kc; rintro e w3 ⟨rfl, hb3⟩; have HO3 := Lib.hid (own_kept HO2.out hb3); have hB3 := Below.then hB2 hb3; clear hb3)
            | (go_at_call 32; refine (KG.out _ (Lies.ofRow (HX.out.below hB3))).mono ?_; clear KG; rintro e w4 ⟨rfl, hq⟩; have hb4 := get_below hq; have HO4 := Lib.hid (own_kept HO3.out hb4); have hB4 := Below.then hB3 hb4; clear hq hb4))
          go_roundw
          case rel => exact ⟨k + 1, l1, by omega, by go_num, HP2, HO4, hB4⟩
          case measure => simp [intOf]; omega
    · obtain rfl : k = l.length := by omega
      have hM : ∀ m ∈ l, m.s.eff ≤ 18446744073709551615 := fun m hm => by have := (HF.out m hm).eff; omega
      have hn1 : ∀ n ∈ l1, n ≤ 18446744073709551615 := by rw [← HP.out]; exact picked_most hM _
      have hln : l1.length ≤ l.length := by rw [← HP.out]; exact picked_len _ _ _
      have e1 : presents l xs l.length = tot l1 := by unfold presents; rw [HP.out]
      obtain ⟨A7, c7, rfl, hr7⟩ := words_own rfl HO.out
      have ks := sum_told l1 A7 c7 wr.heap.size wr hr7 (by unfold maxLen; omega) hn1
      rw [← e1, HY.out] at ks
      have KS := Lib.hid ks
      clear hM hn1 hln e1 hr7 ks HP HO HF HBY HX HR HY
      go_wp2_with (go_at_call 110; refine KS.out.mono ?_; clear KS; rintro e w2 ⟨rfl, rfl⟩)
      go_ret2
      exact ⟨by first | rfl | simp, hB⟩

set_option maxRecDepth 100000 in
set_option maxHeartbeats 1000000 in
theorem count_in (l : List Mem) (A : Option Addr) (c : Nat) (xs : List Nat) (A2 : Option Addr) (c2 : Nat) (ys : List Nat) (A3 : Option Addr) (c3 : Nat) (p n t : Nat) (w : World) (hr : Row w w.heap.size A (rows l)) (hx : Row w w.heap.size A2 (u8s xs)) (hb : ∀ x ∈ xs, x < 256) (hy : Row w w.heap.size A3 (u8s ys)) (hc : ∀ x ∈ ys, x < 256) (hl : l.length ≤ 100000) (hf : ∀ m ∈ l, m.s.Fits)
    (hp : presents l xs l.length = p) (hn : presents l ys l.length = n) (ht : actives l l.length = t) (h : t ≤ 18446744073709551615) :
    Calls Try.prog 94 #[.slice A l.length c, .slice A2 xs.length c2, .slice A3 ys.length c3] w fun e w' => e = .returned (.tuple #[.agg (Rec.vals (⟨p, n, t⟩ : Tly)), .int .i64 0]) ∧ Below w.heap.size w w' := by
  have h1 : p ≤ t := by rw [← hp, ← ht]; exact presents_le _ _ _
  have h2 : n ≤ t := by rw [← hn, ← ht]; exact presents_le _ _ _
  obtain ⟨z, hz⟩ : ∃ z, presents l [] l.length = z := ⟨_, rfl⟩
  have HZ : Hid (stk l [] = (z, t, 0)) := Lib.hid (by rw [stk_in (by rw [ht]; exact h), hz, ht])
  have k0 := fun (W : World) (hB : Below w.heap.size w W) => mstakes_of l A c [] none 0 z t 0 W (row_kept hr hB) (Row.nil _ _ _) (fun x h => by cases h) (by omega) hf HZ
  have k1 := fun (W : World) (hB : Below w.heap.size w W) => weigh_is l A c xs A2 c2 p W (row_kept hr hB) (row_kept hx hB) hb hl hf (Lib.hid hp)
  have k2 := fun (W : World) (hB : Below w.heap.size w W) => weigh_is l A c ys A3 c3 n W (row_kept hr hB) (row_kept hy hB) hc hl hf (Lib.hid hn)
  rw [tx_in (by omega), te_in (by omega)] at k1
  rw [tx_in (by omega), te_in (by omega)] at k2
  rw [show ((0 : Nat) : Int) = 0 from rfl] at k0 k1 k2
  have K0 := Lib.hid k0
  have K1 := Lib.hid k1
  have K2 := Lib.hid k2
  clear k0 k1 k2 hr hx hb hy hc hf hp hn ht h h1 h2 hz HZ
  have hN : RecAt (w.alloc (.cells (Rec.vals Tly.zero) 148)) w.heap.size (Rec.vals Tly.zero) 148 := RecAt.new _ _ _
  have hB : Below w.heap.size w (w.alloc (.cells (Rec.vals Tly.zero) 148)) := (Below.refl _ _).alloc (Nat.le_refl _) _
  go_enter Try.func94, Try.ntmps94
  go_wp2_with (first
    | (go_at_call 108; refine (K0.out _ hB).mono ?_; clear K0; rintro e w1 ⟨rfl, hb1⟩; have hN := hN.up hb1; have hB := Below.then hB hb1; clear hb1)
    | (go_at_call 109; refine (K1.out _ hB).mono ?_; clear K1; rintro e w2 ⟨rfl, hb2⟩; have hN := hN.up hb2; have hB := Below.then hB hb2; clear hb2)
    | (go_at_call 109; refine (K2.out _ hB).mono ?_; clear K2; rintro e w3 ⟨rfl, hb3⟩; have hN := hN.up hb3; have hB := Below.then hB hb3; clear hb3)
    | (refine build_rec 148 _ rfl rfl (Rec.vals (⟨p, n, t⟩ : Tly)) ?_ ?_; · kernel_rfl)
    | (refine store_rec 148 _ _ rfl rfl _ (Rec.vals (⟨p, n, t⟩ : Tly)) (Rec.vals Tly.zero) 148 rfl rfl hN size_tly rfl (Rec.one (⟨p, n, t⟩ : Tly)) ?_; intro w5 hR hb5 hz5 hk5; have hB := hB.trans hb5; clear hz5 hk5 hb5))
  refine bodyPost_ret (res_rec2 _ Try.results94 rfl hR Try.underlying148 size_tly) rfl ⟨by first | rfl | simp, hB⟩

set_option maxRecDepth 100000 in
set_option maxHeartbeats 1000000 in
theorem count_out (l : List Mem) (A : Option Addr) (c : Nat) (v2 v3 : Value) (w : World) (hr : Row w w.heap.size A (rows l)) (hl : l.length ≤ 100000) (hf : ∀ m ∈ l, m.s.Fits)
    (h : 18446744073709551615 < actives l l.length) :
    Calls Try.prog 94 #[.slice A l.length c, v2, v3] w fun e w' => e = .returned (.tuple #[.agg (Rec.vals Tly.zero), .int .i64 10]) ∧ Below w.heap.size w w' := by
  have HZ : Hid (stk l [] = (0, 0, 10)) := Lib.hid (stk_out (by omega))
  have k0 := fun (W : World) (hB : Below w.heap.size w W) => mstakes_of l A c [] none 0 0 0 10 W (row_kept hr hB) (Row.nil _ _ _) (fun x h => by cases h) (by omega) hf HZ
  rw [show ((0 : Nat) : Int) = 0 from rfl, show ((10 : Nat) : Int) = 10 from rfl] at k0
  have K0 := Lib.hid k0
  clear k0 hr hf h HZ
  have hN : RecAt (w.alloc (.cells (Rec.vals Tly.zero) 148)) w.heap.size (Rec.vals Tly.zero) 148 := RecAt.new _ _ _
  have hB : Below w.heap.size w (w.alloc (.cells (Rec.vals Tly.zero) 148)) := (Below.refl _ _).alloc (Nat.le_refl _) _
  go_enter Try.func94, Try.ntmps94
  go_wp2_with (first
    | (go_at_call 108; refine (K0.out _ hB).mono ?_; clear K0; rintro e w1 ⟨rfl, hb1⟩; have hN := hN.up hb1; have hB := Below.then hB hb1; clear hb1)
    | (refine build_rec 148 #[] rfl rfl (Rec.vals Tly.zero) ?_ ?_; · kernel_rfl)
    | (refine store_rec 148 _ _ rfl rfl _ (Rec.vals Tly.zero) (Rec.vals Tly.zero) 148 rfl rfl hN size_tly rfl (Rec.one Tly.zero) ?_; intro w5 hR hb5 hz5 hk5; have hB := hB.trans hb5; clear hz5 hk5 hb5))
  refine bodyPost_ret (res_rec2 _ Try.results94 rfl hR Try.underlying148 size_tly) rfl ⟨by first | rfl | simp, hB⟩
end Go.Proofs.Ytcaejanfhchacaa
