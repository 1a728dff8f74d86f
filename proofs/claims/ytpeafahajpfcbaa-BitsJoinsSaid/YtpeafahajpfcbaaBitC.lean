/- Layer 6 (bits): a field packed, unpacked, two joined. By contracts. -/
import Derived.Test.YtpeafahajpfcbaaBitB
import Derived.Deep.CutBlock
namespace Go.Proofs.Ytpeafahajpfcbaa
open Go.RowKit
set_option linter.unusedVariables false
set_option linter.unusedSimpArgs false

/-- Whether each is on, as values. -/
def bools (l : List Bool) : List Value := l.map Value.bool
theorem bools_len (l : List Bool) : (bools l).length = l.length := by simp [bools]
theorem bools_get {l : List Bool} {k : Nat} (h : k < l.length) : (bools l)[k]? = some (.bool l[k]) := by simp [bools, h]
theorem bools_set (l : List Bool) (j : Nat) (b : Bool) : (bools l).set j (.bool b) = bools (l.set j b) := by unfold bools; rw [List.map_set]
theorem bools_snoc (l : List Bool) (b : Bool) : bools (l ++ [b]) = bools l ++ [.bool b] := by simp [bools]
theorem bools_zero (n : Nat) : (madeCells #[Value.bool false] n).toList = bools (List.replicate n false) := by
  rw [toList_madeCells_one]; simp [bools]
theorem u8s_zero (n : Nat) : (madeCells #[Value.int .u8 0] n).toList = u8s (List.replicate n 0) := by
  rw [toList_madeCells_one]; simp [u8s]
theorem bool_info : (Try.prog.info? 4).map (fun i => (i.zero, i.size, i.bytes)) = some (some (.bool false), 1, 1) := by kernel_rfl

/-- A row of zeros, made just now. -/
theorem own_zeros {B : Nat} (w : World) (hB : B ≤ w.heap.size) (n : Nat) (hn : n ≤ maxLen) : (w.alloc (.cells (madeCells #[Value.int .u8 0] n) 5)).ownsRow B 5 1 (.slice (some ⟨w.heap.size, 0, none⟩) n n) n (u8s (List.replicate n 0)) := by
  rw [← u8s_zero]
  have h := World.ownsRow_lit w (madeCells #[Value.int .u8 0] n) (base := B) (e := 5) (size := 1) n hB hn (by rw [size_madeCells]; simp)
  simpa using h
theorem own_falses {B : Nat} (w : World) (hB : B ≤ w.heap.size) (n : Nat) (hn : n ≤ maxLen) : (w.alloc (.cells (madeCells #[Value.bool false] n) 4)).ownsRow B 4 1 (.slice (some ⟨w.heap.size, 0, none⟩) n n) n (bools (List.replicate n false)) := by
  rw [← bools_zero]
  have h := World.ownsRow_lit w (madeCells #[Value.bool false] n) (base := B) (e := 4) (size := 1) n hB hn (by rw [size_madeCells]; simp)
  simpa using h

/-- The first k bits, and nothing behind them. -/
def upto (xs : List Nat) (m k : Nat) : List Bool := bitsOf xs k ++ List.replicate (m - k) false
theorem upto_zero (xs : List Nat) (m : Nat) : upto xs m 0 = List.replicate m false := by simp [upto, bitsOf]
theorem upto_full (xs : List Nat) (m : Nat) : upto xs m m = bitsOf xs m := by simp [upto]
theorem upto_succ (xs : List Nat) {m k : Nat} (h : k < m) : (upto xs m k).set k (bitAt xs k) = upto xs m (k + 1) := by
  unfold upto
  rw [List.set_append_right _ _ (by rw [bitsOf_len]; exact Nat.le_refl _), bitsOf_len, Nat.sub_self, bitsOf_succ, List.append_assoc]
  congr 1
  rw [show m - k = (m - (k + 1)) + 1 by omega, List.replicate_succ]
  rfl

set_option maxRecDepth 100000 in
set_option maxHeartbeats 1000000 in
theorem unpack_yes (xs : List Nat) (S : Nat → Prop) (A : Option Addr) (c : Nat) (m : Nat) (w : World) (hx : Lies w S A xs) (hb : ∀ x ∈ xs, x < 256) (h : IsField xs m) :
    Calls Try.prog 13 #[.slice A xs.length c, .int .i64 (m : Int)] w fun e w' => ∃ v, e = .returned (.tuple #[v, .int .i64 0]) ∧ w'.ownsRow w.heap.size 4 1 v m (bools (bitsOf xs m)) ∧ Below w.heap.size w w' := by
  obtain ⟨i0, hi0, hz0, hz1, hz2⟩ := info_parts bool_info
  have hm := h.1
  have kf := fields_yes (c := 1) (n := (m : Int)) (handed_one c 24 hx hb) (by simp) ((one_field xs A c m).2 ⟨by omega, by simpa using h⟩)
  have hmk : ∀ W : World, (Instr.makeSlice 22 (.int .i64 (m : Int)) (.int .i64 (m : Int))).run Try.prog W =
      .ok (.slice (some ⟨W.heap.size, 0, none⟩) m m) (W.alloc (.cells (madeCells #[.bool false] m) 4)) := by
    intro W
    have h := run_make (P := Try.prog) W 22 4 i0 (.bool false) Try.underlying22 hi0 hz0 .i64 .i64 (m : Int) (m : Int) (by omega) (by omega) (by rw [hz2]; omega) (by omega)
    rw [hz1, Int.toNat_natCast, Nat.mul_one] at h
    exact h
  have hxw : Lies w (· < w.heap.size) A xs := hx.imp fun k hk _ => hk
  have kg : ∀ (k : Nat), k ≤ 256 → ∀ W, Lies W (· < w.heap.size) A xs → Calls Try.prog 17 #[.slice A xs.length c, .int .i64 (k : Int)] W fun e w' => e = .returned (.bool (bitAt xs k)) ∧ ∃ q, w' = W.drewN q := by
    intro k hk W hl
    have := get_ok xs (· < w.heap.size) A c (k : Int) W hl hb (by omega)
    rwa [bitI_nat] at this
  clear h hb hi0 hz0 hz1 hz2
  go_enter Try.func13, Try.ntmps13
  go_wp2_with (go_at_call 24; refine kf.mono ?_; clear kf; rintro e w' ⟨rfl, q, rfl⟩)
  clear hmk
  have hb0 : Below w.heap.size w ((w.alloc (.cells #[.slice A xs.length c] 24)).drewN q) := below_drewN ((Below.refl _ w).alloc (Nat.le_refl _) _) _
  have hst := own_falses ((w.alloc (.cells #[.slice A xs.length c] 24)).drewN q) hb0.size m (by unfold maxLen; omega)
  have hb2 := hb0.alloc hb0.size (.cells (madeCells #[.bool false] m) 4)
  go_loopw [16] (fun iv wr => ∃ k : Nat, k ≤ m ∧ iv = .int .i64 (k : Int) ∧ wr.ownsRow w.heap.size 4 1 (.slice (some ⟨w.heap.size + 1, 0, none⟩) m m) m (bools (upto xs m k)) ∧ Below w.heap.size w wr) (fun iv _ => m - (intOf iv).toNat)
  case atStart =>
    refine ⟨0, Nat.zero_le _, rfl, ?_, hb2⟩
    rw [upto_zero]
    simpa using hst
  case round =>
    clear hst hb2 hb0
    obtain ⟨k, hk, rfl, hown, hBr⟩ := hrel
    by_cases hlt : k < m
    · have hxr := hxw.hold (w' := wr) (fun p hp => hBr.cell hp)
      have kk := kg k (by omega) wr hxr
      have hfD : wr.frozen? ⟨w.heap.size + 1, k, none⟩ = false := hown.frozenAt k
      obtain ⟨v0, hcD⟩ : ∃ v, wr.cell? ⟨w.heap.size + 1, k, none⟩ = some v := ⟨_, own_cell hown (bools_get (by have := hown.1; rw [bools_len] at this; omega))⟩
      have hkI : (k : Int) < (m : Int) := by omega
      have HU := Lib.hid (upto_succ xs hlt)
      obtain ⟨b, hb⟩ : ∃ b, bitAt xs k = b := ⟨_, rfl⟩
      rw [hb] at kk
      have HB := Lib.hid hb
      have HOWN := Lib.hid hown
      clear kg hb hown hxw hx hxr
      go_wp2_with (go_at_call 17; refine kk.mono ?_; clear kk; rintro e w' ⟨rfl, q2, rfl⟩)
      go_roundw
      case rel =>
        refine ⟨k + 1, by omega, by go_num, ?_, (below_drewN hBr q2).setCell (Nat.le_succ _) _⟩
        rw [← HU.out, ← bools_set, HB.out]
        exact (World.ownsRow.stored (own_drewN HOWN.out q2) k _).1
      case measure => simp [intOf]; omega
    · obtain rfl : k = m := by omega
      clear kg
      rw [upto_full] at hown
      go_wp2
      refine bodyPost_ret (v := .tuple #[.slice (some ⟨w.heap.size + 1, 0, none⟩) k k, .int .i64 0]) (by simp [results, Try.results13, go_sem]) rfl ⟨_, rfl, hown, hBr⟩

set_option maxRecDepth 100000 in
theorem unpack_no (xs : List Nat) (S : Nat → Prop) (A : Option Addr) (c : Nat) (n : Int) (w : World) (hx : Lies w S A xs) (hb : ∀ x ∈ xs, x < 256) (h : ¬ FieldI xs n) :
    Calls Try.prog 13 #[.slice A xs.length c, .int .i64 n] w fun e w' => e = .returned (.tuple #[.slice none 0 0, .int .i64 60]) ∧ Below w.heap.size w w' := by
  have kf := fields_no (c := 1) (n := n) (handed_one c 24 hx hb) (by simp) (fun hh => h ((one_field xs A c n).1 hh))
  clear h hb
  go_enter Try.func13, Try.ntmps13
  go_wp2_with (go_at_call 24; refine kf.mono ?_; clear kf; rintro e w' ⟨rfl, q, rfl⟩)
  refine bodyPost_ret (v := .tuple #[.slice none 0 0, .int .i64 60]) (by simp [results, Try.results13, go_sem]) rfl ⟨rfl, below_drewN ((Below.refl _ w).alloc (Nat.le_refl _) _) _⟩

set_option maxRecDepth 100000 in
theorem join_no (xs ys : List Nat) (S S' : Nat → Prop) (A A' : Option Addr) (c c' : Nat) (n : Int) (w : World) (hx : Lies w S A xs) (hb : ∀ x ∈ xs, x < 256) (hy : Lies w S' A' ys) (hb' : ∀ x ∈ ys, x < 256) (h : ¬ (FieldI xs n ∧ FieldI ys n)) :
    Calls Try.prog 22 #[.slice A xs.length c, .slice A' ys.length c', .int .i64 n] w fun e w' => e = .returned (.tuple #[.slice none 0 0, .int .i64 60]) ∧ Below w.heap.size w w' := by
  have kf := fields_no (c := 2) (n := n) (handed_two c c' 24 hx hb hy hb') (by simp) (fun hh => h ((two_field xs ys A A' c c' n).1 hh))
  clear h hb hb'
  go_enter Try.func22, Try.ntmps22
  go_wp2_with (go_at_call 24; refine kf.mono ?_; clear kf; rintro e w' ⟨rfl, q, rfl⟩)
  refine bodyPost_ret (v := .tuple #[.slice none 0 0, .int .i64 60]) (by simp [results, Try.results22, go_sem]) rfl ⟨rfl, below_drewN ((Below.refl _ w).alloc (Nat.le_refl _) _) _⟩

/-- A field in the midst of being packed: the first k of the list are in. -/
def packN (l : List Bool) : Nat → List Nat
  | 0 => List.replicate ((l.length + 7) / 8) 0
  | k + 1 => if l.getD k false then setBit (packN l k) k else packN l k
/-- A list's field. -/
def packed (l : List Bool) : List Nat := packN l l.length
theorem packN_len (l : List Bool) (k : Nat) : (packN l k).length = (l.length + 7) / 8 := by
  induction k with
  | zero => simp [packN]
  | succ k ih => unfold packN; split <;> simp [setBit_len, ih]
theorem packN_all (l : List Bool) (k : Nat) : ∀ x ∈ packN l k, x < 256 := by
  induction k with
  | zero => intro x hx; rw [List.eq_of_mem_replicate hx]; omega
  | succ k ih => unfold packN; split; exact setBit_all ih; exact ih
theorem packN_at (l : List Bool) (k : Nat) (h : k ≤ l.length) (i : Nat) : bitAt (packN l k) i = (decide (i < k) && l.getD i false) := by
  induction k with
  | zero =>
    simp only [packN, bitAt]
    have e : (List.replicate ((l.length + 7) / 8) 0).getD (i / 8) 0 = 0 := by rw [List.getD_eq_getElem?_getD, List.getElem?_replicate]; split <;> rfl
    rw [e, Nat.zero_testBit]
    simp
  | succ k ih =>
    have ih := ih (by omega)
    unfold packN
    split
    · rename_i hb
      rw [setBit_at (by rw [packN_len]; omega), ih]
      by_cases e : i = k
      · subst e; rw [hb]; simp
      · have : (i < k + 1) ↔ i < k := by omega
        simp [this, e]
    · rename_i hb
      rw [ih]
      by_cases e : i = k
      · subst e
        have : l.getD i false = false := by simpa using hb
        rw [this]; simp
      · have : (i < k + 1) ↔ i < k := by omega
        simp [this]
theorem packed_len (l : List Bool) : (packed l).length = (l.length + 7) / 8 := packN_len l _
theorem packed_all (l : List Bool) : ∀ x ∈ packed l, x < 256 := packN_all l _
theorem packed_at (l : List Bool) (i : Nat) : bitAt (packed l) i = l.getD i false := by
  unfold packed
  rw [packN_at l _ (Nat.le_refl _)]
  by_cases h : i < l.length
  · simp [h]
  · rw [getD_past _ (by omega)]; simp
theorem packed_is {l : List Bool} {ys : List Nat} (hl : ys.length = (l.length + 7) / 8) (hb : ∀ x ∈ ys, x < 256) (h : ∀ k, bitAt ys k = l.getD k false) : ys = packed l :=
  bits_ext (by rw [hl, packed_len]) hb (packed_all l) fun k => by rw [h, packed_at]
theorem packed_field {l : List Bool} (h : l.length ≤ 256) : IsField (packed l) l.length := field_of h (packed_len l) (packed_at l)

theorem pack_big (l : List Bool) (A : Option Addr) (c : Nat) (w : World) (h : 256 < l.length) :
    Calls Try.prog 9 #[.slice A l.length c] w fun e w' => e = .returned (.tuple #[.slice none 0 0, .int .i64 3]) ∧ w = w' := by
  have hI : (256 : Int) < (l.length : Int) := by omega
  clear h
  go_enter Try.func9, Try.ntmps9
  go_wp2
  refine bodyPost_ret (v := .tuple #[.slice none 0 0, .int .i64 3]) (by simp [results, Try.results9, go_sem]) rfl ⟨rfl, rfl⟩

set_option maxRecDepth 100000 in
set_option maxHeartbeats 1000000 in
theorem pack_ok (l : List Bool) (A : Option Addr) (c : Nat) (w : World) (hr : Row w w.heap.size A (bools l)) (hl : l.length ≤ 256) :
    Calls Try.prog 9 #[.slice A l.length c] w fun e w' => ∃ v, e = .returned (.tuple #[v, .int .i64 0]) ∧ w'.ownsRow w.heap.size 5 1 v (packed l).length (u8s (packed l)) ∧ Below w.heap.size w w' := by
  obtain ⟨i0, hi0, hz0, hz1, hz2⟩ := info_parts u8_info
  have ks := fun W => size_ok l.length W (by omega)
  have kv := fun k (hk : k ≤ 256) W => value_ok k W (by omega)
  have hn := packN_len l
  have hpk : (packed l).length = (l.length + 7) / 8 := packed_len l
  obtain ⟨n, hN⟩ : ∃ n, (l.length + 7) / 8 = n := ⟨_, rfl⟩
  rw [hN] at ks hn hpk
  have HN := Lib.hid hN
  have hn64 : n ≤ 64 := by omega
  rw [hpk]
  have HLN := Lib.hid hn
  have hmk : ∀ W : World, (Instr.makeSlice 24 (.int .i64 (n : Int)) (.int .i64 (n : Int))).run Try.prog W =
      .ok (.slice (some ⟨W.heap.size, 0, none⟩) n n) (W.alloc (.cells (madeCells #[.int .u8 0] n) 5)) := by
    intro W
    have h := run_make (P := Try.prog) W 24 5 i0 (.int .u8 0) Try.underlying24 hi0 hz0 .i64 .i64 (n : Int) (n : Int) (by omega) (by omega) (by rw [hz2]; omega) (by omega)
    rw [hz1, Int.toNat_natCast, Nat.mul_one] at h
    exact h
  have hlI : (l.length : Int) ≤ 256 := by omega
  clear hi0 hz0 hz1 hz2 hN hn hpk
  go_enter Try.func9, Try.ntmps9
  go_wp2_with (go_at_call 12; refine (ks _).mono ?_; clear ks; rintro e w' ⟨rfl, rfl⟩)
  clear hmk
  have hst := own_zeros w (Nat.le_refl _) n (by unfold maxLen; omega)
  have hb2 := (Below.refl _ w).alloc (Nat.le_refl _) (.cells (madeCells #[.int .u8 0] n) 5)
  go_loopw [15] (fun iv wr => ∃ k : Nat, k ≤ l.length ∧ iv = .int .i64 (k : Int) ∧ wr.ownsRow w.heap.size 5 1 (.slice (some ⟨w.heap.size, 0, none⟩) n n) n (u8s (packN l k)) ∧ Below w.heap.size w wr) (fun iv _ => l.length - (intOf iv).toNat)
  case atStart =>
    refine ⟨0, Nat.zero_le _, rfl, ?_, hb2⟩
    unfold packN
    rw [HN.out]
    exact hst
  case round =>
    clear hst hb2
    obtain ⟨k, hk, rfl, hown, hBr⟩ := hrel
    by_cases hlt : k < l.length
    · obtain ⟨a, rfl, hS, hc⟩ := (hr.below hBr).get (k := k) (by rw [bools_len]; exact hlt)
      have hcb : (bools l)[k]'(by rw [bools_len]; exact hlt) = .bool (l.getD k false) := by simp [bools, hlt]
      rw [hcb] at hc
      have hkI : (k : Int) < (l.length : Int) := by omega
      have hsucc : packN l (k + 1) = if l.getD k false then setBit (packN l k) k else packN l k := rfl
      obtain ⟨b, hb⟩ : ∃ b, l.getD k false = b := ⟨_, rfl⟩
      rw [hb] at hc hsucc
      cases b with
      | false =>
        have HS : Hid (packN l (k + 1) = packN l k) := by rw [hsucc]; exact if_neg (by simp)
        have HOWN := Lib.hid hown
        clear hsucc hb hcb hown kv
        go_wp2
        go_roundw
        case rel =>
          refine ⟨k + 1, by omega, by go_num, ?_, hBr⟩
          rw [HS.out]
          exact HOWN.out
        case measure => simp [intOf]; omega
      | true =>
        have kvk := kv k (by omega)
        have hkn : k / 8 < n := by have := HN.out; omega
        have hkl : k / 8 < (packN l k).length := by rw [HLN.out]; exact hkn
        have eg : (packN l k).getD (k / 8) 0 = (packN l k)[k / 8] := by simp [hkl]
        have hxb := packN_all l k (packN l k)[k / 8] (List.getElem_mem hkl)
        have hor := or_bytes hxb (pw_lt k)
        have hse : packN l (k + 1) = (packN l k).set (k / 8) ((packN l k)[k / 8] ||| pw k) := by rw [hsucc, if_pos rfl]; unfold setBit; rw [eg]
        have hu := u8s_get hkl
        obtain ⟨x, hxx⟩ : ∃ x, (packN l k)[k / 8] = x := ⟨_, rfl⟩
        obtain ⟨p, hp⟩ : ∃ p, pw k = p := ⟨_, rfl⟩
        rw [hxx, hp] at hor hse
        rw [hxx] at hu
        rw [hp] at kvk
        have hcD := own_cell hown hu
        have hfD : wr.frozen? ⟨w.heap.size, k / 8, none⟩ = false := hown.frozenAt (k / 8)
        have HSE := Lib.hid hse
        have hnI : (k : Int) / 8 < (n : Int) := by omega
        have h0 : (0 : Int) ≤ (k : Int) := by omega
        have hq0 : (0 : Int) ≤ (k : Int) / 8 := by omega
        have hqn : ((k : Int) / 8).toNat = k / 8 := by omega
        have hwq : IntKind.i64.wrap ((k : Int) / 8) = (k : Int) / 8 := IntWalk.i64_in _ (by omega)
        have htd : (k : Int).tdiv 8 = (k : Int) / 8 := Int.tdiv_eq_ediv_of_nonneg h0
        obtain ⟨z, hz⟩ : ∃ z : Nat, x ||| p = z := ⟨_, rfl⟩
        rw [hz] at hor
        have HZ := Lib.hid hz
        have HOWN := Lib.hid hown
        clear hse hu hxx hp eg hxb hz hsucc hb hcb hown kv hkl
        go_wp2
        go_region_with (go_at_call 23; refine (kvk _).mono ?_; rintro e w' ⟨rfl, rfl⟩)
        all_goals
          go_wp2
          go_roundw
          case rel =>
            refine ⟨k + 1, by omega, by go_num, ?_, below_drewN (hBr.setCell (Nat.le_refl _) _) 1⟩
            rw [HSE.out, HZ.out, ← u8s_set]
            exact own_drewN (World.ownsRow.stored HOWN.out (k / 8) _).1 1
          case measure => simp [intOf]; omega
    · obtain rfl : k = l.length := by omega
      clear kv
      go_wp2
      refine bodyPost_ret (v := .tuple #[.slice (some ⟨w.heap.size, 0, none⟩) n n, .int .i64 0]) (by simp [results, Try.results9, go_sem]) rfl ⟨_, rfl, hown, hBr⟩

theorem own_mono {w : World} {B B' : Nat} {e : TypeId} {z : Nat} {v : Value} {n : Nat} {xs : List Value} (h : w.ownsRow B e z v n xs) (hb : B' ≤ B) : w.ownsRow B' e z v n xs :=
  ⟨h.1, h.2.imp id fun ⟨g, cap, cur, h1, h2, h3⟩ => ⟨g, cap, cur, h1, Nat.le_trans hb h2, h3⟩⟩

/-- Bytes in the midst of being joined: the first m are. -/
def joinN (xs ys : List Nat) : Nat → List Nat
  | 0 => xs
  | m + 1 => (joinN xs ys m).set m ((joinN xs ys m).getD m 0 ||| ys.getD m 0)
def joined (xs ys : List Nat) : List Nat := joinN xs ys ys.length
theorem joinN_len (xs ys : List Nat) (m : Nat) : (joinN xs ys m).length = xs.length := by
  induction m with
  | zero => rfl
  | succ m ih => simp [joinN, ih]
theorem joinN_get (xs ys : List Nat) (m : Nat) (h : m ≤ xs.length) (j : Nat) : (joinN xs ys m).getD j 0 = if j < m then xs.getD j 0 ||| ys.getD j 0 else xs.getD j 0 := by
  induction m with
  | zero => simp [joinN]
  | succ m ih =>
    have ih := ih (by omega)
    unfold joinN
    rw [getD_set _ _ _ _ (by rw [joinN_len]; omega)]
    by_cases e : j = m
    · subst e
      rw [if_pos rfl, if_pos (by omega), ih, if_neg (by omega)]
    · rw [if_neg e, ih]
      have : j < m ↔ j < m + 1 := by omega
      simp [this]
theorem joinN_all {xs ys : List Nat} (hx : ∀ x ∈ xs, x < 256) (hy : ∀ x ∈ ys, x < 256) (m : Nat) : ∀ x ∈ joinN xs ys m, x < 256 := by
  induction m with
  | zero => exact hx
  | succ m ih => exact set_all ih (or_lt (getD_byte ih m) (getD_byte hy m))
theorem joined_len (xs ys : List Nat) : (joined xs ys).length = xs.length := joinN_len xs ys _
theorem joined_at {xs ys : List Nat} (hl : xs.length = ys.length) (k : Nat) : bitAt (joined xs ys) k = (bitAt xs k || bitAt ys k) := by
  unfold joined bitAt
  rw [joinN_get _ _ _ (by omega)]
  by_cases h : k / 8 < ys.length
  · rw [if_pos h, Nat.testBit_or]
  · rw [if_neg h, getD_past 0 (show ys.length ≤ k / 8 by omega), Nat.zero_testBit, Bool.or_false]
theorem joined_field {xs ys : List Nat} {n : Nat} (hx : IsField xs n) (hy : IsField ys n) : IsField (joined xs ys) n :=
  ⟨hx.1, by rw [joined_len]; exact hx.2.1, fun k hk => by rw [joined_at (by rw [hx.2.1, hy.2.1]), hx.2.2 k hk, hy.2.2 k hk]; rfl⟩

set_option maxRecDepth 100000 in
set_option maxHeartbeats 1000000 in
theorem join_ok (xs ys : List Nat) (S S' : Nat → Prop) (A A' : Option Addr) (c c' : Nat) (n : Int) (w : World) (hx : Lies w S A xs) (hb : ∀ x ∈ xs, x < 256) (hy : Lies w S' A' ys) (hb' : ∀ x ∈ ys, x < 256) (h : FieldI xs n ∧ FieldI ys n) :
    Calls Try.prog 22 #[.slice A xs.length c, .slice A' ys.length c', .int .i64 n] w fun e w' => ∃ v, e = .returned (.tuple #[v, .int .i64 0]) ∧ w'.ownsRow w.heap.size 5 1 v xs.length (u8s (joined xs ys)) ∧ Below w.heap.size w w' := by
  have kf := fields_yes (c := 2) (n := n) (handed_two c c' 24 hx hb hy hb') (by simp) ((two_field xs ys A A' c c' n).2 h)
  have hxw : Lies w (· < w.heap.size) A xs := hx.imp fun k hk _ => hk
  have hyw : Lies w (· < w.heap.size) A' ys := hy.imp fun k hk _ => hk
  have h1 := h.1.2.1
  have h2 := h.1.2.2.1
  have h3 := h.2.2.2.1
  have hlen : ys.length = xs.length := by rw [h2, h3]
  have hl40 : xs.length ≤ 40 := by omega
  have kc := fun W (hl : Lies W (· < w.heap.size) A xs) => clone_is xs _ A c W hl (by omega)
  have hall := joinN_all hb hb'
  have HALL := Lib.hid hall
  have HB' := Lib.hid hb'
  have HLEN := Lib.hid hlen
  clear h h1 h2 h3 hb hb' hall hx hy hlen
  go_enter Try.func22, Try.ntmps22
  go_wp2_with (first
    | (go_at_call 24; refine kf.mono ?_; clear kf; rintro e w' ⟨rfl, q, rfl⟩; have hb0 : Below w.heap.size w ((w.alloc (.cells #[.slice A xs.length c, .slice A' ys.length c'] 24)).drewN q) := below_drewN ((Below.refl _ w).alloc (Nat.le_refl _) _) _; have hxq : Lies ((w.alloc (.cells #[.slice A xs.length c, .slice A' ys.length c'] 24)).drewN q) (· < w.heap.size) A xs := hxw.hold (fun p hp => hb0.cell hp); have kcc := kc _ hxq; clear kc)
    | (go_at_call 27; refine kcc.mono ?_; clear kcc; rintro e w1 ⟨v, rfl, hown, hb1⟩; have hB1 : Below w.heap.size w w1 := hb0.trans (hb1.mono hb0.size)))
  go_loopw [21] (fun iv wr => ∃ k : Nat, k ≤ ys.length ∧ iv = .int .i64 (k : Int) ∧ wr.ownsRow w.heap.size 5 1 v xs.length (u8s (joinN xs ys k)) ∧ Below w.heap.size w wr) (fun iv _ => ys.length - (intOf iv).toNat)
  case atStart => exact ⟨0, Nat.zero_le _, rfl, own_mono hown hb0.size, hB1⟩
  case round =>
    clear hown hb1 hB1 hb0
    obtain ⟨k, hk, rfl, hown, hBr⟩ := hrel
    by_cases hlt : k < ys.length
    · obtain ⟨a, rfl, hS, hc⟩ := (hyw.hold (w' := wr) (fun p hp => hBr.cell hp)).get hlt
      have hkx : k < xs.length := by have := HLEN.out; omega
      obtain ⟨g, cv, rfl, hg, hgl⟩ := own_cons hown (by omega)
      have hkj : k < (joinN xs ys k).length := by rw [joinN_len]; omega
      have eg : (joinN xs ys k).getD k 0 = (joinN xs ys k)[k] := by simp [hkj]
      have eg2 : ys.getD k 0 = ys[k] := by simp [hlt]
      have hxb := HALL.out k (joinN xs ys k)[k] (List.getElem_mem hkj)
      have hyb := HB'.out ys[k] (List.getElem_mem hlt)
      have hor := or_bytes hxb hyb
      have hse : joinN xs ys (k + 1) = (joinN xs ys k).set k ((joinN xs ys k)[k] ||| ys[k]) := by rw [← eg, ← eg2]; rfl
      have hu := u8s_get hkj
      obtain ⟨x, hxx⟩ : ∃ x, (joinN xs ys k)[k] = x := ⟨_, rfl⟩
      obtain ⟨y, hyy⟩ : ∃ y, ys[k] = y := ⟨_, rfl⟩
      rw [hxx, hyy] at hor hse
      rw [hxx] at hu
      rw [hyy] at hc
      have hcD := own_cell hown hu
      have hfD : wr.frozen? ⟨g, k, none⟩ = false := hown.frozenAt k
      have HSE := Lib.hid hse
      have hkI : (k : Int) < (ys.length : Int) := by omega
      have hkI2 : (k : Int) < (xs.length : Int) := by omega
      obtain ⟨z, hz⟩ : ∃ z : Nat, x ||| y = z := ⟨_, rfl⟩
      rw [hz] at hor
      have HZ := Lib.hid hz
      have HOWN := Lib.hid hown
      clear hse hu hxx hyy eg eg2 hxb hyb hz hown hkj
      go_wp2
      go_roundw
      case rel =>
        refine ⟨k + 1, by omega, by go_num, ?_, hBr.setCell hg _⟩
        rw [HSE.out, HZ.out, ← u8s_set]
        exact (World.ownsRow.stored HOWN.out k _).1
      case measure => simp [intOf]; omega
    · obtain rfl : k = ys.length := by omega
      go_wp2
      refine bodyPost_ret (v := .tuple #[v, .int .i64 0]) (by simp [results, Try.results22, go_sem]) rfl ⟨_, rfl, hown, hBr⟩
end Go.Proofs.Ytpeafahajpfcbaa
