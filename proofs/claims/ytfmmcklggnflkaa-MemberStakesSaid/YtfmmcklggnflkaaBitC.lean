/- Layer 6 (bits): a field packed, unpacked, two joined. By contracts. -/
import Derived.Test.YtfmmcklggnflkaaBitB
import Derived.Deep.CutBlock
namespace Go.Proofs.Ytfmmcklggnflkaa
open Go.RowKit
set_option linter.unusedVariables false
set_option linter.unusedSimpArgs false

/-- Whether each is on, as values. -/
def bools (l : List Bool) : List Value := l.map Value.bool
theorem bools_len (l : List Bool) : (bools l).length = l.length := by simp [bools]
theorem bools_get {l : List Bool} {k : Nat} (h : k < l.length) : (bools l)[k]? = some (.bool l[k]) := by simp [bools, h]
theorem bools_set (l : List Bool) (j : Nat) (b : Bool) : (bools l).set j (.bool b) = bools (l.set j b) := by unfold bools; rw [List.map_set]
theorem bools_snoc (l : List Bool) (b : Bool) : bools (l ++ [b]) = bools l ++ [.bool b] := by simp [bools]
theorem bools_zero (n : Nat) : (madeCells #[Value.bool false] n).toList = bools (List.replicate n false) := by
  rw [toList_madeCells_one]; simp [bools]
theorem u8s_zero (n : Nat) : (madeCells #[Value.int .u8 0] n).toList = u8s (List.replicate n 0) := by
  rw [toList_madeCells_one]; simp [u8s]
theorem bool_info : (Try.prog.info? 4).map (fun i => (i.zero, i.size, i.bytes)) = some (some (.bool false), 1, 1) := by kernel_rfl

/-- A row of zeros, made just now. -/
theorem own_zeros {B : Nat} (w : World) (hB : B ≤ w.heap.size) (n : Nat) (hn : n ≤ maxLen) : (w.alloc (.cells (madeCells #[Value.int .u8 0] n) 5)).ownsRow B 5 1 (.slice (some ⟨w.heap.size, 0, none⟩) n n) n (u8s (List.replicate n 0)) := by
  rw [← u8s_zero]
  have h := World.ownsRow_lit w (madeCells #[Value.int .u8 0] n) (base := B) (e := 5) (size := 1) n hB hn (by rw [size_madeCells]; simp)
  simpa using h
theorem own_falses {B : Nat} (w : World) (hB : B ≤ w.heap.size) (n : Nat) (hn : n ≤ maxLen) : (w.alloc (.cells (madeCells #[Value.bool false] n) 4)).ownsRow B 4 1 (.slice (some ⟨w.heap.size, 0, none⟩) n n) n (bools (List.replicate n false)) := by
  rw [← bools_zero]
  have h := World.ownsRow_lit w (madeCells #[Value.bool false] n) (base := B) (e := 4) (size := 1) n hB hn (by rw [size_madeCells]; simp)
  simpa using h

/-- The first k bits, and nothing behind them. -/
def upto (xs : List Nat) (m k : Nat) : List Bool := bitsOf xs k ++ List.replicate (m - k) false
theorem upto_zero (xs : List Nat) (m : Nat) : upto xs m 0 = List.replicate m false := by simp [upto, bitsOf]
theorem upto_full (xs : List Nat) (m : Nat) : upto xs m m = bitsOf xs m := by simp [upto]
theorem upto_succ (xs : List Nat) {m k : Nat} (h : k < m) : (upto xs m k).set k (bitAt xs k) = upto xs m (k + 1) := by
  unfold upto
  rw [List.set_append_right _ _ (by rw [bitsOf_len]; exact Nat.le_refl _), bitsOf_len, Nat.sub_self, bitsOf_succ, List.append_assoc]
  congr 1
  rw [show m - k = (m - (k + 1)) + 1 by omega, List.replicate_succ]
  rfl

/-- A field in the midst of being packed: the first k of the list are in. -/
def packN (l : List Bool) : Nat → List Nat
  | 0 => List.replicate ((l.length + 7) / 8) 0
  | k + 1 => if l.getD k false then setBit (packN l k) k else packN l k
/-- A list's field. -/
def packed (l : List Bool) : List Nat := packN l l.length
theorem packN_len (l : List Bool) (k : Nat) : (packN l k).length = (l.length + 7) / 8 := by
  induction k with
  | zero => simp [packN]
  | succ k ih => unfold packN; split <;> simp [setBit_len, ih]
theorem packN_all (l : List Bool) (k : Nat) : ∀ x ∈ packN l k, x < 256 := by
  induction k with
  | zero => intro x hx; rw [List.eq_of_mem_replicate hx]; omega
  | succ k ih => unfold packN; split; exact setBit_all ih; exact ih
theorem packN_at (l : List Bool) (k : Nat) (h : k ≤ l.length) (i : Nat) : bitAt (packN l k) i = (decide (i < k) && l.getD i false) := by
  induction k with
  | zero =>
    simp only [packN, bitAt]
    have e : (List.replicate ((l.length + 7) / 8) 0).getD (i / 8) 0 = 0 := by rw [List.getD_eq_getElem?_getD, List.getElem?_replicate]; split <;> rfl
    rw [e, Nat.zero_testBit]
    simp
  | succ k ih =>
    have ih := ih (by omega)
    unfold packN
    split
    · rename_i hb
      rw [setBit_at (by rw [packN_len]; omega), ih]
      by_cases e : i = k
      · subst e; rw [hb]; simp
      · have : (i < k + 1) ↔ i < k := by omega
        simp [this, e]
    · rename_i hb
      rw [ih]
      by_cases e : i = k
      · subst e
        have : l.getD i false = false := by simpa using hb
        rw [this]; simp
      · have : (i < k + 1) ↔ i < k := by omega
        simp [this]
theorem packed_len (l : List Bool) : (packed l).length = (l.length + 7) / 8 := packN_len l _
theorem packed_all (l : List Bool) : ∀ x ∈ packed l, x < 256 := packN_all l _
theorem packed_at (l : List Bool) (i : Nat) : bitAt (packed l) i = l.getD i false := by
  unfold packed
  rw [packN_at l _ (Nat.le_refl _)]
  by_cases h : i < l.length
  · simp [h]
  · rw [getD_past _ (by omega)]; simp
theorem packed_is {l : List Bool} {ys : List Nat} (hl : ys.length = (l.length + 7) / 8) (hb : ∀ x ∈ ys, x < 256) (h : ∀ k, bitAt ys k = l.getD k false) : ys = packed l :=
  bits_ext (by rw [hl, packed_len]) hb (packed_all l) fun k => by rw [h, packed_at]
theorem packed_field {l : List Bool} (h : l.length ≤ 256) : IsField (packed l) l.length := field_of h (packed_len l) (packed_at l)

theorem own_mono {w : World} {B B' : Nat} {e : TypeId} {z : Nat} {v : Value} {n : Nat} {xs : List Value} (h : w.ownsRow B e z v n xs) (hb : B' ≤ B) : w.ownsRow B' e z v n xs :=
  ⟨h.1, h.2.imp id fun ⟨g, cap, cur, h1, h2, h3⟩ => ⟨g, cap, cur, h1, Nat.le_trans hb h2, h3⟩⟩

/-- Bytes in the midst of being joined: the first m are. -/
def joinN (xs ys : List Nat) : Nat → List Nat
  | 0 => xs
  | m + 1 => (joinN xs ys m).set m ((joinN xs ys m).getD m 0 ||| ys.getD m 0)
def joined (xs ys : List Nat) : List Nat := joinN xs ys ys.length
theorem joinN_len (xs ys : List Nat) (m : Nat) : (joinN xs ys m).length = xs.length := by
  induction m with
  | zero => rfl
  | succ m ih => simp [joinN, ih]
theorem joinN_get (xs ys : List Nat) (m : Nat) (h : m ≤ xs.length) (j : Nat) : (joinN xs ys m).getD j 0 = if j < m then xs.getD j 0 ||| ys.getD j 0 else xs.getD j 0 := by
  induction m with
  | zero => simp [joinN]
  | succ m ih =>
    have ih := ih (by omega)
    unfold joinN
    rw [getD_set _ _ _ _ (by rw [joinN_len]; omega)]
    by_cases e : j = m
    · subst e
      rw [if_pos rfl, if_pos (by omega), ih, if_neg (by omega)]
    · rw [if_neg e, ih]
      have : j < m ↔ j < m + 1 := by omega
      simp [this]
theorem joinN_all {xs ys : List Nat} (hx : ∀ x ∈ xs, x < 256) (hy : ∀ x ∈ ys, x < 256) (m : Nat) : ∀ x ∈ joinN xs ys m, x < 256 := by
  induction m with
  | zero => exact hx
  | succ m ih => exact set_all ih (or_lt (getD_byte ih m) (getD_byte hy m))
theorem joined_len (xs ys : List Nat) : (joined xs ys).length = xs.length := joinN_len xs ys _
theorem joined_at {xs ys : List Nat} (hl : xs.length = ys.length) (k : Nat) : bitAt (joined xs ys) k = (bitAt xs k || bitAt ys k) := by
  unfold joined bitAt
  rw [joinN_get _ _ _ (by omega)]
  by_cases h : k / 8 < ys.length
  · rw [if_pos h, Nat.testBit_or]
  · rw [if_neg h, getD_past 0 (show ys.length ≤ k / 8 by omega), Nat.zero_testBit, Bool.or_false]
theorem joined_field {xs ys : List Nat} {n : Nat} (hx : IsField xs n) (hy : IsField ys n) : IsField (joined xs ys) n :=
  ⟨hx.1, by rw [joined_len]; exact hx.2.1, fun k hk => by rw [joined_at (by rw [hx.2.1, hy.2.1]), hx.2.2 k hk, hy.2.2 k hk]; rfl⟩

end Go.Proofs.Ytfmmcklggnflkaa
