/- What adding, taking away and comparing digit by digit come to: plain mathematics. -/
import Derived.Test.YtfaocjgelhefjaaLists
namespace Go.Proofs.Ytfaocjgelhefjaa
set_option linter.unusedVariables false

theorem mod_up (a i : Nat) : a % 10 ^ (i + 1) = a % 10 ^ i + 10 ^ i * (a / 10 ^ i % 10) := by
  rw [Nat.pow_succ, Nat.mod_mul]

theorem mod_all {a i : Nat} (h : (digs a).length ≤ i) : a % 10 ^ i = a :=
  Nat.mod_eq_of_lt (Nat.lt_of_lt_of_le (lt_pow_digs a) (Nat.pow_le_pow_right (by omega) h))

theorem digit_high {a i : Nat} (h : (digs a).length ≤ i) : (digs a).getD i 0 = 0 := by
  simp [List.getD, List.getElem?_eq_none h]

theorem digit_lt (a i : Nat) : (digs a).getD i 0 < 10 := by rw [digs_get]; omega

/-- One digit more of a sum. -/
theorem add_step {a b i cy da db : Nat} {ds : List Nat} (hl : ds.length = i) (ha : (digs a).getD i 0 = da) (hb : (digs b).getD i 0 = db)
    (h : val ds + cy * 10 ^ i = a % 10 ^ i + b % 10 ^ i) :
    val (ds ++ [(da + db + cy) % 10]) + (da + db + cy) / 10 * 10 ^ (i + 1) = a % 10 ^ (i + 1) + b % 10 ^ (i + 1) := by
  rw [digs_get] at ha hb
  rw [val_snoc, hl, mod_up a, mod_up b, ha, hb]
  have h1 : 10 ^ i * ((da + db + cy) % 10) + (da + db + cy) / 10 * 10 ^ (i + 1) = 10 ^ i * (da + db + cy) := by
    rw [Nat.pow_succ, Nat.mul_comm ((da + db + cy) / 10), Nat.mul_assoc, ← Nat.mul_add, Nat.mod_add_div]
  have h2 : 10 ^ i * (da + db + cy) = 10 ^ i * da + 10 ^ i * db + cy * 10 ^ i := by
    rw [Nat.mul_add, Nat.mul_add, Nat.mul_comm cy]
  omega

theorem add_end {a b i : Nat} {ds : List Nat} (ha : (digs a).length ≤ i) (hb : (digs b).length ≤ i)
    (h : val ds + 0 * 10 ^ i = a % 10 ^ i + b % 10 ^ i) : val ds = a + b := by
  rw [mod_all ha, mod_all hb] at h
  omega

/-- One digit more of a difference, where nothing is borrowed. -/
theorem sub_step {a b i bw da db : Nat} {ds : List Nat} (hl : ds.length = i) (ha : (digs a).getD i 0 = da) (hb : (digs b).getD i 0 = db)
    (hle : db + bw ≤ da) (h : val ds + b % 10 ^ i = a % 10 ^ i + bw * 10 ^ i) :
    val (ds ++ [da - db - bw]) + b % 10 ^ (i + 1) = a % 10 ^ (i + 1) + 0 * 10 ^ (i + 1) := by
  rw [digs_get] at ha hb
  rw [val_snoc, hl, mod_up a, mod_up b, ha, hb]
  have h1 : 10 ^ i * da = 10 ^ i * (da - db - bw) + 10 ^ i * db + bw * 10 ^ i := by
    rw [Nat.mul_comm bw, ← Nat.mul_add, ← Nat.mul_add]
    congr 1; omega
  omega

/-- Likewise, where ten are borrowed. -/
theorem sub_borrow {a b i bw da db : Nat} {ds : List Nat} (hl : ds.length = i) (ha : (digs a).getD i 0 = da) (hb : (digs b).getD i 0 = db)
    (hlt : da < db + bw) (hd : db < 10) (hw : bw ≤ 1) (h : val ds + b % 10 ^ i = a % 10 ^ i + bw * 10 ^ i) :
    val (ds ++ [da + 10 - db - bw]) + b % 10 ^ (i + 1) = a % 10 ^ (i + 1) + 1 * 10 ^ (i + 1) := by
  rw [digs_get] at ha hb
  rw [val_snoc, hl, mod_up a, mod_up b, ha, hb]
  have h1 : 10 ^ i * da + 1 * 10 ^ (i + 1) = 10 ^ i * (da + 10 - db - bw) + 10 ^ i * db + bw * 10 ^ i := by
    rw [Nat.mul_comm bw, Nat.one_mul, Nat.pow_succ, ← Nat.mul_add, ← Nat.mul_add, ← Nat.mul_add]
    congr 1; omega
  omega

theorem sub_end {a b i bw : Nat} {ds : List Nat} (hab : b ≤ a) (hi : i = (digs a).length) (hl : ds.length = i) (hd : ∀ d ∈ ds, d < 10) (hw : bw ≤ 1)
    (h : val ds + b % 10 ^ i = a % 10 ^ i + bw * 10 ^ i) : val ds = a - b := by
  subst hi
  have h1 := lt_pow_digs a
  rw [mod_all (Nat.le_refl _), Nat.mod_eq_of_lt (Nat.lt_of_le_of_lt hab h1)] at h
  have h2 := val_lt ds hd
  rw [hl] at h2
  rcases Nat.eq_zero_or_pos bw with rfl | hp
  · omega
  · have : bw = 1 := by omega
    subst this
    omega

/-- Held against each other from the upper end: as far as all digits are the same. -/
theorem same_up {a b k : Nat} (h : a / 10 ^ (k + 1) = b / 10 ^ (k + 1)) (hd : (digs a).getD k 0 = (digs b).getD k 0) : a / 10 ^ k = b / 10 ^ k := by
  rw [digs_get, digs_get] at hd
  rw [Nat.pow_succ, ← Nat.div_div_eq_div_mul, ← Nat.div_div_eq_div_mul] at h
  omega

theorem less_up {a b k : Nat} (h : a / 10 ^ (k + 1) = b / 10 ^ (k + 1)) (hd : (digs a).getD k 0 < (digs b).getD k 0) : a < b := by
  rw [digs_get, digs_get] at hd
  rw [Nat.pow_succ, ← Nat.div_div_eq_div_mul, ← Nat.div_div_eq_div_mul] at h
  have h1 : a / 10 ^ k < b / 10 ^ k := by omega
  exact Nat.lt_of_not_le fun hle => absurd (Nat.div_le_div_right (c := 10 ^ k) hle) (by omega)

theorem high_same {a b m : Nat} (ha : (digs a).length ≤ m) (hb : (digs b).length ≤ m) : a / 10 ^ m = b / 10 ^ m := by
  have h : ∀ {n : Nat}, (digs n).length ≤ m → n / 10 ^ m = 0 := fun {n} hn =>
    Nat.div_eq_of_lt (Nat.lt_of_lt_of_le (lt_pow_digs n) (Nat.pow_le_pow_right (by omega) hn))
  rw [h ha, h hb]

/-- Read from the upper end, a number comes back. -/
theorem read_up (a k : Nat) : 10 * (a / 10 ^ (k + 1)) + (digs a).getD k 0 = a / 10 ^ k := by
  rw [digs_get, Nat.pow_succ, ← Nat.div_div_eq_div_mul]
  omega
end Go.Proofs.Ytfaocjgelhefjaa
