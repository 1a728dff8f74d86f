/- Layer 13 (budget): what a tick issues: plain mathematics, nothing of a program. -/
import Derived.Test.YtkimgkpjbfijmaaParM
import Derived.Test.YtkimgkpjbfijmaaMathR
namespace Go.Proofs.Ytkimgkpjbfijmaa
set_option linter.unusedVariables false

/-- n is the budget of so much at a rate; r its root, k what is left of the division. -/
structure Bud (rate a n r k : Nat) : Prop where
  root : IsRoot a r
  part : a * rate = n * (1048576 * r) + k
  left : k < 1048576 * r
theorem bud_ex (rate : Nat) {a : Nat} (h : 0 < a) : ∃ n r k, Bud rate a n r k := by
  obtain ⟨r, hr⟩ := root_ex a
  have h1 : 1 ≤ r := hr.upto (by omega)
  refine ⟨a * rate / (1048576 * r), r, a * rate % (1048576 * r), hr, (Nat.div_add_mod' _ _).symm, Nat.mod_lt _ (by omega)⟩
theorem Bud.pos {rate a n r k : Nat} (b : Bud rate a n r k) (h : 0 < a) : 1 ≤ r := b.root.upto (by omega)
theorem Bud.root_le {rate a n r k : Nat} (b : Bud rate a n r k) (h : a ≤ 4611686018427387904) : r ≤ 2147483648 := by
  have := b.root.less (m := 2147483649) (by omega)
  omega
theorem Bud.by_lt {rate a n r k : Nat} (b : Bud rate a n r k) (h : a ≤ 4611686018427387904) : 1048576 * r < 18446744073709551616 := by
  have := b.root_le h
  omega
/-- A budget has far fewer than 64 bits. -/
theorem Bud.most {rate a n r k : Nat} (b : Bud rate a n r k) (h0 : 0 < a) (h : a ≤ 4611686018427387904) (hr : rate ≤ 4294967296) : n ≤ 17592186044416 := by
  have h1 := b.pos h0
  have h2 := b.root_le h
  have h3 := b.root.high
  have e3 : (r + 1) * (r + 1) = r * r + 2 * r + 1 := by rw [Nat.add_mul, Nat.mul_add]; omega
  have h4 : a * rate ≤ (r * (r + 2)) * 4294967296 := Nat.mul_le_mul (by rw [Nat.mul_add]; omega) hr
  have h5 : n * (1048576 * r) ≤ (4096 * (r + 2)) * (1048576 * r) := by
    refine Nat.le_trans (by rw [b.part]; omega : n * (1048576 * r) ≤ a * rate) (Nat.le_trans h4 (Nat.le_of_eq ?_))
    rw [show 4294967296 = 4096 * 1048576 from rfl]
    ac_rfl
  have h6 := Nat.le_of_mul_le_mul_right h5 (by omega)
  omega
theorem Bud.one {rate a n r k m s l : Nat} (b : Bud rate a n r k) (c : Bud rate a m s l) (h0 : 0 < a) : n = m := by
  obtain rfl := b.root.one c.root
  have h1 := b.pos h0
  have hp : 0 < 1048576 * r := by omega
  have e1 : a * rate / (1048576 * r) = n := by rw [b.part, Nat.add_comm, Nat.add_mul_div_right _ _ hp, Nat.div_eq_of_lt b.left]; omega
  have e2 : a * rate / (1048576 * r) = m := by rw [c.part, Nat.add_comm, Nat.add_mul_div_right _ _ hp, Nat.div_eq_of_lt c.left]; omega
  omega
/-- It never falls as the rate rises. -/
theorem Bud.rises {rate rate' a n r k m s l : Nat} (b : Bud rate a n r k) (c : Bud rate' a m s l) (h0 : 0 < a) (h : rate ≤ rate') : n ≤ m := by
  obtain rfl := b.root.one c.root
  have h1 := b.pos h0
  have hp : 0 < 1048576 * r := by omega
  have h2 : a * rate ≤ a * rate' := Nat.mul_le_mul_left _ h
  have h3 : n * (1048576 * r) < (m + 1) * (1048576 * r) := by
    rw [Nat.add_mul, Nat.one_mul]
    have := b.part; have := c.part; have := c.left
    omega
  have := Nat.lt_of_mul_lt_mul_right h3
  omega
/-- It is never above what the rate says for all, down. -/
theorem Bud.all {rate a n r k q l : Nat} (b : Bud rate a n r k) (h0 : 0 < a) (h : a * rate = q * 1048576 + l) (hl : l < 1048576) : n ≤ q := by
  have h1 := b.pos h0
  have h2 : n * 1048576 ≤ n * (1048576 * r) := Nat.mul_le_mul_left _ (by omega)
  have h3 : n * 1048576 < (q + 1) * 1048576 := by
    rw [Nat.add_mul, Nat.one_mul]
    have := b.part
    omega
  have := Nat.lt_of_mul_lt_mul_right h3
  omega

namespace Par
/-- Parameters at another rate. -/
def rated (p : Par) (n : Nat) : Par := { p with rate := n }
theorem Right.rated {p : Par} {T n : Nat} (h : Right p T) (hn : n ≤ 4294967296) : Right (p.rated n) T := by
  obtain ⟨s, t, t2, t3⟩ := h
  refine ⟨?_, ?_, t2, t3⟩
  · obtain ⟨_, _, _, _, _, _, _, _, _, _, _, _, _, _, _, _, _, _, _, _, _, _, _, _, _, _, _, _, _, _, _, _, _, _, _, _, _, _, _, _, _, _, _, _, _⟩ := s
    constructor <;> assumption
  · exact ⟨t.pos, t.most, t.yes, t.no⟩
theorem Fits.rated {p : Par} {n : Nat} (h : Fits p) (hn : n < 18446744073709551616) : Fits (p.rated n) := by
  obtain ⟨h1, h2⟩ := h
  refine ⟨?_, h2⟩
  simp only [Par.us, Par.rated, List.mem_cons, List.not_mem_nil, or_false] at h1 ⊢
  rintro x (rfl | rfl | rfl | rfl | rfl | rfl | rfl | rfl | rfl | rfl | rfl | rfl | rfl | rfl)
  all_goals first | exact hn | exact h1 _ (by simp)
end Par
end Go.Proofs.Ytkimgkpjbfijmaa
