/- Standings, ticks and lists of ticks that come in with a law's arguments. -/
import Derived.Test.YtcggcnegagogkaaScoS
import Derived.Test.YtcggcnegagogkaaLawP
namespace Go.Proofs.Ytcggcnegagogkaa
open Go.ChangeShapes Go.WideShapes Go.ChangeAt Go.RowKit Go.Deep
set_option linter.unusedVariables false

section
variable {H : Type} {enc : TypeId × Value → H} {w : World} {base : Nat} {held : Bool}
set_option maxRecDepth 100000 in
theorem open_std {r : Reach} {b0 : Nat} {v : Value} {d : DataW H} {pl : List MemPlace}
    (hv : Value.okWide Try.prog w r b0 48 v) (h : DataW.Trod enc Try.prog w base (fun _ => true) held 48 v d pl) : ∃ s : Std, v = .agg s.vals ∧ s.Fits := by
  obtain ⟨x0, x1, x2, x3, y0, y1, y2, y3, m, rfl, rfl, rfl, h0, h1, h2, h3⟩ := Joins.open_agg4 Try.underlying48 (by kernel_rfl) (by kernel_rfl) hv h
  obtain ⟨a0, e0, rfl, u0⟩ := DataW.trod_int Try.underlying26 h0
  obtain ⟨a1, e1, rfl, u1⟩ := DataW.trod_int Try.underlying26 h1
  obtain ⟨a2, e2, rfl, u2⟩ := DataW.trod_int Try.underlying26 h2
  obtain ⟨a3, e3, rfl, u3⟩ := DataW.trod_int Try.underlying3 h3
  simp only [List.cons.injEq, and_true] at e0 e1 e2 e3
  have b0 := u64_fits u0
  have b1 := u64_fits u1
  have b2 := u64_fits u2
  have b3 := i64_bounds u3
  exact ⟨⟨a0.toNat, a1.toNat, a2.toNat, a3⟩, by simp only [Std.vals]; rw [Int.toNat_of_nonneg b0.1, Int.toNat_of_nonneg b1.1, Int.toNat_of_nonneg b2.1, e0, e1, e2, e3], by show a0.toNat < _; omega, by show a1.toNat < _; omega, by show a2.toNat < _; omega, b3.1, b3.2⟩
/-- Ticks lie one behind the other from an address on, in a block below B. -/
def TicksIn (w : World) (B : Nat) (A : Option Addr) (l : List (Bool × Int)) : Prop :=
  ∀ k x, l[k]? = some x → ∃ a, A = some a ∧ a.block < B ∧ w.cell? (a.add (k * 2)) = some (.bool x.1) ∧ w.cell? (a.add (k * 2 + 1)) = some (.int .i64 x.2)
theorem TicksIn.below {w w' : World} {B : Nat} {A : Option Addr} {l : List (Bool × Int)} (h : TicksIn w B A l) (hb : Below B w w') : TicksIn w' B A l := fun k x hx => by
  obtain ⟨a, hA, hB, c0, c1⟩ := h k x hx
  exact ⟨a, hA, hB, (hb.cell (by rw [addr_block]; exact hB)).trans c0, (hb.cell (by rw [addr_block]; exact hB)).trans c1⟩
end
end Go.Proofs.Ytcggcnegagogkaa
