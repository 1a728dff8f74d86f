/- Bytes that come in with a law's arguments. -/
import Derived.Test.YtbahcbnnogdmfaaLaw
import Derived.Test.YtbahcbnnogdmfaaBytes
import Derived.Deep.Slices
import Derived.Deep.Fields
namespace Go.Proofs.Ytbahcbnnogdmfaa
open Go.ChangeShapes Go.WideShapes Go.ChangeAt Go.RowKit Go.Deep
set_option linter.unusedVariables false
set_option linter.unusedSimpArgs false

theorem i64_fits {a : Int} (h : (Lit.int .i64 a).wf = true) : -9223372036854775808 ≤ a ∧ a ≤ 9223372036854775807 := by
  simp only [Lit.wf, Bool.and_eq_true, decide_eq_true_eq] at h
  have e0 : IntKind.i64.min = -9223372036854775808 := by decide
  have e1 : IntKind.i64.max = 9223372036854775807 := by decide
  rw [e0, e1] at h
  exact h

section
variable {H : Type} {enc : TypeId × Value → H} {P : Program}
theorem u8_fits {a : Int} (h : (Lit.int .u8 a).wf = true) : 0 ≤ a ∧ a ≤ 255 := by
  simp only [Lit.wf, Bool.and_eq_true, decide_eq_true_eq] at h
  have e0 : IntKind.u8.min = 0 := by decide
  have e1 : IntKind.u8.max = 255 := by decide
  rw [e0, e1] at h
  exact h

/-- A list of bytes that comes in: its numbers, and where they lie. -/
theorem open_u8s {w : World} {base : Nat} {held : Bool} {t e : TypeId} {A : Option Addr} {n c : Nat} {d : DataW H} {p : List MemPlace} (ht : P.underlying t = some (.slice e)) (he : P.underlying e = some (.int .u8)) (hC : P.cellsOf e = 1)
    (h : DataW.Trod enc P w base (fun _ => true) held t (.slice A n c) d p) :
    ∃ ns : List Nat, n = ns.length ∧ (∀ x ∈ ns, x < 256) ∧ ns.length ≤ c ∧ c ≤ maxLen ∧ Row w w.heap.size A (ns.map fun (x : Nat) => Value.int .u8 (x : Int)) ∧ (A = none → c = 0) := by
  obtain ⟨fuel, hf⟩ := h
  rcases open_ints ht he hC hf with ⟨hcs, hx⟩ | ⟨a, len, cap, zs, hcs, _, hl, hm, hz, hx, hcell, hwz⟩
  · simp [Value.cells] at hcs
    obtain ⟨rfl, rfl, rfl⟩ := hcs
    exact ⟨[], rfl, by simp, Nat.le_refl _, Nat.zero_le _, Row.nil _ _ _, fun _ => rfl⟩
  · simp [Value.cells] at hcs
    obtain ⟨rfl, rfl, rfl⟩ := hcs
    simp only [if_true] at hz
    have hfit : ∀ z ∈ zs, ∃ x : Nat, z = (x : Int) ∧ x < 256 := fun z hz' => by
      have := u8_fits (hwz z hz')
      exact ⟨z.toNat, by omega, by omega⟩
    refine ⟨(zs.take n).map Int.toNat, by simp [hz]; omega, ?_, by simp [hz]; omega, hm, ?_, fun e => by cases e⟩
    · intro x hx'
      obtain ⟨z, hz', rfl⟩ := List.mem_map.1 hx'
      obtain ⟨y, rfl, hy⟩ := hfit z (List.mem_of_mem_take hz')
      simpa using hy
    · intro k v hv
      simp only [List.map_map, List.getElem?_map, Option.map_eq_some_iff] at hv
      obtain ⟨z, hz', rfl⟩ := hv
      rw [List.getElem?_take] at hz'
      by_cases hk : k < n
      · rw [if_pos hk] at hz'
        have hkl : k < zs.length := by omega
        have hc := hcell k hkl
        obtain ⟨y, rfl, hy⟩ := hfit z (List.mem_of_getElem? hz')
        have hg : zs.getD k 0 = (y : Int) := by simp [List.getD, hz']
        rw [hg] at hc
        refine ⟨a, rfl, ?_, by simpa using hc⟩
        have := World.block_lt_of_cell? w _ hc
        rwa [addr_block] at this
      · rw [if_neg hk] at hz'; cases hz'

/-- Bytes that come in, in a cell: which they are, and where they lie. -/
theorem open_u8cell {w : World} {base fuel : Nat} {held : Bool} {t e : TypeId} {v : Value} {x : DataW H × List MemPlace} (ht : P.underlying t = some (.slice e)) (he : P.underlying e = some (.int .u8)) (hC : P.cellsOf e = 1)
    (hf : DataW.trod enc P w base (fun _ => true) held fuel t [v] = some x) :
    ∃ (A : Option Addr) (ns : List Nat) (c : Nat), v = .slice A ns.length c ∧ (∀ x ∈ ns, x < 256) ∧ ns.length ≤ c ∧ c ≤ maxLen ∧ Row w w.heap.size A (ns.map fun (x : Nat) => Value.int .u8 (x : Int)) ∧ (A = none → c = 0) := by
  rcases open_ints ht he hC hf with ⟨hcs, hx⟩ | ⟨a, len, cap, zs, hcs, _, hl, hm, hz, hx, hcell, hwz⟩
  · simp at hcs
    subst hcs
    exact ⟨none, [], 0, rfl, by simp, Nat.le_refl _, Nat.zero_le _, Row.nil _ _ _, fun _ => rfl⟩
  · simp at hcs
    subst hcs
    have hT : DataW.Trod enc P w base (fun _ => true) held t (.slice (some a) len cap) x.1 x.2 := ⟨fuel, by simpa [Value.cells] using hf⟩
    obtain ⟨ns, hn, h1, h2, h3, h4, h5⟩ := open_u8s ht he hC hT
    subst hn
    exact ⟨some a, ns, cap, rfl, h1, h2, h3, h4, h5⟩
end

end Go.Proofs.Ytbahcbnnogdmfaa
