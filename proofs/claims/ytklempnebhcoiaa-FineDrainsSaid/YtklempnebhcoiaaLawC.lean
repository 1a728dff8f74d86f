/- Lists of yes and no that come in with a law's arguments. -/
import Derived.Test.YtklempnebhcoiaaLawB
namespace Go.Proofs.Ytklempnebhcoiaa
open Go.ChangeShapes Go.WideShapes Go.ChangeAt Go.RowKit Go.Deep
set_option linter.unusedVariables false
set_option linter.unusedSimpArgs false

section
variable {H : Type} {enc : TypeId × Value → H} {P : Program}
theorem open_bls {w : World} {base : Nat} {held : Bool} {t e : TypeId} {A : Option Addr} {n c : Nat} {d : DataW H} {p : List MemPlace} (ht : P.underlying t = some (.slice e)) (he : P.underlying e = some .bool) (hC : P.cellsOf e = 1)
    (h : DataW.Trod enc P w base (fun _ => true) held t (.slice A n c) d p) :
    ∃ l : List Bool, n = l.length ∧ l.length ≤ c ∧ c ≤ maxLen ∧ Row w w.heap.size A (l.map Value.bool) := by
  obtain ⟨fuel, hf⟩ := h
  rcases open_slice ht hf with ⟨hcs, _⟩ | ⟨a, len, cap, m, n', D, Pl, hcs, hb, hl, hm, hmm, hx, hi⟩
  · simp [Value.cells] at hcs
    obtain ⟨rfl, rfl, rfl⟩ := hcs
    exact ⟨[], rfl, Nat.le_refl _, Nat.zero_le _, Row.nil _ _ _⟩
  · simp [Value.cells] at hcs
    obtain ⟨rfl, rfl, rfl⟩ := hcs
    simp only [if_true] at hmm
    rw [hC] at hi
    have hone : ∀ i, i < n → ∃ b : Bool, w.cell? (a.add i) = some (.bool b) := by
      intro i hin
      obtain ⟨cs, hc, ht⟩ := hi i (by omega)
      obtain ⟨b, rfl, _⟩ := DataW.trod_bool he ht
      obtain ⟨_, hcl, hat⟩ := World.cells?_some hc
      have := hat 0 (by simp)
      rw [Addr.add_add, Nat.mul_one] at this
      exact ⟨b, by simpa using this⟩
    have hch := fun i : Fin n => hone i.1 i.2
    refine ⟨List.ofFn fun i : Fin n => (hch i).choose, by simp, by simpa using hl, hm, fun k v hv => ?_⟩
    rw [List.getElem?_map, List.getElem?_ofFn] at hv
    split at hv
    · rename_i hk
      simp at hv
      subst hv
      have hs := (hch ⟨k, hk⟩).choose_spec
      refine ⟨a, rfl, ?_, hs⟩
      have := World.block_lt_of_cell? w _ hs
      rwa [addr_block] at this
    · simp at hv
end
end Go.Proofs.Ytklempnebhcoiaa
