/- A region that draws its order and makes memory: a new list of several that are known. -/
import Derived.Test.YtcaejanfhchacaaSeqV
namespace Go.Proofs.Ytcaejanfhchacaa
open Go.RowKit
set_option linter.unusedVariables false
set_option linter.unusedSimpArgs false

section
variable {P : Program} {ops : Array Oper} {i : Nat} {mk : List Nat} {S : World → Prop} {o : Oper} {rest : List Oper} {A : Vals → Act} {R : Told} {F : (Vals → Act) → Told → Prop}
/-- A new list of n, made of what is known. -/
theorem SeqV.rows (n B : Nat) (ob : Obj) (hw : ∀ val, Region.wanted o (yielded ops (A val).tmps) = true) (hm : mk.contains i = false) (hB : ∀ w, S w → B ≤ w.heap.size) (hSa : ∀ w, S w → S (w.alloc ob))
    (hy : ∀ val w, (execOp (A val).eval o).run P w = .ok (.value (.slice (some ⟨w.heap.size, 0, none⟩) n n)) (w.alloc ob))
    (h : SeqV P ops mk S (i + 1) rest (fun val => (A val).put o.dst (val i)) (updT R i fun _ v w => ∃ g, v = .slice (some ⟨g, 0, none⟩) n n ∧ B ≤ g ∧ w.heap[g]? = some ob) F) : SeqV P ops mk S i (o :: rest) A R F :=
  ⟨fun _ v w => ∃ g, v = .slice (some ⟨g, 0, none⟩) n n ∧ B ≤ g ∧ w.heap[g]? = some ob, fun val => val i, ⟨fun _ _ _ _ _ h => h, fun _ _ _ h => h, fun _ v w w' ⟨g, h1, h2, h3⟩ hb => ⟨g, h1, h2, by rw [hb.block g (Array.getElem?_eq_some_iff.1 h3).1]; exact h3⟩, fun _ _ _ => rfl, fun val w hS hR => by
    rw [if_pos (hw val)]
    unfold Oper.wp
    rw [hy val w]
    exact ⟨_, rfl, ⟨_, rfl, hB w hS, heap_alloc_new w ob⟩, hSa w hS, (Below.refl _ _).alloc (Nat.le_refl _) _, fun hc => by rw [hm] at hc; cases hc⟩⟩, h⟩
/-- It yields something of which r is said, and nothing is written. -/
theorem SeqV.some (r : Vals → Value → World → Prop) (hw : ∀ val, Region.wanted o (yielded ops (A val).tmps) = true) (hm : mk.contains i = false) (hn : ∀ val val', (∀ j, waits o j = true → val j = val' j) → ∀ v w, r val v w → r val' v w) (hs : ∀ val v w w', r val v w → Below w.heap.size w w' → r val v w')
    (hy : ∀ val w, S w → (∀ j, waits o j = true → R j val (val j) w) → ∃ v, (execOp (A val).eval o).run P w = .ok (.value v) w ∧ r val v w)
    (h : SeqV P ops mk S (i + 1) rest (fun val => (A val).put o.dst (val i)) (updT R i r) F) : SeqV P ops mk S i (o :: rest) A R F :=
  ⟨r, fun val => val i, ⟨hn, fun _ _ _ h => h, hs, fun _ _ _ => rfl, fun val w hS hR => by
    rw [if_pos (hw val)]
    unfold Oper.wp
    obtain ⟨v, hv, hr⟩ := hy val w hS hR
    rw [hv]
    exact ⟨v, rfl, hr, hS, Below.refl _ _, fun hc => by rw [hm] at hc; cases hc⟩⟩, h⟩
end
end Go.Proofs.Ytcaejanfhchacaa
