/- A region by one walk, beside guards that are not decided: what is not carried out leaves nothing; and a region in the order of its text. -/
import Derived.Test.YtcaejanfhchacaaSeq
namespace Go.Proofs.Ytcaejanfhchacaa
open Go.RowKit
set_option linter.unusedVariables false
section
variable {P : Program} {ops : Array Oper} {bar : List Nat} {S : Nat → World → Prop} {i : Nat} {o : Oper} {rest : List Oper} {a : Act} {F : Act → Prop}
/-- Carried out if G. -/
theorem SeqS.maybe (G : Bool) (v : Value) (hw : Region.wanted o (yielded ops a.tmps) = G) (hb : bar.contains i = false) (hy : G = true → ∀ p w, S p w → (execOp a.eval o).run P w = .ok (.value v) w)
    (h : SeqS P ops bar S (i + 1) rest (a.put o.dst (bif G then v else undef)) F) : SeqS P ops bar S i (o :: rest) a F := by
  cases G with
  | true => exact .take v hw hb (hy rfl) h
  | false => exact .skip hw hb h
theorem SeqS.maybeCall (G : Bool) {f : FuncId} {args : Array Value} (v : Value) (hk : ∀ p w, S p w → Calls P f args w fun e w' => e = .returned v ∧ S p w') (hw : Region.wanted o (yielded ops a.tmps) = G) (hb : bar.contains i = false) (he : G = true → ∀ w, (execOp a.eval o).run P w = .ok (.enter f args) w)
    (h : SeqS P ops bar S (i + 1) rest (a.put o.dst (bif G then v else undef)) F) : SeqS P ops bar S i (o :: rest) a F := by
  cases G with
  | true => exact .call hk hw hb (he rfl) h
  | false => exact .skip hw hb h

theorem seq_list {Q : Exit → Act → World → Prop} {T : World → Prop} : ∀ (l : List Oper) (i : Nat) (a : Act) (w : World) (F : Act → Prop), T w → SeqS P ops [] (fun _ => T) i l a F → (∀ A w', F A → T w' → Q .normal A w') → wpList P ops Q l a w
  | [], _, a, w, F, hT, h, hF => hF a w h hT
  | o :: l, i, a, w, F, hT, ⟨v, hd, h⟩, hF => by
    refine wpList_step fun K hK => ?_
    unfold Does at hd
    split
    · rename_i hwt
      rw [if_pos hwt] at hd
      refine Oper.wp_mono ?_ (wp_moved (Q := Q) rfl (hd 0 w hT (fun hm => by cases hm)))
      rintro a' w' ⟨⟨u, rfl, hu⟩, hS⟩
      rw [hu]
      exact hK _ _ (seq_list l (i + 1) _ w' F hS h hF)
    · rename_i hwt
      rw [if_neg hwt] at hd
      obtain ⟨rfl, -⟩ := hd
      exact hK _ _ (seq_list l (i + 1) _ w F hT h hF)
/-- A REGION IN THE ORDER OF ITS TEXT. -/
theorem region_text {Q : Exit → Act → World → Prop} {id : Nat} {l : List Oper} {a : Act} {w : World} (T : World → Prop) (hT : T w) (h : SeqS P l.toArray [] (fun _ => T) 0 l a (fun A => ∀ w', T w' → Q .normal A w')) : (Code.region id l.toArray false).wp P Q a w :=
  wp_region_lit (seq_list l 0 a w _ hT h (fun A w' hF hT' => hF w' hT'))
end
end Go.Proofs.Ytcaejanfhchacaa
