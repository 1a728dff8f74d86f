/- A standing written word by word, and handed back beside words. -/
import Derived.Test.YtklempnebhcoiaaScoS
namespace Go.Proofs.Ytklempnebhcoiaa
open Go.RowKit
set_option linter.unusedVariables false
set_option linter.unusedSimpArgs false

theorem std_zero_new (w : World) (T : TypeId) : StdAt (w.alloc (.cells #[.int .u64 0, .int .u64 0, .int .u64 0, .int .i64 0] T)) w.heap.size Std.none T := StdAt.new w Std.none T rfl
section
variable {ops : Array Oper} {rest : List Oper} {o : Oper} {a : Act} {w : World} {Q : Exit → Act → World → Prop}
theorem StdAt.frz {w : World} {b : Nat} {s : Std} {T : TypeId} (h : StdAt w b s T) (k : Nat) : w.frozen? ⟨b, k, none⟩ = false := frozen_of_row w b k _ _ h
/-- A balance into its block; the world behind it has a new name. -/
theorem store_bal (x y : Operand) (ho : o.op = .store 22 x y) (hgd : Region.wanted o (yielded ops a.tmps) = true) (g : Nat) (s : Std) (T : TypeId) (v : Nat) (hx : a.eval x = .pointer (some ⟨g, 0, none⟩)) (hy : a.eval y = .int .u64 (v : Int)) (hS : StdAt w g s T)
    (h : ∀ w', StdAt w' g ⟨v, s.eff, s.score, s.streak⟩ T → Below g w w' → w'.heap.size = w.heap.size → (∀ k, k ≠ g → w'.heap[k]? = w.heap[k]?) → wpList Try.prog ops Q rest (a.put o.dst undef) w') : wpList Try.prog ops Q (o :: rest) a w :=
  wpList_step fun K hK => by
    rw [if_pos hgd]
    have hc := hS.c0
    have hf := hS.frz 0
    have hK' : K (a.put o.dst undef) (w.setCell ⟨g, 0, none⟩ (.int .u64 (v : Int))) := by
     refine hK _ _ (h _ ?_ (Below.setCell (p := ⟨g, 0, none⟩) (Below.refl g w) (Nat.le_refl _) _) (by simp) (fun k hk => heap_setCell_other _ _ _ _ hk))
     exact heap_setCell_same w g 0 _ _ _ hS
    unfold Oper.wp execOp
    simp only [ho, hx, hy]
    go_simp
    exact hK'
/-- Likewise a score. -/
theorem store_score (x y : Operand) (ho : o.op = .store 22 x y) (hgd : Region.wanted o (yielded ops a.tmps) = true) (g : Nat) (s : Std) (T : TypeId) (v : Nat) (hx : a.eval x = .pointer (some ⟨g, 2, none⟩)) (hy : a.eval y = .int .u64 (v : Int)) (hS : StdAt w g s T)
    (h : ∀ w', StdAt w' g ⟨s.bal, s.eff, v, s.streak⟩ T → Below g w w' → w'.heap.size = w.heap.size → (∀ k, k ≠ g → w'.heap[k]? = w.heap[k]?) → wpList Try.prog ops Q rest (a.put o.dst undef) w') : wpList Try.prog ops Q (o :: rest) a w :=
  wpList_step fun K hK => by
    rw [if_pos hgd]
    have hc := hS.c2
    have hf := hS.frz 2
    have hK' : K (a.put o.dst undef) (w.setCell ⟨g, 2, none⟩ (.int .u64 (v : Int))) := by
     refine hK _ _ (h _ ?_ (Below.setCell (p := ⟨g, 2, none⟩) (Below.refl g w) (Nat.le_refl _) _) (by simp) (fun k hk => heap_setCell_other _ _ _ _ hk))
     exact heap_setCell_same w g 2 _ _ _ hS
    unfold Oper.wp execOp
    simp only [ho, hx, hy]
    go_simp
    exact hK'
end
section
variable {fn : Func} {s k j : Nat} {T : TypeId} {x : Std} {g : Nat} {tmps : Array Value} {w : World}
theorem res_std2 (h : fn.results = #[.cell s 26, .tmp k]) (hp : tmps.getD s undef = .pointer (some ⟨g, 0, none⟩)) (hS : StdAt w g x T) : (results fn tmps).run Try.prog w = .ok (.tuple #[.agg x.vals, tmps.getD k undef]) w := by
  have hp' : tmps[s]?.getD undef = .pointer (some ⟨g, 0, none⟩) := by simpa using hp
  simp [results, h, hp', asAddr, run_loadVar_row w g T 26 x.vals (0, 0) _ hS Try.underlying26 rfl std_size]
theorem res_std3 (h : fn.results = #[.cell s 26, .tmp k, .tmp j]) (hp : tmps.getD s undef = .pointer (some ⟨g, 0, none⟩)) (hS : StdAt w g x T) : (results fn tmps).run Try.prog w = .ok (.tuple #[.agg x.vals, tmps.getD k undef, tmps.getD j undef]) w := by
  have hp' : tmps[s]?.getD undef = .pointer (some ⟨g, 0, none⟩) := by simpa using hp
  simp [results, h, hp', asAddr, run_loadVar_row w g T 26 x.vals (0, 0) _ hS Try.underlying26 rfl std_size]
end
end Go.Proofs.Ytklempnebhcoiaa
