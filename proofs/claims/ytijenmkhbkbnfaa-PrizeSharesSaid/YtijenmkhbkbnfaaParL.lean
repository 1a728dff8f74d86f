/- Layer 7 (param): parameters moved whole: out of their block, into it, built, handed back. -/
import Derived.Test.YtijenmkhbkbnfaaParA
import Derived.Laws.Tables
namespace Go.Proofs.Ytijenmkhbkbnfaa
open Go.RowKit
set_option linter.unusedVariables false

section
variable {ops : Array Oper} {rest : List Oper} {o : Oper} {a : Act} {w : World} {Q : Exit → Act → World → Prop}

theorem par_size : (Try.prog.info? 24).map (·.size) = some 24 := by kernel_rfl
theorem ref_size : (Try.prog.info? 31).map (·.size) = some 24 := by kernel_rfl
theorem vals_size (p : Par) : p.vals.size = 24 := rfl
theorem vals_one (p : Par) : p.vals.all (·.oneCell') = true := by simp [Par.vals, Value.oneCell']

theorem build_par (parts : Array (Nat × Operand)) (ho : o.op = .build 24 parts) (hgd : Region.wanted o (yielded ops a.tmps) = true) (p : Par) (hb : Try.prog.built 24 (parts.map fun (i, x) => (i, a.eval x)).toList = some p.vals)
    (h : wpList Try.prog ops Q rest (a.put o.dst (.agg p.vals)) w) : wpList Try.prog ops Q (o :: rest) a w :=
  wpList_step fun K hK => by
    rw [if_pos hgd]
    refine wp_build 24 parts ho (by rw [hb]; rfl) ?_
    rw [hb]
    exact hK _ _ h
theorem build_ref (parts : Array (Nat × Operand)) (ho : o.op = .build 31 parts) (hgd : Region.wanted o (yielded ops a.tmps) = true) (p : Par) (hb : Try.prog.built 31 (parts.map fun (i, x) => (i, a.eval x)).toList = some p.vals)
    (h : wpList Try.prog ops Q rest (a.put o.dst (.agg p.vals)) w) : wpList Try.prog ops Q (o :: rest) a w :=
  wpList_step fun K hK => by
    rw [if_pos hgd]
    refine wp_build 31 parts ho (by rw [hb]; rfl) ?_
    rw [hb]
    exact hK _ _ h

/-- A whole block written over. -/
theorem store_par (x y : Operand) (ho : o.op = .store 24 x y) (hgd : Region.wanted o (yielded ops a.tmps) = true) (g : Nat) (p old : Par) (T : TypeId) (hx : a.eval x = .pointer (some ⟨g, 0, none⟩)) (hy : a.eval y = .agg p.vals) (hP : ParAt w g old T)
    (h : wpList Try.prog ops Q rest (a.put o.dst undef) (w.setRow g p.vals)) : wpList Try.prog ops Q (o :: rest) a w :=
  wpList_step fun K hK => by
    rw [if_pos hgd]
    exact wp_store_row 24 x y ho g p.vals hx hy T old.vals hP par_size rfl (vals_one p) (hK _ _ h)
theorem store_ref (x y : Operand) (ho : o.op = .store 31 x y) (hgd : Region.wanted o (yielded ops a.tmps) = true) (g : Nat) (p old : Par) (T : TypeId) (hx : a.eval x = .pointer (some ⟨g, 0, none⟩)) (hy : a.eval y = .agg p.vals) (hP : ParAt w g old T)
    (h : wpList Try.prog ops Q rest (a.put o.dst undef) (w.setRow g p.vals)) : wpList Try.prog ops Q (o :: rest) a w :=
  wpList_step fun K hK => by
    rw [if_pos hgd]
    exact wp_store_row 31 x y ho g p.vals hx hy T old.vals hP ref_size rfl (vals_one p) (hK _ _ h)
end

theorem ParAt.set {w : World} {g : Nat} {p old : Par} {T : TypeId} (h : ParAt w g old T) : ParAt (w.setRow g p.vals) g p T := setRow_heap w g _ _ T (0, 0) h
theorem ParAt.setOther {w : World} {g b : Nat} {p q : Par} {T : TypeId} (h : ParAt w b q T) (hg : b ≠ g) : ParAt (w.setRow g p.vals) b q T := (setRow_other w g b _ hg).trans h
theorem below_setRow {B : Nat} {a w : World} (h : Below B a w) {g : Nat} (hg : B ≤ g) (cs : Array Value) : Below B a (w.setRow g cs) :=
  h.trans ⟨rfl, rfl, rfl, by simp [World.setRow], fun k hk => setRow_other w g k cs (by omega)⟩

section
variable {fn : Func} {s k l : Nat} {T : TypeId} {p : Par} {g : Nat} {tmps : Array Value} {w : World}
theorem res_par1 (h : fn.results = #[.cell s 24]) (hp : tmps.getD s undef = .pointer (some ⟨g, 0, none⟩)) (hP : ParAt w g p T) : (results fn tmps).run Try.prog w = .ok (.agg p.vals) w :=
  results_cell_row h tmps w g T p.vals (0, 0) _ hp hP Try.underlying24 rfl par_size
theorem res_par2 (h : fn.results = #[.cell s 24, .tmp k]) (hp : tmps.getD s undef = .pointer (some ⟨g, 0, none⟩)) (hP : ParAt w g p T) : (results fn tmps).run Try.prog w = .ok (.tuple #[.agg p.vals, tmps.getD k undef]) w := by
  have hp' : tmps[s]?.getD undef = .pointer (some ⟨g, 0, none⟩) := by simpa using hp
  simp [results, h, hp', asAddr, run_loadVar_row w g T 24 p.vals (0, 0) _ hP Try.underlying24 rfl par_size]
theorem res_par3 (h : fn.results = #[.cell s 24, .tmp k, .tmp l]) (hp : tmps.getD s undef = .pointer (some ⟨g, 0, none⟩)) (hP : ParAt w g p T) : (results fn tmps).run Try.prog w = .ok (.tuple #[.agg p.vals, tmps.getD k undef, tmps.getD l undef]) w := by
  have hp' : tmps[s]?.getD undef = .pointer (some ⟨g, 0, none⟩) := by simpa using hp
  simp [results, h, hp', asAddr, run_loadVar_row w g T 24 p.vals (0, 0) _ hP Try.underlying24 rfl par_size]
theorem res_ref1 (h : fn.results = #[.cell s 31]) (hp : tmps.getD s undef = .pointer (some ⟨g, 0, none⟩)) (hP : ParAt w g p T) : (results fn tmps).run Try.prog w = .ok (.agg p.vals) w :=
  results_cell_row h tmps w g T p.vals (0, 0) _ hp hP Try.underlying31 rfl ref_size
theorem res_ref3 (h : fn.results = #[.cell s 31, .tmp k, .tmp l]) (hp : tmps.getD s undef = .pointer (some ⟨g, 0, none⟩)) (hP : ParAt w g p T) : (results fn tmps).run Try.prog w = .ok (.tuple #[.agg p.vals, tmps.getD k undef, tmps.getD l undef]) w := by
  have hp' : tmps[s]?.getD undef = .pointer (some ⟨g, 0, none⟩) := by simpa using hp
  simp [results, h, hp', asAddr, run_loadVar_row w g T 31 p.vals (0, 0) _ hP Try.underlying31 rfl ref_size]
end
end Go.Proofs.Ytijenmkhbkbnfaa
