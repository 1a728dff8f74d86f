/- Layer 23 (moot): what comes in with the laws' arguments: motions, ways, halls. -/
import Derived.Test.YtcaejanfhchacaaMotW
import Derived.Test.YtcaejanfhchacaaLawM
namespace Go.Proofs.Ytcaejanfhchacaa
open Go.ChangeShapes Go.WideShapes Go.ChangeAt Go.RowKit Go.Deep
set_option linter.unusedVariables false
set_option linter.unusedSimpArgs false

/-- A place, a member, an epoch, a vote, whether there was a quorum. -/
structure Wy where
  i : Int
  mb : Int
  ep : Int
  yes : Bool
  q : Bool
def Wy.vals (x : Wy) : Array Value := #[.int .i64 x.i, .int .i64 x.mb, .int .i64 x.ep, .bool x.yes, .bool x.q]
instance : Rec Wy := ⟨Wy.vals, 5, fun _ => rfl, by decide, fun d => by simp [Wy.vals, Value.oneCell']⟩
def Wy.zero : Wy := ⟨0, 0, 0, false, false⟩
theorem size_wy : (Try.prog.info? 24).map (·.size) = some (Rec.z Wy) := by kernel_rfl
/-- Motions and members. -/
structure Hl where
  mots : SlR Mot
  mems : SlR Mem
def Hl.vals (x : Hl) : Array Value := #[.slice x.mots.A x.mots.l.length x.mots.c, .slice x.mems.A x.mems.l.length x.mems.c]
instance : Rec Hl := ⟨Hl.vals, 2, fun _ => rfl, by decide, fun d => by simp [Hl.vals, Value.oneCell']⟩
structure HallAt (w : World) (x : Hl) : Prop where
  mots : Mots w x.mots.A x.mots.c x.mots.l
  few : x.mots.l.length ≤ 140737488355328
  mems : SlAt 48 w x.mems.A x.mems.l.length x.mems.c (rows x.mems.l)
  mem : ∀ m ∈ x.mems.l, m.s.Fits
theorem HallAt.up {w w' : World} {x : Hl} (h : HallAt w x) (hb : Below w.heap.size w w') : HallAt w' x := ⟨h.mots.up hb, h.few, h.mems.up hb, h.mem⟩

theorem wy_fields : ∃ fs : Array Field, Try.prog.underlying 24 = some (.struct fs) ∧ fs.map (fun f => (f.type, f.offset, Try.prog.cellsOf f.type)) = #[(3, 0, 1), (3, 1, 1), (3, 2, 1), (4, 3, 1), (4, 4, 1)] := ⟨_, Try.underlying24, by kernel_rfl⟩
theorem wy_cells : Try.prog.cellsOf 24 = 5 := by kernel_rfl

section
variable {H : Type} {enc : TypeId × Value → H} {w : World} {base : Nat} {held : Bool}
theorem open_mots {A : Option Addr} {n c : Nat} {d : DataW H} {p : List MemPlace}
    (h : DataW.Trod enc Try.prog w base (fun _ => true) held 22 (.slice A n c) d p) (hw : ∀ k ∈ d.weights Try.prog 22, k ≤ reachBytes) : ∃ l : List Mot, n = l.length ∧ Mots w A c l ∧ l.length ≤ 140737488355328 := by
  obtain ⟨fuel, hf⟩ := h
  obtain ⟨s, e, hS, hm⟩ := mots_open hf hw
  simp only [Value.slice.injEq] at e
  obtain ⟨rfl, rfl, rfl⟩ := e
  exact ⟨s.l, rfl, ⟨hS.le, hS.most, hS.none, hS.row, hm⟩, by have := hS.fit; omega⟩
theorem wy_cells_open {fuel : Nat} {cs : List Value} {x : DataW H × List MemPlace} (hl : cs.length = 5) (hf : DataW.trod enc Try.prog w base (fun _ => true) held fuel 24 cs = some x) : ∃ y : Wy, True ∧ (Rec.vals y).toList = cs := by
  obtain ⟨fs, hfs, hty⟩ := wy_fields
  obtain ⟨n2, h⟩ := fields_open hfs hty hf
  match cs, hl with
  | [c0, c1, c2, c3, c4], _ =>
    obtain ⟨y0, h0⟩ := h 0 _ _ _ rfl
    obtain ⟨y1, h1⟩ := h 1 _ _ _ rfl
    obtain ⟨y2, h2⟩ := h 2 _ _ _ rfl
    obtain ⟨y3, h3⟩ := h 3 _ _ _ rfl
    obtain ⟨y4, h4⟩ := h 4 _ _ _ rfl
    obtain ⟨a0, rfl, -, -⟩ := int_open h0
    obtain ⟨a1, rfl, -, -⟩ := int_open h1
    obtain ⟨a2, rfl, -, -⟩ := int_open h2
    obtain ⟨a3, rfl⟩ := bool_open h3
    obtain ⟨a4, rfl⟩ := bool_open h4
    exact ⟨⟨a0, a1, a2, a3, a4⟩, trivial, rfl⟩
set_option maxRecDepth 100000 in
theorem open_wy {r : Reach} {b0 : Nat} {v : Value} {d : DataW H} {pl : List MemPlace}
    (hv : Value.okWide Try.prog w r b0 24 v) (h : DataW.Trod enc Try.prog w base (fun _ => true) held 24 v d pl) : ∃ y : Wy, v = .agg (Rec.vals y) ∧ True := by
  obtain ⟨fs, hfs, hty⟩ := wy_fields
  obtain ⟨cs, rfl, hsz0⟩ := okWide_struct hfs hv
  obtain ⟨fuel, hf⟩ := h
  obtain ⟨m, hF, e⟩ := wy_cells_open (cs := cs.toList) (by rw [Array.length_toList, hsz0, wy_cells]) hf
  exact ⟨m, by rw [Array.toList_inj.1 e], hF⟩
set_option maxRecDepth 100000 in
theorem open_wys {A : Option Addr} {n c : Nat} {d : DataW H} {p : List MemPlace}
    (h : DataW.Trod enc Try.prog w base (fun _ => true) held 75 (.slice A n c) d p) : ∃ l : List Wy, n = l.length ∧ (∀ s ∈ l, True) ∧ l.length ≤ c ∧ c ≤ maxLen ∧ (A = none → c = 0) ∧ Row w w.heap.size A (rows l) :=
  open_recs_any (α := Wy) (fun _ => True) Try.underlying75 wy_cells (fun n2 cs x hl hf => wy_cells_open hl hf) h
end

theorem hl_fields : ∃ fs : Array Field, Try.prog.underlying 62 = some (.struct fs) ∧ fs.map (fun f => (f.type, f.offset, Try.prog.cellsOf f.type)) = #[(22, 0, 1), (60, 1, 1)] := ⟨_, Try.underlying62, by kernel_rfl⟩
theorem hl_cells : Try.prog.cellsOf 62 = 2 := by kernel_rfl
set_option maxRecDepth 100000 in
theorem open_hl {H : Type} {enc : TypeId × Value → H} {w : World} {base : Nat} {held : Bool} {r : Reach} {b0 : Nat} {v : Value} {d : DataW H} {pl : List MemPlace}
    (hv : Value.okWide Try.prog w r b0 62 v) (h : DataW.Trod enc Try.prog w base (fun _ => true) held 62 v d pl) (hw : ∀ k ∈ d.weights Try.prog 62, k ≤ reachBytes) : ∃ y : Hl, v = .agg (Rec.vals y) ∧ HallAt w y := by
  obtain ⟨fs, hfs, hty⟩ := hl_fields
  obtain ⟨cs, rfl, hsz0⟩ := okWide_struct hfs hv
  obtain ⟨fuel, hf⟩ := h
  obtain ⟨n2, h⟩ := fields_light (cs := cs.toList) hfs hty hf hw
  have hl : cs.toList.length = 2 := by rw [Array.length_toList, hsz0, hl_cells]
  obtain ⟨L, hL⟩ : ∃ L, cs.toList = L := ⟨_, rfl⟩
  rw [hL] at h hl
  match L, hl with
  | [c0, c1], _ =>
    obtain ⟨y0, h0, w0⟩ := h 0 _ _ _ rfl
    obtain ⟨y1, h1, w1⟩ := h 1 _ _ _ rfl
    obtain ⟨a0, rfl, b0, d0⟩ := mots_open h0 w0
    obtain ⟨a1, rfl, b1, d1⟩ := mems_open h1 w1
    refine ⟨⟨a0, a1⟩, ?_, ⟨b0.le, b0.most, b0.none, b0.row, d0⟩, by have := b0.fit; show a0.l.length ≤ _; omega, b1, d1⟩
    have : cs = (Rec.vals (⟨a0, a1⟩ : Hl)) := by
      rw [← Array.toList_inj, hL]
      rfl
    rw [this]
end Go.Proofs.Ytcaejanfhchacaa
