/- Layer 4 (share): a weight's part, down; the parts told one by one, each with its place. By contracts. · Layer 4 (share): what the parts leave; a sum shared out; without a rest. By contracts. · Layer 4 (share): what weights are together; a sum shared out. By contracts. -/
import Derived.RangeFuncBox
import Derived.RangeFuncLeaves
import Derived.RangeFuncCalls
import Derived.Shelf.Abstract
import Derived.OwnWalkIn
import Derived.TacticsInMore
import Derived.LoopNIn
import Derived.LoopIn
import Derived.Test.YtkophckfmdimbaaRatioB
import Derived.Test.YtkophckfmdimbaaMoneySum
import Derived.Maps.AppendAt
import Derived.Maps.OwnIn
import Derived.Shelf.RegionOpen
namespace Go.Proofs.Ytkophckfmdimbaa
open Go.RowKit Go.Shelf
set_option linter.unusedVariables false
attribute [local go_sem] Oper.semAt_some

/-- A weight's part of a total, down. -/
def prt (T W w : Nat) : Nat := T * w / W
theorem prt_le {T W w : Nat} (h : w ≤ W) : prt T W w ≤ T := by
  unfold prt
  exact Nat.div_le_of_le_mul (by rw [Nat.mul_comm]; exact Nat.mul_le_mul_right _ h)
theorem prt_none (T w : Nat) : prt T 0 w = 0 := by unfold prt; simp

/-- What a round that goes on keeps: every cell below n₀ but those from lo up to hi. -/
structure KeepC (lo hi n₀ : Nat) (W W' : World) : Prop where
  size : W.heap.size ≤ W'.heap.size
  cell : ∀ p : Addr, p.block < n₀ → (p.block < lo ∨ hi ≤ p.block) → W'.cell? p = W.cell? p
theorem KeepC.refl (lo hi n₀ : Nat) (W : World) : KeepC lo hi n₀ W W := ⟨Nat.le_refl _, fun _ _ _ => rfl⟩
theorem KeepC.trans {lo hi n₀ : Nat} {A B C : World} (h : KeepC lo hi n₀ A B) (k : KeepC lo hi n₀ B C) : KeepC lo hi n₀ A C := ⟨Nat.le_trans h.size k.size, fun p h1 h2 => (k.cell p h1 h2).trans (h.cell p h1 h2)⟩
theorem KeepC.of_below {lo hi n₀ B : Nat} {A C : World} (h : Below B A C) (hB : n₀ ≤ B) : KeepC lo hi n₀ A C := ⟨h.size, fun p h1 _ => h.cell (Nat.lt_of_lt_of_le h1 hB)⟩
theorem KeepC.book {lo hi n₀ : Nat} {w : World} (hn : n₀ ≤ w.heap.size) (W : World) (l : Nat) (o o' : Obj) (hl : w.heap.size ≤ l) (h : W.heap[l]? = some o) (a : o.isCells = false) (b : o.isWalk = false) : KeepC lo hi n₀ W (W.putObj l o') :=
  KeepC.of_below (belowK_b (Nat.le_refl _) W l o o' hl h a b) hn

theorem KeepC.setCell {lo hi n₀ : Nat} (W : World) {p : Addr} (h : lo ≤ p.block ∧ p.block < hi) (v : Value) : KeepC lo hi n₀ W (W.setCell p v) :=
  ⟨by simp [World.setCell], fun q _ hq => World.cell?_setCell_other W p q v (fun e => by subst e; omega)⟩
theorem KeepC.alloc {lo hi n₀ : Nat} (W : World) (hn : n₀ ≤ W.heap.size) (o : Obj) : KeepC lo hi n₀ W (W.alloc o) :=
  ⟨by simp, fun q h _ => World.cell?_alloc_lt W o q (Nat.lt_of_lt_of_le h hn)⟩
theorem KeepC.grown {lo hi n₀ : Nat} {X Y : World} {row : Option Nat} (h : X.grownBy Y row) (hn : n₀ ≤ X.heap.size) (hr : ∀ g, row = some g → (lo ≤ g ∧ g < hi) ∨ n₀ ≤ g) : KeepC lo hi n₀ X Y := by
  refine ⟨h.size, fun p h1 h2 => ?_⟩
  have hb := h.block p.block (Nat.lt_of_lt_of_le h1 hn) (fun e => by have := hr _ e.symm; omega)
  unfold World.cell?
  rw [hb]
theorem KeepC.drew (lo hi n₀ : Nat) (W : World) : KeepC lo hi n₀ W W.drew := ⟨Nat.le_refl _, fun _ _ _ => rfl⟩

theorem grown_of_below {w w' : World} (h : Below w.heap.size w w') : w.grownBy w' none := ⟨h.os, h.tape, h.output, h.size, fun k hk _ => h.block k hk⟩

/-- A place and its part. -/
abbrev Place (ws : List Nat) := { j : Nat // j < ws.length }
/-- The first k places. -/
def places (ws : List Nat) : (k : Nat) → k ≤ ws.length → List (Place ws)
  | 0, _ => []
  | k + 1, h => places ws k (Nat.le_of_succ_le h) ++ [⟨k, h⟩]
theorem places_len (ws : List Nat) : ∀ (k : Nat) (h : k ≤ ws.length), (places ws k h).length = k
  | 0, _ => rfl
  | k + 1, h => by unfold places; rw [List.length_append, places_len ws k]; rfl

/-- What yield is handed at a place. -/
abbrev encP (T W : Nat) (ws : List Nat) (x : Place ws) : Array Value := #[.int .i64 (x.1 : Int), .int .u64 (prt T W ws[x.1] : Nat)]

/-- The parts at some places. -/
def parts (T W : Nat) (ws : List Nat) (pre : List (Place ws)) : List Nat := pre.map fun x => prt T W ws[x.1]
theorem parts_nil (T W : Nat) (ws : List Nat) : parts T W ws [] = [] := rfl
theorem parts_snoc (T W : Nat) (ws : List Nat) (pre : List (Place ws)) (x : Place ws) : parts T W ws (pre ++ [x]) = parts T W ws pre ++ [prt T W ws[x.1]] := by simp [parts]
theorem parts_places (T W : Nat) (ws : List Nat) : ∀ (k : Nat) (h : k ≤ ws.length), parts T W ws (places ws k h) = (ws.take k).map (prt T W)
  | 0, _ => by simp [parts, places]
  | k + 1, h => by
    unfold places
    rw [parts_snoc, parts_places T W ws k, List.take_succ_eq_append_getElem h, List.map_append]
    rfl
theorem parts_all (T W : Nat) (ws : List Nat) : parts T W ws (places ws ws.length (Nat.le_refl _)) = ws.map (prt T W) := by rw [parts_places, List.take_length]

/-- What some parts leave, reckoned in 64 bits. -/
def sub64 (s : Int) (ps : List Nat) : Int := ps.foldl (fun (s : Int) (p : Nat) => IntKind.u64.wrap (s - (p : Int))) s
theorem sub64_snoc (s : Int) (ps : List Nat) (p : Nat) : sub64 s (ps ++ [p]) = IntKind.u64.wrap (sub64 s ps - p) := by simp [sub64]
theorem sub64_is (ps : List Nat) (T : Nat) (hT : T < 18446744073709551616) (h : tot ps ≤ T) : sub64 T ps = ((T - tot ps : Nat) : Int) := by
  induction ps generalizing T with
  | nil => simp [sub64, tot]
  | cons p ps ih =>
    have h' : p + tot ps ≤ T := h
    show sub64 (IntKind.u64.wrap ((T : Int) - p)) ps = _
    rw [IntWalk.u64_in _ (by omega), show ((T : Int) - p) = ((T - p : Nat) : Int) by omega, ih (T - p) (by omega) (by omega)]
    show ((T - p - tot ps : Nat) : Int) = ((T - (p + tot ps) : Nat) : Int)
    omega

/-- The parts are together not above the total. -/
theorem tot_parts (T : Nat) (ws : List Nat) : tot (ws.map (prt T (tot ws))) ≤ T := by
  rcases Nat.eq_zero_or_pos (tot ws) with h | h
  · rw [h]
    have : ∀ l : List Nat, tot (l.map (prt T 0)) = 0 := by
      intro l
      induction l with
      | nil => rfl
      | cons x l ih => show prt T 0 x + tot (l.map (prt T 0)) = 0; rw [ih, prt_none]
    rw [this]; omega
  · have key : ∀ l : List Nat, tot (l.map (prt T (tot ws))) * tot ws ≤ T * tot l := by
      intro l
      induction l with
      | nil => simp [tot]
      | cons x l ih =>
        show (prt T (tot ws) x + tot (l.map (prt T (tot ws)))) * tot ws ≤ T * (x + tot l)
        rw [Nat.add_mul, Nat.mul_add]
        have : prt T (tot ws) x * tot ws ≤ T * x := Nat.div_mul_le_self _ _
        omega
    exact Nat.le_of_mul_le_mul_right (key ws) h
theorem le_tot (ws : List Nat) : ∀ x ∈ ws, x ≤ tot ws := by
  induction ws with
  | nil => intro x hx; cases hx
  | cons y ws ih =>
    intro x hx
    show x ≤ y + tot ws
    rcases List.mem_cons.1 hx with rfl | hx
    · omega
    · have := ih x hx; omega
end Go.Proofs.Ytkophckfmdimbaa
namespace Go.Proofs.Ytkophckfmdimbaa
open Go.RowKit Go.Shelf
set_option linter.unusedVariables false
attribute [local go_sem] Oper.semAt_some

end Go.Proofs.Ytkophckfmdimbaa
namespace Go.Proofs.Ytkophckfmdimbaa
open Go.RowKit Go.Shelf
set_option linter.unusedVariables false
attribute [local go_sem] Oper.semAt_some

theorem u64_info : (Try.prog.info? 23).map (fun i => (i.zero, i.size, i.bytes)) = some (some (.int .u64 0), 1, 8) := by kernel_rfl

/-- The weights are not too many, and together a number of 64 bits. -/
def Fits (ws : List Nat) : Prop := ws.length ≤ 256 ∧ tot ws < 18446744073709551616

theorem split_start (w : World) (T n : Nat) (ts te : TypeId) (hn : n ≤ maxLen) (W0 : World) (h : ((w.alloc (.cells #[.slice (some ⟨w.heap.size + 1 + 1, 0, none⟩) 0 n] ts)).alloc (.cells #[.int .u64 T] te)).alloc (.cells (madeCells #[.int .u64 0] n) te) = W0) :
    Boxed W0 w.heap.size ts (.slice (some ⟨w.heap.size + 1 + 1, 0, none⟩) 0 n) ∧ Boxed W0 (w.heap.size + 1) te (.int .u64 T) ∧ W0.ownsRow w.heap.size te 1 (.slice (some ⟨w.heap.size + 1 + 1, 0, none⟩) 0 n) 0 [] ∧ Below w.heap.size w W0 ∧ W0.heap.size = w.heap.size + 1 + 1 + 1 := by
  subst h
  refine ⟨((Boxed.new w ts _).alloc _).alloc _, ?_, ⟨rfl, .inr ⟨w.heap.size + 1 + 1, n, madeCells #[.int .u64 0] n, rfl, by omega, ?_, Nat.zero_le _, hn, by rw [size_madeCells]; simp, by simp⟩⟩, (((Below.refl _ w).alloc (Nat.le_refl _) _).alloc (by simp) _).alloc (by simp; omega) _, by simp⟩
  · have h := (Boxed.new (w.alloc (.cells #[.slice (some ⟨w.heap.size + 1 + 1, 0, none⟩) 0 n] ts)) te (.int .u64 T)).alloc (.cells (madeCells #[.int .u64 0] n) te)
    simpa using h
  · have h := World.alloc_heap_new ((w.alloc (.cells #[.slice (some ⟨w.heap.size + 1 + 1, 0, none⟩) 0 n] ts)).alloc (.cells #[.int .u64 T] te)) (.cells (madeCells #[.int .u64 0] n) te)
    simpa using h

theorem box_other {W : World} {B B' : Nat} {t : TypeId} {u : Value} (h : Boxed W B t u) (hne : B' ≠ B) (v : Value) : Boxed (W.setCell ⟨B', 0, none⟩ v) B t u := h.kept (grownBy_setCell' W B' v) (by simpa using hne.symm)
/-- Where things lie beside a loop that collects: from lo on, the box of what is collected (bp), another box (br), the block that it lay in first (bm), all below hi; what came since lies from n₀ on. -/
structure Lay (lo hi n₀ bp br bm : Nat) : Prop where
  inP : lo ≤ bp ∧ bp < hi
  inR : lo ≤ br ∧ br < hi
  inM : lo ≤ bm ∧ bm < hi
  ne1 : br ≠ bp
  ne2 : bm ≠ br
  top : hi ≤ n₀
theorem split_keep {lo hi n₀ bp br bm : Nat} (L : Lay lo hi n₀ bp br bm) {V w1 : World} {v : Value} {o : Obj} (hg : (V.alloc o).grownBy w1 v.ownBlock) (hs : n₀ ≤ V.heap.size) (hG : ∀ g, v.ownBlock = some g → g = bm ∨ n₀ ≤ g) (u : Value) :
    KeepC lo hi n₀ V (w1.setCell ⟨bp, 0, none⟩ u) :=
  ((KeepC.alloc V hs o).trans (KeepC.grown hg (by simp; omega) (fun g e => by have := L.inM; rcases hG g e with h1 | h1 <;> omega))).trans (KeepC.setCell _ (p := ⟨bp, 0, none⟩) L.inP u)

/-- Behind an append whose slice lies in a box, and its store back into the box: what lies where. -/
theorem app_after {lo hi n₀ bp br bm k : Nat} (L : Lay lo hi n₀ bp br bm) {ts te : TypeId} {V w1 : World} {v v' s x : Value} {xs ys : List Value} (hte : ts ≠ te) (hv : Boxed V bp ts v) (hrow : V.ownsRow lo te 1 v k xs) (hbx : Boxed V br te s)
    (hG : ∀ g, v.ownBlock = some g → g = bm ∨ n₀ ≤ g) (hs : n₀ ≤ V.heap.size) (hown : w1.ownsRow lo te 1 v' (k + 1) ys) (hgrow : (V.alloc (.cells #[x] te)).grownBy w1 v.ownBlock) (hat : v'.ownBlock = v.ownBlock ∨ v'.ownBlock = some (V.alloc (.cells #[x] te)).heap.size) :
    ∃ g cap, v' = .slice (some ⟨g, 0, none⟩) (k + 1) cap ∧ w1.cell? ⟨bp, 0, none⟩ = some v ∧ w1.frozen? ⟨bp, 0, none⟩ = false ∧
      (w1.setCell ⟨bp, 0, none⟩ (.slice (some ⟨g, 0, none⟩) (k + 1) cap)).cell? ⟨br, 0, none⟩ = some s ∧ (w1.setCell ⟨bp, 0, none⟩ (.slice (some ⟨g, 0, none⟩) (k + 1) cap)).frozen? ⟨br, 0, none⟩ = false ∧
      Hid (Boxed (w1.setCell ⟨bp, 0, none⟩ (.slice (some ⟨g, 0, none⟩) (k + 1) cap)) bp ts (.slice (some ⟨g, 0, none⟩) (k + 1) cap) ∧
        (w1.setCell ⟨bp, 0, none⟩ (.slice (some ⟨g, 0, none⟩) (k + 1) cap)).ownsRow lo te 1 (.slice (some ⟨g, 0, none⟩) (k + 1) cap) (k + 1) ys ∧
        KeepsOthers V (w1.setCell ⟨bp, 0, none⟩ (.slice (some ⟨g, 0, none⟩) (k + 1) cap)) ∧ Below lo V (w1.setCell ⟨bp, 0, none⟩ (.slice (some ⟨g, 0, none⟩) (k + 1) cap)) ∧
        KeepC lo hi n₀ V (w1.setCell ⟨bp, 0, none⟩ (.slice (some ⟨g, 0, none⟩) (k + 1) cap)) ∧ Boxed (w1.setCell ⟨bp, 0, none⟩ (.slice (some ⟨g, 0, none⟩) (k + 1) cap)) br te s ∧
        (∀ j, (Value.slice (some ⟨g, 0, none⟩) (k + 1) cap).ownBlock = some j → j = bm ∨ n₀ ≤ j) ∧
        (∀ B t u, Boxed V B t u → B < n₀ → B ≠ bm → B ≠ bp → Boxed (w1.setCell ⟨bp, 0, none⟩ (.slice (some ⟨g, 0, none⟩) (k + 1) cap)) B t u)) := by
  obtain ⟨g, cap, rfl⟩ := ownsRow_succ hown
  have e0 := L.inP
  have e1 := L.inR
  have e2 := L.inM
  have e3 := L.ne1
  have e4 := L.ne2
  have e5 := L.top
  obtain ⟨hv1, hv2, hr2, hk2, hb2⟩ := hv.appended hte hrow (by omega) (by omega) hown hgrow
  have hall : ∀ B t u, Boxed V B t u → B < n₀ → B ≠ bm → B ≠ bp → Boxed (w1.setCell ⟨bp, 0, none⟩ (.slice (some ⟨g, 0, none⟩) (k + 1) cap)) B t u := fun B t u h h1 h2 h3 =>
    box_other ((h.alloc (.cells #[x] te)).kept hgrow (fun e => by have := hG _ e.symm; omega)) (fun e => h3 e.symm) _
  have hbx2 := hall br te s hbx (by omega) (fun e => e4 e.symm) e3
  refine ⟨g, cap, rfl, hv1.cell, hv1.frozen, hbx2.cell, hbx2.frozen, hv2, hr2, hk2, hb2, split_keep L hgrow hs hG _, hbx2, ?_, hall⟩
  intro j e
  rcases hat with h1 | h1
  · exact hG j (h1.symm.trans e)
  · rw [h1] at e
    have : (V.alloc (.cells #[x] te)).heap.size = j := by injection e
    simp at this
    omega

theorem own_other {W : World} {lo n₀ bm : Nat} {te : TypeId} {v : Value} {n B : Nat} {xs : List Value} (hr : W.ownsRow lo te 1 v n xs) (hB : B < n₀) (hB2 : B ≠ bm) (hG : ∀ g, v.ownBlock = some g → g = bm ∨ n₀ ≤ g) (u : Value) : (W.setCell ⟨B, 0, none⟩ u).ownsRow lo te 1 v n xs := by
  refine hr.kept (grownBy_setCell' W B u) (.inr fun e => ?_)
  have := hG B e
  omega
theorem u64s_snoc (ns : List Nat) (n : Nat) : u64s (ns ++ [n]) = u64s ns ++ [.int .u64 (n : Int)] := by simp [u64s]

theorem own_box {β : Type} (B : Nat) (t : TypeId) (f : β → Value) : Own (fun s V => Boxed V B t (f s)) := fun s X Y row hs hg hr =>
  hs.kept hg (fun e => by obtain ⟨o, ho, hc⟩ := hr _ e.symm; rw [show X.heap[B]? = _ from hs] at ho; cases ho; cases hc)
theorem own_both {β : Type} {I J : β → World → Prop} (h : Own I) (k : Own J) : Own (fun s V => I s V ∧ J s V) := fun s X Y row hs hg hr => ⟨h s X Y row hs.1 hg hr, k s X Y row hs.2 hg hr⟩

theorem lay_split (h : Nat) : Lay h (h + 1 + 1 + 1) (h + 6) h (h + 1) (h + 2) := ⟨by omega, by omega, by omega, by omega, by omega, by omega⟩

end Go.Proofs.Ytkophckfmdimbaa
