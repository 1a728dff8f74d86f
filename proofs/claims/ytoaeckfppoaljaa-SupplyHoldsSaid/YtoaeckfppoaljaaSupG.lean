/- Layer 21 (supply): a copy of a state, every list of it in memory of the call's own. By contracts. · Layer 21 (supply): a mint and a burn that may be. By contracts. -/
import Derived.Test.YtoaeckfppoaljaaSupE
import Derived.Test.YtoaeckfppoaljaaClo
import Derived.Deep.RegionHeld3
namespace Go.Proofs.Ytoaeckfppoaljaa
open Go.RowKit Go.Shelf
set_option linter.unusedVariables false
set_option linter.unusedSimpArgs false

theorem size_sl26 : (Try.prog.info? 26).map (·.size) = some 1 := by kernel_rfl
theorem size_sl27 : (Try.prog.info? 27).map (·.size) = some 1 := by kernel_rfl
theorem size_sl28 : (Try.prog.info? 28).map (·.size) = some 1 := by kernel_rfl
theorem size_sl29 : (Try.prog.info? 29).map (·.size) = some 1 := by kernel_rfl
theorem size_sl30 : (Try.prog.info? 30).map (·.size) = some 1 := by kernel_rfl
theorem size_sl31 : (Try.prog.info? 31).map (·.size) = some 1 := by kernel_rfl
theorem size_sl32 : (Try.prog.info? 32).map (·.size) = some 1 := by kernel_rfl
theorem own_slice {w : World} {base z n : Nat} {e : TypeId} {v : Value} {xs : List Value} (h : w.ownsRow base e z v n xs) : ∃ A c, v = .slice A n c := by
  rcases h.2 with ⟨rfl, rfl⟩ | ⟨g, cap, cur, rfl, _⟩
  · exact ⟨_, _, rfl⟩
  · exact ⟨_, _, rfl⟩
/-- Where a row of the call's own that holds something lies. -/
theorem own_some {w : World} {base z n c : Nat} {e : TypeId} {A : Option Addr} {xs : List Value} (h : w.ownsRow base e z (.slice A n c) n xs) (hn : 0 < n) : ∃ g, A = some ⟨g, 0, none⟩ ∧ base ≤ g := by
  rcases h.2 with ⟨h1, rfl⟩ | ⟨g, cap, cur, h1, h2, _⟩
  · omega
  · simp only [Value.slice.injEq] at h1
    exact ⟨g, h1.1, h2⟩
theorem own_sl {w : World} {base z n c b : Nat} {e : TypeId} {A : Option Addr} {xs : List Value} (h : w.ownsRow base e z (.slice A n c) n xs) (hf : n * b ≤ 140737488355328) : SlAt b w A n c xs := by
  rcases h.2 with ⟨h1, rfl⟩ | ⟨g, cap, cur, h1, h2, h3, h4, h5, h6, h7⟩
  · simp only [Value.slice.injEq] at h1
    obtain ⟨rfl, _, rfl⟩ := h1
    have : xs = [] := List.eq_nil_of_length_eq_zero (by have := h.1; simpa using this)
    subst this
    exact SlAt.nil _ _
  · simp only [Value.slice.injEq] at h1
    obtain ⟨rfl, _, rfl⟩ := h1
    exact ⟨hf, h4, h5, fun e => (by cases e), fun k v hv => ⟨_, rfl, (h.lt g rfl).2, h.cells (g := g) rfl k v hv⟩⟩
/-- Rows of other types lie in other blocks. -/
theorem own_types {w : World} {lo lo' n n' z z' : Nat} {e e' : TypeId} {v v' : Value} {xs xs' : List Value} (h : w.ownsRow lo e z v n xs) (h' : w.ownsRow lo' e' z' v' n' xs') (hne : e ≠ e') : ∀ g, v.ownBlock = some g → v'.ownBlock ≠ some g := by
  intro g hg hg'
  rcases h.2 with ⟨rfl, _⟩ | ⟨g1, c1, cur1, rfl, _, hh1, _⟩
  · cases hg
  · rcases h'.2 with ⟨rfl, _⟩ | ⟨g2, c2, cur2, rfl, _, hh2, _⟩
    · cases hg'
    · simp only [Value.ownBlock, Option.some.injEq] at hg hg'
      subst hg
      subst hg'
      rw [hh1] at hh2
      simp only [Option.some.injEq, Obj.cells.injEq] at hh2
      exact hne hh2.2.1
/-- A row of the call's own, as an item of a list of such. -/
structure OwnIt where
  e : TypeId
  z : Nat
  v : Value
  n : Nat
  xs : List Value
def Owned (W : World) (L : Nat) (its : List OwnIt) : Prop := ∀ it ∈ its, W.ownsRow L it.e it.z it.v it.n it.xs
/-- A copy that is being made: the working state, the result's place, what has been copied. -/
structure Cop (w W : World) (cs : Array Value) (its : List OwnIt) : Prop where
  S : RecAt W w.heap.size cs 34
  N : RecAt W (w.heap.size + 1) (Rec.vals Sta.zero) 34
  O : Owned W (w.heap.size + 2) its
  B : Below w.heap.size w W
theorem Cop.size {w W : World} {cs : Array Value} {its : List OwnIt} (h : Cop w W cs its) : w.heap.size + 2 ≤ W.heap.size := h.N.lt
theorem Cop.up {w W W' : World} {cs : Array Value} {its : List OwnIt} (h : Cop w W cs its) (hb : Below W.heap.size W W') : Cop w W' cs its :=
  ⟨h.S.up hb, h.N.up hb, fun it hi => own_kept (h.O it hi) hb, Below.then h.B hb⟩
theorem Cop.add {w W : World} {cs : Array Value} {its : List OwnIt} (h : Cop w W cs its) {e : TypeId} {z n B : Nat} {v : Value} {xs : List Value} (ho : W.ownsRow B e z v n xs) (hB : w.heap.size + 2 ≤ B) : Cop w W cs (⟨e, z, v, n, xs⟩ :: its) :=
  ⟨h.S, h.N, fun it hi => by
    rcases List.mem_cons.1 hi with rfl | hi
    · exact own_base ho hB
    · exact h.O it hi, h.B⟩
theorem Cop.store {w W W' : World} {cs cs' : Array Value} {its : List OwnIt} (h : Cop w W cs its) (hS : RecAt W' w.heap.size cs' 34) (hg : W.grownBy W' (some w.heap.size)) : Cop w W' cs' its :=
  ⟨hS, h.N.grown hg (by simp), fun it hi => own_apart (h.O it hi) hg (fun g e => by have := ((h.O it hi).lt g e).1; simp; omega), h.B.trans (grown_to hg (Nat.le_refl _) h.B.size)⟩
theorem Cop.inrow {w W W' : World} {cs : Array Value} {its : List OwnIt} (h : Cop w W cs its) {g : Nat} (hg : W.grownBy W' (some g)) (hl : w.heap.size + 2 ≤ g) (hne : ∀ it ∈ its, it.v.ownBlock ≠ some g) : Cop w W' cs its :=
  ⟨h.S.grown hg (by simp; omega), h.N.grown hg (by simp; omega), fun it hi => own_apart (h.O it hi) hg (fun q e => by have := hne it hi; rw [e] at this; simpa using fun e2 => this (by rw [e2])), h.B.trans (grown_to hg (by omega) h.B.size)⟩
theorem own_of {w0 w1 : World} {P : Program} (hS : Below w0.heap.size w0 w1) {f : FuncId} {args : Array Value} {e : TypeId} {z n : Nat} {xs : List Value} (k : Calls P f args w1 fun e' w' => ∃ v, e' = .returned v ∧ w'.ownsRow w1.heap.size e z v n xs ∧ Below w1.heap.size w1 w') :
    Calls P f args w1 fun e' w' => ∃ v, e' = .returned v ∧ w'.ownsRow w0.heap.size e z v n xs ∧ Below w0.heap.size w0 w' ∧ Below w1.heap.size w1 w' :=
  k.mono (by rintro e' w' ⟨v, h1, h2, h3⟩; exact ⟨v, h1, own_base h2 hS.size, Below.then hS h3, h3⟩)

/-- Bytes of the call's own. -/
def OwnBv (w : World) (L : Nat) (b : BV) : Prop := w.ownsRow L 5 1 (.slice b.row b.bs.length b.cap) b.bs.length (u8s b.bs)
/-- All of a state lies in memory of the call's own. -/
structure StaOwn (w : World) (L : Nat) (t : Sta) : Prop where
  purses : w.ownsRow L 22 1 (.slice t.purses.A t.purses.l.length t.purses.c) t.purses.l.length (u64s t.purses.l)
  mems : w.ownsRow L 60 6 (.slice t.mems.A t.mems.l.length t.mems.c) t.mems.l.length (rows t.mems.l)
  entry : w.ownsRow L 3 1 (.slice t.entry.A t.entry.l.length t.entry.c) t.entry.l.length (zvals t.entry.l)
  exit : w.ownsRow L 3 1 (.slice t.exit.A t.exit.l.length t.exit.c) t.exit.l.length (zvals t.exit.l)
  pool : w.ownsRow L 62 4 (.slice t.pool.A t.pool.l.length t.pool.c) t.pool.l.length (rows t.pool.l)
  dues : w.ownsRow L 64 3 (.slice t.dues.A t.dues.l.length t.dues.c) t.dues.l.length (rows t.dues.l)
  mots : w.ownsRow L 90 33 (.slice t.mots.A t.mots.l.length t.mots.c) t.mots.l.length (rows t.mots.l)
  mot : ∀ m ∈ t.mots.l, OwnBv w L m.yes ∧ OwnBv w L m.no
  marks : OwnBv w L t.marks
  ring : w.ownsRow L 31 1 (.slice t.ring.A t.ring.l.length t.ring.c) t.ring.l.length (bvs t.ring.l)
  rings : ∀ b ∈ t.ring.l, OwnBv w L b

theorem Cop.sub {w W : World} {cs : Array Value} {its its' : List OwnIt} (h : Cop w W cs its) (hs : ∀ it ∈ its', it ∈ its) : Cop w W cs its' := ⟨h.S, h.N, fun it hi => h.O it (hs it hi), h.B⟩
theorem Cop.inown {w W W' : World} {cs : Array Value} {its : List OwnIt} (h : Cop w W cs its) {e : TypeId} {z n c g : Nat} {xs : List Value} (hM : W.ownsRow (w.heap.size + 2) e z (.slice (some ⟨g, 0, none⟩) n c) n xs) (hE : ∀ it ∈ its, it.e ≠ e) (hg : W.grownBy W' (some g)) : Cop w W' cs its :=
  h.inrow hg (hM.lt g rfl).1 (fun it hi e2 => own_types (h.O it hi) hM (hE it hi) g e2 rfl)
def bvIt (b : BV) : OwnIt := ⟨5, 1, .slice b.row b.bs.length b.cap, b.bs.length, u8s b.bs⟩
def motIts (N : List Mot) : List OwnIt := N.flatMap fun m => [bvIt m.yes, bvIt m.no]
theorem motIts_snoc (N : List Mot) (m : Mot) : motIts (N ++ [m]) = motIts N ++ [bvIt m.yes, bvIt m.no] := by simp [motIts]
theorem mem_motIts {N : List Mot} {m : Mot} (h : m ∈ N) : bvIt m.yes ∈ motIts N ∧ bvIt m.no ∈ motIts N := ⟨List.mem_flatMap.2 ⟨m, h, by simp⟩, List.mem_flatMap.2 ⟨m, h, by simp⟩⟩
theorem motIts_e {N : List Mot} : ∀ it ∈ motIts N, it.e = 5 := fun it hi => by
  obtain ⟨m, _, h⟩ := List.mem_flatMap.1 hi
  simp only [List.mem_cons, List.not_mem_nil, or_false] at h
  rcases h with rfl | rfl <;> rfl
theorem bvIts_e {N : List BV} : ∀ it ∈ N.map bvIt, it.e = 5 := fun it hi => by
  obtain ⟨m, _, rfl⟩ := List.mem_map.1 hi
  rfl
theorem mid_at {α : Type} {N l : List α} {k : Nat} (hN : N.length = k) {x : α} (hx : l[k]? = some x) : (N ++ l.drop k)[k]? = some x := by
  rw [List.getElem?_append_right (by omega), hN, Nat.sub_self, List.getElem?_drop, Nat.add_zero, hx]
theorem mid_put {α : Type} {N l : List α} {k : Nat} (hN : N.length = k) (hk : k < l.length) (y : α) : (N ++ l.drop k).set k y = (N ++ [y]) ++ l.drop (k + 1) := by
  rw [List.set_append_right _ _ (by omega), hN, Nat.sub_self, List.drop_eq_getElem_cons hk, List.set_cons_zero, List.append_assoc]
  rfl
theorem own_lies {α : Type} [Rec α] {w : World} {base n c g : Nat} {e : TypeId} {l : List α} (h : w.ownsRow base e (Rec.z α) (.slice (some ⟨g, 0, none⟩) n c) n (rows l)) {k : Nat} {x : α} (hx : l[k]? = some x) : LiesAt w ⟨g, k * Rec.z α, none⟩ (Rec.vals x) := fun j v hv => by
  have := h.cells (g := g) rfl _ v (rows_at hx hv)
  rw [Addr.add_mid, Nat.zero_add] at this
  rw [Addr.add_mid]
  exact this
/-- Bytes copied into a motion of a row of the call's own. -/
theorem mot_put {w : World} {base n c g k : Nat} {l : List Mot} (h : w.ownsRow base 90 33 (.slice (some ⟨g, 0, none⟩) n c) n (rows l)) {x : Mot} (hx : l[k]? = some x) (A1 A2 : Option Addr) (c1 c2 : Nat) :
    ((w.setCell ⟨g, k * 33 + 31, none⟩ (.slice A1 x.yes.bs.length c1)).setCell ⟨g, k * 33 + 32, none⟩ (.slice A2 x.no.bs.length c2)).ownsRow base 90 33 (.slice (some ⟨g, 0, none⟩) n c) n (rows (l.set k ⟨x.acct, x.what, x.p, x.dest, x.amt, x.ends, x.due, x.st, ⟨A1, x.yes.bs, c1⟩, ⟨A2, x.no.bs, c2⟩⟩)) ∧
      w.grownBy ((w.setCell ⟨g, k * 33 + 31, none⟩ (.slice A1 x.yes.bs.length c1)).setCell ⟨g, k * 33 + 32, none⟩ (.slice A2 x.no.bs.length c2)) (some g) := by
  have s1 := h.stored (k * 33 + 31) (.slice A1 x.yes.bs.length c1)
  have e1 := rows_set (l := l) (k := k) (x := x) (y := ⟨x.acct, x.what, x.p, x.dest, x.amt, x.ends, x.due, x.st, ⟨A1, x.yes.bs, c1⟩, x.no⟩) (j := 31) (v := .slice A1 x.yes.bs.length c1) hx (by decide) rfl
  have e1' : (rows l).set (k * 33 + 31) (.slice A1 x.yes.bs.length c1) = rows (l.set k ⟨x.acct, x.what, x.p, x.dest, x.amt, x.ends, x.due, x.st, ⟨A1, x.yes.bs, c1⟩, x.no⟩) := e1
  rw [e1'] at s1
  have s2 := s1.1.stored (k * 33 + 32) (.slice A2 x.no.bs.length c2)
  have hk := (List.getElem?_eq_some_iff.1 hx).1
  have e2 := rows_set (l := l.set k ⟨x.acct, x.what, x.p, x.dest, x.amt, x.ends, x.due, x.st, ⟨A1, x.yes.bs, c1⟩, x.no⟩) (k := k) (x := ⟨x.acct, x.what, x.p, x.dest, x.amt, x.ends, x.due, x.st, ⟨A1, x.yes.bs, c1⟩, x.no⟩) (y := ⟨x.acct, x.what, x.p, x.dest, x.amt, x.ends, x.due, x.st, ⟨A1, x.yes.bs, c1⟩, ⟨A2, x.no.bs, c2⟩⟩) (j := 32) (v := .slice A2 x.no.bs.length c2) (by rw [List.getElem?_set_self hk]) (by decide) rfl
  have e2' : (rows (l.set k ⟨x.acct, x.what, x.p, x.dest, x.amt, x.ends, x.due, x.st, ⟨A1, x.yes.bs, c1⟩, x.no⟩)).set (k * 33 + 32) (.slice A2 x.no.bs.length c2) = _ := e2
  rw [e2', List.set_set] at s2
  exact ⟨s2.1, grown_trans s1.2 s2.2⟩
theorem held_mots {w w' : World} {G b : Nat} {x y z : Value} (h : w.cell? ⟨G, 38, none⟩ = some x ∧ w.cell? ⟨b, 31, none⟩ = some y ∧ w.cell? ⟨b, 32, none⟩ = some z) (hb : Below w.heap.size w w') (hG : G < w.heap.size) (hl : b < w.heap.size) : w'.cell? ⟨G, 38, none⟩ = some x ∧ w'.cell? ⟨b, 31, none⟩ = some y ∧ w'.cell? ⟨b, 32, none⟩ = some z :=
  ⟨(hb.cell hG).trans h.1, (hb.cell hl).trans h.2.1, (hb.cell hl).trans h.2.2⟩
theorem held_mots_set {w : World} {G b g k : Nat} {x y z : Value} (h : w.cell? ⟨G, 38, none⟩ = some x ∧ w.cell? ⟨b, 31, none⟩ = some y ∧ w.cell? ⟨b, 32, none⟩ = some z) (hG : G ≠ g) (hl : b ≠ g) (u : Value) : (w.setCell ⟨g, k, none⟩ u).cell? ⟨G, 38, none⟩ = some x ∧ (w.setCell ⟨g, k, none⟩ u).cell? ⟨b, 31, none⟩ = some y ∧ (w.setCell ⟨g, k, none⟩ u).cell? ⟨b, 32, none⟩ = some z :=
  ⟨(World.cell?_setCell_other _ _ _ _ (fun e => hG (congrArg Addr.block e).symm)).trans h.1, (World.cell?_setCell_other _ _ _ _ (fun e => hl (congrArg Addr.block e).symm)).trans h.2.1, (World.cell?_setCell_other _ _ _ _ (fun e => hl (congrArg Addr.block e).symm)).trans h.2.2⟩
theorem ring_put {w : World} {base n c g k : Nat} {l : List BV} (h : w.ownsRow base 31 1 (.slice (some ⟨g, 0, none⟩) n c) n (bvs l)) (b : BV) :
    (w.setCell ⟨g, k, none⟩ (.slice b.row b.bs.length b.cap)).ownsRow base 31 1 (.slice (some ⟨g, 0, none⟩) n c) n (bvs (l.set k b)) ∧ w.grownBy (w.setCell ⟨g, k, none⟩ (.slice b.row b.bs.length b.cap)) (some g) := by
  have s1 := h.stored k (.slice b.row b.bs.length b.cap)
  rw [show (bvs l).set k (.slice b.row b.bs.length b.cap) = bvs (l.set k b) by unfold bvs; rw [List.map_set]; rfl] at s1
  exact s1

/-- The cells of a state, its lists wherever they lie. -/

def sv (s : Sta) (v32 v33 v34 v35 v36 v37 v38 v39 v40 : Value) : Array Value := #[.int .u64 (s.p.inc : Int), .int .u64 (s.p.maxEff : Int), .int .u64 (s.p.floor : Int), .int .u64 (s.p.cap : Int), .int .u64 (s.p.up : Int), .int .u64 (s.p.down : Int), .int .u64 (s.p.bias : Int), .int .u64 (s.p.quot : Int), .int .u64 (s.p.biasEm : Int), .int .u64 (s.p.quotEm : Int), .int .u64 (s.p.recover : Int), .int .u64 (s.p.scoreCap : Int), .int .u64 (s.p.rate : Int), .int .u64 (s.p.bond : Int), .int .i64 s.p.delay, .int .i64 s.p.streak, .int .i64 s.p.boost, .int .i64 s.p.absent, .int .i64 s.p.burn, .int .i64 s.p.churn, .int .i64 s.p.wait, .int .i64 s.p.poll, .int .i64 s.p.enact, .int .i64 s.p.quorum, .int .u64 (s.most : Int), .int .u64 (s.gen : Int), .int .u64 (s.mint : Int), .int .u64 (s.burn : Int), .int .u64 (s.treas : Int), .int .i64 s.epoch, .int .i64 s.calm, .bool s.em, v32, v33, v34, v35, v36, v37, v38, v39, v40]
set_option maxRecDepth 100000 in
set_option maxHeartbeats 8000000 in
/-- A copy, every list of it in memory of the call's own. -/
theorem copied_is (s : Sta) (w : World) (hs : StaAt w s) :
    Calls Try.prog 30 #[.agg (Rec.vals s)] w fun e w' => ∃ t : Sta, e = .returned (.agg (Rec.vals t)) ∧ t.pure = s.pure ∧ StaOwn w' (w.heap.size + 2) t ∧ Below w.heap.size w w' := by
  have k32 := fun (W : World) (hB : Below w.heap.size w W) => clones_nat (u64s s.purses.l) (s.purses.l.length) _ (s.purses.A) (s.purses.c) W (hs.purses.up hB).row (by rw [u64s_len, Nat.mul_one]) (u64s_one) hs.purses.fit
  have k33 := fun (W : World) (hB : Below w.heap.size w W) => clones_mem (rows s.mems.l) (s.mems.l.length) _ (s.mems.A) (s.mems.c) W (hs.mems.up hB).row (rows_len _) (rows_onecell _) hs.mems.fit
  have k34 := fun (W : World) (hB : Below w.heap.size w W) => clones_int (zvals s.entry.l) (s.entry.l.length) _ (s.entry.A) (s.entry.c) W (hs.entry.up hB).row (by rw [zvals_len, Nat.mul_one]) (zvals_one) hs.entry.fit
  have k35 := fun (W : World) (hB : Below w.heap.size w W) => clones_int (zvals s.exit.l) (s.exit.l.length) _ (s.exit.A) (s.exit.c) W (hs.exit.up hB).row (by rw [zvals_len, Nat.mul_one]) (zvals_one) hs.exit.fit
  have k36 := fun (W : World) (hB : Below w.heap.size w W) => clones_dep (rows s.pool.l) (s.pool.l.length) _ (s.pool.A) (s.pool.c) W (hs.pool.up hB).row (rows_len _) (rows_onecell _) hs.pool.fit
  have k37 := fun (W : World) (hB : Below w.heap.size w W) => clones_due (rows s.dues.l) (s.dues.l.length) _ (s.dues.A) (s.dues.c) W (hs.dues.up hB).row (rows_len _) (rows_onecell _) hs.dues.fit
  have k38 := fun (W : World) (hB : Below w.heap.size w W) => clones_mot (rows s.mots.l) (s.mots.l.length) _ (s.mots.A) (s.mots.c) W (hs.mots.up hB).row (rows_len _) (rows_onecell _) hs.mots.fit
  have k39 := fun (W : World) (hB : Below w.heap.size w W) => clones_byte (u8s s.marks.bs) (s.marks.bs.length) _ (s.marks.row) (s.marks.cap) W (hs.marks.sl.up hB).row (by rw [u8s_len, Nat.mul_one]) (u8s_one) hs.marks.sl.fit
  have k40 := fun (W : World) (hB : Below w.heap.size w W) => clones_bytes (bvs s.ring.l) (s.ring.l.length) _ (s.ring.A) (s.ring.c) W (hs.ring.up hB).row (by rw [bvs_len, Nat.mul_one]) (bvs_one) hs.ring.fit
  have kb := fun (b : BV) (W : World) (hb : BvAt W b) => clones_byte (u8s b.bs) b.bs.length _ b.row b.cap W hb.sl.row (by rw [u8s_len, Nat.mul_one]) u8s_one hb.sl.fit
  have K32 := Lib.hid k32
  have K33 := Lib.hid k33
  have K34 := Lib.hid k34
  have K35 := Lib.hid k35
  have K36 := Lib.hid k36
  have K37 := Lib.hid k37
  have K38 := Lib.hid k38
  have K39 := Lib.hid k39
  have K40 := Lib.hid k40
  have KB := Lib.hid kb
  have HS := Lib.hid hs
  clear kb hs k32 k33 k34 k35 k36 k37 k38 k39 k40
  go_enter Try.func30, Try.ntmps30
  go_upto_region 1 with fail
  generalize hw0 : World.alloc (World.alloc _ _) _ = w0
  have hC : Cop w w0 (sv s (.slice s.purses.A s.purses.l.length s.purses.c) (.slice s.mems.A s.mems.l.length s.mems.c) (.slice s.entry.A s.entry.l.length s.entry.c) (.slice s.exit.A s.exit.l.length s.exit.c) (.slice s.pool.A s.pool.l.length s.pool.c) (.slice s.dues.A s.dues.l.length s.dues.c) (.slice s.mots.A s.mots.l.length s.mots.c) (.slice s.marks.row s.marks.bs.length s.marks.cap) (.slice s.ring.A s.ring.l.length s.ring.c)) [] := by
    have h := RecAt.new (w.alloc (.cells (Rec.vals s) 34)) (Rec.vals Sta.zero) 34
    rw [World.size_alloc] at h
    refine ⟨?_, ?_, fun it hi => (by cases hi), ?_⟩
    · rw [← hw0]; exact (RecAt.new w (Rec.vals s) 34).up ((Below.refl _ _).alloc (Nat.le_refl _) _)
    · rw [← hw0]; exact h
    · rw [← hw0]; exact ((Below.refl _ _).alloc (Nat.le_refl _) _).alloc (by simp) _
  clear hw0
  have c32f : w0.cell? ⟨w.heap.size, 32, none⟩ = some (.slice s.purses.A s.purses.l.length s.purses.c) := hC.S.cell 32
  go_wp2_with (first
    | (go_at_call 38; refine (K32.out w0 hC.B).mono ?_; clear K32; rintro e w1 ⟨v, rfl, ho, hb⟩; obtain ⟨A32, c32, rfl⟩ := own_slice ho; have hC := (hC.up hb).add ho hC.size; clear ho hb c32f)
    | (refine store_slot 25 _ _ rfl rfl _ 32 (sv s (.slice s.purses.A s.purses.l.length s.purses.c) (.slice s.mems.A s.mems.l.length s.mems.c) (.slice s.entry.A s.entry.l.length s.entry.c) (.slice s.exit.A s.exit.l.length s.exit.c) (.slice s.pool.A s.pool.l.length s.pool.c) (.slice s.dues.A s.dues.l.length s.dues.c) (.slice s.mots.A s.mots.l.length s.mots.c) (.slice s.marks.row s.marks.bs.length s.marks.cap) (.slice s.ring.A s.ring.l.length s.ring.c)) (sv s (.slice A32 s.purses.l.length c32) (.slice s.mems.A s.mems.l.length s.mems.c) (.slice s.entry.A s.entry.l.length s.entry.c) (.slice s.exit.A s.exit.l.length s.exit.c) (.slice s.pool.A s.pool.l.length s.pool.c) (.slice s.dues.A s.dues.l.length s.dues.c) (.slice s.mots.A s.mots.l.length s.mots.c) (.slice s.marks.row s.marks.bs.length s.marks.cap) (.slice s.ring.A s.ring.l.length s.ring.c)) 34 (.slice A32 s.purses.l.length c32) rfl rfl hC.S (by show 32 < 41; decide) rfl rfl size_words rfl ?_; intro w2 hS2 hb2 hz2 hk2; have hC := hC.store hS2 (grown_but hb2 hk2); clear hS2 hb2 hz2 hk2; have c33f : w2.cell? ⟨w.heap.size, 33, none⟩ = some (.slice s.mems.A s.mems.l.length s.mems.c) := hC.S.cell 33)
    | (go_at_call 39; refine (K33.out w2 hC.B).mono ?_; clear K33; rintro e w3 ⟨v, rfl, ho, hb⟩; obtain ⟨A33, c33, rfl⟩ := own_slice ho; have hC := (hC.up hb).add ho hC.size; clear ho hb c33f)
    | (refine store_slot 26 _ _ rfl rfl _ 33 (sv s (.slice A32 s.purses.l.length c32) (.slice s.mems.A s.mems.l.length s.mems.c) (.slice s.entry.A s.entry.l.length s.entry.c) (.slice s.exit.A s.exit.l.length s.exit.c) (.slice s.pool.A s.pool.l.length s.pool.c) (.slice s.dues.A s.dues.l.length s.dues.c) (.slice s.mots.A s.mots.l.length s.mots.c) (.slice s.marks.row s.marks.bs.length s.marks.cap) (.slice s.ring.A s.ring.l.length s.ring.c)) (sv s (.slice A32 s.purses.l.length c32) (.slice A33 s.mems.l.length c33) (.slice s.entry.A s.entry.l.length s.entry.c) (.slice s.exit.A s.exit.l.length s.exit.c) (.slice s.pool.A s.pool.l.length s.pool.c) (.slice s.dues.A s.dues.l.length s.dues.c) (.slice s.mots.A s.mots.l.length s.mots.c) (.slice s.marks.row s.marks.bs.length s.marks.cap) (.slice s.ring.A s.ring.l.length s.ring.c)) 34 (.slice A33 s.mems.l.length c33) rfl rfl hC.S (by show 33 < 41; decide) rfl rfl size_sl26 rfl ?_; intro w4 hS2 hb2 hz2 hk2; have hC := hC.store hS2 (grown_but hb2 hk2); clear hS2 hb2 hz2 hk2))
  have C1 : ∀ w1, Below w4.heap.size w4 w1 → w1.cell? ⟨w.heap.size, 34, none⟩ = some (.slice s.entry.A s.entry.l.length s.entry.c) := fun w1 hb => (hC.S.up hb).cell 34
  have C2 : ∀ w1, Below w4.heap.size w4 w1 → w1.cell? ⟨w.heap.size, 35, none⟩ = some (.slice s.exit.A s.exit.l.length s.exit.c) := fun w1 hb => (hC.S.up hb).cell 35
  refine region_vary [] 7 (fun w' => Below w4.heap.size w4 w') (by kernel_rfl) (by kernel_rfl) (Below.refl _ _).drew ?_
  simp only [List.take_succ_cons, List.take_zero, List.drop_succ_cons, List.drop_zero]
  refine SeqV.take (fun _ => .pointer (some ⟨w.heap.size, 34, none⟩)) (fun _ => by rfl) (by rfl) (fun _ _ _ => rfl) (fun val w1 hS hR => ?_) ?_; · (go_simp <;> with_reducible rfl)
  simp only [Act.put, List.setIfInBounds_toArray, List.set_cons_zero, List.set_cons_succ]
  refine SeqV.take (fun _ => .slice s.entry.A s.entry.l.length s.entry.c) (fun _ => by rfl) (by rfl) (fun _ _ _ => rfl) (fun val w1 hS hR => ?_) ?_; · (have x := C1 w1 hS; go_simp <;> with_reducible rfl)
  simp only [Act.put, List.setIfInBounds_toArray, List.set_cons_zero, List.set_cons_succ]
  refine SeqV.make (f := 40) (args := fun val => #[.slice s.entry.A s.entry.l.length s.entry.c]) (fun _ v w1 => w1.ownsRow w4.heap.size 3 1 v (s.entry.l.length) (zvals s.entry.l)) (fun val w1 hS hR => ?_) (fun _ => by rfl) (by rfl) (fun _ _ _ v w1 h => h) (fun _ v w1 w2 h hb => own_kept h hb) (fun val w1 => ?_) ?_
  · exact own_of hS (K34.out w1 (Below.then hC.B hS))
  · go_simp
  simp only [Act.put, List.setIfInBounds_toArray, List.set_cons_zero, List.set_cons_succ]
  refine SeqV.take (fun _ => .pointer (some ⟨w.heap.size, 35, none⟩)) (fun _ => by rfl) (by rfl) (fun _ _ _ => rfl) (fun val w1 hS hR => ?_) ?_; · (go_simp <;> with_reducible rfl)
  simp only [Act.put, List.setIfInBounds_toArray, List.set_cons_zero, List.set_cons_succ]
  refine SeqV.take (fun _ => .slice s.exit.A s.exit.l.length s.exit.c) (fun _ => by rfl) (by rfl) (fun _ _ _ => rfl) (fun val w1 hS hR => ?_) ?_; · (have x := C2 w1 hS; go_simp <;> with_reducible rfl)
  simp only [Act.put, List.setIfInBounds_toArray, List.set_cons_zero, List.set_cons_succ]
  refine SeqV.make (f := 40) (args := fun val => #[.slice s.exit.A s.exit.l.length s.exit.c]) (fun _ v w1 => w1.ownsRow w4.heap.size 3 1 v (s.exit.l.length) (zvals s.exit.l)) (fun val w1 hS hR => ?_) (fun _ => by rfl) (by rfl) (fun _ _ _ v w1 h => h) (fun _ v w1 w2 h hb => own_kept h hb) (fun val w1 => ?_) ?_
  · exact own_of hS (K35.out w1 (Below.then hC.B hS))
  · go_simp
  simp only [Act.put, List.setIfInBounds_toArray, List.set_cons_zero, List.set_cons_succ]
  refine SeqV.take (fun _ => .pointer (some ⟨w.heap.size, 34, none⟩)) (fun _ => by rfl) (by rfl) (fun _ _ _ => rfl) (fun val w1 hS hR => ?_) ?_; · (go_simp <;> with_reducible rfl)
  simp only [Act.put, List.setIfInBounds_toArray, List.set_cons_zero, List.set_cons_succ]
  intro val w5 hS1 hR1 hD1
  have ho1 : w5.ownsRow w4.heap.size 3 1 (val 2) (s.entry.l.length) (zvals s.entry.l) := hR1 2 (by decide)
  have ho2 : w5.ownsRow w4.heap.size 3 1 (val 5) (s.exit.l.length) (zvals s.exit.l) := hR1 5 (by decide)
  obtain ⟨A34, c34, e1⟩ := own_slice ho1
  obtain ⟨A35, c35, e2⟩ := own_slice ho2
  simp only [e1, e2]
  rw [e1] at ho1
  rw [e2] at ho2
  have hC := ((hC.up hS1).add ho1 hC.size).add ho2 hC.size
  clear hR1 hD1 hS1 ho1 ho2 C1 C2 K34 K35
  go_wp2_with (first
    | (refine store_slot 27 _ _ rfl rfl _ 34 (sv s (.slice A32 s.purses.l.length c32) (.slice A33 s.mems.l.length c33) (.slice s.entry.A s.entry.l.length s.entry.c) (.slice s.exit.A s.exit.l.length s.exit.c) (.slice s.pool.A s.pool.l.length s.pool.c) (.slice s.dues.A s.dues.l.length s.dues.c) (.slice s.mots.A s.mots.l.length s.mots.c) (.slice s.marks.row s.marks.bs.length s.marks.cap) (.slice s.ring.A s.ring.l.length s.ring.c)) (sv s (.slice A32 s.purses.l.length c32) (.slice A33 s.mems.l.length c33) (.slice A34 s.entry.l.length c34) (.slice s.exit.A s.exit.l.length s.exit.c) (.slice s.pool.A s.pool.l.length s.pool.c) (.slice s.dues.A s.dues.l.length s.dues.c) (.slice s.mots.A s.mots.l.length s.mots.c) (.slice s.marks.row s.marks.bs.length s.marks.cap) (.slice s.ring.A s.ring.l.length s.ring.c)) 34 (.slice A34 s.entry.l.length c34) rfl rfl hC.S (by show 34 < 41; decide) rfl rfl size_sl27 rfl ?_; intro w6 hS2 hb2 hz2 hk2; have hC := hC.store hS2 (grown_but hb2 hk2); clear hS2 hb2 hz2 hk2)
    | (refine store_slot 27 _ _ rfl rfl _ 35 (sv s (.slice A32 s.purses.l.length c32) (.slice A33 s.mems.l.length c33) (.slice A34 s.entry.l.length c34) (.slice s.exit.A s.exit.l.length s.exit.c) (.slice s.pool.A s.pool.l.length s.pool.c) (.slice s.dues.A s.dues.l.length s.dues.c) (.slice s.mots.A s.mots.l.length s.mots.c) (.slice s.marks.row s.marks.bs.length s.marks.cap) (.slice s.ring.A s.ring.l.length s.ring.c)) (sv s (.slice A32 s.purses.l.length c32) (.slice A33 s.mems.l.length c33) (.slice A34 s.entry.l.length c34) (.slice A35 s.exit.l.length c35) (.slice s.pool.A s.pool.l.length s.pool.c) (.slice s.dues.A s.dues.l.length s.dues.c) (.slice s.mots.A s.mots.l.length s.mots.c) (.slice s.marks.row s.marks.bs.length s.marks.cap) (.slice s.ring.A s.ring.l.length s.ring.c)) 34 (.slice A35 s.exit.l.length c35) rfl rfl hC.S (by show 35 < 41; decide) rfl rfl size_sl27 rfl ?_; intro w7 hS2 hb2 hz2 hk2; have hC := hC.store hS2 (grown_but hb2 hk2); clear hS2 hb2 hz2 hk2))
  have C1 : ∀ w1, Below w7.heap.size w7 w1 → w1.cell? ⟨w.heap.size, 36, none⟩ = some (.slice s.pool.A s.pool.l.length s.pool.c) := fun w1 hb => (hC.S.up hb).cell 36
  have C2 : ∀ w1, Below w7.heap.size w7 w1 → w1.cell? ⟨w.heap.size, 37, none⟩ = some (.slice s.dues.A s.dues.l.length s.dues.c) := fun w1 hb => (hC.S.up hb).cell 37
  refine region_vary [] 7 (fun w' => Below w7.heap.size w7 w') (by kernel_rfl) (by kernel_rfl) (Below.refl _ _).drew ?_
  simp only [List.take_succ_cons, List.take_zero, List.drop_succ_cons, List.drop_zero]
  refine SeqV.take (fun _ => .pointer (some ⟨w.heap.size, 36, none⟩)) (fun _ => by rfl) (by rfl) (fun _ _ _ => rfl) (fun val w1 hS hR => ?_) ?_; · (go_simp <;> with_reducible rfl)
  simp only [Act.put, List.setIfInBounds_toArray, List.set_cons_zero, List.set_cons_succ]
  refine SeqV.take (fun _ => .slice s.pool.A s.pool.l.length s.pool.c) (fun _ => by rfl) (by rfl) (fun _ _ _ => rfl) (fun val w1 hS hR => ?_) ?_; · (have x := C1 w1 hS; go_simp <;> with_reducible rfl)
  simp only [Act.put, List.setIfInBounds_toArray, List.set_cons_zero, List.set_cons_succ]
  refine SeqV.make (f := 41) (args := fun val => #[.slice s.pool.A s.pool.l.length s.pool.c]) (fun _ v w1 => w1.ownsRow w7.heap.size 62 4 v (s.pool.l.length) (rows s.pool.l)) (fun val w1 hS hR => ?_) (fun _ => by rfl) (by rfl) (fun _ _ _ v w1 h => h) (fun _ v w1 w2 h hb => own_kept h hb) (fun val w1 => ?_) ?_
  · exact own_of hS (K36.out w1 (Below.then hC.B hS))
  · go_simp
  simp only [Act.put, List.setIfInBounds_toArray, List.set_cons_zero, List.set_cons_succ]
  refine SeqV.take (fun _ => .pointer (some ⟨w.heap.size, 37, none⟩)) (fun _ => by rfl) (by rfl) (fun _ _ _ => rfl) (fun val w1 hS hR => ?_) ?_; · (go_simp <;> with_reducible rfl)
  simp only [Act.put, List.setIfInBounds_toArray, List.set_cons_zero, List.set_cons_succ]
  refine SeqV.take (fun _ => .slice s.dues.A s.dues.l.length s.dues.c) (fun _ => by rfl) (by rfl) (fun _ _ _ => rfl) (fun val w1 hS hR => ?_) ?_; · (have x := C2 w1 hS; go_simp <;> with_reducible rfl)
  simp only [Act.put, List.setIfInBounds_toArray, List.set_cons_zero, List.set_cons_succ]
  refine SeqV.make (f := 42) (args := fun val => #[.slice s.dues.A s.dues.l.length s.dues.c]) (fun _ v w1 => w1.ownsRow w7.heap.size 64 3 v (s.dues.l.length) (rows s.dues.l)) (fun val w1 hS hR => ?_) (fun _ => by rfl) (by rfl) (fun _ _ _ v w1 h => h) (fun _ v w1 w2 h hb => own_kept h hb) (fun val w1 => ?_) ?_
  · exact own_of hS (K37.out w1 (Below.then hC.B hS))
  · go_simp
  simp only [Act.put, List.setIfInBounds_toArray, List.set_cons_zero, List.set_cons_succ]
  refine SeqV.take (fun _ => .pointer (some ⟨w.heap.size, 36, none⟩)) (fun _ => by rfl) (by rfl) (fun _ _ _ => rfl) (fun val w1 hS hR => ?_) ?_; · (go_simp <;> with_reducible rfl)
  simp only [Act.put, List.setIfInBounds_toArray, List.set_cons_zero, List.set_cons_succ]
  intro val w8 hS1 hR1 hD1
  have ho1 : w8.ownsRow w7.heap.size 62 4 (val 2) (s.pool.l.length) (rows s.pool.l) := hR1 2 (by decide)
  have ho2 : w8.ownsRow w7.heap.size 64 3 (val 5) (s.dues.l.length) (rows s.dues.l) := hR1 5 (by decide)
  obtain ⟨A36, c36, e1⟩ := own_slice ho1
  obtain ⟨A37, c37, e2⟩ := own_slice ho2
  simp only [e1, e2]
  rw [e1] at ho1
  rw [e2] at ho2
  have hC := ((hC.up hS1).add ho1 hC.size).add ho2 hC.size
  clear hR1 hD1 hS1 ho1 ho2 C1 C2 K36 K37
  go_upto_region 6 with (first
    | (refine store_slot 28 _ _ rfl rfl _ 36 (sv s (.slice A32 s.purses.l.length c32) (.slice A33 s.mems.l.length c33) (.slice A34 s.entry.l.length c34) (.slice A35 s.exit.l.length c35) (.slice s.pool.A s.pool.l.length s.pool.c) (.slice s.dues.A s.dues.l.length s.dues.c) (.slice s.mots.A s.mots.l.length s.mots.c) (.slice s.marks.row s.marks.bs.length s.marks.cap) (.slice s.ring.A s.ring.l.length s.ring.c)) (sv s (.slice A32 s.purses.l.length c32) (.slice A33 s.mems.l.length c33) (.slice A34 s.entry.l.length c34) (.slice A35 s.exit.l.length c35) (.slice A36 s.pool.l.length c36) (.slice s.dues.A s.dues.l.length s.dues.c) (.slice s.mots.A s.mots.l.length s.mots.c) (.slice s.marks.row s.marks.bs.length s.marks.cap) (.slice s.ring.A s.ring.l.length s.ring.c)) 34 (.slice A36 s.pool.l.length c36) rfl rfl hC.S (by show 36 < 41; decide) rfl rfl size_sl28 rfl ?_; intro w9 hS2 hb2 hz2 hk2; have hC := hC.store hS2 (grown_but hb2 hk2); clear hS2 hb2 hz2 hk2)
    | (refine store_slot 29 _ _ rfl rfl _ 37 (sv s (.slice A32 s.purses.l.length c32) (.slice A33 s.mems.l.length c33) (.slice A34 s.entry.l.length c34) (.slice A35 s.exit.l.length c35) (.slice A36 s.pool.l.length c36) (.slice s.dues.A s.dues.l.length s.dues.c) (.slice s.mots.A s.mots.l.length s.mots.c) (.slice s.marks.row s.marks.bs.length s.marks.cap) (.slice s.ring.A s.ring.l.length s.ring.c)) (sv s (.slice A32 s.purses.l.length c32) (.slice A33 s.mems.l.length c33) (.slice A34 s.entry.l.length c34) (.slice A35 s.exit.l.length c35) (.slice A36 s.pool.l.length c36) (.slice A37 s.dues.l.length c37) (.slice s.mots.A s.mots.l.length s.mots.c) (.slice s.marks.row s.marks.bs.length s.marks.cap) (.slice s.ring.A s.ring.l.length s.ring.c)) 34 (.slice A37 s.dues.l.length c37) rfl rfl hC.S (by show 37 < 41; decide) rfl rfl size_sl29 rfl ?_; intro w10 hS2 hb2 hz2 hk2; have hC := hC.store hS2 (grown_but hb2 hk2); clear hS2 hb2 hz2 hk2; have c38f : w10.cell? ⟨w.heap.size, 38, none⟩ = some (.slice s.mots.A s.mots.l.length s.mots.c) := hC.S.cell 38)
    | (go_at_call 43; refine (K38.out w10 hC.B).mono ?_; clear K38; rintro e w11 ⟨v, rfl, ho, hb⟩; obtain ⟨A38, c38, rfl⟩ := own_slice ho; have hM := own_base ho hC.size; have hC := hC.up hb; clear ho hb c38f)
    | (refine store_slot 30 _ _ rfl rfl _ 38 (sv s (.slice A32 s.purses.l.length c32) (.slice A33 s.mems.l.length c33) (.slice A34 s.entry.l.length c34) (.slice A35 s.exit.l.length c35) (.slice A36 s.pool.l.length c36) (.slice A37 s.dues.l.length c37) (.slice s.mots.A s.mots.l.length s.mots.c) (.slice s.marks.row s.marks.bs.length s.marks.cap) (.slice s.ring.A s.ring.l.length s.ring.c)) (sv s (.slice A32 s.purses.l.length c32) (.slice A33 s.mems.l.length c33) (.slice A34 s.entry.l.length c34) (.slice A35 s.exit.l.length c35) (.slice A36 s.pool.l.length c36) (.slice A37 s.dues.l.length c37) (.slice A38 s.mots.l.length c38) (.slice s.marks.row s.marks.bs.length s.marks.cap) (.slice s.ring.A s.ring.l.length s.ring.c)) 34 (.slice A38 s.mots.l.length c38) rfl rfl hC.S (by show 38 < 41; decide) rfl rfl size_sl30 rfl ?_; intro w12 hS2 hb2 hz2 hk2; have hM := own_apart hM (grown_but hb2 hk2) (fun q e => by have := (hM.lt q e).1; simp; omega); have hC := hC.store hS2 (grown_but hb2 hk2); clear hS2 hb2 hz2 hk2; have c38f : w12.cell? ⟨w.heap.size, 38, none⟩ = some (.slice A38 s.mots.l.length c38) := hC.S.cell 38))
  have hE : ∀ it ∈ ([⟨64, 3, .slice A37 s.dues.l.length c37, s.dues.l.length, rows s.dues.l⟩, ⟨62, 4, .slice A36 s.pool.l.length c36, s.pool.l.length, rows s.pool.l⟩, ⟨3, 1, .slice A35 s.exit.l.length c35, s.exit.l.length, zvals s.exit.l⟩, ⟨3, 1, .slice A34 s.entry.l.length c34, s.entry.l.length, zvals s.entry.l⟩, ⟨60, 6, .slice A33 s.mems.l.length c33, s.mems.l.length, rows s.mems.l⟩, ⟨22, 1, .slice A32 s.purses.l.length c32, s.purses.l.length, u64s s.purses.l⟩] : List OwnIt), it.e ≠ 90 ∧ it.e ≠ 31 := by
    intro it hi
    simp only [List.mem_cons, List.not_mem_nil, or_false] at hi
    rcases hi with rfl | rfl | rfl | rfl | rfl | rfl <;> (constructor <;> (simp only [ne_eq]; decide))
  obtain ⟨ITS, hITS⟩ : ∃ x : List OwnIt, x = [⟨64, 3, .slice A37 s.dues.l.length c37, s.dues.l.length, rows s.dues.l⟩, ⟨62, 4, .slice A36 s.pool.l.length c36, s.pool.l.length, rows s.pool.l⟩, ⟨3, 1, .slice A35 s.exit.l.length c35, s.exit.l.length, zvals s.exit.l⟩, ⟨3, 1, .slice A34 s.entry.l.length c34, s.entry.l.length, zvals s.entry.l⟩, ⟨60, 6, .slice A33 s.mems.l.length c33, s.mems.l.length, rows s.mems.l⟩, ⟨22, 1, .slice A32 s.purses.l.length c32, s.purses.l.length, u64s s.purses.l⟩] := ⟨_, rfl⟩
  rw [← hITS] at hC hE
  have HITS := Lib.hid hITS
  have hmn : s.mots.l.length ≤ 140737488355328 := by have := HS.out.mots.fit; omega
  have HE := Lib.hid hE
  have HC := Lib.hid hC
  have HM := Lib.hid hM
  clear hC hM hITS hE
  go_wp2
  go_loopw [38] (fun iv wr => ∃ (k : Nat) (N : List Mot), k ≤ s.mots.l.length ∧ iv = .int .i64 (k : Int) ∧ Hid (N.length = k) ∧ Hid (N.map Mot.pure = (s.mots.l.take k).map Mot.pure) ∧ Hid (wr.ownsRow (w.heap.size + 2) 90 33 (.slice A38 s.mots.l.length c38) s.mots.l.length (rows (N ++ s.mots.l.drop k))) ∧ Hid (Cop w wr (sv s (.slice A32 s.purses.l.length c32) (.slice A33 s.mems.l.length c33) (.slice A34 s.entry.l.length c34) (.slice A35 s.exit.l.length c35) (.slice A36 s.pool.l.length c36) (.slice A37 s.dues.l.length c37) (.slice A38 s.mots.l.length c38) (.slice s.marks.row s.marks.bs.length s.marks.cap) (.slice s.ring.A s.ring.l.length s.ring.c)) (motIts N ++ ITS))) (fun iv _ => s.mots.l.length - (intOf iv).toNat)
  case atStart => exact ⟨0, [], Nat.zero_le _, rfl, Lib.hid rfl, Lib.hid rfl, HM, HC⟩
  case round =>
    obtain ⟨k, N, hk, rfl, HNL, HNP, HMr, HCr⟩ := hrel
    clear HM HC c38f
    by_cases hlt : k < s.mots.l.length
    · obtain ⟨x, hx⟩ : ∃ x, s.mots.l[k]? = some x := ⟨_, List.getElem?_eq_getElem hlt⟩
      obtain ⟨g, hg, hgL⟩ := own_some HMr.out (by omega)
      subst hg
      have hcx := mid_at HNL.out hx
      have hgr : g < wr.heap.size := (HMr.out.lt g rfl).2
      have hat : LiesAt wr ⟨g, k * 33, none⟩ (Rec.vals x) := own_lies (α := Mot) HMr.out hcx
      have hmx := HS.out.mot x (List.mem_of_getElem? hx)
      have hy := hmx.yes.up HCr.out.B
      have hn := hmx.no.up HCr.out.B
      have hki : (k : Int) < (s.mots.l.length : Int) := by omega
      have hk0 : (0 : Int) ≤ (k : Int) := by omega
      have HX := Lib.hid hx
      have HCX := Lib.hid hcx
      have HY := Lib.hid hy
      have HN := Lib.hid hn
      clear hx hcx hmx hy hn
      go_wp2_with (first
        | (refine load_rec 90 _ rfl rfl _ (Rec.vals x) rfl hat Try.underlying90 size_mot ?_)
        | (refine store_rec 90 _ _ rfl rfl _ (Rec.vals x) (Rec.vals Mot.zero) 90 rfl rfl (RecAt.new _ _ _) size_mot rfl (Rec.one x) ?_; intro w20 hX hb20 hz20 hk20; clear hz20 hk20; have hb20 := rec_made (Below.refl _ _) hb20; have HC20 := Lib.hid (HCr.out.up hb20); have HM20 := Lib.hid (own_kept HMr.out hb20); have HY20 := Lib.hid ((HY.out.up hb20).up (Below.refl _ _).drew); have HN20 := Lib.hid ((HN.out.up hb20).up (Below.refl _ _).drew); have hbl : wr.heap.size < w20.heap.size := hX.lt; have hGl : w.heap.size < w20.heap.size := HC20.out.S.lt; have cy : w20.cell? ⟨wr.heap.size, 31, none⟩ = some (.slice x.yes.row x.yes.bs.length x.yes.cap) := hX.cell 31; have cn : w20.cell? ⟨wr.heap.size, 32, none⟩ = some (.slice x.no.row x.no.bs.length x.no.cap) := hX.cell 32; have cG : w20.cell? ⟨w.heap.size, 38, none⟩ = some (.slice (some ⟨g, 0, none⟩) s.mots.l.length c38) := HC20.out.S.cell 38; clear hb20 hX hat HY HN HMr HCr))
      have hh : w20.drew.cell? ⟨w.heap.size, 38, none⟩ = some (.slice (some ⟨g, 0, none⟩) s.mots.l.length c38) ∧ w20.drew.cell? ⟨wr.heap.size, 31, none⟩ = some (.slice x.yes.row x.yes.bs.length x.yes.cap) ∧ w20.drew.cell? ⟨wr.heap.size, 32, none⟩ = some (.slice x.no.row x.no.bs.length x.no.cap) := ⟨cG, cy, cn⟩
      clear cG cy cn
      go_region_held3 (fun w' => w'.cell? ⟨w.heap.size, 38, none⟩ = some (.slice (some ⟨g, 0, none⟩) s.mots.l.length c38) ∧ w'.cell? ⟨wr.heap.size, 31, none⟩ = some (.slice x.yes.row x.yes.bs.length x.yes.cap) ∧ w'.cell? ⟨wr.heap.size, 32, none⟩ = some (.slice x.no.row x.no.bs.length x.no.cap))
        (first | exact hh | exact hh1 | exact hh2 | exact hh3 | exact hh4)
        (first
          | (go_at_call 44; (with_reducible refine (KB.out x.yes _ HY20.out).mono ?_); rintro e w21 ⟨v1, rfl, ho1, hb21⟩; obtain ⟨A1, c1, rfl⟩ := own_slice ho1; have hh1 := held_mots hh hb21 hGl hbl; have hs21 : w20.heap.size ≤ w21.heap.size := hb21.size)
          | (go_at_call 44; (with_reducible refine (KB.out x.no _ (HN20.out.up hb21)).mono ?_); rintro e w22 ⟨v2, rfl, ho2, hb22⟩; obtain ⟨A2, c2, rfl⟩ := own_slice ho2; have hh2 := held_mots hh1 hb22 (Nat.lt_of_lt_of_le hGl hs21) (Nat.lt_of_lt_of_le hbl hs21); have hb02 : Below w20.heap.size w20 w22 := Below.then (((Below.refl _ _).drew).trans hb21) hb22; have hM22 := own_kept HM20.out hb02; have HM22 := Lib.hid hM22; have c31 : w22.cell? ⟨g, k * 33 + 31, none⟩ = some (.slice x.yes.row x.yes.bs.length x.yes.cap) := (own_lies (α := Mot) hM22 HCX.out).fld 30 rfl; have c32 : w22.cell? ⟨g, k * 33 + 32, none⟩ = some (.slice x.no.row x.no.bs.length x.no.cap) := (own_lies (α := Mot) hM22 HCX.out).fld 31 rfl; have f31 : w22.frozen? ⟨g, k * 33 + 31, none⟩ = false := hM22.frozenAt _; have c32s : (w22.setCell ⟨g, k * 33 + 31, none⟩ (.slice A1 x.yes.bs.length c1)).cell? ⟨g, k * 33 + 32, none⟩ = some (.slice x.no.row x.no.bs.length x.no.cap) := (World.cell?_setCell_other _ _ _ _ (fun e => by have := congrArg Addr.off e; simp at this)).trans c32; have f32s : (w22.setCell ⟨g, k * 33 + 31, none⟩ (.slice A1 x.yes.bs.length c1)).frozen? ⟨g, k * 33 + 32, none⟩ = false := (World.frozen?_setCell _ _ _ _).trans (hM22.frozenAt _); have hgG : w.heap.size ≠ g := (by omega); have hgb : wr.heap.size ≠ g := (by omega); have hh3 := held_mots_set (k := k * 33 + 31) hh2 hgG hgb (.slice A1 x.yes.bs.length c1); have hh4 := held_mots_set (k := k * 33 + 32) hh3 hgG hgb (.slice A2 x.no.bs.length c2); clear hM22 c32))
      have hput := mot_put HM22.out HCX.out A1 A2 c1 c2
      have hco := (((HC20.out.up hb02).add (own_kept ho1 hb22) (show w.heap.size + 2 ≤ w20.heap.size from HC20.out.size)).add ho2 (show w.heap.size + 2 ≤ w21.heap.size from Nat.le_trans HC20.out.size hs21)).inown HM22.out (fun it hi => by
        rcases List.mem_cons.1 hi with rfl | hi
        · simp only [ne_eq]; decide
        rcases List.mem_cons.1 hi with rfl | hi
        · simp only [ne_eq]; decide
        rcases List.mem_append.1 hi with hi | hi
        · rw [motIts_e it hi]; decide
        · exact (HE.out it hi).1) hput.2
      have hrow := hput.1
      rw [mid_put HNL.out hlt] at hrow
      obtain ⟨y, hyy⟩ : ∃ y : Mot, y = ⟨x.acct, x.what, x.p, x.dest, x.amt, x.ends, x.due, x.st, ⟨A1, x.yes.bs, c1⟩, ⟨A2, x.no.bs, c2⟩⟩ := ⟨_, rfl⟩
      have hco2 := hco.sub (its' := motIts (N ++ [y]) ++ ITS) (fun it hi => by
        rcases List.mem_append.1 hi with h1 | h1
        · rw [motIts_snoc] at h1
          rcases List.mem_append.1 h1 with h2 | h2
          · exact List.mem_cons_of_mem _ (List.mem_cons_of_mem _ (List.mem_append_left _ h2))
          · simp only [List.mem_cons, List.not_mem_nil, or_false] at h2
            rcases h2 with rfl | rfl
            · rw [hyy]; exact List.mem_cons_of_mem _ List.mem_cons_self
            · rw [hyy]; exact List.mem_cons_self
        · exact List.mem_cons_of_mem _ (List.mem_cons_of_mem _ (List.mem_append_right _ h1)))
      have hpure : (N ++ [y]).map Mot.pure = (s.mots.l.take (k + 1)).map Mot.pure := by
        rw [List.map_append, HNP.out, List.take_add_one, HX.out, List.map_append, hyy]
        rfl
      rw [← hyy] at hrow
      have HCO := Lib.hid hco2
      have HROW := Lib.hid hrow
      have HPURE := Lib.hid hpure
      clear hput hco hrow hyy hco2 hpure HX HCX HC20 HM20 HY20 HN20 hh hh1 hh2 hh3 hh4 c31 c32s f31 f32s hgG hgb hb02 hb21 hb22 ho1 ho2 HM22 hs21 hbl hGl
      go_wp2
      go_roundw
      case rel => exact ⟨k + 1, N ++ [y], by omega, by go_num, Lib.hid (by rw [List.length_append, HNL.out]; rfl), HPURE, HROW, HCO⟩
      case measure => simp [intOf]; omega
    · obtain rfl : k = s.mots.l.length := by omega
      have hM := HMr.out
      rw [List.drop_length, List.append_nil] at hM
      have hP := HNP.out
      rw [List.take_length] at hP
      obtain ⟨w13, rfl⟩ : ∃ x : World, x = wr := ⟨_, rfl⟩
      have hC := HCr.out.add hM (Nat.le_refl _)
      have HNP := Lib.hid hP
      clear hM hP HMr HCr hlt hk
      obtain ⟨ITM, hITM⟩ : ∃ x : List OwnIt, x = ⟨90, 33, .slice A38 s.mots.l.length c38, s.mots.l.length, rows N⟩ :: (motIts N ++ ITS) := ⟨_, rfl⟩
      have hEM : ∀ it ∈ ITM, it.e ≠ 31 := by
        rw [hITM]
        intro it hi
        rcases List.mem_cons.1 hi with rfl | hi
        · simp only [ne_eq]; decide
        rcases List.mem_append.1 hi with hi | hi
        · rw [motIts_e it hi]; decide
        · exact (HE.out it hi).2
      rw [← hITM] at hC
      have HITM := Lib.hid hITM
      have HEM := Lib.hid hEM
      clear hITM hEM
      go_wp2
      have C1 : ∀ w1, Below w13.heap.size w13 w1 → w1.cell? ⟨w.heap.size, 39, none⟩ = some (.slice s.marks.row s.marks.bs.length s.marks.cap) := fun w1 hb => (hC.S.up hb).cell 39
      have C2 : ∀ w1, Below w13.heap.size w13 w1 → w1.cell? ⟨w.heap.size, 40, none⟩ = some (.slice s.ring.A s.ring.l.length s.ring.c) := fun w1 hb => (hC.S.up hb).cell 40
      refine region_vary [] 7 (fun w' => Below w13.heap.size w13 w') (by kernel_rfl) (by kernel_rfl) (Below.refl _ _).drew ?_
      simp only [List.take_succ_cons, List.take_zero, List.drop_succ_cons, List.drop_zero]
      refine SeqV.take (fun _ => .pointer (some ⟨w.heap.size, 39, none⟩)) (fun _ => by rfl) (by rfl) (fun _ _ _ => rfl) (fun val w1 hS hR => ?_) ?_; · (go_simp <;> with_reducible rfl)
      simp only [Act.put, List.setIfInBounds_toArray, List.set_cons_zero, List.set_cons_succ]
      refine SeqV.take (fun _ => .slice s.marks.row s.marks.bs.length s.marks.cap) (fun _ => by rfl) (by rfl) (fun _ _ _ => rfl) (fun val w1 hS hR => ?_) ?_; · (have x := C1 w1 hS; go_simp <;> with_reducible rfl)
      simp only [Act.put, List.setIfInBounds_toArray, List.set_cons_zero, List.set_cons_succ]
      refine SeqV.make (f := 44) (args := fun val => #[.slice s.marks.row s.marks.bs.length s.marks.cap]) (fun _ v w1 => w1.ownsRow w13.heap.size 5 1 v (s.marks.bs.length) (u8s s.marks.bs)) (fun val w1 hS hR => ?_) (fun _ => by rfl) (by rfl) (fun _ _ _ v w1 h => h) (fun _ v w1 w2 h hb => own_kept h hb) (fun val w1 => ?_) ?_
      · exact own_of hS (K39.out w1 (Below.then hC.B hS))
      · go_simp
      simp only [Act.put, List.setIfInBounds_toArray, List.set_cons_zero, List.set_cons_succ]
      refine SeqV.take (fun _ => .pointer (some ⟨w.heap.size, 40, none⟩)) (fun _ => by rfl) (by rfl) (fun _ _ _ => rfl) (fun val w1 hS hR => ?_) ?_; · (go_simp <;> with_reducible rfl)
      simp only [Act.put, List.setIfInBounds_toArray, List.set_cons_zero, List.set_cons_succ]
      refine SeqV.take (fun _ => .slice s.ring.A s.ring.l.length s.ring.c) (fun _ => by rfl) (by rfl) (fun _ _ _ => rfl) (fun val w1 hS hR => ?_) ?_; · (have x := C2 w1 hS; go_simp <;> with_reducible rfl)
      simp only [Act.put, List.setIfInBounds_toArray, List.set_cons_zero, List.set_cons_succ]
      refine SeqV.make (f := 45) (args := fun val => #[.slice s.ring.A s.ring.l.length s.ring.c]) (fun _ v w1 => w1.ownsRow w13.heap.size 31 1 v (s.ring.l.length) (bvs s.ring.l)) (fun val w1 hS hR => ?_) (fun _ => by rfl) (by rfl) (fun _ _ _ v w1 h => h) (fun _ v w1 w2 h hb => own_kept h hb) (fun val w1 => ?_) ?_
      · exact own_of hS (K40.out w1 (Below.then hC.B hS))
      · go_simp
      simp only [Act.put, List.setIfInBounds_toArray, List.set_cons_zero, List.set_cons_succ]
      refine SeqV.take (fun _ => .pointer (some ⟨w.heap.size, 39, none⟩)) (fun _ => by rfl) (by rfl) (fun _ _ _ => rfl) (fun val w1 hS hR => ?_) ?_; · (go_simp <;> with_reducible rfl)
      simp only [Act.put, List.setIfInBounds_toArray, List.set_cons_zero, List.set_cons_succ]
      intro val w14 hS1 hR1 hD1
      have ho1 : w14.ownsRow w13.heap.size 5 1 (val 2) (s.marks.bs.length) (u8s s.marks.bs) := hR1 2 (by decide)
      have ho2 : w14.ownsRow w13.heap.size 31 1 (val 5) (s.ring.l.length) (bvs s.ring.l) := hR1 5 (by decide)
      obtain ⟨A39, c39, e1⟩ := own_slice ho1
      obtain ⟨A40, c40, e2⟩ := own_slice ho2
      simp only [e1, e2]
      rw [e1] at ho1
      rw [e2] at ho2
      have hM := own_base ho2 hC.size
      have hC := (hC.up hS1).add ho1 hC.size
      clear hR1 hD1 hS1 ho1 ho2 C1 C2 K39 K40
      go_upto_region 12 with (first
        | (refine store_slot 31 _ _ rfl rfl _ 39 (sv s (.slice A32 s.purses.l.length c32) (.slice A33 s.mems.l.length c33) (.slice A34 s.entry.l.length c34) (.slice A35 s.exit.l.length c35) (.slice A36 s.pool.l.length c36) (.slice A37 s.dues.l.length c37) (.slice A38 s.mots.l.length c38) (.slice s.marks.row s.marks.bs.length s.marks.cap) (.slice s.ring.A s.ring.l.length s.ring.c)) (sv s (.slice A32 s.purses.l.length c32) (.slice A33 s.mems.l.length c33) (.slice A34 s.entry.l.length c34) (.slice A35 s.exit.l.length c35) (.slice A36 s.pool.l.length c36) (.slice A37 s.dues.l.length c37) (.slice A38 s.mots.l.length c38) (.slice A39 s.marks.bs.length c39) (.slice s.ring.A s.ring.l.length s.ring.c)) 34 (.slice A39 s.marks.bs.length c39) rfl rfl hC.S (by show 39 < 41; decide) rfl rfl size_sl31 rfl ?_; intro w15 hS2 hb2 hz2 hk2; have hM := own_apart hM (grown_but hb2 hk2) (fun q e => by have := (hM.lt q e).1; simp; omega); have hC := hC.store hS2 (grown_but hb2 hk2); clear hS2 hb2 hz2 hk2)
        | (refine store_slot 32 _ _ rfl rfl _ 40 (sv s (.slice A32 s.purses.l.length c32) (.slice A33 s.mems.l.length c33) (.slice A34 s.entry.l.length c34) (.slice A35 s.exit.l.length c35) (.slice A36 s.pool.l.length c36) (.slice A37 s.dues.l.length c37) (.slice A38 s.mots.l.length c38) (.slice A39 s.marks.bs.length c39) (.slice s.ring.A s.ring.l.length s.ring.c)) (sv s (.slice A32 s.purses.l.length c32) (.slice A33 s.mems.l.length c33) (.slice A34 s.entry.l.length c34) (.slice A35 s.exit.l.length c35) (.slice A36 s.pool.l.length c36) (.slice A37 s.dues.l.length c37) (.slice A38 s.mots.l.length c38) (.slice A39 s.marks.bs.length c39) (.slice A40 s.ring.l.length c40)) 34 (.slice A40 s.ring.l.length c40) rfl rfl hC.S (by show 40 < 41; decide) rfl rfl size_sl32 rfl ?_; intro w16 hS2 hb2 hz2 hk2; have hM := own_apart hM (grown_but hb2 hk2) (fun q e => by have := (hM.lt q e).1; simp; omega); have hC := hC.store hS2 (grown_but hb2 hk2); clear hS2 hb2 hz2 hk2; have c40f : w16.cell? ⟨w.heap.size, 40, none⟩ = some (.slice A40 s.ring.l.length c40) := hC.S.cell 40))
      obtain ⟨ITR, hITR⟩ : ∃ x : List OwnIt, x = (⟨5, 1, .slice A39 s.marks.bs.length c39, s.marks.bs.length, u8s s.marks.bs⟩ : OwnIt) :: ITM := ⟨_, rfl⟩
      have hER : ∀ it ∈ ITR, it.e ≠ 31 := by
        rw [hITR]
        intro it hi
        rcases List.mem_cons.1 hi with rfl | hi
        · simp only [ne_eq]; decide
        · exact HEM.out it hi
      rw [← hITR] at hC
      have HITR := Lib.hid hITR
      have HER := Lib.hid hER
      have hrn : s.ring.l.length ≤ 140737488355328 := by have := HS.out.ring.fit; omega
      have HC := Lib.hid hC
      have HM := Lib.hid hM
      clear hC hM hITR hER
      go_wp2
      go_loopw [71] (fun iv wr => ∃ (k : Nat) (R : List BV), k ≤ s.ring.l.length ∧ iv = .int .i64 (k : Int) ∧ Hid (R.length = k) ∧ Hid (R.map BV.bs = (s.ring.l.take k).map BV.bs) ∧ Hid (wr.ownsRow (w.heap.size + 2) 31 1 (.slice A40 s.ring.l.length c40) s.ring.l.length (bvs (R ++ s.ring.l.drop k))) ∧ Hid (Cop w wr (sv s (.slice A32 s.purses.l.length c32) (.slice A33 s.mems.l.length c33) (.slice A34 s.entry.l.length c34) (.slice A35 s.exit.l.length c35) (.slice A36 s.pool.l.length c36) (.slice A37 s.dues.l.length c37) (.slice A38 s.mots.l.length c38) (.slice A39 s.marks.bs.length c39) (.slice A40 s.ring.l.length c40)) (R.map bvIt ++ ITR))) (fun iv _ => s.ring.l.length - (intOf iv).toNat)
      case atStart => exact ⟨0, [], Nat.zero_le _, rfl, Lib.hid rfl, Lib.hid rfl, HM, HC⟩
      case round =>
        obtain ⟨k, R, hk, rfl, HRL, HRP, HMr, HCr⟩ := hrel
        clear HM HC c40f
        by_cases hlt : k < s.ring.l.length
        · obtain ⟨x, hx⟩ : ∃ x, s.ring.l[k]? = some x := ⟨_, List.getElem?_eq_getElem hlt⟩
          obtain ⟨g, hg, hgL⟩ := own_some HMr.out (by omega)
          subst hg
          have hcx := mid_at HRL.out hx
          have hgr : g < wr.heap.size := (HMr.out.lt g rfl).2
          have hcell0 := HMr.out.cells (g := g) rfl k _ (bvs_get hcx)
          rw [Addr.add_mid, Nat.zero_add] at hcell0
          have cG : wr.cell? ⟨w.heap.size, 40, none⟩ = some (.slice (some ⟨g, 0, none⟩) s.ring.l.length c40) := HCr.out.S.cell 40
          have hGl : w.heap.size < wr.heap.size := HCr.out.S.lt
          have HY := Lib.hid (((HS.out.rings x (List.mem_of_getElem? hx)).up HCr.out.B).up (Below.refl _ _).drew)
          have hh : wr.drew.cell? ⟨w.heap.size, 40, none⟩ = some (.slice (some ⟨g, 0, none⟩) s.ring.l.length c40) := cG
          have hki : (k : Int) < (s.ring.l.length : Int) := by omega
          have hk0 : (0 : Int) ≤ (k : Int) := by omega
          have HX := Lib.hid hx
          have HCX := Lib.hid hcx
          clear hx hcx cG
          go_wp2
          go_region_held3 (fun w' => w'.cell? ⟨w.heap.size, 40, none⟩ = some (.slice (some ⟨g, 0, none⟩) s.ring.l.length c40))
            (first | exact hh | exact hh1 | exact hh2)
            (first
              | (go_at_call 44; (with_reducible refine (KB.out x _ HY.out).mono ?_); rintro e w21 ⟨v1, rfl, ho1, hb21⟩; obtain ⟨A1, c1, rfl⟩ := own_slice ho1; have hb02 : Below wr.heap.size wr w21 := ((Below.refl _ _).drew).trans hb21; have hh1 : w21.cell? ⟨w.heap.size, 40, none⟩ = some (.slice (some ⟨g, 0, none⟩) s.ring.l.length c40) := (hb21.cell hGl).trans hh; have hM21 := own_kept HMr.out hb02; have HM21 := Lib.hid hM21; have c31 : w21.cell? ⟨g, k, none⟩ = some (.slice x.row x.bs.length x.cap) := (hb02.cell hgr).trans hcell0; have f31 : w21.frozen? ⟨g, k, none⟩ = false := hM21.frozenAt _; have hgG : w.heap.size ≠ g := (by omega); have hh2 : (w21.setCell ⟨g, k, none⟩ (.slice A1 x.bs.length c1)).cell? ⟨w.heap.size, 40, none⟩ = some (.slice (some ⟨g, 0, none⟩) s.ring.l.length c40) := (World.cell?_setCell_other _ _ _ _ (fun e => hgG (congrArg Addr.block e).symm)).trans hh1; clear hM21))
          have hput := ring_put HM21.out (k := k) ⟨A1, x.bs, c1⟩
          have hco := ((HCr.out.up hb02).add ho1 (show w.heap.size + 2 ≤ wr.heap.size from HCr.out.size)).inown HM21.out (fun it hi => by
            rcases List.mem_cons.1 hi with rfl | hi
            · simp only [ne_eq]; decide
            rcases List.mem_append.1 hi with hi | hi
            · rw [bvIts_e it hi]; decide
            · exact HER.out it hi) hput.2
          have hrow := hput.1
          rw [mid_put HRL.out hlt] at hrow
          have hco2 := hco.sub (its' := (R ++ [(⟨A1, x.bs, c1⟩ : BV)]).map bvIt ++ ITR) (fun it hi => by
            rcases List.mem_append.1 hi with h1 | h1
            · rw [List.map_append] at h1
              rcases List.mem_append.1 h1 with h2 | h2
              · exact List.mem_cons_of_mem _ (List.mem_append_left _ h2)
              · simp only [List.map_cons, List.map_nil, List.mem_cons, List.not_mem_nil, or_false] at h2
                rw [h2]
                exact List.mem_cons_self
            · exact List.mem_cons_of_mem _ (List.mem_append_right _ h1))
          have hpure : (R ++ [(⟨A1, x.bs, c1⟩ : BV)]).map BV.bs = (s.ring.l.take (k + 1)).map BV.bs := by
            rw [List.map_append, HRP.out, List.take_add_one, HX.out, List.map_append]
            rfl
          have HCO := Lib.hid hco2
          have HROW := Lib.hid hrow
          have HPURE := Lib.hid hpure
          clear hput hco hrow hco2 hpure HX HCX HY hh hh1 hh2 c31 f31 hgG hb02 hb21 ho1 HM21 hGl hcell0 HMr HCr
          go_wp2
          go_roundw
          case rel => exact ⟨k + 1, R ++ [⟨A1, x.bs, c1⟩], by omega, by go_num, Lib.hid (by rw [List.length_append, HRL.out]; rfl), HPURE, HROW, HCO⟩
          case measure => simp [intOf]; omega
        · obtain rfl : k = s.ring.l.length := by omega
          have hM := HMr.out
          rw [List.drop_length, List.append_nil] at hM
          have hP := HRP.out
          rw [List.take_length] at hP
          have hC := HCr.out.add hM (Nat.le_refl _)
          obtain ⟨t, ht⟩ : ∃ t : Sta, t = ⟨s.p, s.most, s.gen, s.mint, s.burn, s.treas, s.epoch, s.calm, s.em, ⟨s.purses.l, A32, c32⟩, ⟨s.mems.l, A33, c33⟩, ⟨s.entry.l, A34, c34⟩, ⟨s.exit.l, A35, c35⟩, ⟨s.pool.l, A36, c36⟩, ⟨s.dues.l, A37, c37⟩, ⟨N, A38, c38⟩, ⟨A39, s.marks.bs, c39⟩, ⟨R, A40, c40⟩⟩ := ⟨_, rfl⟩
          have hv : sv s (.slice A32 s.purses.l.length c32) (.slice A33 s.mems.l.length c33) (.slice A34 s.entry.l.length c34) (.slice A35 s.exit.l.length c35) (.slice A36 s.pool.l.length c36) (.slice A37 s.dues.l.length c37) (.slice A38 s.mots.l.length c38) (.slice A39 s.marks.bs.length c39) (.slice A40 s.ring.l.length c40) = Rec.vals t := by
            rw [ht, ← HNL.out, ← HRL.out]
            rfl
          have hpure : t.pure = s.pure := by
            rw [ht]
            unfold Sta.pure
            simp only [HNP.out, hP]
          have hfin : ∀ W', wr.grownBy W' (some (w.heap.size + 1)) → StaOwn W' (w.heap.size + 2) t := fun W' hg => by
            have hget : ∀ it : OwnIt, it ∈ _ → W'.ownsRow (w.heap.size + 2) it.e it.z it.v it.n it.xs := fun it hi => own_apart (hC.O it hi) hg (fun q e => by have := ((hC.O it hi).lt q e).1; simp; omega)
            have hR : ∀ it ∈ ITR, it ∈ (⟨31, 1, .slice A40 s.ring.l.length c40, s.ring.l.length, bvs R⟩ : OwnIt) :: (R.map bvIt ++ ITR) := fun it hi => List.mem_cons_of_mem _ (List.mem_append_right _ hi)
            have hI : ∀ it ∈ ITM, it ∈ ITR := fun it hi => by rw [HITR.out]; exact List.mem_cons_of_mem _ hi
            have hJ : ∀ it ∈ motIts N ++ ITS, it ∈ ITM := fun it hi => by rw [HITM.out]; exact List.mem_cons_of_mem _ hi
            have hK : ∀ it ∈ ITS, it ∈ (⟨31, 1, .slice A40 s.ring.l.length c40, s.ring.l.length, bvs R⟩ : OwnIt) :: (R.map bvIt ++ ITR) := fun it hi => hR _ (hI _ (hJ _ (List.mem_append_right _ hi)))
            rw [HITS.out] at hK
            rw [ht]
            refine ⟨?_, ?_, ?_, ?_, ?_, ?_, ?_, ?_, ?_, ?_, ?_⟩
            · exact hget _ (hK ⟨22, 1, .slice A32 s.purses.l.length c32, s.purses.l.length, u64s s.purses.l⟩ (by simp))
            · exact hget _ (hK ⟨60, 6, .slice A33 s.mems.l.length c33, s.mems.l.length, rows s.mems.l⟩ (by simp))
            · exact hget _ (hK ⟨3, 1, .slice A34 s.entry.l.length c34, s.entry.l.length, zvals s.entry.l⟩ (by simp))
            · exact hget _ (hK ⟨3, 1, .slice A35 s.exit.l.length c35, s.exit.l.length, zvals s.exit.l⟩ (by simp))
            · exact hget _ (hK ⟨62, 4, .slice A36 s.pool.l.length c36, s.pool.l.length, rows s.pool.l⟩ (by simp))
            · exact hget _ (hK ⟨64, 3, .slice A37 s.dues.l.length c37, s.dues.l.length, rows s.dues.l⟩ (by simp))
            · have h := hget _ (hR _ (hI ⟨90, 33, .slice A38 s.mots.l.length c38, s.mots.l.length, rows N⟩ (by rw [HITM.out]; exact List.mem_cons_self)))
              rw [← HNL.out] at h
              exact h
            · intro m hm
              have h1 := mem_motIts hm
              exact ⟨hget _ (hR _ (hI _ (hJ _ (List.mem_append_left _ h1.1)))), hget _ (hR _ (hI _ (hJ _ (List.mem_append_left _ h1.2))))⟩
            · exact hget _ (hR ⟨5, 1, .slice A39 s.marks.bs.length c39, s.marks.bs.length, u8s s.marks.bs⟩ (by rw [HITR.out]; exact List.mem_cons_self))
            · have h := hget ⟨31, 1, .slice A40 s.ring.l.length c40, s.ring.l.length, bvs R⟩ List.mem_cons_self
              rw [← HRL.out] at h
              exact h
            · intro b hb
              exact hget (bvIt b) (List.mem_cons_of_mem _ (List.mem_append_left _ (List.mem_map_of_mem hb)))
          have hS := hC.S
          rw [hv] at hS
          have hN := hC.N
          have hB := hC.B
          have HP := Lib.hid hpure
          have HF := Lib.hid hfin
          clear hC hM hP hv hpure hfin HMr HCr HITR HITM HITS HE HEM HER HNL HNP HRL HRP HS ht
          go_wp2_with (first
            | (refine load_rec 34 _ rfl rfl _ (Rec.vals t) rfl hS.lies Try.underlying34 size_sta ?_)
            | (refine store_rec 34 _ _ rfl rfl _ (Rec.vals t) (Rec.vals Sta.zero) 34 rfl rfl hN size_sta rfl (Rec.one t) ?_; intro w30 hR hb30 hz30 hk30; have hg30 := grown_but hb30 hk30; have hB30 := hB.trans (hb30.mono (Nat.le_succ _)); clear hb30 hz30 hk30))
          refine bodyPost_ret (res_rec1 _ Try.results30 rfl hR Try.underlying34 size_sta) rfl ⟨t, rfl, HP.out, HF.out _ hg30, hB30⟩
end Go.Proofs.Ytoaeckfppoaljaa
namespace Go.Proofs.Ytoaeckfppoaljaa
open Go.RowKit Go.Shelf
set_option linter.unusedVariables false
set_option linter.unusedSimpArgs false

theorem size_word : (Try.prog.info? 22).map (·.size) = some 1 := by kernel_rfl
theorem OwnBv.up {w w' : World} {L : Nat} {b : BV} (h : OwnBv w L b) (hb : Below w.heap.size w w') : OwnBv w' L b := own_kept h hb
theorem StaOwn.up {w w' : World} {L : Nat} {t : Sta} (h : StaOwn w L t) (hb : Below w.heap.size w w') : StaOwn w' L t :=
  ⟨own_kept h.purses hb, own_kept h.mems hb, own_kept h.entry hb, own_kept h.exit hb, own_kept h.pool hb, own_kept h.dues hb, own_kept h.mots hb, fun m hm => ⟨(h.mot m hm).1.up hb, (h.mot m hm).2.up hb⟩, h.marks.up hb, own_kept h.ring hb, fun b hm => (h.rings b hm).up hb⟩
theorem own_under {w w' : World} {base n z g : Nat} {e : TypeId} {v : Value} {xs : List Value} (h : w.ownsRow base e z v n xs) (hb : w.grownBy w' (some g)) (hg : g < base) : w'.ownsRow base e z v n xs := own_apart h hb (fun q e => by have := (h.lt q e).1; simp; omega)
theorem StaOwn.under {w w' : World} {L g : Nat} {t : Sta} (h : StaOwn w L t) (hb : w.grownBy w' (some g)) (hg : g < L) : StaOwn w' L t :=
  ⟨own_under h.purses hb hg, own_under h.mems hb hg, own_under h.entry hb hg, own_under h.exit hb hg, own_under h.pool hb hg, own_under h.dues hb hg, own_under h.mots hb hg, fun m hm => ⟨own_under (h.mot m hm).1 hb hg, own_under (h.mot m hm).2 hb hg⟩, own_under h.marks hb hg, own_under h.ring hb hg, fun b hm => own_under (h.rings b hm) hb hg⟩
theorem StaOwn.base {w : World} {L L' : Nat} {t : Sta} (h : StaOwn w L t) (hL : L' ≤ L) : StaOwn w L' t :=
  ⟨own_base h.purses hL, own_base h.mems hL, own_base h.entry hL, own_base h.exit hL, own_base h.pool hL, own_base h.dues hL, own_base h.mots hL, fun m hm => ⟨own_base (h.mot m hm).1 hL, own_base (h.mot m hm).2 hL⟩, own_base h.marks hL, own_base h.ring hL, fun b hm => own_base (h.rings b hm) hL⟩
/-- What plain data must be of a state's numbers. -/
structure PSta.Fits (s : PSta) : Prop where
  par : s.p.Fits
  most : s.most < 18446744073709551616
  gen : s.gen < 18446744073709551616
  mint : s.mint < 18446744073709551616
  burn : s.burn < 18446744073709551616
  treas : s.treas < 18446744073709551616
  epoch : -9223372036854775808 ≤ s.epoch ∧ s.epoch ≤ 9223372036854775807
  calm : -9223372036854775808 ≤ s.calm ∧ s.calm ≤ 9223372036854775807
  purse : ∀ x ∈ s.purses, x ≤ 18446744073709551615
  mem : ∀ m ∈ s.mems, m.s.Fits
  dep : ∀ d ∈ s.pool, d.amt ≤ 18446744073709551615
  due : ∀ d ∈ s.dues, d.amt ≤ 18446744073709551615
  mot : ∀ m ∈ s.mots, m.amt < 18446744073709551616 ∧ m.p.Fits ∧ (∀ x ∈ m.yes, x < 256) ∧ (∀ x ∈ m.no, x < 256) ∧ m.yes.length * 1 ≤ 140737488355328 ∧ m.no.length * 1 ≤ 140737488355328
  marks : ∀ x ∈ s.marks, x < 256
  rings : ∀ b ∈ s.ring, (∀ x ∈ b, x < 256) ∧ b.length * 1 ≤ 140737488355328
  lpurses : s.purses.length * 8 ≤ 140737488355328
  lmems : s.mems.length * 48 ≤ 140737488355328
  lentry : s.entry.length * 8 ≤ 140737488355328
  lexit : s.exit.length * 8 ≤ 140737488355328
  lpool : s.pool.length * 32 ≤ 140737488355328
  ldues : s.dues.length * 24 ≤ 140737488355328
  lmots : s.mots.length * 296 ≤ 140737488355328
  lmarks : s.marks.length * 1 ≤ 140737488355328
  lring : s.ring.length * 24 ≤ 140737488355328
theorem StaAt.pure {w : World} {s : Sta} (h : StaAt w s) : s.pure.Fits :=
  ⟨h.par, h.most, h.gen, h.mint, h.burn, h.treas, h.epoch, h.calm, h.purse, h.mem, h.dep, h.due, fun m hm => by
    obtain ⟨x, hx, rfl⟩ := List.mem_map.1 hm
    have g := h.mot x hx
    exact ⟨g.amt, g.par, g.yes.all, g.no.all, g.yes.sl.fit, g.no.sl.fit⟩, h.marks.all, fun b hb => by
    obtain ⟨x, hx, rfl⟩ := List.mem_map.1 hb
    exact ⟨(h.rings x hx).all, (h.rings x hx).sl.fit⟩, h.purses.fit, h.mems.fit, h.entry.fit, h.exit.fit, h.pool.fit, h.dues.fit, by show (s.mots.l.map Mot.pure).length * 296 ≤ _; rw [List.length_map]; exact h.mots.fit, h.marks.sl.fit, by show (s.ring.l.map BV.bs).length * 24 ≤ _; rw [List.length_map]; exact h.ring.fit⟩
/-- A state of the call's own is a state. -/
theorem StaOwn.at' {w : World} {L : Nat} {t : Sta} (h : StaOwn w L t) (hf : t.pure.Fits) : StaAt w t :=
  ⟨hf.par, hf.most, hf.gen, hf.mint, hf.burn, hf.treas, hf.epoch, hf.calm, own_sl h.purses hf.lpurses, hf.purse, own_sl h.mems hf.lmems, hf.mem, own_sl h.entry hf.lentry, own_sl h.exit hf.lexit, own_sl h.pool hf.lpool, hf.dep, own_sl h.dues hf.ldues, hf.due,
    own_sl h.mots (by have := hf.lmots; rw [show t.pure.mots.length = t.mots.l.length from List.length_map _] at this; exact this),
    fun m hm => by
      have g := hf.mot m.pure (List.mem_map_of_mem hm)
      exact ⟨⟨own_sl (h.mot m hm).1 g.2.2.2.2.1, g.2.2.1⟩, ⟨own_sl (h.mot m hm).2 g.2.2.2.2.2, g.2.2.2.1⟩, g.1, g.2.1⟩,
    ⟨own_sl h.marks hf.lmarks, hf.marks⟩,
    own_sl h.ring (by have := hf.lring; rw [show t.pure.ring.length = t.ring.l.length from List.length_map _] at this; exact this),
    fun b hb => by
      have g := hf.rings b.bs (List.mem_map_of_mem hb)
      exact ⟨own_sl (h.rings b hb) g.2, g.1⟩⟩
/-- A state with other numbers of money. -/
def Sta.coins (s : Sta) (mint burn treas : Nat) : Sta := ⟨s.p, s.most, s.gen, mint, burn, treas, s.epoch, s.calm, s.em, s.purses, s.mems, s.entry, s.exit, s.pool, s.dues, s.mots, s.marks, s.ring⟩
def PSta.coins (s : PSta) (mint burn treas : Nat) : PSta := ⟨s.p, s.most, s.gen, mint, burn, treas, s.epoch, s.calm, s.em, s.purses, s.mems, s.entry, s.exit, s.pool, s.dues, s.mots, s.marks, s.ring⟩
theorem StaOwn.coins {w : World} {L : Nat} {t : Sta} (h : StaOwn w L t) (a b c : Nat) : StaOwn w L (t.coins a b c) := ⟨h.purses, h.mems, h.entry, h.exit, h.pool, h.dues, h.mots, h.mot, h.marks, h.ring, h.rings⟩
theorem coins_pure (t : Sta) (a b c : Nat) : (t.coins a b c).pure = t.pure.coins a b c := rfl
theorem PSta.Fits.coins {s : PSta} (h : s.Fits) {a b c : Nat} (ha : a < 18446744073709551616) (hb : b < 18446744073709551616) (hc : c < 18446744073709551616) : (s.coins a b c).Fits :=
  ⟨h.par, h.most, h.gen, ha, hb, hc, h.epoch, h.calm, h.purse, h.mem, h.dep, h.due, h.mot, h.marks, h.rings, h.lpurses, h.lmems, h.lentry, h.lexit, h.lpool, h.ldues, h.lmots, h.lmarks, h.lring⟩

set_option maxRecDepth 100000 in
set_option maxHeartbeats 2000000 in
theorem mint_ok (s : Sta) (a : Nat) (w : World) (hs : StaAt w s) (ha : a ≤ 18446744073709551615) (m1 : s.gen + s.mint + a ≤ s.most) (m2 : s.gen + s.mint + a ≤ 4611686018427387904) (m3 : s.treas + a ≤ 18446744073709551615) :
    Calls Try.prog 16 #[.agg (Rec.vals s), .int .u64 (a : Int)] w fun e w' => ∃ t : Sta, e = .returned (.tuple #[.agg (Rec.vals t), .int .i64 0]) ∧ t.pure = s.pure.coins (s.mint + a) s.burn (s.treas + a) ∧ StaOwn w' (w.heap.size + 2) t ∧ Below w.heap.size w w' := by
  obtain ⟨c, hc⟩ : ∃ c, s.gen + (s.mint + (a + 0)) = c := ⟨_, rfl⟩
  have g0 : c ≤ 18446744073709551615 := by omega
  have g1 : c ≤ s.most := by omega
  have g2 : c ≤ 4611686018427387904 := by omega
  have ks : ∀ W : World, Calls Try.prog 21 #[.slice (some ⟨W.heap.size, 0, none⟩) 3 3] (W.alloc (.cells #[.int .u64 (s.gen : Int), .int .u64 (s.mint : Int), .int .u64 (a : Int)] 22)) fun e w' => e = .returned (.tuple #[.int .u64 (tx c : Nat), .int .i64 (te c : Nat)]) ∧ W.alloc (.cells #[.int .u64 (s.gen : Int), .int .u64 (s.mint : Int), .int .u64 (a : Int)] 22) = w' := fun W => by
    have h := sum_told [s.gen, s.mint, a] _ 3 _ _ (row_new W [s.gen, s.mint, a] 22) (by show 3 ≤ maxLen; decide) (by
      intro n hn
      simp only [List.mem_cons, List.not_mem_nil, or_false] at hn
      have := hs.gen
      have := hs.mint
      rcases hn with rfl | rfl | rfl <;> omega)
    rw [show tot [s.gen, s.mint, a] = c from hc] at h
    exact h
  rw [tx_in g0, te_in g0, show ((0 : Nat) : Int) = 0 from rfl] at ks
  have i1 : ¬ (s.most : Int) < (c : Int) := by omega
  have d1 : decide ((s.most : Int) < (c : Int)) = false := decide_eq_false i1
  have i2 : ¬ (4611686018427387904 : Int) < (c : Int) := by omega
  have d2 : decide ((4611686018427387904 : Int) < (c : Int)) = false := decide_eq_false i2
  obtain ⟨q, hq⟩ : ∃ q : Nat, s.mint + a = q := ⟨_, rfl⟩
  obtain ⟨z, hz⟩ : ∃ z : Nat, s.treas + a = z := ⟨_, rfl⟩
  have hqI : (c : Int) - (s.gen : Int) = (q : Int) := by omega
  have hq0 : q ≤ 18446744073709551615 := by omega
  have kt := fun W => money_add_ok (s.treas : Int) (a : Int) W (by omega) (by omega) (by omega)
  rw [show (s.treas : Int) + (a : Int) = (z : Int) by omega] at kt
  have KT := Lib.hid kt
  have KS := Lib.hid ks
  rw [hq, hz]
  have hbb := hs
  clear kt ks hc g0 g1 g2 m1 m2 m3 hq hz ha hbb
  have kc := fun (W : World) (hB : Below w.heap.size w W) => copied_is s W (hs.up hB)
  have KC := Lib.hid kc
  clear kc hs
  go_enter Try.func16, Try.ntmps16
  go_upto_region 1 with fail
  generalize hw0 : World.alloc (World.alloc _ _) _ = w0
  have hS : RecAt w0 w.heap.size (Rec.vals s) 34 := by rw [← hw0]; exact (RecAt.new w (Rec.vals s) 34).up ((Below.refl _ _).alloc (Nat.le_refl _) _)
  have hN : RecAt w0 (w.heap.size + 1) (Rec.vals Sta.zero) 34 := by
    rw [← hw0]
    have := RecAt.new (w.alloc (.cells (Rec.vals s) 34)) (Rec.vals Sta.zero) 34
    rw [World.size_alloc] at this
    exact this
  have hB : Below w.heap.size w w0 := by rw [← hw0]; exact ((Below.refl _ _).alloc (Nat.le_refl _) _).alloc (by simp) _
  clear hw0
  have c25 : w0.cell? ⟨w.heap.size, 25, none⟩ = some (.int .u64 (s.gen : Int)) := hS.cell 25
  have c26 : w0.cell? ⟨w.heap.size, 26, none⟩ = some (.int .u64 (s.mint : Int)) := hS.cell 26
  go_wp2_with (first
    | (go_at_call 21; refine (KS.out _).mono ?_; clear KS; rintro e w1 ⟨rfl, rfl⟩; have hb := (Below.refl w0.heap.size w0).alloc (Nat.le_refl _) (.cells #[.int .u64 (s.gen : Int), .int .u64 (s.mint : Int), .int .u64 (a : Int)] 22); have hS := hS.up hb; have hN := hN.up hb; have hB := Below.then hB hb; clear hb; generalize (w0.alloc (.cells #[.int .u64 (s.gen : Int), .int .u64 (s.mint : Int), .int .u64 (a : Int)] 22)) = w1 at hS hN hB ⊢; have c24 : w1.cell? ⟨w.heap.size, 24, none⟩ = some (.int .u64 (s.most : Int)) := hS.cell 24; have c28 : w1.cell? ⟨w.heap.size, 28, none⟩ = some (.int .u64 (s.treas : Int)) := hS.cell 28)
    | (go_at_call 29; refine (KT.out _).mono ?_; clear KT; rintro e w2 ⟨rfl, rfl⟩)
    | ((with_reducible refine slot_is 43 rfl ?_); refine load_rec 34 _ rfl rfl _ (Rec.vals s) rfl hS.lies Try.underlying34 size_sta ?_)
    | (go_at_call 30; refine (KC.out _ hB).mono ?_; clear KC; rintro e w6 ⟨t, rfl, hp, ho, hb⟩; have hL := Nat.add_le_add_right hB.size 2; have hS := hS.up hb; have hN := hN.up hb; have hB := Below.then hB hb; have HO := Lib.hid (ho.base hL); clear hL; have HP := Lib.hid hp; have HLT := Lib.hid hN.lt; clear hb hp ho)
    | (refine store_rec 34 _ _ rfl rfl _ (Rec.vals t) (Rec.vals Sta.zero) 34 rfl rfl (RecAt.new _ _ _) size_sta rfl (Rec.one t) ?_; intro w7 hT hb7 hz7 hk7; clear hz7 hk7; have hb7 := rec_made (Below.refl _ _) hb7; have hN := hN.up hb7; have hs7 := hS.up hb7; have c25 : w7.cell? ⟨w.heap.size, 25, none⟩ = some (.int .u64 (s.gen : Int)) := hs7.cell 25; clear hs7 hS)
    | (refine store_slot 22 _ _ rfl rfl _ 26 (Rec.vals t) (Rec.vals (t.coins q t.burn t.treas)) 34 (.int .u64 (q : Int)) rfl rfl hT (by show 26 < 41; decide) rfl rfl size_word rfl ?_; intro w8 hT8 hb8 hz8 hk8; have hb78 := hb7.trans hb8; have hN : RecAt w8 _ _ _ := (hk8 _ (Nat.ne_of_lt HLT.out)).trans hN; clear hz8 hk8 hb8 hb7 hT)
    | (refine store_slot 22 _ _ rfl rfl _ 28 (Rec.vals (t.coins q t.burn t.treas)) (Rec.vals (t.coins q t.burn z)) 34 (.int .u64 (z : Int)) rfl rfl hT8 (by show 28 < 41; decide) rfl rfl size_word rfl ?_; intro w9 hT9 hb9 hz9 hk9; have hb79 := hb78.trans hb9; have hN : RecAt w9 _ _ _ := (hk9 _ (Nat.ne_of_lt HLT.out)).trans hN; clear hz9 hk9 hb9 hb78 hT8; have HO := Lib.hid (HO.out.up hb79); have hB := Below.then hB hb79; clear hb79)
    | (refine load_rec 34 _ rfl rfl _ (Rec.vals (t.coins q t.burn z)) rfl hT9.lies Try.underlying34 size_sta ?_)
    | (refine store_rec 34 _ _ rfl rfl _ (Rec.vals (t.coins q t.burn z)) (Rec.vals Sta.zero) 34 rfl rfl hN size_sta rfl (Rec.one (t.coins q t.burn z)) ?_; intro w10 hR hb10 hz10 hk10; have HO := Lib.hid ((HO.out.under (grown_but hb10 hk10) (Nat.lt_succ_self _)).coins q t.burn z); have hB := hB.trans (hb10.mono (Nat.le_succ _)); clear hb10 hz10 hk10))
  refine bodyPost_ret (res_rec2 _ Try.results16 rfl hR Try.underlying34 size_sta) rfl ⟨t.coins q t.burn z, by first | rfl | simp, ?_, HO.out, hB⟩
  rw [coins_pure, HP.out, show t.burn = s.burn from congrArg PSta.burn HP.out]

set_option maxRecDepth 100000 in
set_option maxHeartbeats 2000000 in
theorem burn_ok (s : Sta) (a : Nat) (w : World) (hs : StaAt w s) (ha : a ≤ 18446744073709551615) (m1 : a ≤ s.treas) (m2 : s.burn + a ≤ 18446744073709551615) :
    Calls Try.prog 17 #[.agg (Rec.vals s), .int .u64 (a : Int)] w fun e w' => ∃ t : Sta, e = .returned (.tuple #[.agg (Rec.vals t), .int .i64 0]) ∧ t.pure = s.pure.coins s.mint (s.burn + a) (s.treas - a) ∧ StaOwn w' (w.heap.size + 2) t ∧ Below w.heap.size w w' := by
  obtain ⟨q, hq⟩ : ∃ q : Nat, s.burn + a = q := ⟨_, rfl⟩
  obtain ⟨z, hz⟩ : ∃ z : Nat, s.treas - a = z := ⟨_, rfl⟩
  have hs28 := hs.treas
  have kt := fun W => money_sub_ok (s.treas : Int) (a : Int) W (by omega) (by omega) (by omega)
  rw [show (s.treas : Int) - (a : Int) = (z : Int) by omega] at kt
  have ku := fun W => money_add_ok (s.burn : Int) (a : Int) W (by omega) (by omega) (by omega)
  rw [show (s.burn : Int) + (a : Int) = (q : Int) by omega] at ku
  have KT := Lib.hid kt
  have KU := Lib.hid ku
  rw [hq, hz]
  clear kt ku m1 m2 hq hz ha hs28
  have kc := fun (W : World) (hB : Below w.heap.size w W) => copied_is s W (hs.up hB)
  have KC := Lib.hid kc
  clear kc hs
  go_enter Try.func17, Try.ntmps17
  go_upto_region 1 with fail
  generalize hw0 : World.alloc (World.alloc _ _) _ = w0
  have hS : RecAt w0 w.heap.size (Rec.vals s) 34 := by rw [← hw0]; exact (RecAt.new w (Rec.vals s) 34).up ((Below.refl _ _).alloc (Nat.le_refl _) _)
  have hN : RecAt w0 (w.heap.size + 1) (Rec.vals Sta.zero) 34 := by
    rw [← hw0]
    have := RecAt.new (w.alloc (.cells (Rec.vals s) 34)) (Rec.vals Sta.zero) 34
    rw [World.size_alloc] at this
    exact this
  have hB : Below w.heap.size w w0 := by rw [← hw0]; exact ((Below.refl _ _).alloc (Nat.le_refl _) _).alloc (by simp) _
  clear hw0
  have c27 : w0.cell? ⟨w.heap.size, 27, none⟩ = some (.int .u64 (s.burn : Int)) := hS.cell 27
  have c28 : w0.cell? ⟨w.heap.size, 28, none⟩ = some (.int .u64 (s.treas : Int)) := hS.cell 28
  go_wp2_with (first
    | (go_at_call 22; refine (KT.out _).mono ?_; clear KT; rintro e w2 ⟨rfl, rfl⟩)
    | (go_at_call 29; refine (KU.out _).mono ?_; clear KU; rintro e w3 ⟨rfl, rfl⟩)
    | ((with_reducible refine slot_is 31 rfl ?_); refine load_rec 34 _ rfl rfl _ (Rec.vals s) rfl hS.lies Try.underlying34 size_sta ?_)
    | (go_at_call 30; refine (KC.out _ hB).mono ?_; clear KC; rintro e w6 ⟨t, rfl, hp, ho, hb⟩; have hL := Nat.add_le_add_right hB.size 2; have hS := hS.up hb; have hN := hN.up hb; have hB := Below.then hB hb; have HO := Lib.hid (ho.base hL); clear hL; have HP := Lib.hid hp; have HLT := Lib.hid hN.lt; clear hb hp ho)
    | (refine store_rec 34 _ _ rfl rfl _ (Rec.vals t) (Rec.vals Sta.zero) 34 rfl rfl (RecAt.new _ _ _) size_sta rfl (Rec.one t) ?_; intro w7 hT hb7 hz7 hk7; clear hz7 hk7; have hb7 := rec_made (Below.refl _ _) hb7; have hN := hN.up hb7; have hs7 := hS.up hb7; clear hs7 hS)
    | (refine store_slot 22 _ _ rfl rfl _ 27 (Rec.vals t) (Rec.vals (t.coins t.mint q t.treas)) 34 (.int .u64 (q : Int)) rfl rfl hT (by show 27 < 41; decide) rfl rfl size_word rfl ?_; intro w8 hT8 hb8 hz8 hk8; have hb78 := hb7.trans hb8; have hN : RecAt w8 _ _ _ := (hk8 _ (Nat.ne_of_lt HLT.out)).trans hN; clear hz8 hk8 hb8 hb7 hT)
    | (refine store_slot 22 _ _ rfl rfl _ 28 (Rec.vals (t.coins t.mint q t.treas)) (Rec.vals (t.coins t.mint q z)) 34 (.int .u64 (z : Int)) rfl rfl hT8 (by show 28 < 41; decide) rfl rfl size_word rfl ?_; intro w9 hT9 hb9 hz9 hk9; have hb79 := hb78.trans hb9; have hN : RecAt w9 _ _ _ := (hk9 _ (Nat.ne_of_lt HLT.out)).trans hN; clear hz9 hk9 hb9 hb78 hT8; have HO := Lib.hid (HO.out.up hb79); have hB := Below.then hB hb79; clear hb79)
    | (refine load_rec 34 _ rfl rfl _ (Rec.vals (t.coins t.mint q z)) rfl hT9.lies Try.underlying34 size_sta ?_)
    | (refine store_rec 34 _ _ rfl rfl _ (Rec.vals (t.coins t.mint q z)) (Rec.vals Sta.zero) 34 rfl rfl hN size_sta rfl (Rec.one (t.coins t.mint q z)) ?_; intro w10 hR hb10 hz10 hk10; have HO := Lib.hid ((HO.out.under (grown_but hb10 hk10) (Nat.lt_succ_self _)).coins t.mint q z); have hB := hB.trans (hb10.mono (Nat.le_succ _)); clear hb10 hz10 hk10))
  refine bodyPost_ret (res_rec2 _ Try.results17 rfl hR Try.underlying34 size_sta) rfl ⟨t.coins t.mint q z, by first | rfl | simp, ?_, HO.out, hB⟩
  rw [coins_pure, HP.out, show t.mint = s.mint from congrArg PSta.mint HP.out]

end Go.Proofs.Ytoaeckfppoaljaa
