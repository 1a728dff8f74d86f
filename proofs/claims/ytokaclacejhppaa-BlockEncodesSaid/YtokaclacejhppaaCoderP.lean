/- Layer 5 (coder): bytes are put behind the others. By a contract. -/
import Derived.Test.YtokaclacejhppaaCoderW
import Derived.Deep.CutRange
import Derived.Deep.CutBlock
import Derived.StillTailTactics
namespace Go.Proofs.Ytokaclacejhppaa
open Go.RowKit
set_option linter.unusedVariables false
set_option linter.unusedSimpArgs false

/-- copy into a row that is known whole, as one step of a region that draws: the world behind it written out. -/
theorem step_copy_row {P : Program} {ops : Array Oper} {o : Oper} {a : Act} {w : World} {K : Act → World → Prop} {Q : Exit → Act → World → Prop} {E : Prop} (hgd : o.guard = none) (d s : Operand) (dT sT : TypeId)
    (ho : o.op = .call { callee := .builtin .copy, args := #[d, s], argTypes := #[dT, sT] }) (elem : TypeId) (hu : P.underlying dT = some (.slice elem)) (hsz : (P.info? elem).map (·.size) = some 1)
    (g off dLen dCap : Nat) (ad : Addr) (sLen sCap : Nat) (hd : a.eval d = .slice (some ⟨g, off, none⟩) dLen dCap) (hs : a.eval s = .slice (some ad) sLen sCap)
    (cur : List Value) (t : TypeId) (hg : w.heap[g]? = some (.cells cur.toArray t (0, 0))) (cs : List Value) (hn : cs.length = Nat.min sLen dLen)
    (hsrc : ∀ j v, cs[j]? = some v → w.cell? (ad.add j) = some v) (hfit : off + cs.length ≤ cur.length) (h1 : ∀ v ∈ cs, v.oneCell' = true)
    (L : Nat) (hL : cs.length = L) (h : K (a.put o.dst (goInt (L : Int))) (w.setRow g (splice cur off cs).toArray)) :
    if Region.wanted o (yielded ops a.tmps) = true then Oper.wp P o a w K Q else E := by
  subst hL
  have hw : Region.wanted o (yielded ops a.tmps) = true := by simp [Region.wanted, hgd]
  rw [if_pos hw]
  have hrun := run_copy_row (P := P) w dT sT o.type elem g off dLen dCap ad sLen sCap cur.toArray t cs hu hsz hg hn hsrc (by simpa using hfit) h1
  unfold Oper.wp
  simp [execOp, ho, resolve, invoke, builtin, hd, hs, hrun, Result.andThen]
  simp only [splice] at h
  exact h


theorem splice_wcells (n e : Nat) (p : Value) (part ys : List Nat) (i : Nat) : splice (wcells n e p part) (3 + i) (u8s ys) = wcells n e p (splice part i ys) := by
  have e1 : 3 + i = i + 1 + 1 + 1 := by omega
  have e2 : 3 + i + (u8s ys).length = i + ys.length + 1 + 1 + 1 := by rw [u8s_len]; omega
  unfold splice wcells
  rw [e2, e1]
  simp [u8s_take, u8s_drop, u8s_append]

/-- Behind a copy into a writer's part. -/
theorem copied {w : World} {b n e : Nat} {p : Value} {part ys : List Nat} {i : Nat} {t : TypeId} {w1 : World} (hb : w.heap[b]? = some (.cells (wcells n e p part).toArray t (0, 0)))
    (h : w.drew.setRow b (splice (wcells n e p part) (3 + i) (u8s ys)).toArray = w1) :
    w1.heap[b]? = some (.cells (wcells n e p (splice part i ys)).toArray t (0, 0)) ∧ w.grownBy w1 (some b) := by
  subst h
  refine ⟨?_, grown_trans (grown_drew w 1 _) (grown_setRow _ b _)⟩
  rw [splice_wcells]
  exact setRow_heap w.drew b _ _ t _ hb

/-- Behind a move. -/
theorem moved {w : World} {b n n' e : Nat} {p : Value} {part : List Nat} {t : TypeId} {w1 : World} (hb : w.heap[b]? = some (.cells (wcells n e p part).toArray t (0, 0)))
    (h : w.drew.setCell ⟨b, 0, none⟩ (.int .i64 (n' : Int)) = w1) :
    w1.heap[b]? = some (.cells (wcells n' e p part).toArray t (0, 0)) ∧ w.grownBy w1 (some b) := by
  subst h
  refine ⟨?_, grown_trans (grown_drew w 1 _) (grown_set _ b 0 _)⟩
  have := heap_setCell_same w.drew b 0 _ t (.int .i64 (n' : Int)) hb
  rw [this]
  rfl

theorem still_load_mid {P : Program} {ops : Array Oper} {w : World} {Q : Act → Prop} {o : Oper} {rest : List Oper} {a : Act} (hgd : o.guard = none) (ty : TypeId) (x : Operand) (ho : o.op = .load ty x)
    (b off : Nat) (hx : a.eval x = .pointer (some ⟨b, off, none⟩)) (cs : List Value) (d : TypeDesc) (hc : w.rangeAt b off cs)
    (hu : P.underlying ty = some d) (hd : d.isRow = true) (hi : (P.info? ty).map (·.size) = some cs.length)
    (h : wpStill P ops w Q rest (a.put o.dst (.agg cs.toArray))) : wpStill P ops w Q (o :: rest) a := by
  refine wpStill_step fun K hK => ?_
  rw [if_pos (by simp [Region.wanted, hgd])]
  unfold Oper.still execOp
  simp only [ho, hx, Instr.loadAt, Instr.sureAddr, Sem.run_bind, Sem.run_pure, Result.andThen_ok, run_loadVar_mid w b off ty cs d hc hu hd hi]
  exact ⟨rfl, hK _ h⟩

theorem step_load_mid {P : Program} {ops : Array Oper} {o : Oper} {a : Act} {w : World} {K : Act → World → Prop} {Q : Exit → Act → World → Prop} {E : Prop} (hgd : o.guard = none) (ty : TypeId) (x : Operand) (ho : o.op = .load ty x)
    (b off : Nat) (hx : a.eval x = .pointer (some ⟨b, off, none⟩)) (cs : List Value) (d : TypeDesc) (hc : w.rangeAt b off cs) (hu : P.underlying ty = some d) (hd : d.isRow = true) (hi : (P.info? ty).map (·.size) = some cs.length)
    (h : K (a.put o.dst (.agg cs.toArray)) w) : if Region.wanted o (yielded ops a.tmps) = true then Oper.wp P o a w K Q else E := by
  rw [if_pos (by simp [Region.wanted, hgd])]
  exact wp_load_mid ty x ho b off hx cs d hc hu hd hi h

theorem fill_get (off : Nat) : ∀ (C : List Value) (s : Nat) (cs : Array Value) (k : Nat),
    ((C.zipIdx s).foldl (fun cs (x : Value × Nat) => cs.setIfInBounds (off + x.2) x.1) cs)[k]? = if off + s ≤ k ∧ k < off + s + C.length ∧ k < cs.size then C[k - (off + s)]? else cs[k]?
  | [], s, cs, k => by
    rw [if_neg (by simp; omega)]; rfl
  | c :: C, s, cs, k => by
    rw [List.zipIdx_cons, List.foldl_cons, fill_get off C (s + 1)]
    simp only [Array.size_setIfInBounds, List.length_cons]
    by_cases h1 : off + (s + 1) ≤ k ∧ k < off + (s + 1) + C.length ∧ k < cs.size
    · rw [if_pos h1, if_pos (by omega), show k - (off + s) = (k - (off + (s + 1))) + 1 by omega, List.getElem?_cons_succ]
    · rw [if_neg h1, Array.getElem?_setIfInBounds]
      by_cases h2 : off + s = k
      · subst h2
        rw [if_pos rfl]
        by_cases h3 : off + s < cs.size
        · rw [if_pos h3, if_pos (by omega)]; simp
        · rw [if_neg h3, if_neg (by omega)]; simp; omega
      · rw [if_neg h2, if_neg (by omega)]

theorem range_keep1 {w : World} {b : Nat} {X : List Value} (hr : w.rangeAt b 3 X) : w.drew.rangeAt b 3 X := hr
theorem range_keep2 {w : World} {b : Nat} {X : List Value} (hr : w.rangeAt b 3 X) (o : Obj) : (w.alloc o).drew.rangeAt b 3 X := World.rangeAt_alloc hr o
theorem range_keep3 {w : World} {b : Nat} {X : List Value} (hr : w.rangeAt b 3 X) (o : Obj) (v : Value) : ((w.setCell ⟨b, 2, none⟩ v).alloc o).drew.rangeAt b 3 X := by
  refine World.rangeAt_alloc ?_ o
  intro j u hu
  rw [World.cell?_setCell_other]
  · exact hr j u hu
  · intro e; injection e with _ e2; omega
theorem keep1 {w : World} {b : Nat} {v : Value} {X : List Value} (h : w.cell? ⟨b, 2, none⟩ = some v) (hr : w.rangeAt b 3 X) : w.drew.cell? ⟨b, 2, none⟩ = some v ∧ w.drew.rangeAt b 3 X := ⟨h, hr⟩
theorem keep2 {w : World} {b : Nat} {v : Value} {X : List Value} (hb : b < w.heap.size) (h : w.cell? ⟨b, 2, none⟩ = some v) (hr : w.rangeAt b 3 X) (o : Obj) :
    (w.alloc o).drew.cell? ⟨b, 2, none⟩ = some v ∧ (w.alloc o).drew.rangeAt b 3 X :=
  ⟨by show (w.alloc o).cell? ⟨b, 2, none⟩ = some v; rw [World.cell?_alloc_lt _ _ _ hb]; exact h, World.rangeAt_alloc hr o⟩

def aggSize : Option Value → Option Nat
  | some (.agg cs) => some cs.size
  | _ => none
theorem piece_info : (Try.prog.info? 76).map (fun i => aggSize i.zero) = some (some 65) := by kernel_rfl
/-- A piece's zero value. -/
theorem piece_zero : ∃ Z : Array Value, Z.size = 65 ∧ ∀ V, (zeroValue 76).run Try.prog V = .ok (.agg Z) V := by
  have hi := piece_info
  cases hit : Try.prog.info? 76 with
  | none => rw [hit] at hi; simp at hi
  | some it =>
    rw [hit] at hi
    cases hz : it.zero with
    | none => simp [hz, aggSize] at hi
    | some z =>
      cases z <;> simp [hz, aggSize] at hi
      exact ⟨_, hi, fun V => by simp [zeroValue, typeInfo, hit, hz]⟩

theorem piece_fold (Z : Array Value) (hZ : Z.size = 65) (q : Value) (X : List Value) (hX : X.length = 64) :
    List.foldl (fun cs (x : Value × Nat) => cs.setIfInBounds (1 + x.snd) x.fst) (Z.setIfInBounds 0 q) X.zipIdx = (q :: X).toArray := by
  apply Array.ext_getElem?
  intro k
  rw [fill_get]
  cases k with
  | zero => simp [hZ]
  | succ k =>
    by_cases hk : k < 64
    · rw [if_pos (by simp [hZ, hX]; omega)]; simp
    · rw [if_neg (by simp [hZ, hX]; omega), Array.getElem?_eq_none (by simp [hZ]; omega), Eq.comm]
      simp [hX]; omega

theorem Chain.ptr {w : World} {F : Nat → Prop} : ∀ (m : Nat) (p : Value) (bs : List Nat), Chain w F m p bs → ∃ q, p = .pointer q
  | 0, _, _, ⟨h, _⟩ => ⟨_, h⟩
  | m + 1, _, _, ⟨_, _, _, _, h, _⟩ => ⟨_, h⟩

theorem arr_size : (Try.prog.info? 49).map (·.size) = some 64 := by kernel_rfl

/-- A slice's length: a loop's measure. -/
def lenOf : Value → Nat
  | .slice _ n _ => n
  | _ => 0

theorem splice_short {part tail ys : List Nat} {i j : Nat} (hi : tail.length = i) (hy : ys.length = j) (hp : part.length = 64) (hs : part.take i = tail) (h : i + j ≤ 64) :
    (splice part i ys).length = 64 ∧ (splice part i ys).take (i + j) = tail ++ ys := by
  refine ⟨?_, ?_⟩
  · rw [length_splice _ _ _ (by omega), hp]
  · unfold splice
    rw [hs, ← List.append_assoc, List.take_append_of_le_length (by simp; omega)]
    exact List.take_of_length_le (by simp; omega)

theorem put_less {w w2 : World} {b : Nat} {F : Nat → Prop} {txt ys : List Nat} {m : Nat} {p : Value} {pre tail part : List Nat} {i j N : Nat} (hW : WriterAt w b F (txt, 0) m p pre tail part) (hi : tail.length = i) (hy : ys.length = j) (hN : txt.length = N) (h : i + j < 64) (hm : N + j ≤ 131072)
    (hb : w2.heap[b]? = some (.cells (wcells (N + j) 0 p (splice part i ys)).toArray 51 (0, 0))) (hg : w.grownBy w2 (some b)) : WriterAt w2 b F (txt ++ ys, 0) m p pre (tail ++ ys) (splice part i ys) := by
  obtain ⟨h1, h2⟩ := splice_short hi hy hW.whole (by rw [← hi]; exact hW.same) (by omega)
  refine ⟨?_, by simp; omega, h1, ?_, by simp; omega, by simp, ?_, fun k hk => ⟨(hW.apart k hk).1, Nat.lt_of_lt_of_le (hW.apart k hk).2 hg.size⟩, ?_⟩
  · show txt ++ ys = pre ++ (tail ++ ys)
    rw [← List.append_assoc, ← hW.text]
  · rw [List.length_append, hi, hy]; exact h2
  · exact Chain.hold (fun k hk hf => hg.block k hk (fun e => (hW.apart k hf).1 (by injection e))) (fun _ h => h) _ _ _ hW.chain
  · show w2.heap[b]? = some (.cells (wcells (txt ++ ys).length 0 p (splice part i ys)).toArray 51 (0, 0))
    rw [List.length_append, hN, hy]; exact hb

theorem put_full {w w2 w3 : World} {b g : Nat} {F : Nat → Prop} {txt ys : List Nat} {m : Nat} {p : Value} {pre tail part : List Nat} {i j N : Nat} (hW : WriterAt w b F (txt, 0) m p pre tail part) (hi : tail.length = i) (hy : ys.length = j) (hN : txt.length = N) (h : i + j = 64) (hm : N + j ≤ 131072)
    (hg : w.grownBy w2 (some b)) (hsz : w2.heap.size = g) (hg3 : w2.grownBy w3 (some b)) (hb : w3.heap[b]? = some (.cells (wcells (N + j) 0 (.pointer (some ⟨g, 0, none⟩)) (splice part i ys)).toArray 51 (0, 0)))
    (hn : w3.heap[g]? = some (.cells (p :: u8s (splice part i ys)).toArray 76 (0, 0))) : WriterAt w3 b (fun k => F k ∨ k = g) (txt ++ ys, 0) (m + 1) (.pointer (some ⟨g, 0, none⟩)) (pre ++ (tail ++ ys)) [] (splice part i ys) := by
  obtain ⟨h1, h2⟩ := splice_short hi hy hW.whole (by rw [← hi]; exact hW.same) (by omega)
  have h3 : splice part i ys = tail ++ ys := by rw [← h2]; exact (List.take_of_length_le (by omega)).symm
  have hgs := hg.size
  have hbl := hW.lt
  have hg3l : g < w3.heap.size := by rw [Array.getElem?_eq_some_iff] at hn; exact hn.1
  refine ⟨?_, by simp, h1, by simp, by simp; omega, by simp, ?_, ?_, ?_⟩
  · show txt ++ ys = pre ++ (tail ++ ys) ++ []
    rw [List.append_nil, ← List.append_assoc, ← hW.text]
  · refine ⟨g, p, pre, tail ++ ys, rfl, .inr rfl, rfl, by simp; omega, by rw [← h3]; exact hn, ?_⟩
    exact Chain.hold (fun k hk hf => (hg3.block k (by omega) (fun e => (hW.apart k hf).1 (by injection e))).trans (hg.block k hk (fun e => (hW.apart k hf).1 (by injection e)))) (fun _ h => .inl h) _ _ _ hW.chain
  · intro k hk
    rcases hk with hk | rfl
    · exact ⟨(hW.apart k hk).1, by have := (hW.apart k hk).2; have := hg3.size; omega⟩
    · exact ⟨by omega, hg3l⟩
  · show w3.heap[b]? = some (.cells (wcells (txt ++ ys).length 0 _ (splice part i ys)).toArray 51 (0, 0))
    rw [List.length_append, hN, hy]; exact hb

/-- Behind a piece that is laid ahead of the others. -/
theorem pieced {w : World} {b n e : Nat} {p q : Value} {part : List Nat} {X : List Value} {t u : TypeId} {w1 : World} (hb : w.heap[b]? = some (.cells (wcells n e p part).toArray t (0, 0)))
    (h : ((w.setCell ⟨b, 2, none⟩ (.pointer (some ⟨w.heap.size, 0, none⟩))).alloc (.cells (q :: X).toArray u)).drew = w1) :
    w1.heap[b]? = some (.cells (wcells n e (.pointer (some ⟨w.heap.size, 0, none⟩)) part).toArray t (0, 0)) ∧ w1.heap[w.heap.size]? = some (.cells (q :: X).toArray u (0, 0)) ∧ w.grownBy w1 (some b) := by
  subst h
  have hbl : b < w.heap.size := by rw [Array.getElem?_eq_some_iff] at hb; exact hb.1
  have hs : (w.setCell ⟨b, 2, none⟩ (.pointer (some ⟨w.heap.size, 0, none⟩))).heap.size = w.heap.size := by simp [World.setCell]
  refine ⟨?_, ?_, grown_trans (grown_set w b 2 _) (grown_trans (grown_alloc _ _ _) (grown_drew _ 1 _))⟩
  · show ((w.setCell ⟨b, 2, none⟩ (.pointer (some ⟨w.heap.size, 0, none⟩))).alloc (.cells (q :: X).toArray u)).heap[b]? = _
    rw [heap_alloc_old _ _ (by rw [hs]; exact hbl), heap_setCell_same w b 2 _ t _ hb]
    rfl
  · have h1 := heap_alloc_new (w.setCell ⟨b, 2, none⟩ (.pointer (some ⟨w.heap.size, 0, none⟩))) (.cells (q :: X).toArray u)
    rw [hs] at h1
    exact h1

set_option maxRecDepth 100000 in
set_option maxHeartbeats 2000000 in
theorem put_ok (b : Nat) (F : Nat → Prop) (bs xs : List Nat) (A : Option Addr) (c m : Nat) (p : Value) (pre tail part : List Nat) (w : World) (hW : WriterAt w b F (bs, 0) m p pre tail part)
    (hx : Lies w (· ≠ b) A xs) (hc : xs.length ≤ c) (hroom : bs.length + xs.length ≤ 131072) :
    Calls Try.prog 44 #[.pointer (some ⟨b, 0, none⟩), .slice A xs.length c] w fun e w' => e = .returned (.tuple #[]) ∧
      (∃ F' m' p' pre' tail' part', WriterAt w' b F' (bs ++ xs, 0) m' p' pre' tail' part' ∧ ∀ k, F' k → F k ∨ w.heap.size ≤ k) ∧ w.grownBy w' (some b) := by
  go_enter Try.func44, Try.ntmps44
  go_wp2
  go_loopw [1] (fun sv wr => ∃ (k : Nat) (A' : Option Addr) (c' : Nat) (F' : Nat → Prop) (m' : Nat) (p' : Value) (pre' tail' part' : List Nat), k ≤ xs.length ∧ sv = .slice A' (xs.length - k) c' ∧ xs.length - k ≤ c' ∧ Lies wr (· ≠ b) A' (xs.drop k) ∧
      WriterAt wr b F' (bs ++ xs.take k, 0) m' p' pre' tail' part' ∧ Hid (∀ k, F' k → F k ∨ w.heap.size ≤ k) ∧ w.grownBy wr (some b))
    (fun sv _ => lenOf sv)
  case atStart => exact ⟨0, A, c, F, m, p, pre, tail, part, Nat.zero_le _, rfl, by simpa using hc, by simpa using hx, by simpa using hW, fun _ h => .inl h, grown_refl _ _⟩
  case round =>
    obtain ⟨k, A', c', F', m', p', pre', tail', part', hk, rfl, hkc, hL, hWr, HF, hG⟩ := hrel
    by_cases hlt : k < xs.length
    · obtain ⟨a, rfl, hab, hca⟩ := hL.get (k := 0) (by simp; omega)
      clear hca
      obtain ⟨n, hn⟩ : ∃ n, Hid (xs.length - k = n) := ⟨_, rfl⟩
      have hn0 : 0 < n := by have := hn.out; omega
      obtain ⟨i, hi⟩ : ∃ i, Hid (tail'.length = i) := ⟨_, rfl⟩
      have hi64 : i < 64 := by rw [← hi.out]; exact hWr.short
      obtain ⟨N, hN⟩ : ∃ N, Hid ((bs ++ xs.take k).length = N) := ⟨_, rfl⟩
      obtain ⟨c0, c1, c2, f0, f1, f2⟩ := hWr.cells
      simp only [hN.out] at c0
      rw [hn.out]
      have hNm : N ≤ 131072 := by rw [← hN.out]; exact hWr.most
      have hmod : Int.tmod (N : Int) 64 = (i : Int) := by
        have h1 : bs ++ xs.take k = pre' ++ tail' := hWr.text
        have h2 := Chain.len _ _ _ hWr.chain
        have h3 : N = 64 * m' + i := by rw [← hN.out, ← hi.out, h1, List.length_append, h2]
        rw [Int.tmod_eq_emod_of_nonneg (by omega)]
        omega
      have hi0 : (0 : Int) ≤ (i : Int) := by omega
      have hi1 : (i : Int) ≤ 64 := by omega
      clear hlt
      have hnI : (0 : Int) < (n : Int) := by omega
      have hblk : wr.heap[b]? = some (.cells (wcells N 0 p' part').toArray 51 (0, 0)) := by rw [← hN.out]; exact hWr.block
      have hwl : (wcells N 0 p' part').length = 67 := by simp [wcells, u8s_len, hWr.whole]
      obtain ⟨j, hj⟩ : ∃ j, Hid (Nat.min n (64 - i) = j) := ⟨_, rfl⟩
      obtain ⟨ys, hys⟩ : ∃ ys, Hid ((xs.drop k).take j = ys) := ⟨_, rfl⟩
      have hjn : j ≤ n := by rw [← hj.out]; exact Nat.min_le_left _ _
      have hji0 : j ≤ 64 - i := by rw [← hj.out]; exact Nat.min_le_right _ _
      have hji : i + j ≤ 64 := by omega
      clear hji0
      have hj0 : 0 < j := by have h := hj.out; rw [← h]; exact Nat.lt_min.2 ⟨hn0, by omega⟩
      have hyl : ys.length = j := by rw [← hys.out, List.length_take, List.length_drop, hn.out]; omega
      have hcl : (u8s ys).length = Nat.min n (64 - i) := by rw [u8s_len, hyl, hj.out]
      have hsrc : ∀ q v, (u8s ys)[q]? = some v → wr.drew.cell? (a.add q) = some v := by rw [← hys.out]; exact hL.src j
      have hfit : 3 + i + (u8s ys).length ≤ (wcells N 0 p' part').length := by rw [hwl, u8s_len, hyl]; omega
      have hone : ∀ v ∈ u8s ys, v.oneCell' = true := u8s_one
      have h64 : ¬ (64 = i) := by omega
      have hL0 := Lib.hid hL
      have HC := Lib.hid hcl
      have HS := Lib.hid hsrc
      have HO := Lib.hid hone
      have HB := Lib.hid hblk
      have HI := Lib.hid hfit
      have hyl2 : (u8s ys).length = j := by rw [u8s_len, hyl]
      have HYL := Lib.hid hyl2
      have HY := Lib.hid hyl
      have HWL := Lib.hid hwl
      clear hL hcl hsrc hone hblk hfit hyl hwl hyl2
      have hjI : (j : Int) ≤ (n : Int) := by omega
      have hNj : IntKind.i64.wrap ((N : Int) + (j : Int)) = ((N + j : Nat) : Int) := by rw [IntWalk.i64_in _ (by omega)]; omega
      have hNJ := Lib.hid hNj
      clear hNj
      go_wp2
      go_cut [4] from 8 to 19 (fun nv wx => nv = .int .i64 (j : Int) ∧ Hid (wx.heap[b]? = some (.cells (wcells N 0 p' (splice part' i ys)).toArray 51 (0, 0))) ∧ Hid (wr.grownBy wx (some b)))
      case first =>
        go_region_law (refine step_copy_row rfl (.tmp 17) (.tmp 18) 25 25 rfl 5 Try.underlying25 u8_size b (3 + i) (64 - i) (64 - i) a n c' (by simp [Act.eval, Act.put]) (by simp [Act.eval, Act.put]) (wcells N 0 p' part') 51 HB.out (u8s ys) HC.out HS.out HI.out HO.out j HYL.out ?_)
        generalize hw1 : wr.drew.setRow b (splice (wcells N 0 p' part') (3 + i) (u8s ys)).toArray = w1
        obtain ⟨hb1, hg1⟩ := copied HB.out hw1
        have HB1 := Lib.hid hb1
        have HG1 := Lib.hid hg1
        clear hw1 hb1 hg1 c1 c2 f1 f2 c0 f0
        go_wp2_with fail
        go_meet
        exact ⟨rfl, HB1, HG1⟩
      case rest =>
        obtain ⟨rfl, HB1, HG1⟩ := hcut
        go_upto_region 2 with fail
        go_cut [1] from 5 to 22 (fun sv wx => ∃ A2, Hid (A2 = if c' = j then some a else some (a.add j)) ∧ sv = .slice A2 (n - j) (c' - j) ∧ wx = wc)
        case first =>
          go_wp2
          · go_meet
            exact ⟨some a, by show _ = _; rw [if_pos (by assumption)], by rw [show c' - j = 0 by omega], rfl⟩
          · go_meet
            exact ⟨_, by show _ = _; rw [if_neg (by assumption)], rfl, rfl⟩
        case rest =>
        obtain ⟨A2, HA2, rfl, rfl⟩ := hcut
        clear c0 f0 c1 c2 f1 f2
        have c0 := cell_at (k := 0) HB1.out rfl
        have f0 := frozen_of_row wc b 0 _ _ HB1.out
        have hNj := hNJ.out
        go_wp2_with fail
        go_region_with (go_at_call 29; refine (move_ok b ((N : Int) + (j : Int)) _ wc.drew c0 f0).mono ?_; rintro e w' ⟨rfl, rfl⟩)
        have e2 : ((N : Int) + (j : Int)) = ((N + j : Nat) : Int) := by omega
        generalize hw2 : (wc.setCell ⟨b, 0, none⟩ (.int .i64 ((N : Int) + (j : Int)))).drew = w2
        obtain ⟨hb2, hg2⟩ := moved HB1.out hw2
        have HB2 := Lib.hid hb2
        have HG2 := Lib.hid (grown_trans HG1.out hg2)
        clear c0 f0 e2 hNj hw2
        have c0 := cell_at (k := 0) hb2 rfl
        have c2 := cell_at (k := 2) hb2 rfl
        have f2 := frozen_of_row w2 b 2 _ _ hb2
        clear hb2 hg2
        obtain ⟨M, hM⟩ : ∃ M, Hid (N + j = M) := ⟨_, rfl⟩
        rw [hM.out] at c0
        have hmN : N = 64 * m' + i := by
          have h1 : bs ++ xs.take k = pre' ++ tail' := hWr.text
          rw [← hN.out, ← hi.out, h1, List.length_append, Chain.len _ _ _ hWr.chain]
        have hMl : M ≤ 131072 := by
          rw [← hM.out, ← hN.out, List.length_append, List.length_take]
          have := hn.out
          omega
        have htx : bs ++ xs.take k ++ ys = bs ++ xs.take (k + j) := by rw [List.append_assoc, List.take_add, hys.out]
        have hkj : k + j ≤ xs.length := by have := hn.out; omega
        have hrest : Lies w2 (· ≠ b) A2 (xs.drop (k + j)) := by
          have h1 := (hL0.out.behind (j := j) (by rw [List.length_drop]; omega) (by rw [List.length_drop]; omega))
          rw [← HA2.out, List.drop_drop] at h1
          exact h1.grown HG2.out (fun k hk e => hk (by injection e))
        have HR := Lib.hid hrest
        have HT := Lib.hid htx
        clear hrest htx
        by_cases hful : i + j = 64
        · have hmo : Int.tmod (M : Int) 64 = 0 := by
            have := hM.out
            rw [Int.tmod_eq_emod_of_nonneg (by omega)]
            omega
          have hlen2 : (u8s (splice part' i ys)).length = 64 := by rw [u8s_len, length_splice _ _ _ (by rw [hWr.whole, HY.out]; omega), hWr.whole]
          have hrg : w2.rangeAt b 3 (u8s (splice part' i ys)) := fun q v hq => cell_at HB2.out (by unfold wcells; rw [show 3 + q = q + 1 + 1 + 1 by omega]; exact hq)
          have hone2 : ∀ v ∈ u8s (splice part' i ys), v.oneCell' = true := u8s_one
          have hu := Try.underlying49
          have hiL := Lib.hid hi.out
          obtain ⟨q, rfl⟩ := Chain.ptr _ _ _ hWr.chain
          obtain ⟨X, hX⟩ : ∃ X, Hid (u8s (splice part' i ys) = X) := ⟨_, rfl⟩
          rw [hX.out] at hlen2 hrg hone2
          have hi : (Try.prog.info? 49).map (·.size) = some X.length := by rw [hlen2]; exact arr_size
          obtain ⟨Z, hZ, hz68⟩ := piece_zero
          have hZ0 : (Z = #[]) = False := by
            apply propext
            exact ⟨fun e => by rw [e] at hZ; simp at hZ, False.elim⟩
          have hfold := piece_fold Z hZ (.pointer q) X hlen2
          have hbl2 : b < w2.heap.size := World.block_lt_of_cell? w2 _ c2
          have hcA : ∀ o, (w2.alloc o).cell? ⟨b, 2, none⟩ = some (.pointer q) := fun o => by rw [World.cell?_alloc_lt _ _ _ hbl2]; exact c2
          have hfA : ∀ o, (w2.alloc o).frozen? ⟨b, 2, none⟩ = false := fun o => by rw [World.frozen?_of_block (w := w2) (heap_alloc_old w2 o hbl2)]; exact f2
          clear hmN
          go_wp2
          refine wp_region_held_drew (S := fun w' => w'.rangeAt b 3 X) (by kernel_rfl) (range_keep1 hrg) (fun hHeld => ?_)
          refine wpAnyH_take (i := 0) (v := ?v1) rfl (by kernel_rfl) (by kernel_rfl) (by kernel_rfl) (fun _ _ _ h => h) (Or.inl ⟨by rfl, ?y1⟩) hHeld ?r1
          case y1 => intro w hSw; clear hSw; go_simp; try with_reducible rfl
          try simp only [Act.put, List.setIfInBounds_toArray, List.set_cons_zero, List.set_cons_succ]
          refine wpAnyH_take (i := 1) (v := ?v2) rfl (by kernel_rfl) (by kernel_rfl) (by kernel_rfl) (fun _ _ _ h => h) (Or.inl ⟨by rfl, ?y2⟩) hHeld ?r2
          case y2 => intro w hSw; clear hSw; go_simp; try with_reducible rfl
          try simp only [Act.put, List.setIfInBounds_toArray, List.set_cons_zero, List.set_cons_succ]
          refine wpAnyH_take (i := 2) (v := ?v3) rfl (by kernel_rfl) (by kernel_rfl) (by kernel_rfl) (fun _ _ _ h => h) (Or.inl ⟨by rfl, ?y3⟩) hHeld ?r3
          case y3 => intro w hSw; clear hSw; go_simp; try with_reducible rfl
          try simp only [Act.put, List.setIfInBounds_toArray, List.set_cons_zero, List.set_cons_succ]
          refine wpAnyH_take (i := 3) (v := ?v4) rfl (by kernel_rfl) (by kernel_rfl) (by kernel_rfl) (fun _ _ _ h => h) (Or.inl ⟨by rfl, ?y4⟩) hHeld ?r4
          case y4 => intro w hSw; clear hSw; go_simp; try with_reducible rfl
          try simp only [Act.put, List.setIfInBounds_toArray, List.set_cons_zero, List.set_cons_succ]
          refine wpAnyH_take (i := 5) (v := ?v5) rfl (by kernel_rfl) (by kernel_rfl) (by kernel_rfl) (fun _ _ _ h => h) (Or.inl ⟨by rfl, ?y5⟩) hHeld ?r5
          case y5 => intro w hSw; clear hSw; go_simp; try with_reducible rfl
          try simp only [Act.put, List.setIfInBounds_toArray, List.set_cons_zero, List.set_cons_succ]
          refine wpAnyH_take (i := 6) (v := ?v6) rfl (by kernel_rfl) (by kernel_rfl) (by kernel_rfl) (fun _ _ _ h => h) (Or.inl ⟨by rfl, ?y6⟩) hHeld ?r6
          case y6 => intro w hSw; clear hSw; go_simp; try with_reducible rfl
          try simp only [Act.put, List.setIfInBounds_toArray, List.set_cons_zero, List.set_cons_succ]
          refine wpAnyH_take (i := 7) (v := ?v7) rfl (by kernel_rfl) (by kernel_rfl) (by kernel_rfl) (fun _ _ _ h => h) (Or.inl ⟨by rfl, ?y7⟩) hHeld ?r7
          case y7 => intro w hSw; clear hSw; go_simp; try with_reducible rfl
          try simp only [Act.put, List.setIfInBounds_toArray, List.set_cons_zero, List.set_cons_succ]
          refine wpAnyH_take (i := 8) (v := .agg X.toArray) rfl (by kernel_rfl) (by kernel_rfl) (by kernel_rfl) (fun _ _ _ h => h) (yieldsIf_load_mid (by rfl) 49 (.tmp 48) rfl b 3 rfl X _ (fun w h => h) hu rfl hi) hHeld ?r20
          try simp only [Act.put, List.setIfInBounds_toArray, List.set_cons_zero, List.set_cons_succ]
          refine wpAnyH_ready (rs := [4]) (by kernel_rfl) (by simp) ?_
          refine AllReadyH.cons rfl (fun K hK => ?_) AllReadyH.nil
          go_simp
          refine hK.out _ _ (range_keep1 hrg) (fun hHeld => ?_)
          clear hK K
          refine wpAnyH_take (i := 9) (v := ?v8) rfl (by kernel_rfl) (by kernel_rfl) (by kernel_rfl) (fun _ _ _ h => h) (Or.inl ⟨by rfl, ?y8⟩) hHeld ?r8
          case y8 => intro w hSw; clear hSw; go_simp; try with_reducible rfl
          try simp only [Act.put, List.setIfInBounds_toArray, List.set_cons_zero, List.set_cons_succ]
          refine wpAnyH_ready (rs := [10]) (by kernel_rfl) (by simp) ?_
          refine AllReadyH.cons rfl (fun K hK => ?_) AllReadyH.nil
          go_simp
          refine hK.out _ _ (range_keep2 hrg _) (fun hHeld => ?_)
          clear hK K
          refine wpAnyH_take (i := 11) (v := ?v9) rfl (by kernel_rfl) (by kernel_rfl) (by kernel_rfl) (fun _ _ _ h => h) (Or.inl ⟨by rfl, ?y9⟩) hHeld ?r9
          case y9 => intro w hSw; clear hSw; go_simp; try with_reducible rfl
          try simp only [Act.put, List.setIfInBounds_toArray, List.set_cons_zero, List.set_cons_succ]
          refine wpAnyH_take (i := 12) (v := ?v10) rfl (by kernel_rfl) (by kernel_rfl) (by kernel_rfl) (fun _ _ _ h => h) (Or.inl ⟨by rfl, ?y10⟩) hHeld ?r10
          case y10 => intro w hSw; clear hSw; go_simp; try with_reducible rfl
          try simp only [Act.put, List.setIfInBounds_toArray, List.set_cons_zero, List.set_cons_succ]
          refine wpAnyH_ready (rs := [13]) (by kernel_rfl) (by simp) ?_
          refine AllReadyH.cons rfl (fun K hK => ?_) AllReadyH.nil
          go_simp
          refine hK.out _ _ (range_keep3 hrg _ _) (fun hHeld => ?_)
          clear hK K
          refine wpAnyH_done (by kernel_rfl) ?_ _
          generalize hw3 : ((w2.setCell ⟨b, 2, none⟩ (.pointer (some ⟨w2.heap.size, 0, none⟩))).alloc (.cells (Value.pointer q :: X).toArray 76)).drew = w3
          obtain ⟨hb3, hn3, hg3⟩ := pieced HB2.out hw3
          rw [← hX.out] at hn3
          have HB3 := Lib.hid hb3
          have HN3 := Lib.hid hn3
          have HG3 := Lib.hid hg3
          have hF2 : Hid (∀ k, F' k ∨ k = w2.heap.size → F k ∨ w.heap.size ≤ k) := by
            intro k hk
            rcases hk with hk | rfl
            · exact HF.out k hk
            · exact .inr (Nat.le_trans hG.size HG2.out.size)
          have HR3 := Lib.hid (HR.out.grown hg3 (fun k hk e => hk (by injection e)))
          clear hw3 hb3 hn3 hg3 hfold hz68 hZ hZ0 hcA hfA hbl2 c2 hrg hone2 hlen2 c0 f2 hu hi
          go_wp2_with fail
          go_roundw
          case rel =>
            refine ⟨k + j, A2, c' - j, (fun k => F' k ∨ k = w2.heap.size), m' + 1, .pointer (some ⟨w2.heap.size, 0, none⟩), pre' ++ (tail' ++ ys), [], splice part' i ys, hkj, by rw [← hn.out, Nat.sub_sub], by have := hn.out; omega, HR3.out, ?_, hF2, grown_trans (grown_trans hG HG2.out) HG3.out⟩
            rw [← HT.out]
            exact put_full hWr hiL.out HY.out hN.out hful (by rw [hM.out]; exact hMl) HG2.out rfl HG3.out HB3.out HN3.out
          case measure => simp [lenOf]; omega
        · have hmo : Int.tmod (M : Int) 64 = ((i + j : Nat) : Int) := by
            have := hM.out
            rw [Int.tmod_eq_emod_of_nonneg (by omega)]
            omega
          clear hmN
          go_wp2
          go_roundw
          case rel =>
            refine ⟨k + j, A2, c' - j, F', m', p', pre', tail' ++ ys, splice part' i ys, hkj, by rw [← hn.out, Nat.sub_sub], by have := hn.out; omega, HR.out, ?_, HF, grown_trans hG HG2.out⟩
            rw [← HT.out]
            exact put_less hWr hi.out HY.out hN.out (by omega) (by rw [hM.out]; exact hMl) HB2.out HG2.out
          case measure => simp [lenOf]; omega
    · obtain rfl : k = xs.length := by omega
      have hk0 : xs.length - xs.length = 0 := by omega
      rw [hk0]
      rw [List.take_length] at hWr
      clear hlt
      go_wp2
      go_end0
      exact ⟨rfl, ⟨F', m', p', pre', tail', part', hWr, HF.out⟩, hG⟩
end Go.Proofs.Ytokaclacejhppaa
