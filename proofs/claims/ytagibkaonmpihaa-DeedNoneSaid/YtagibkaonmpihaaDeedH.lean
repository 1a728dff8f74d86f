/- Layer 8 (deed): a deed that is being read, beside its reader. By contracts. -/
import Derived.Test.YtagibkaonmpihaaDeedB
import Derived.Test.YtagibkaonmpihaaDeedE
import Derived.Test.YtagibkaonmpihaaParK
import Derived.Test.YtagibkaonmpihaaCoderU
namespace Go.Proofs.Ytagibkaonmpihaa
open Go.RowKit
set_option linter.unusedVariables false
set_option linter.unusedSimpArgs false

/-- From one world to another: all blocks are as they were but those of which X is said. -/
structure Kept (X : Nat → Prop) (w w' : World) : Prop where
  os : w'.os = w.os
  tape : w'.tape = w.tape
  output : w'.output = w.output
  size : w.heap.size ≤ w'.heap.size
  block : ∀ i, i < w.heap.size → ¬ X i → w'.heap[i]? = w.heap[i]?
theorem Kept.refl (X : Nat → Prop) (w : World) : Kept X w w := ⟨rfl, rfl, rfl, Nat.le_refl _, fun _ _ _ => rfl⟩
theorem Kept.grown {X : Nat → Prop} {a b c : World} (h : Kept X a b) {r : Nat} (hg : b.grownBy c (some r)) (hr : X r ∨ a.heap.size ≤ r) : Kept X a c :=
  ⟨hg.os.trans h.os, hg.tape.trans h.tape, hg.output.trans h.output, Nat.le_trans h.size hg.size, fun i hi hx =>
    (hg.block i (Nat.lt_of_lt_of_le hi h.size) (fun e => by injection e with e; subst e; rcases hr with h | h; exact hx h; omega)).trans (h.block i hi hx)⟩
theorem Kept.below {X : Nat → Prop} {a b c : World} (h : Kept X a b) (hb : Below b.heap.size b c) : Kept X a c :=
  ⟨hb.os.trans h.os, hb.tape.trans h.tape, hb.output.trans h.output, Nat.le_trans h.size hb.size, fun i hi hx => (hb.block i (Nat.lt_of_lt_of_le hi h.size)).trans (h.block i hi hx)⟩

/-- The deed in block dg as it has been read since w0, by the reader of block rb that the reader of deeds in block g holds, with why it is none. -/
structure GetAt (w0 : World) (rb : Nat) (FB : Nat → Prop) (bs : List Nat) (A : Option Addr) (cp g dg : Nat) (s : Nat × Nat) (y : Nat) (d : Dd) (B : Option Addr) (c : Nat) (w : World) : Prop where
  reader : ReaderAt w rb FB bs s A cp
  own : w.heap[g]? = some (.cells #[.pointer (some ⟨rb, 0, none⟩), .int .i64 (y : Int)] 73 (0, 0))
  deed : DeedAt w dg d B c 27
  lies : Lies w (fun k => dg < k) B d.bits
  room : d.bits.length ≤ c
  most : c ≤ maxLen
  fresh : rb < dg ∧ g < dg ∧ rb ≠ g ∧ (∀ k, FB k → k < dg ∧ k ≠ g) ∧ w0.heap.size = dg
  kept : Kept (fun k => k = rb ∨ k = g) w0 w

theorem zero_deed (V : World) : (zeroValue 27).run Try.prog V = .ok (.agg (Dd.none.vals none 0)) V := by
  have h : (Try.prog.info? 27).map (fun i => i.zero) = some (some (.agg (Dd.none.vals none 0))) := by kernel_rfl
  cases hq : Try.prog.info? 27 with
  | none => simp [hq] at h
  | some i =>
    simp [hq] at h
    simp [zeroValue, typeInfo, Sem.run_bind, hq, h]

section
variable {w0 w w' : World} {rb : Nat} {FB : Nat → Prop} {bs : List Nat} {A B B' : Option Addr} {cp g dg c c' : Nat} {s s' : Nat × Nat} {y : Nat} {d d' : Dd}

theorem GetAt.start (w0 : World) (hR : ReaderAt w0 rb FB bs s A cp) (hg : w0.heap[g]? = some (.cells #[.pointer (some ⟨rb, 0, none⟩), .int .i64 (y : Int)] 73 (0, 0))) (hn : rb ≠ g) (hF : ∀ k, FB k → k < w0.heap.size ∧ k ≠ g) :
    GetAt w0 rb FB bs A cp g w0.heap.size s y Dd.none none 0 (w0.alloc (.cells (Dd.none.vals none 0) 27)) := by
  have hB : Below w0.heap.size w0 (w0.alloc (.cells (Dd.none.vals none 0) 27)) := (Below.refl _ _).alloc (Nat.le_refl _) _
  have hgl : g < w0.heap.size := (Array.getElem?_eq_some_iff.1 hg).1
  exact ⟨hR.grown (grown_below hB none) (by simp) (by simp), (hB.block g hgl).trans hg, DeedAt.new w0 _ _ _ _, Lies.nil _ _ _, Nat.le_refl _, Nat.zero_le _, ⟨hR.lt, hgl, hn, hF, rfl⟩, (Kept.refl _ _).below hB⟩

theorem GetAt.read (h : GetAt w0 rb FB bs A cp g dg s y d B c w) (hR : Rd w rb FB bs s' A cp w') : GetAt w0 rb FB bs A cp g dg s' y d B c w' :=
  ⟨hR.1, (hR.2.block g (Array.getElem?_eq_some_iff.1 h.own).1 (fun e => by injection e with e; exact h.fresh.2.2.1 e.symm)).trans h.own,
    h.deed.grown hR.2 (fun e => by injection e with e; have := h.fresh.1; omega),
    h.lies.grown hR.2 (fun k hk e => by injection e with e; have := h.fresh.1; omega), h.room, h.most, h.fresh, h.kept.grown hR.2 (.inl (.inl rfl))⟩
theorem GetAt.next (h : GetAt w0 rb FB bs A cp g dg s y d B c w) (hb : Below w.heap.size w w') : GetAt w0 rb FB bs A cp g dg s y d B c w' :=
  ⟨h.reader.grown (grown_below hb none) (by simp) (by simp), (hb.block g (Array.getElem?_eq_some_iff.1 h.own).1).trans h.own, h.deed.next hb, h.lies.grown (grown_below hb none) (by simp), h.room, h.most, h.fresh, h.kept.below hb⟩
theorem GetAt.drew (h : GetAt w0 rb FB bs A cp g dg s y d B c w) : GetAt w0 rb FB bs A cp g dg s y d B c w.drew := h.next (Below.refl _ _).drew

/-- A cell of the deed is written. -/
theorem GetAt.set (h : GetAt w0 rb FB bs A cp g dg s y d B c w) (k : Nat) (v : Value) (hv : (d.vals B c).setIfInBounds k v = d'.vals B' c') (hl : Lies w (fun k => dg < k) B' d'.bits) (hr : d'.bits.length ≤ c') (hm : c' ≤ maxLen) :
    GetAt w0 rb FB bs A cp g dg s y d' B' c' (w.setCell ⟨dg, k, none⟩ v) := by
  have hg := grown_set w dg k v
  obtain ⟨f1, f2, f3, f4, f5⟩ := h.fresh
  refine ⟨h.reader.grown hg (fun e => by injection e with e; omega) (fun k hk e => by injection e with e; have := (f4 k hk).1; omega), (hg.block g (Array.getElem?_eq_some_iff.1 h.own).1 (fun e => by injection e with e; omega)).trans h.own, ?_, hl.grown hg (fun k hk e => by injection e with e; omega), hr, hm, h.fresh, h.kept.grown hg (.inr (by omega))⟩
  have := heap_setCell_same w dg k _ _ v h.deed
  rw [hv] at this
  exact this
/-- Why it is none is written. -/
theorem GetAt.why (h : GetAt w0 rb FB bs A cp g dg s y d B c w) (z : Nat) : GetAt w0 rb FB bs A cp g dg s z d B c (w.setCell ⟨g, 1, none⟩ (.int .i64 (z : Int))) := by
  have hg := grown_set w g 1 (.int .i64 (z : Int))
  obtain ⟨f1, f2, f3, f4, f5⟩ := h.fresh
  refine ⟨h.reader.grown hg (fun e => by injection e with e; exact f3 e) (fun k hk e => by injection e with e; exact (f4 k hk).2 e), ?_, h.deed.grown hg (fun e => by injection e with e; omega), h.lies.grown hg (fun k hk e => by injection e with e; omega), h.room, h.most, h.fresh, h.kept.grown hg (.inl (.inr rfl))⟩
  have := heap_setCell_same w g 1 _ _ (.int .i64 (z : Int)) h.own
  exact this

theorem GetAt.ptr (h : GetAt w0 rb FB bs A cp g dg s y d B c w) : w.cell? ⟨g, 0, none⟩ = some (.pointer (some ⟨rb, 0, none⟩)) := cell_arr h.own rfl
theorem GetAt.whyIs (h : GetAt w0 rb FB bs A cp g dg s y d B c w) : w.cell? ⟨g, 1, none⟩ = some (.int .i64 (y : Int)) ∧ w.frozen? ⟨g, 1, none⟩ = false := ⟨cell_arr h.own rfl, frozen_of_row w g 1 _ _ h.own⟩
theorem GetAt.thaw (h : GetAt w0 rb FB bs A cp g dg s y d B c w) (k : Nat) : w.frozen? ⟨dg, k, none⟩ = false := frozen_of_row w dg k _ _ h.deed

/-! ### The calls -/
theorem GetAt.int (h : GetAt w0 rb FB bs A cp g dg s y d B c w) (m n : Nat) (mi ni : Int) (hmi : mi = (m : Int)) (hni : ni = (n : Int)) (hm : m ≤ 4611686018427387904) (hr : rdNum bs s m = (n, s')) :
    Calls Try.prog 47 #[.pointer (some ⟨rb, 0, none⟩), .int .i64 mi] w fun e w' => e = .returned (.int .i64 ni) ∧ GetAt w0 rb FB bs A cp g dg s' y d B c w' := by
  subst hmi; subst hni
  have k := rint_is rb FB bs s A cp (m : Int) w h.reader (by omega) (by omega)
  rw [rdInt_cast, hr] at k
  exact k.mono (by rintro e w' ⟨rfl, hR⟩; exact ⟨rfl, h.read hR⟩)
theorem GetAt.num (h : GetAt w0 rb FB bs A cp g dg s y d B c w) (m n : Nat) (mi : Int) (hmi : mi = (m : Int)) (hm : m ≤ 4611686018427387904) (hr : rdNum bs s m = (n, s')) :
    Calls Try.prog 51 #[.pointer (some ⟨rb, 0, none⟩), .int .u64 mi] w fun e w' => e = .returned (.int .u64 (n : Int)) ∧ GetAt w0 rb FB bs A cp g dg s' y d B c w' := by
  subst hmi
  have k := rnum_is rb FB bs s A cp m w h.reader (by omega)
  rw [hr] at k
  exact k.mono (by rintro e w' ⟨rfl, hR⟩; exact ⟨rfl, h.read hR⟩)
theorem GetAt.flag (h : GetAt w0 rb FB bs A cp g dg s y d B c w) (n : Nat) (hr : rdNum bs s 1 = (n, s')) :
    Calls Try.prog 52 #[.pointer (some ⟨rb, 0, none⟩)] w fun e w' => e = .returned (.bool (decide (n = 1))) ∧ GetAt w0 rb FB bs A cp g dg s' y d B c w' := by
  have k := rflag_is rb FB bs s A cp w h.reader
  rw [hr] at k
  exact k.mono (by rintro e w' ⟨rfl, hR⟩; exact ⟨by congr 2, h.read hR⟩)
theorem GetAt.raw (h : GetAt w0 rb FB bs A cp g dg s y d B c w) (m : Nat) (mi : Int) (hmi : mi = (m : Int)) (xs : List Nat) (hm : m ≤ 4611686018427387904) (hbl : bs.length ≤ 140737488355328) (hr : rdRaw bs s (m : Int) = (xs, s')) :
    Calls Try.prog 49 #[.pointer (some ⟨rb, 0, none⟩), .int .i64 mi] w fun e w' => (∃ B' c', e = .returned (.slice B' xs.length c') ∧ Lies w' (fun k => dg < k) B' xs ∧ xs.length ≤ c' ∧ c' ≤ maxLen) ∧ GetAt w0 rb FB bs A cp g dg s' y d B c w' := by
  subst hmi
  have hdl := h.deed.lt
  have k := rraw_is rb FB bs s A cp (m : Int) w h.reader (fun k hk => by have := (h.fresh.2.2.2.1 k hk).1; omega) hbl (by omega) (by omega)
  rw [hr] at k
  refine k.mono ?_
  rintro e w' ⟨v, rfl, hown, hR⟩
  obtain ⟨B', c', rfl, h1, h2, h3, hL⟩ := Lies.own hown
  exact ⟨⟨B', c', rfl, hL.imp (fun k _ h => by have := h.1; omega), h1, h2⟩, h.read hR⟩
theorem GetAt.pars (h : GetAt w0 rb FB bs A cp g dg s y d B c w) (q : Par) (ee : Nat) (hr : PRes bs s q ee s') :
    Calls Try.prog 50 #[.pointer (some ⟨rb, 0, none⟩)] w fun e w' => e = .returned (.tuple #[.agg q.vals, .int .i64 (ee : Int)]) ∧ GetAt w0 rb FB bs A cp g dg s' y d B c w' := by
  have hdl := h.deed.lt
  exact (pread_is rb FB bs s A cp q ee s' w h.reader (fun k hk => by have := (h.fresh.2.2.2.1 k hk).1; omega) hr).mono (by rintro e w' ⟨rfl, hR⟩; exact ⟨rfl, h.read hR⟩)
theorem GetAt.used (h : GetAt w0 rb FB bs A cp g dg s y d B c w) (f : Int) (hf : d.mask = f) :
    Calls Try.prog 24 #[.agg (d.vals B c)] w fun e w' => e = .returned (.int .i64 f) ∧ GetAt w0 rb FB bs A cp g dg s y d B c w' := by
  have k := used_is d B c w
  rw [hf] at k
  exact k.mono (by rintro e w' ⟨rfl, hb⟩; exact ⟨rfl, h.next hb⟩)
theorem GetAt.askYes (h : GetAt w0 rb FB bs A cp g dg s y d B c w) :
    Calls Try.prog 48 #[.pointer (some ⟨g, 0, none⟩), .bool true] w fun e w' => e = .returned (.tuple #[]) ∧ GetAt w0 rb FB bs A cp g dg s y d B c w' := by
  have HH := Lib.hid h
  clear h
  go_enter Try.func48, Try.ntmps48
  go_wp2
  go_end0
  exact ⟨rfl, HH.out⟩
theorem GetAt.askNo (h : GetAt w0 rb FB bs A cp g dg s y d B c w) :
    Calls Try.prog 48 #[.pointer (some ⟨g, 0, none⟩), .bool false] w fun e w' => e = .returned (.tuple #[]) ∧ GetAt w0 rb FB bs A cp g dg s 80 d B c w' := by
  obtain ⟨c1, f1⟩ := h.whyIs
  have h2 := Lib.hid (h.why 80)
  clear h
  go_enter Try.func48, Try.ntmps48
  go_wp2
  go_end0
  exact ⟨rfl, h2.out⟩
/-- The deed is handed back. -/
theorem GetAt.again (h : GetAt w0 rb FB bs A cp g dg s y d B c w) : GetAt w0 rb FB bs A cp g dg s y d B c (w.setRow dg (d.vals B c)) := by
  have hg := grown_setRow w dg (d.vals B c)
  obtain ⟨f1, f2, f3, f4, f5⟩ := h.fresh
  exact ⟨h.reader.grown hg (fun e => by injection e with e; omega) (fun k hk e => by injection e with e; have := (f4 k hk).1; omega), (hg.block g (Array.getElem?_eq_some_iff.1 h.own).1 (fun e => by injection e with e; omega)).trans h.own, DeedAt.set h.deed, h.lies.grown hg (fun k hk e => by injection e with e; omega), h.room, h.most, h.fresh, h.kept.grown hg (.inr (by omega))⟩
/-- Its parameters, and why it is none, are written. -/
theorem GetAt.setPars (h : GetAt w0 rb FB bs A cp g dg s y d B c w) (q : Par) (d' : Dd) (hd : d' = { d with par := q }) : GetAt w0 rb FB bs A cp g dg s y d' B c (w.setCells dg 8 q.vals.toList) := by
  subst hd
  have hcells : ∀ (vs : List Value) (o : Nat) (w : World), w.grownBy (w.setCells dg o vs) (some dg) := by
    intro vs
    induction vs with
    | nil => intro o w; exact grown_refl _ _
    | cons v vs ih => intro o w; exact grown_trans (grown_set w dg o v) (ih (o + 1) _)
  have hg := hcells q.vals.toList 8 w
  obtain ⟨f1, f2, f3, f4, f5⟩ := h.fresh
  refine ⟨h.reader.grown hg (fun e => by injection e with e; omega) (fun k hk e => by injection e with e; have := (f4 k hk).1; omega), (hg.block g (Array.getElem?_eq_some_iff.1 h.own).1 (fun e => by injection e with e; omega)).trans h.own, ?_, h.lies.grown hg (fun k hk e => by injection e with e; omega), h.room, h.most, h.fresh, h.kept.grown hg (.inr (by omega))⟩
  have hrow : ∀ (vs : List Value) (o : Nat) (w : World) (C : Array Value), w.heap[dg]? = some (.cells C 27 (0, 0)) → ∃ C', (w.setCells dg o vs).heap[dg]? = some (.cells C' 27 (0, 0)) ∧ C'.size = C.size := by
    intro vs
    induction vs with
    | nil => intro o w C hC; exact ⟨C, hC, rfl⟩
    | cons v vs ih =>
      intro o w C hC
      obtain ⟨C', h1, h2⟩ := ih (o + 1) (w.setCell ⟨dg, o, none⟩ v) _ (heap_setCell_same w dg o _ _ v hC)
      exact ⟨C', h1, by rw [h2]; simp⟩
  obtain ⟨C', h1, h2⟩ := hrow q.vals.toList 8 w _ h.deed
  have hC : C' = ({ d with par := q } : Dd).vals B c := by
    apply Array.ext_getElem?
    intro k
    rw [← cell_of_row _ dg k C' _ _ h1]
    by_cases hk : 8 ≤ k ∧ k < 32
    · obtain ⟨j, rfl⟩ : ∃ j, k = 8 + j := ⟨k - 8, by omega⟩
      have hj : j < 24 := by omega
      have hjl : j < q.vals.toList.length := by rw [Array.length_toList, vals_size]; exact hj
      rw [World.cell?_setCells_in dg q.vals.toList 8 w (fun i hi => (h.deed.there i (by rw [Array.length_toList, vals_size] at hi; exact hi)).1) j hjl, ← List.getElem?_eq_getElem hjl, Array.getElem?_toList]
      clear hjl hk
      match j, hj with
      | 0, _ | 1, _ | 2, _ | 3, _ | 4, _ | 5, _ | 6, _ | 7, _ | 8, _ | 9, _ | 10, _ | 11, _ | 12, _ | 13, _ | 14, _ | 15, _ | 16, _ | 17, _ | 18, _ | 19, _ | 20, _ | 21, _ | 22, _ | 23, _ => rfl
      | n + 24, hj => exact absurd hj (by omega)
    · rw [World.cell?_setCells_out dg q.vals.toList 8 w ⟨dg, k, none⟩ (fun _ _ => by rw [Array.length_toList, vals_size]; show k < 8 ∨ 8 + 24 ≤ k; omega), h.deed.cell]
      by_cases hk2 : k < 34
      · have : k = 0 ∨ k = 1 ∨ k = 2 ∨ k = 3 ∨ k = 4 ∨ k = 5 ∨ k = 6 ∨ k = 7 ∨ k = 32 ∨ k = 33 := by omega
        rcases this with rfl | rfl | rfl | rfl | rfl | rfl | rfl | rfl | rfl | rfl <;> rfl
      · rw [Array.getElem?_eq_none (by rw [dvals_size]; omega), Array.getElem?_eq_none (by rw [dvals_size]; omega)]
  rw [hC] at h1
  exact h1
end
end Go.Proofs.Ytagibkaonmpihaa
