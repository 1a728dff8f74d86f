/- Layer 8 (deed): a deed is read by a reader that is none. By contracts. -/
import Derived.Test.YtagibkaonmpihaaDeedTop
namespace Go.Proofs.Ytagibkaonmpihaa
open Go.RowKit
set_option linter.unusedVariables false
set_option linter.unusedSimpArgs false

/-- A deed that is nothing in block dg, beside a reader of deeds in block g that holds no reader. -/
structure NilAt (w0 : World) (g dg : Nat) (y : Nat) (w : World) : Prop where
  own : w.heap[g]? = some (.cells #[.pointer none, .int .i64 (y : Int)] 73 (0, 0))
  deed : DeedAt w dg Dd.none none 0 27
  fresh : g < dg ∧ w0.heap.size = dg
  kept : Kept (fun k => k = g) w0 w
section
variable {w0 w w' : World} {g dg y : Nat}
theorem NilAt.start (w0 : World) (hg : w0.heap[g]? = some (.cells #[.pointer none, .int .i64 (y : Int)] 73 (0, 0))) : NilAt w0 g w0.heap.size y (w0.alloc (.cells (Dd.none.vals none 0) 27)) := by
  have hB : Below w0.heap.size w0 (w0.alloc (.cells (Dd.none.vals none 0) 27)) := (Below.refl _ _).alloc (Nat.le_refl _) _
  have hgl : g < w0.heap.size := (Array.getElem?_eq_some_iff.1 hg).1
  exact ⟨(hB.block g hgl).trans hg, DeedAt.new w0 _ _ _ _, ⟨hgl, rfl⟩, (Kept.refl _ _).below hB⟩
theorem NilAt.next (h : NilAt w0 g dg y w) (hb : Below w.heap.size w w') : NilAt w0 g dg y w' :=
  ⟨(hb.block g (Array.getElem?_eq_some_iff.1 h.own).1).trans h.own, h.deed.next hb, h.fresh, h.kept.below hb⟩
theorem NilAt.set (h : NilAt w0 g dg y w) : NilAt w0 g dg y (w.setCell ⟨dg, 0, none⟩ (.int .i64 0)) := by
  have hg := grown_set w dg 0 (.int .i64 0)
  obtain ⟨f1, f2⟩ := h.fresh
  refine ⟨(hg.block g (Array.getElem?_eq_some_iff.1 h.own).1 (fun e => by injection e with e; omega)).trans h.own, ?_, h.fresh, h.kept.grown hg (.inr (by omega))⟩
  exact heap_setCell_same w dg 0 _ _ (.int .i64 0) h.deed
theorem NilAt.why (h : NilAt w0 g dg y w) (z : Nat) : NilAt w0 g dg z (w.setCell ⟨g, 1, none⟩ (.int .i64 (z : Int))) := by
  have hg := grown_set w g 1 (.int .i64 (z : Int))
  obtain ⟨f1, f2⟩ := h.fresh
  refine ⟨?_, h.deed.grown hg (fun e => by injection e with e; omega), h.fresh, h.kept.grown hg (.inl rfl)⟩
  exact heap_setCell_same w g 1 _ _ (.int .i64 (z : Int)) h.own
theorem NilAt.again (h : NilAt w0 g dg y w) : NilAt w0 g dg y (w.setRow dg (Dd.none.vals none 0)) := by
  have hg := grown_setRow w dg (Dd.none.vals none 0)
  obtain ⟨f1, f2⟩ := h.fresh
  exact ⟨(hg.block g (Array.getElem?_eq_some_iff.1 h.own).1 (fun e => by injection e with e; omega)).trans h.own, DeedAt.set h.deed, h.fresh, h.kept.grown hg (.inr (by omega))⟩
theorem NilAt.ptr (h : NilAt w0 g dg y w) : w.cell? ⟨g, 0, none⟩ = some (.pointer none) := cell_arr h.own rfl
theorem NilAt.whyIs (h : NilAt w0 g dg y w) : w.cell? ⟨g, 1, none⟩ = some (.int .i64 (y : Int)) ∧ w.frozen? ⟨g, 1, none⟩ = false := ⟨cell_arr h.own rfl, frozen_of_row w g 1 _ _ h.own⟩
theorem NilAt.thaw (h : NilAt w0 g dg y w) (k : Nat) : w.frozen? ⟨dg, k, none⟩ = false := frozen_of_row w dg k _ _ h.deed
theorem NilAt.used (h : NilAt w0 g dg y w) :
    Calls Try.prog 24 #[.agg (Dd.none.vals none 0)] w fun e w' => e = .returned (.int .i64 0) ∧ NilAt w0 g dg y w' :=
  (used_none w).mono (by rintro e w' ⟨rfl, hb⟩; exact ⟨rfl, h.next hb⟩)
theorem NilAt.askNo (h : NilAt w0 g dg y w) :
    Calls Try.prog 48 #[.pointer (some ⟨g, 0, none⟩), .bool false] w fun e w' => e = .returned (.tuple #[]) ∧ NilAt w0 g dg 80 w' := by
  obtain ⟨c1, f1⟩ := h.whyIs
  have h2 := Lib.hid (h.why 80)
  clear h
  go_enter Try.func48, Try.ntmps48
  go_wp2
  go_end0
  exact ⟨rfl, h2.out⟩
end

set_option maxRecDepth 100000 in
set_option maxHeartbeats 2000000 in
theorem get_nil (g : Nat) (w : World) (hg : w.heap[g]? = some (.cells #[.pointer none, .int .i64 ((0 : Nat) : Int)] 73 (0, 0))) :
    Calls Try.prog 33 #[.pointer (some ⟨g, 0, none⟩)] w fun e w' => e = .returned (.agg (Dd.none.vals none 0)) ∧ NilAt w g w.heap.size 80 w' := by
  have hz := zero_deed
  have h0 := NilAt.start w hg
  have z := h0.thaw
  have p := h0.ptr
  have dd := h0.deed
  obtain ⟨c0, c1, c2, c3, c4, c5, c6, c7, c32, c33⟩ := h0.deed.cells
  have ki : Calls Try.prog 47 #[.pointer none, .int .i64 255] (w.alloc (.cells (Dd.none.vals none 0) 27)) fun e w' => e = .returned (.int .i64 0) ∧ NilAt w g w.heap.size 0 w' := (rint_nil 255 _).mono (by rintro e w' ⟨rfl, rfl⟩; exact ⟨rfl, h0⟩)
  clear hg
  have kh : ∀ one, hb 0 one = false → ∀ w, Calls Try.prog 26 #[.int .i64 0, .int .i64 one] w fun e w' => e = .returned (.bool false) ∧ w = w' := fun one h1 w => by have := has_is 0 one w; rwa [h1] at this
  have kh1 := kh 1 (by decide +kernel)
  have kh2 := kh 2 (by decide +kernel)
  have kh4 := kh 4 (by decide +kernel)
  have kh8 := kh 8 (by decide +kernel)
  have kh16 := kh 16 (by decide +kernel)
  have kh32 := kh 32 (by decide +kernel)
  have kh64 := kh 64 (by decide +kernel)
  have kh128 := kh 128 (by decide +kernel)
  clear kh
  go_enter Try.func33, Try.ntmps33
  go_wp2_with (first
    | (refine load_deed _ rfl rfl _ Dd.none none 0 _ rfl (by assumption) ?_)
    | (refine store_deed _ _ rfl rfl _ Dd.none Dd.none none none 0 0 _ rfl rfl (by assumption) ?_)
    | (go_at_call 47; refine ki.mono ?_; clear ki; rintro e w1 ⟨rfl, q1⟩; clear z p dd h0; have z := q1.thaw; have h1 := q1.set; have p := h1.ptr; have dd := h1.deed; clear c0 c1 c2 c3 c4 c5 c6 c7 c32 c33; obtain ⟨c0, c1, c2, c3, c4, c5, c6, c7, c32, c33⟩ := q1.deed.cells)
    | (go_at_call 24; refine h1.used.mono ?_; rintro e w2 ⟨rfl, h2⟩; clear z p dd h1; have z := h2.thaw; have p := h2.ptr; have dd := h2.deed; clear c0 c1 c2 c3 c4 c5 c6 c7 c32 c33; obtain ⟨c0, c1, c2, c3, c4, c5, c6, c7, c32, c33⟩ := h2.deed.cells)
    | (go_at_call 48; refine h2.askNo.mono ?_; rintro e w3 ⟨rfl, h3⟩; clear z p dd h2; have z := h3.thaw; have p := h3.ptr; have dd := h3.deed)
    | (go_at_call 26; refine (kh1 _).mono ?_; clear kh1; rintro e w' ⟨rfl, rfl⟩)
    | (go_at_call 26; refine (kh2 _).mono ?_; clear kh2; rintro e w' ⟨rfl, rfl⟩)
    | (go_at_call 26; refine (kh4 _).mono ?_; clear kh4; rintro e w' ⟨rfl, rfl⟩)
    | (go_at_call 26; refine (kh8 _).mono ?_; clear kh8; rintro e w' ⟨rfl, rfl⟩)
    | (go_at_call 26; refine (kh16 _).mono ?_; clear kh16; rintro e w' ⟨rfl, rfl⟩)
    | (go_at_call 26; refine (kh32 _).mono ?_; clear kh32; rintro e w' ⟨rfl, rfl⟩)
    | (go_at_call 26; refine (kh64 _).mono ?_; clear kh64; rintro e w' ⟨rfl, rfl⟩)
    | (go_at_call 26; refine (kh128 _).mono ?_; clear kh128; rintro e w' ⟨rfl, rfl⟩))
  have hfin := h3.again
  refine bodyPost_ret (res_deed1 Try.results33 rfl hfin.deed) rfl ⟨rfl, hfin⟩

theorem err_nil {w0 w : World} {g dg y : Nat} (h : NilAt w0 g dg y w) :
    Calls Try.prog 34 #[.pointer (some ⟨g, 0, none⟩)] w fun e w' => e = .returned (.int .i64 1) ∧ w = w' := by
  have p := h.ptr
  have ke := rerr_nil w
  clear h
  go_enter Try.func34, Try.ntmps34
  go_wp2_with (go_at_call 53; refine ke.mono ?_; rintro e w' ⟨rfl, rfl⟩)
  go_ret
  exact ⟨rfl, rfl⟩

set_option maxRecDepth 100000 in
set_option maxHeartbeats 2000000 in
theorem dread_nil (w : World) :
    Calls Try.prog 16 #[.pointer none] w fun e w' => e = .returned (.tuple #[.agg (Dd.none.vals none 0), .int .i64 1]) ∧ Below w.heap.size w w' := by
  have hz := zero_deed
  have hs : (w.alloc (.cells (Dd.none.vals none 0) 27)).heap.size = w.heap.size + 1 := by simp
  have hg := heap_alloc_new (w.alloc (.cells (Dd.none.vals none 0) 27)) (.cells #[.pointer none, .int .i64 0] 73)
  rw [hs] at hg
  have kd := get_nil (w.heap.size + 1) _ hg
  have hs2 : ((w.alloc (.cells (Dd.none.vals none 0) 27)).alloc (.cells #[.pointer none, .int .i64 0] 73)).heap.size = w.heap.size + 2 := by simp
  rw [hs2] at kd
  have hB : Below w.heap.size w ((w.alloc (.cells (Dd.none.vals none 0) 27)).alloc (.cells #[.pointer none, .int .i64 0] 73)) := ((Below.refl _ _).alloc (Nat.le_refl _) _).alloc (by simp) _
  have hN : DeedAt ((w.alloc (.cells (Dd.none.vals none 0) 27)).alloc (.cells #[.pointer none, .int .i64 0] 73)) w.heap.size Dd.none none 0 27 := (DeedAt.new w Dd.none none 0 27).next ((Below.refl _ _).alloc (Nat.le_refl _) _)
  clear hg hs
  go_enter Try.func16, Try.ntmps16
  go_wp2_with (first
    | (go_at_call 33; refine kd.mono ?_; clear kd; rintro e w1 ⟨rfl, hG⟩; have hN1 : DeedAt w1 w.heap.size Dd.none none 0 27 := (hG.kept.block _ (by omega) (by omega)).trans hN)
    | (refine store_deed _ _ rfl rfl w1.heap.size Dd.none Dd.none none none 0 0 _ rfl rfl (DeedAt.new w1 Dd.none none 0 _) ?_; have hb2 : Below w1.heap.size w1 ((w1.alloc (.cells (Dd.none.vals none 0) 27)).setRow w1.heap.size (Dd.none.vals none 0)) := below_setRow ((Below.refl _ _).alloc (Nat.le_refl _) _) (Nat.le_refl _) _; have hG2 := hG.next hb2; have hN2 := hN1.next hb2)
    | (go_at_call 34; refine (err_nil hG2).mono ?_; rintro e w3 ⟨rfl, rfl⟩)
    | (refine build_deed _ rfl rfl Dd.none none 0 (by kernel_rfl) ?_)
    | (refine store_deed _ _ rfl rfl w.heap.size Dd.none Dd.none none none 0 0 _ rfl rfl hN2 ?_))
  refine bodyPost_ret (res_deed2 Try.results16 rfl (DeedAt.set hN2)) rfl ⟨rfl, ?_⟩
  have hk := hG2.kept
  have hbk : Below w.heap.size w ((w1.alloc (.cells (Dd.none.vals none 0) 27)).setRow w1.heap.size (Dd.none.vals none 0)) :=
    ⟨hk.os.trans hB.os, hk.tape.trans hB.tape, hk.output.trans hB.output, Nat.le_trans hB.size hk.size, fun k hkl => (hk.block k (Nat.lt_of_lt_of_le hkl hB.size) (fun e => by omega)).trans (hB.block k hkl)⟩
  exact below_setRow hbk (Nat.le_refl _) _
end Go.Proofs.Ytagibkaonmpihaa
