/- The reference's numbers (layer 1): a word's digits; the greatest word. By contracts. -/
import Derived.Test.YtfaocjgelhefjaaNatA
namespace Go.Proofs.Ytfaocjgelhefjaa
open Go.RowKit
set_option linter.unusedVariables false

theorem int_info : (Try.prog.info? 3).map (fun i => (i.zero, i.size, i.bytes)) = some (some (.int .i64 0), 1, 8) := by kernel_rfl

theorem ints_snoc (ds : List Nat) (d : Nat) : ints ds ++ [.int .i64 (d : Int)] = ints (ds ++ [d]) := by simp [ints]

theorem cells_one (x : Value) : ∀ j u, ([x] : List Value)[j]? = some u → j = 0 ∧ u = x := by
  intro j u h
  cases j with
  | zero => exact ⟨rfl, by simpa using h.symm⟩
  | succ j => simp at h

/-- The one value of a new block of one cell. -/
theorem new_one (w : World) (x : Value) (t : TypeId) : ∀ j u, ([x] : List Value)[j]? = some u → (w.alloc (.cells #[x] t)).cell? ((⟨w.heap.size, 0, none⟩ : Addr).add j) = some u := by
  intro j u h
  obtain ⟨rfl, rfl⟩ := cells_one x j u h
  show (w.alloc (.cells #[u] t)).cell? ⟨w.heap.size, 0, none⟩ = some u
  rw [World.cell?_alloc_at _ _ _ _ rfl]
  rfl

/-- Behind an append of one value to a row of the call's own: below B all is as it was. -/
theorem app_below_nat {B base n : Nat} {a wr w1 : World} {e : TypeId} {v : Value} {xs : List Value} {o : Obj} (hb : Below B a wr) (hB : B ≤ base) (hs : B ≤ wr.heap.size)
    (hown : wr.ownsRow base e 1 v n xs) (hg : (wr.alloc o).grownBy w1 v.ownBlock) : Below B a w1 :=
  (hb.alloc hs o).grown hg (by simp; omega) (fun k hk => Nat.le_trans hB (hown.lt k hk).1)

/-- The result's cell, as it was laid ahead of the loop. -/
theorem result_cell {w wr : World} {u : Value} {t : TypeId} (hb : Below (w.heap.size + 1) (w.alloc (.cells #[u] t)) wr) :
    wr.cell? ⟨w.heap.size, 0, none⟩ = some u ∧ wr.frozen? ⟨w.heap.size, 0, none⟩ = false := by
  refine ⟨(hb.cell (p := ⟨w.heap.size, 0, none⟩) (by show w.heap.size < _; omega)).trans ?_, (hb.frozen (p := ⟨w.heap.size, 0, none⟩) (by show w.heap.size < _; omega)).trans ?_⟩
  · rw [World.cell?_alloc_at _ _ _ _ rfl]; rfl
  · exact World.frozen?_alloc_at _ _ _ _ rfl

/-- Where a row of the call's own lies. -/
theorem own_from {w : World} {base n c : Nat} {e : TypeId} {A : Option Addr} {xs : List Value} (h : w.ownsRow base e 1 (.slice A n c) n xs) : (∀ a, A = some a → base ≤ a.block) ∧ (A = none → c = 0) :=
  ⟨fun a e => by subst e; exact (h.lt a.block rfl).1, fun e => by
    subst e
    rcases h.2 with ⟨e1, _⟩ | ⟨g, cap, cur, e1, _⟩
    · injection e1
    · injection e1 with e2; cases e2⟩

set_option maxRecDepth 100000 in
theorem of_any (N : Nat) (w : World) (hN : N ≤ 18446744073709551615) :
    Calls Try.prog 33 #[.int .u64 (N : Int)] w fun e w' => ∃ v, e = .returned v ∧ NatV w' w'.heap.size v N ∧ Fresh w.heap.size v ∧ Below w.heap.size w w' := by
  obtain ⟨i0, hi0, hz0, hz1, hz2⟩ := info_parts int_info
  have hlen : (digs N).length ≤ 20 := digs_len (by omega)
  go_enter Try.func33, Try.ntmps33
  go_wp2
  go_loopw [0, 3] (fun a d wr => ∃ (x : Nat) (ds : List Nat), x ≤ N ∧ Hid (ds ++ digs x = digs N) ∧ a = .int .u64 (x : Int) ∧ wr.ownsRow (w.heap.size + 1) 3 1 d ds.length (ints ds) ∧
      Below (w.heap.size + 1) (w.alloc (.cells #[.slice none 0 0] 62)) wr) (fun a _ _ => (intOf a).toNat)
  case atStart => exact ⟨N, [], Nat.le_refl _, rfl, rfl, World.ownsRow_nil _ _ _ _, Below.refl _ _⟩
  case round =>
    obtain ⟨x, ds, hx, HD, rfl, hown, hb⟩ := hrel
    have hs : w.heap.size + 1 ≤ wr.heap.size := by have := hb.size; simpa using this
    rcases Nat.eq_zero_or_pos x with rfl | hpos
    · obtain ⟨hc, hf⟩ := result_cell hb
      obtain ⟨A, c, rfl, _, _, _⟩ := Row.of_own hown
      have hown2 := ownsRow_setCell_below hown (a := ⟨w.heap.size, 0, none⟩) (by show w.heap.size < _; omega) (.slice A ds.length c)
      obtain ⟨A', c', hv, hlc, hcm, hrow⟩ := Row.of_own hown2
      have hds : ds = digs N := by
        have h := HD.out
        rwa [digs_zero, List.append_nil] at h
      have HDS := Lib.hid hds
      have HV := Lib.hid hv
      clear hds hv
      go_wp2
      refine bodyPost_ret (v := .agg #[.slice A ds.length c]) (by simp [results, Try.results33, go_sem, hc]) rfl ⟨_, rfl, ⟨A', c', ?_, ?_, hcm, ?_⟩, ?_, ?_⟩
      · rw [← HDS.out, ← HV.out]
      · rw [← HDS.out]; exact hlc
      · rw [← HDS.out]; exact hrow
      · exact (fresh_of (own_from hown2).1 (own_from hown2).2).down (by omega)
      · exact ((((Below.refl _ _).alloc (Nat.le_refl _) _).trans (hb.mono (by omega))).setCell (Nat.le_refl _) _)
    · have hl : ds.length + 1 ≤ 20 := by
        have h := congrArg List.length HD.out
        rw [digs_pos (by omega)] at h
        simp at h
        omega
      have hstep : (ds ++ [x % 10]) ++ digs (x / 10) = digs N := by
        have h := HD.out
        rw [digs_pos (by omega)] at h
        simpa using h
      have hcast : ((x : Int) % 10) = ((x % 10 : Nat) : Int) := by omega
      have HS := Lib.hid hstep
      have HC := Lib.hid hcast
      clear hstep hcast
      go_wp2_with (at_builtin; refine wpList_append_own _ rfl _ _ 60 rfl (w.heap.size + 1) 3 i0 (.int .i64 0) 1 8 Try.underlying60 hi0 hz0 hz1 hz2 rfl (by decide) _ _ _ rfl (hown.alloc _) ⟨wr.heap.size, 0, none⟩ 1 1 [.int .i64 ((x : Int) % 10)] rfl rfl ?c1 ?c2 ?c3 ?c4 ?c5 ?_)
      case c1 => exact new_one _ _ _
      case c2 => intro u hu; simp at hu; subst hu; rfl
      case c3 => simp only [maxLen]; omega
      case c4 => omega
      case c5 => simp; omega
      intro v' w1 hown' hgrow _
      have hb' := app_below_nat hb (Nat.le_refl _) hs hown hgrow
      rw [HC.out, ints_snoc] at hown'
      clear hgrow hown hb
      go_wp2
      go_roundw
      case rel => exact ⟨x / 10, ds ++ [x % 10], by omega, HS.out, by go_num, by rw [List.length_append]; exact hown', hb'⟩
      case measure => simp [intOf]; omega
end Go.Proofs.Ytfaocjgelhefjaa
