/- Layer 4 (share): what the parts leave; a sum shared out; without a rest. By contracts. -/
import Derived.Test.YtcmfoioljnkcbaaShareA
import Derived.Maps.AppendAt
namespace Go.Proofs.Ytcmfoioljnkcbaa
open Go.RowKit Go.Shelf
set_option linter.unusedVariables false
attribute [local go_sem] Oper.semAt_some

set_option maxRecDepth 100000 in
set_option maxHeartbeats 2000000 in
theorem share_left (T : Nat) (ws : List Nat) (A : Option Addr) (c : Nat) (w : World) (hT : T < 18446744073709551616) (hW : tot ws < 18446744073709551616) (hlen : ws.length ≤ maxLen) (hr : Row w w.heap.size A (u64s ws)) :
    Calls Try.prog 22 #[.int .u64 T, .int .u64 (tot ws : Nat), .slice A ws.length c] w fun e w' => e = .returned (.int .u64 (T - tot (ws.map (prt T (tot ws))) : Nat)) ∧ Below w.heap.size w w' := by
  have hsub := sub64_is (ws.map (prt T (tot ws))) T hT (tot_parts T ws)
  obtain ⟨W, hWn⟩ : ∃ W, Hid (tot ws = W) := ⟨_, rfl⟩
  have hws : ∀ x ∈ ws, x ≤ W := by rw [← hWn.out]; exact le_tot ws
  rw [hWn.out] at hW hsub ⊢
  have HS := Lib.hid hsub
  have HW := Lib.hid hws
  clear hsub hws
  refine (callsIn_wide (n := 4)).1 ?_
  refine callsIn_of_wp_marks Try.func22 rfl trivial ?_ rfl
  simp only [Try.ntmps22, List.size_toArray, List.length_cons, List.length_nil, Nat.reduceAdd, Nat.reduceSub, Array.replicate_succ, Array.replicate_zero, List.push_toArray, List.append_toArray, List.nil_append, List.cons_append]
  gi_wp2_with (refine ⟨trivial, ?_⟩; gi_at_call 21; refine (callsIn_wide.2 (told_made T W A ws.length c _)).mono ?_; rintro e w' ⟨rfl, rfl⟩)
  have bR := Boxed.new w 22 (.int .u64 T)
  have b1 := Boxed.new (w.alloc (.cells #[.int .u64 T] 22)) 22 (.int .u64 T)
  have b2 := Boxed.new ((w.alloc (.cells #[.int .u64 T] 22)).alloc (.cells #[.int .u64 T] 22)) 22 (.int .u64 W)
  have b0 := Boxed.new (((w.alloc (.cells #[.int .u64 T] 22)).alloc (.cells #[.int .u64 T] 22)).alloc (.cells #[.int .u64 W] 22)) 23 (.slice A ws.length c)
  simp only [World.size_alloc] at b1 b2 b0
  have hB0 : Below w.heap.size w ((((w.alloc (.cells #[.int .u64 T] 22)).alloc (.cells #[.int .u64 T] 22)).alloc (.cells #[.int .u64 W] 22)).alloc (.cells #[.slice A ws.length c] 23)) :=
    ((((Below.refl _ w).alloc (Nat.le_refl _) _).alloc (by simp) _).alloc (by simp; omega) _).alloc (by simp; omega) _
  refine wpIn_rangeFunc_ownG rfl (by omega) (gf := 31) (lb := #[.pointer (some ⟨w.heap.size + 1 + 1 + 1, 0, none⟩), .pointer (some ⟨w.heap.size + 1, 0, none⟩), .pointer (some ⟨w.heap.size + 1 + 1, 0, none⟩)]) rfl trivial (enters_of Try.func31 (by kernel_rfl) rfl)
    (told_stops (4 - 1) (by omega) (w.heap.size + 1 + 1 + 1) (w.heap.size + 1) (w.heap.size + 1 + 1) w.heap.size (w.heap.size + 1) (w.heap.size + 4) T W ws A c hT hW HW.out hlen (by omega) (by omega) (by omega) (by omega) _ (by simp) b0.cell ((b1.alloc _).alloc _).cell (b2.alloc _).cell (hr.below hB0))
    KeepC.trans (KeepC.book (by simp)) (Below.refl _ _) (fun _ => rfl)
    (fun pre V => Boxed V w.heap.size 22 (.int .u64 (sub64 T (parts T W ws pre))) ∧ Below w.heap.size w V)
    (fun _ _ _ => False)
    (OwnFrom.and (Own.from (fun s X Y row hs hg hr => hs.kept hg (fun e => by obtain ⟨o, ho, hc⟩ := hr _ e.symm; rw [show X.heap[w.heap.size]? = _ from hs] at ho; cases ho; cases hc)) _) (ownFrom_below (Nat.le_refl _) (by simp; omega)))
    (fun _ _ _ _ _ hs _ _ => hs)
    ⟨((bR.alloc _).alloc _).alloc _, hB0⟩
    (fun x => { tmps := #[.int .u64 T, .int .u64 W, .slice A ws.length c, undef, undef, undef, .int .u64 0, .pointer (some ⟨w.heap.size, 0, none⟩), undef, .int .u64 (prt T W ws[x.1] : Nat), .int .u64 T, .int .u64 T, .int .u64 W, .slice A ws.length c,
      .func (.func 31) #[] #[.pointer (some ⟨w.heap.size + 1 + 1 + 1, 0, none⟩), .pointer (some ⟨w.heap.size + 1, 0, none⟩), .pointer (some ⟨w.heap.size + 1 + 1, 0, none⟩)],
      .int .i64 (x.1 : Int), .int .u64 (prt T W ws[x.1] : Nat), undef, undef, undef, undef], defers := [] }) ?assign ?body ?done ?stop
  case assign =>
    intro l x V K hK
    gi_wp2
    exact hK
  case body =>
    rintro l pre x V ⟨hbx, hB⟩ _
    have hc := hbx.cell
    have hf := hbx.frozen
    gi_wp2
    exact ⟨(KeepsOthers.setCell _ _ _).from _, KeepC.setCell _ (by simp) _, by rw [parts_snoc, sub64_snoc]; exact hbx.set _, hB.setCell (p := ⟨w.heap.size, 0, none⟩) (Nat.le_refl _) _⟩
  case done =>
    rintro D ys V hD rfl ⟨hbx, hB⟩ hK
    rw [parts_all, HS.out] at hbx
    have hc := hbx.cell
    gi_wp2
    refine ⟨by simp, .inl ⟨_, _, rfl, run_takeDeferred hK, ?_⟩⟩
    exact ⟨_, results_tmp rfl _ _ _, rfl, hB.trans (belowK_b (w := w) (Nat.le_refl _) V D _ _ (by simp at hD; omega) hK rfl rfl)⟩
  case stop =>
    rintro D c pre V _ _ h _
    exact h.elim
end Go.Proofs.Ytcmfoioljnkcbaa
