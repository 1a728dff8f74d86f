/- Layer 20 (roll): a run of epochs without a gap, by a range over a function that is left. By contracts. -/
import Derived.RangeFuncBox
import Derived.RangeFuncLeaves
import Derived.RangeFuncCalls
import Derived.Shelf.Abstract
import Derived.OwnWalkIn
import Derived.TacticsInMore
import Derived.LoopNIn
import Derived.LoopIn
import Derived.Shelf.RegionOpen
import Derived.WalkMore
import Derived.Test.YtbahcbnnogdmfaaRolM
namespace Go.Proofs.Ytbahcbnnogdmfaa
open Go.RowKit Go.Shelf
set_option linter.unusedVariables false
set_option linter.unusedSimpArgs false
attribute [local go_sem] Oper.semAt_some

/-- A place in a ring. -/
abbrev Spot (l : List BV) := { j : Nat // j < l.length }
/-- The first k. -/
def spots (l : List BV) : (k : Nat) → k ≤ l.length → List (Spot l)
  | 0, _ => []
  | k + 1, h => spots l k (Nat.le_of_succ_le h) ++ [⟨k, h⟩]
theorem spots_len (l : List BV) : ∀ (k : Nat) (h : k ≤ l.length), (spots l k h).length = k
  | 0, _ => rfl
  | k + 1, h => by unfold spots; rw [List.length_append, spots_len l k]; rfl
theorem spots_mem (l : List BV) : ∀ (k : Nat) (h : k ≤ l.length) (j : Nat) (hj : j < k), (⟨j, Nat.lt_of_lt_of_le hj h⟩ : Spot l) ∈ spots l k h
  | k + 1, h, j, hj => by
    unfold spots
    by_cases e : j = k
    · subst e; simp
    · exact List.mem_append_left _ (spots_mem l k _ j (by omega))
/-- All of them have the bit; the last of them has not. -/
def Went (l : List BV) (i : Int) (pre : List (Spot l)) : Prop := ∀ x ∈ pre, bitI (l[x.1]).bs i = true
def Gap (l : List BV) (i : Int) (pre : List (Spot l)) : Prop := ∃ ini last, pre = ini ++ [last] ∧ Went l i ini ∧ bitI (l[last.1]).bs i = false
/-- What comes at a place. -/
abbrev encB (l : List BV) (x : Spot l) : Array Value := #[.slice (l[x.1]).row (l[x.1]).bs.length (l[x.1]).cap]

theorem values_made (A : Option Addr) (n c : Nat) (w : World) :
    Calls Try.prog 26 #[.slice A n c] w fun e w' => e = .returned (.func (.func 29) #[] #[.pointer (some ⟨w.heap.size, 0, none⟩)]) ∧ w' = w.alloc (.cells #[.slice A n c] 33) := by
  go_enter Try.func26, Try.ntmps26
  go_wp2
  go_ret
  exact ⟨rfl, rfl⟩

set_option maxRecDepth 100000 in
set_option maxHeartbeats 2000000 in
theorem values_rounds (n : Nat) (hn1 : 1 ≤ n) (r b n₀ : Nat) (l : List BV) (A : Option Addr) (c : Nat) (hl : l.length ≤ maxLen) (J Jx : List (Spot l) → World → Prop) (W : World)
    (hY : ∀ pre x W1, J pre W1 → pre.length < l.length → YieldAt Fence.wide (n - 1) Try.prog r (encB l x) W1 fun e W' =>
      (e = .returned (.bool true) ∧ J (pre ++ [x]) W' ∧ Below n₀ W1 W') ∨ (e = .returned (.bool false) ∧ Jx (pre ++ [x]) W'))
    (hc : W.cell? ⟨b, 0, none⟩ = some (.slice A l.length c)) (hr : Row W n₀ A (bvs l)) (hs : J [] W) :
    CallsIn Fence.wide n Try.prog 29 #[.func (.yield r) #[] #[], .pointer (some ⟨b, 0, none⟩)] W fun e W' => (∃ v, e = .returned v) ∧
      ((∃ ys, ys = spots l l.length (Nat.le_refl _) ∧ J ys W') ∨ (∃ pre, (∃ k hk, pre = spots l k hk) ∧ Jx pre W')) := by
  have hlI : (l.length : Int) ≤ 9223372036854775807 := by unfold maxLen at hl; omega
  have HY := Lib.hid hY
  clear hY
  refine callsIn_of_wp Try.func29 rfl trivial ?_ rfl
  simp only [Try.ntmps29, List.size_toArray, List.length_cons, List.length_nil, Nat.reduceAdd, Nat.reduceSub, Array.replicate_succ, Array.replicate_zero, List.push_toArray, List.append_toArray, List.nil_append, List.cons_append]
  gi_wp2
  gi_loopw [7] (fun i wr => ∃ (k : Nat) (hk : k ≤ l.length), i = .int .i64 k ∧ J (spots l k hk) wr ∧ Below n₀ W wr)
    (fun i _ => l.length - (intOf i).toNat)
  case atStart => exact ⟨0, Nat.zero_le _, rfl, hs, Below.refl _ _⟩
  case round =>
    obtain ⟨k, hk, rfl, hJs, hKs⟩ := hrel
    by_cases hlt : k < l.length
    · obtain ⟨a, rfl, hab, hca⟩ := hr k _ (bvs_get (List.getElem?_eq_getElem hlt))
      have hca' : wr.cell? (a.add k) = some (.slice (l[k]).row (l[k]).bs.length (l[k]).cap) := (hKs.cell (by rw [addr_block]; exact hab)).trans hca
      obtain ⟨fn, tmps, assign, body, hy, hR⟩ := HY.out (spots l k hk) ⟨k, hlt⟩ wr hJs (by rw [spots_len]; exact hlt)
      dsimp only [encB] at hy
      obtain ⟨bb, hbb⟩ : ∃ b, l[k] = b := ⟨_, rfl⟩
      rw [hbb] at hy hca'
      obtain ⟨Ab, bs, cb⟩ := bb
      simp only at hy hca'
      have hkI : (k : Int) < (l.length : Int) := by omega
      clear hca hc hbb
      gi_wp2
      refine hR.mono ?_
      rintro e W3 (⟨rfl, hJ3, hk3⟩ | ⟨rfl, hJx3⟩)
      · gi_wp2
        go_roundw
        case rel => exact ⟨k + 1, hlt, by go_num, hJ3, hKs.trans hk3⟩
        case measure => simp [intOf]; omega
      · gi_wp2
        refine bodyPost_ret (results_none rfl _ _ _) rfl ?_
        exact ⟨⟨_, rfl⟩, .inr ⟨_, ⟨k + 1, hlt, rfl⟩, hJx3⟩⟩
    · obtain rfl : k = l.length := by omega
      gi_wp2
      go_end0
      exact ⟨⟨_, rfl⟩, .inl ⟨_, rfl, hJs⟩⟩

theorem values_stop (n : Nat) (hn1 : 1 ≤ n) (b n₀ : Nat) (l : List BV) (A : Option Addr) (c : Nat) (hl : l.length ≤ maxLen) (w : World) (hb : b < w.heap.size) (hn : n₀ ≤ w.heap.size) (hc : w.cell? ⟨b, 0, none⟩ = some (.slice A l.length c)) (hr : Row w n₀ A (bvs l)) :
    SeqStopsK Fence.wide n Try.prog 29 #[.pointer (some ⟨b, 0, none⟩)] (encB l) (Below n₀) (fun ys => ys = spots l l.length (Nat.le_refl _)) (fun pre => ∃ k hk, pre = spots l k hk) l.length w := fun r J Jx W0 hB _ _ hY hs =>
  values_rounds n hn1 r b n₀ l A c hl J Jx W0 hY ((hB.cell (p := ⟨b, 0, none⟩) hb).trans hc) (hr.below (hB.mono hn)) hs

set_option maxRecDepth 100000 in
set_option maxHeartbeats 2000000 in
theorem run_is (l : List BV) (i : Int) (A : Option Addr) (c : Nat) (w : World) (hr : Ring w A l) (hl : l.length ≤ c) (hc : c ≤ maxLen) (hi : i ≤ 9223372036854775807) :
    Calls Try.prog 16 #[.slice A l.length c, .int .i64 i] w fun e w' => e = .returned (.int .i64 (lasting (l.map BV.bs) i : Nat)) ∧ Below w.heap.size w w' := by
  have hlm : l.length ≤ maxLen := Nat.le_trans hl hc
  have HR := Lib.hid hr
  obtain ⟨r, hrr⟩ : ∃ r, lasting (l.map BV.bs) i = r := ⟨_, rfl⟩
  have HRR := Lib.hid hrr
  rw [hrr]
  clear hr hc hl hrr
  refine (callsIn_wide (n := 4)).1 ?_
  refine callsIn_of_wp_marks Try.func16 rfl trivial ?_ rfl
  simp only [Try.ntmps16, List.size_toArray, List.length_cons, List.length_nil, Nat.reduceAdd, Nat.reduceSub, Array.replicate_succ, Array.replicate_zero, List.push_toArray, List.append_toArray, List.nil_append, List.cons_append]
  gi_wp2
  refine wpIn_wide.2 (wp_scope_straight (wpIn_wide (n := 4).1 ?_))
  gi_wp2
  refine wpIn_label ?_
  gi_wp2_with (refine ⟨trivial, ?_⟩; gi_at_call 26; refine (callsIn_wide.2 (values_made A l.length c _)).mono ?_; rintro e w' ⟨rfl, rfl⟩)
  have bM := Boxed.new w 3 (.int .i64 i)
  have bS := Boxed.new (w.alloc (.cells #[.int .i64 i] 3)) 3 (.int .i64 0)
  have bN := Boxed.new ((w.alloc (.cells #[.int .i64 i] 3)).alloc (.cells #[.int .i64 0] 3)) 33 (.slice A l.length c)
  simp only [World.size_alloc] at bS bN
  have hB0 : Below w.heap.size w (((w.alloc (.cells #[.int .i64 i] 3)).alloc (.cells #[.int .i64 0] 3)).alloc (.cells #[.slice A l.length c] 33)) := (((Below.refl _ w).alloc (Nat.le_refl _) _).alloc (by simp) _).alloc (by simp; omega) _
  refine wpIn_rangeFunc_ownG rfl (by omega) (gf := 29) (lb := #[.pointer (some ⟨w.heap.size + 1 + 1, 0, none⟩)]) rfl trivial (enters_of Try.func29 (by kernel_rfl) rfl)
    (values_stop (4 - 1) (by omega) (w.heap.size + 1 + 1) w.heap.size l A c hlm _ (by simp) (by simp; omega) bN.cell (HR.out.row.below hB0)) belowK_t (belowK_b (by simp; omega)) (Below.refl _ _) (fun _ => rfl)
    (fun pre V => ((V.cell? ⟨w.heap.size, 0, none⟩ = some (.int .i64 i) ∧ V.cell? ⟨w.heap.size + 1, 0, none⟩ = some (.int .i64 (pre.length : Nat)) ∧ V.frozen? ⟨w.heap.size + 1, 0, none⟩ = false) ∧ Hid (Went l i pre)) ∧ Below w.heap.size w V)
    (fun c pre V => (c = Code.exit 0 ∧ Hid (Gap l i pre) ∧ V.cell? ⟨w.heap.size + 1, 0, none⟩ = some (.int .i64 ((pre.length - 1 : Nat)))) ∧ Below w.heap.size w V)
    (OwnFrom.and (Own.from (fun s A B row hs hg hr => ⟨⟨cell_kept hs.1.1 hg hr, cell_kept hs.1.2.1 hg hr, (frozen_kept hs.1.2.1 hg hr).trans hs.1.2.2⟩, hs.2⟩) _) (ownFrom_below (Nat.le_refl _) (by simp; omega)))
    (fun c => OwnFrom.and (Own.from (fun s A B row hs hg hr => ⟨hs.1, hs.2.1, cell_kept hs.2.2 hg hr⟩) _) (ownFrom_below (Nat.le_refl _) (by simp; omega)))
    ⟨⟨⟨((bM.alloc _).alloc _).cell, (bS.alloc _).cell, (bS.alloc _).frozen⟩, Lib.hid (fun x hx => by simp at hx)⟩, hB0⟩
    (fun x => { tmps := #[.slice A l.length c, .int .i64 i, undef, .pointer (some ⟨w.heap.size, 0, none⟩), .int .i64 0, .pointer (some ⟨w.heap.size + 1, 0, none⟩), .slice (l[x.1]).row (l[x.1]).bs.length (l[x.1]).cap, .slice A l.length c,
      .func (.func 29) #[] #[.pointer (some ⟨w.heap.size + 1 + 1, 0, none⟩)], .slice (l[x.1]).row (l[x.1]).bs.length (l[x.1]).cap, undef, undef, undef, undef, undef, undef, undef], defers := [] }) ?assign ?body ?done ?stop
  case assign =>
    intro l x V K hK
    gi_wp2
    exact hK
  case body =>
    rintro ln pre x V ⟨⟨⟨hM, hS, hF⟩, HW⟩, hB⟩ hlt
    have he := (HR.out.up hB).each _ (List.getElem_mem x.2)
    have hpl : (pre.length : Int) < 9223372036854775807 := by unfold maxLen at hlm; omega
    obtain ⟨bb, hbb⟩ : ∃ b, l[x.1] = b := ⟨_, rfl⟩
    rw [hbb] at he ⊢
    have HBB := Lib.hid hbb
    clear hbb
    obtain ⟨Ab, bs, cb⟩ := bb
    simp only at he ⊢
    have kg := get_ok bs _ Ab cb i V (row_lies he.1) he.2 hi
    obtain ⟨y, hy⟩ : ∃ y, bitI bs i = y := ⟨_, rfl⟩
    rw [hy] at kg
    have HY := Lib.hid hy
    clear hy he
    cases y
    · gi_wp2_with (refine ⟨trivial, ?_⟩; gi_at_call 27; refine (CallsIn.inRound ln (callsIn_wide.2 kg)).mono ?_; clear kg; rintro e w' ⟨rfl, q, rfl⟩)
      have hk : KeepsOthers V (V.drewN q) := ⟨Nat.le_refl _, fun _ _ h _ => h⟩
      have hS2 : (V.drewN q).cell? ⟨w.heap.size + 1, 0, none⟩ = some (.int .i64 (((pre ++ [x]).length - 1 : Nat))) := by
        rw [List.length_append]
        exact hS
      exact ⟨hk.from _, ⟨rfl, Lib.hid ⟨pre, x, rfl, HW.out, by rw [HBB.out]; exact HY.out⟩, hS2⟩, below_drewN hB q⟩
    · gi_wp2_with (refine ⟨trivial, ?_⟩; gi_at_call 27; refine (CallsIn.inRound ln (callsIn_wide.2 kg)).mono ?_; clear kg; rintro e w' ⟨rfl, q, rfl⟩)
      have hk : KeepsOthers V ((V.drewN q).setCell ⟨w.heap.size + 1, 0, none⟩ (.int .i64 ((pre.length : Int) + 1))) := KeepsOthers.trans (B := V.drewN q) ⟨Nat.le_refl _, fun _ _ h _ => h⟩ (KeepsOthers.setCell _ _ _)
      have hMV : (V.drewN q).cell? ⟨w.heap.size, 0, none⟩ = some (.int .i64 i) := hM
      have hSV : (V.drewN q).cell? ⟨w.heap.size + 1, 0, none⟩ = some (.int .i64 (pre.length : Nat)) := hS
      have hFV : (V.drewN q).frozen? ⟨w.heap.size + 1, 0, none⟩ = false := hF
      refine ⟨hk.from _, (below_drewN (Below.refl _ _) q).setCell (p := ⟨w.heap.size + 1, 0, none⟩) (by show w.heap.size ≤ w.heap.size + 1; omega) _, ⟨⟨?_, ?_, ?_⟩, Lib.hid fun x' hx' => ?_⟩, (below_drewN hB q).setCell (p := ⟨w.heap.size + 1, 0, none⟩) (by show w.heap.size ≤ w.heap.size + 1; omega) _⟩
      · rw [World.cell?_setCell_other _ _ _ _ (fun e => by have := congrArg Addr.block e; simp at this)]
        exact hMV
      · rw [List.length_append]
        exact World.cell?_setCell_same' _ _ _ (by rw [hSV]; rfl)
      · rw [World.frozen?_setCell]; exact hFV
      · rcases List.mem_append.1 hx' with h1 | h1
        · exact HW.out x' h1
        · simp at h1; subst h1; rw [HBB.out]; exact HY.out
  case done =>
    rintro D ys V hD rfl ⟨⟨⟨hM, hS, hF⟩, HW⟩, hB⟩ hK
    have hfin := lasting_all (xs := l.map BV.bs) (i := i) fun x hx => by
      obtain ⟨b, hb, rfl⟩ := List.mem_map.1 hx
      obtain ⟨j, hj, rfl⟩ := List.getElem_of_mem hb
      exact HW.out ⟨j, hj⟩ (spots_mem l l.length (Nat.le_refl _) j hj)
    rw [HRR.out, List.length_map] at hfin
    rw [spots_len, ← hfin] at hS
    gi_wp2
    simp only [Exit.noGoto_ret]
    refine ⟨by simp, .inl ⟨_, _, rfl, run_takeDeferred hK, ?_⟩⟩
    exact ⟨.int .i64 (r : Int), by simp [results, Try.f16, go_sem]; omega, rfl, hB.trans (belowK_b (w := w) (Nat.le_refl _) V D _ _ (by simp at hD; omega) hK rfl rfl)⟩
  case stop =>
    rintro D c' pre V hD ⟨k, hk, rfl⟩ ⟨⟨rfl, HG, hS⟩, hB⟩ hK
    have hfin : lasting (l.map BV.bs) i = (spots l k hk).length - 1 := by
      obtain ⟨ini, last, e, h1, h2⟩ := HG.out
      cases k with
      | zero => simp [spots] at e
      | succ k =>
        unfold spots at e
        obtain ⟨rfl, e2⟩ := List.append_inj' e rfl
        simp only [List.cons.injEq, and_true] at e2
        subst e2
        rw [spots_len]
        refine lasting_at (by rw [List.length_map]; exact hk) (fun x hx => ?_) (by simpa using h2)
        obtain ⟨j, hj, rfl⟩ := List.getElem_of_mem hx
        have hjk : j < k := by simp at hj; omega
        have := h1 _ (spots_mem l k (Nat.le_of_succ_le hk) j hjk)
        simpa using this
    rw [HRR.out] at hfin
    rw [← hfin] at hS
    gi_wp2
    simp only [Exit.noGoto_ret]
    refine ⟨by simp, .inl ⟨_, _, rfl, run_takeDeferred hK, ?_⟩⟩
    exact ⟨.int .i64 (r : Int), by simp [results, Try.f16, go_sem]; omega, rfl, hB.trans (belowK_b (w := w) (Nat.le_refl _) V D _ _ (by simp at hD; omega) hK rfl rfl)⟩
end Go.Proofs.Ytbahcbnnogdmfaa
