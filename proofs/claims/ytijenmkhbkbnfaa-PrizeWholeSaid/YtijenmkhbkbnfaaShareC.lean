/- Layer 4 (share): what weights are together; a sum shared out. By contracts. -/
import Derived.Test.YtijenmkhbkbnfaaShareB
import Derived.Maps.OwnIn
import Derived.Shelf.RegionOpen
namespace Go.Proofs.Ytijenmkhbkbnfaa
open Go.RowKit Go.Shelf
set_option linter.unusedVariables false
attribute [local go_sem] Oper.semAt_some

theorem u64_info : (Try.prog.info? 22).map (fun i => (i.zero, i.size, i.bytes)) = some (some (.int .u64 0), 1, 8) := by kernel_rfl

/-- The weights are not too many, and together a number of 64 bits. -/
def Fits (ws : List Nat) : Prop := ws.length ≤ 256 ∧ tot ws < 18446744073709551616

theorem share_whole_ok (ws : List Nat) (A : Option Addr) (c B : Nat) (w : World) (hr : Row w B A (u64s ws)) (h : Fits ws) :
    Calls Try.prog 34 #[.slice A ws.length c] w fun e w' => e = .returned (.tuple #[.int .u64 (tot ws : Nat), .int .i64 0]) ∧ w = w' := by
  obtain ⟨h1, h2⟩ := h
  have hlen : ws.length ≤ maxLen := by unfold maxLen; omega
  have k := sum_ok ws A c B w hr hlen (by omega)
  go_enter Try.func34, Try.ntmps34
  go_wp2_with (go_at_call 47; refine k.mono ?_; rintro e w' ⟨rfl, rfl⟩)
  go_ret2
  exact ⟨rfl, rfl⟩

theorem share_whole_not (ws : List Nat) (A : Option Addr) (c B : Nat) (w : World) (hr : Row w B A (u64s ws)) (hlen : ws.length ≤ maxLen) (hws : ∀ x ∈ ws, x ≤ 18446744073709551615) (h : ¬ Fits ws) :
    Calls Try.prog 34 #[.slice A ws.length c] w fun e w' => e = .returned (.tuple #[.int .u64 0, .int .i64 40]) ∧ w = w' := by
  have hm := hlen
  unfold maxLen at hm
  by_cases h1 : ws.length ≤ 256
  · have k := sum_over ws A c B w hr hlen hws (by have : ¬ tot ws < 18446744073709551616 := fun h2 => h ⟨h1, h2⟩; omega)
    clear hws h
    go_enter Try.func34, Try.ntmps34
    go_wp2_with (go_at_call 47; refine k.mono ?_; rintro e w' ⟨rfl, rfl⟩)
    go_ret2
    exact ⟨rfl, rfl⟩
  · clear hws h
    go_enter Try.func34, Try.ntmps34
    go_wp2_with fail
    go_ret2
    exact ⟨rfl, rfl⟩

set_option maxRecDepth 100000 in
set_option maxHeartbeats 2000000 in
theorem share_split_not (T : Nat) (ws : List Nat) (A : Option Addr) (c : Nat) (w : World) (hr : Row w w.heap.size A (u64s ws)) (hlen : ws.length ≤ maxLen) (hws : ∀ x ∈ ws, x ≤ 18446744073709551615) (h : ¬ Fits ws) :
    Calls Try.prog 19 #[.int .u64 T, .slice A ws.length c] w fun e w' => e = .returned (.tuple #[.slice none 0 0, .int .u64 0, .int .i64 40]) ∧ Below w.heap.size w w' := by
  have k : ∀ v, Below w.heap.size w v → Calls Try.prog 34 #[.slice A ws.length c] v fun e w' => e = .returned (.tuple #[.int .u64 0, .int .i64 40]) ∧ v = w' :=
    fun v hv => share_whole_not ws A c w.heap.size v (hr.below hv) hlen hws h
  clear hws h hr
  go_enter Try.func19, Try.ntmps19
  go_wp2_with (go_at_call 34; refine (k _ (((Below.refl _ w).alloc (Nat.le_refl _) _).alloc (by simp) _)).mono ?_; rintro e w' ⟨rfl, rfl⟩)
  refine bodyPost_ret (v := .tuple #[.slice none 0 0, .int .u64 0, .int .i64 40]) (by simp [results, Try.results19, go_sem]) rfl ⟨rfl, ?_⟩
  exact ((Below.refl _ w).alloc (Nat.le_refl _) _).alloc (by simp) _

theorem split_start (w : World) (T n : Nat) (ts te : TypeId) (hn : n ≤ maxLen) (W0 : World) (h : ((w.alloc (.cells #[.slice (some ⟨w.heap.size + 1 + 1, 0, none⟩) 0 n] ts)).alloc (.cells #[.int .u64 T] te)).alloc (.cells (madeCells #[.int .u64 0] n) te) = W0) :
    Boxed W0 w.heap.size ts (.slice (some ⟨w.heap.size + 1 + 1, 0, none⟩) 0 n) ∧ Boxed W0 (w.heap.size + 1) te (.int .u64 T) ∧ W0.ownsRow w.heap.size te 1 (.slice (some ⟨w.heap.size + 1 + 1, 0, none⟩) 0 n) 0 [] ∧ Below w.heap.size w W0 ∧ W0.heap.size = w.heap.size + 1 + 1 + 1 := by
  subst h
  refine ⟨((Boxed.new w ts _).alloc _).alloc _, ?_, ⟨rfl, .inr ⟨w.heap.size + 1 + 1, n, madeCells #[.int .u64 0] n, rfl, by omega, ?_, Nat.zero_le _, hn, by rw [size_madeCells]; simp, by simp⟩⟩, (((Below.refl _ w).alloc (Nat.le_refl _) _).alloc (by simp) _).alloc (by simp; omega) _, by simp⟩
  · have h := (Boxed.new (w.alloc (.cells #[.slice (some ⟨w.heap.size + 1 + 1, 0, none⟩) 0 n] ts)) te (.int .u64 T)).alloc (.cells (madeCells #[.int .u64 0] n) te)
    simpa using h
  · have h := World.alloc_heap_new ((w.alloc (.cells #[.slice (some ⟨w.heap.size + 1 + 1, 0, none⟩) 0 n] ts)).alloc (.cells #[.int .u64 T] te)) (.cells (madeCells #[.int .u64 0] n) te)
    simpa using h

theorem box_other {W : World} {B B' : Nat} {t : TypeId} {u : Value} (h : Boxed W B t u) (hne : B' ≠ B) (v : Value) : Boxed (W.setCell ⟨B', 0, none⟩ v) B t u := h.kept (grownBy_setCell' W B' v) (by simpa using hne.symm)
/-- Where things lie beside a loop that collects: from lo on, the box of what is collected (bp), another box (br), the block that it lay in first (bm), all below hi; what came since lies from n₀ on. -/
structure Lay (lo hi n₀ bp br bm : Nat) : Prop where
  inP : lo ≤ bp ∧ bp < hi
  inR : lo ≤ br ∧ br < hi
  inM : lo ≤ bm ∧ bm < hi
  ne1 : br ≠ bp
  ne2 : bm ≠ br
  top : hi ≤ n₀
theorem split_keep {lo hi n₀ bp br bm : Nat} (L : Lay lo hi n₀ bp br bm) {V w1 : World} {v : Value} {o : Obj} (hg : (V.alloc o).grownBy w1 v.ownBlock) (hs : n₀ ≤ V.heap.size) (hG : ∀ g, v.ownBlock = some g → g = bm ∨ n₀ ≤ g) (u : Value) :
    KeepC lo hi n₀ V (w1.setCell ⟨bp, 0, none⟩ u) :=
  ((KeepC.alloc V hs o).trans (KeepC.grown hg (by simp; omega) (fun g e => by have := L.inM; rcases hG g e with h1 | h1 <;> omega))).trans (KeepC.setCell _ (p := ⟨bp, 0, none⟩) L.inP u)

/-- Behind an append whose slice lies in a box, and its store back into the box: what lies where. -/
theorem app_after {lo hi n₀ bp br bm k : Nat} (L : Lay lo hi n₀ bp br bm) {ts te : TypeId} {V w1 : World} {v v' s x : Value} {xs ys : List Value} (hte : ts ≠ te) (hv : Boxed V bp ts v) (hrow : V.ownsRow lo te 1 v k xs) (hbx : Boxed V br te s)
    (hG : ∀ g, v.ownBlock = some g → g = bm ∨ n₀ ≤ g) (hs : n₀ ≤ V.heap.size) (hown : w1.ownsRow lo te 1 v' (k + 1) ys) (hgrow : (V.alloc (.cells #[x] te)).grownBy w1 v.ownBlock) (hat : v'.ownBlock = v.ownBlock ∨ v'.ownBlock = some (V.alloc (.cells #[x] te)).heap.size) :
    ∃ g cap, v' = .slice (some ⟨g, 0, none⟩) (k + 1) cap ∧ w1.cell? ⟨bp, 0, none⟩ = some v ∧ w1.frozen? ⟨bp, 0, none⟩ = false ∧
      (w1.setCell ⟨bp, 0, none⟩ (.slice (some ⟨g, 0, none⟩) (k + 1) cap)).cell? ⟨br, 0, none⟩ = some s ∧ (w1.setCell ⟨bp, 0, none⟩ (.slice (some ⟨g, 0, none⟩) (k + 1) cap)).frozen? ⟨br, 0, none⟩ = false ∧
      Hid (Boxed (w1.setCell ⟨bp, 0, none⟩ (.slice (some ⟨g, 0, none⟩) (k + 1) cap)) bp ts (.slice (some ⟨g, 0, none⟩) (k + 1) cap) ∧
        (w1.setCell ⟨bp, 0, none⟩ (.slice (some ⟨g, 0, none⟩) (k + 1) cap)).ownsRow lo te 1 (.slice (some ⟨g, 0, none⟩) (k + 1) cap) (k + 1) ys ∧
        KeepsOthers V (w1.setCell ⟨bp, 0, none⟩ (.slice (some ⟨g, 0, none⟩) (k + 1) cap)) ∧ Below lo V (w1.setCell ⟨bp, 0, none⟩ (.slice (some ⟨g, 0, none⟩) (k + 1) cap)) ∧
        KeepC lo hi n₀ V (w1.setCell ⟨bp, 0, none⟩ (.slice (some ⟨g, 0, none⟩) (k + 1) cap)) ∧ Boxed (w1.setCell ⟨bp, 0, none⟩ (.slice (some ⟨g, 0, none⟩) (k + 1) cap)) br te s ∧
        (∀ j, (Value.slice (some ⟨g, 0, none⟩) (k + 1) cap).ownBlock = some j → j = bm ∨ n₀ ≤ j) ∧
        (∀ B t u, Boxed V B t u → B < n₀ → B ≠ bm → B ≠ bp → Boxed (w1.setCell ⟨bp, 0, none⟩ (.slice (some ⟨g, 0, none⟩) (k + 1) cap)) B t u)) := by
  obtain ⟨g, cap, rfl⟩ := ownsRow_succ hown
  have e0 := L.inP
  have e1 := L.inR
  have e2 := L.inM
  have e3 := L.ne1
  have e4 := L.ne2
  have e5 := L.top
  obtain ⟨hv1, hv2, hr2, hk2, hb2⟩ := hv.appended hte hrow (by omega) (by omega) hown hgrow
  have hall : ∀ B t u, Boxed V B t u → B < n₀ → B ≠ bm → B ≠ bp → Boxed (w1.setCell ⟨bp, 0, none⟩ (.slice (some ⟨g, 0, none⟩) (k + 1) cap)) B t u := fun B t u h h1 h2 h3 =>
    box_other ((h.alloc (.cells #[x] te)).kept hgrow (fun e => by have := hG _ e.symm; omega)) (fun e => h3 e.symm) _
  have hbx2 := hall br te s hbx (by omega) (fun e => e4 e.symm) e3
  refine ⟨g, cap, rfl, hv1.cell, hv1.frozen, hbx2.cell, hbx2.frozen, hv2, hr2, hk2, hb2, split_keep L hgrow hs hG _, hbx2, ?_, hall⟩
  intro j e
  rcases hat with h1 | h1
  · exact hG j (h1.symm.trans e)
  · rw [h1] at e
    have : (V.alloc (.cells #[x] te)).heap.size = j := by injection e
    simp at this
    omega

theorem own_other {W : World} {lo n₀ bm : Nat} {te : TypeId} {v : Value} {n B : Nat} {xs : List Value} (hr : W.ownsRow lo te 1 v n xs) (hB : B < n₀) (hB2 : B ≠ bm) (hG : ∀ g, v.ownBlock = some g → g = bm ∨ n₀ ≤ g) (u : Value) : (W.setCell ⟨B, 0, none⟩ u).ownsRow lo te 1 v n xs := by
  refine hr.kept (grownBy_setCell' W B u) (.inr fun e => ?_)
  have := hG B e
  omega
theorem u64s_snoc (ns : List Nat) (n : Nat) : u64s (ns ++ [n]) = u64s ns ++ [.int .u64 (n : Int)] := by simp [u64s]

theorem own_box {β : Type} (B : Nat) (t : TypeId) (f : β → Value) : Own (fun s V => Boxed V B t (f s)) := fun s X Y row hs hg hr =>
  hs.kept hg (fun e => by obtain ⟨o, ho, hc⟩ := hr _ e.symm; rw [show X.heap[B]? = _ from hs] at ho; cases ho; cases hc)
theorem own_both {β : Type} {I J : β → World → Prop} (h : Own I) (k : Own J) : Own (fun s V => I s V ∧ J s V) := fun s X Y row hs hg hr => ⟨h s X Y row hs.1 hg hr, k s X Y row hs.2 hg hr⟩

theorem lay_split (h : Nat) : Lay h (h + 1 + 1 + 1) (h + 6) h (h + 1) (h + 2) := ⟨by omega, by omega, by omega, by omega, by omega, by omega⟩

set_option maxRecDepth 100000 in
set_option maxHeartbeats 2000000 in
theorem share_split_ok (T : Nat) (ws : List Nat) (A : Option Addr) (c : Nat) (w : World) (hT : T < 18446744073709551616) (hr : Row w w.heap.size A (u64s ws)) (h : Fits ws) :
    Calls Try.prog 19 #[.int .u64 T, .slice A ws.length c] w fun e w' => ∃ v, e = .returned (.tuple #[v, .int .u64 (T - tot (ws.map (prt T (tot ws))) : Nat), .int .i64 0]) ∧
      w'.ownsRow w.heap.size 22 1 v ws.length (u64s (ws.map (prt T (tot ws)))) ∧ Below w.heap.size w w' := by
  have h1 := h.1
  have hW := h.2
  have hlen : ws.length ≤ maxLen := by unfold maxLen; omega
  have k : ∀ v, Below w.heap.size w v → Calls Try.prog 34 #[.slice A ws.length c] v fun e w' => e = .returned (.tuple #[.int .u64 (tot ws : Nat), .int .i64 0]) ∧ v = w' :=
    fun v hv => share_whole_ok ws A c w.heap.size v (hr.below hv) h
  have hsub := sub64_is (ws.map (prt T (tot ws))) T hT (tot_parts T ws)
  obtain ⟨W, hWn⟩ : ∃ W, Hid (tot ws = W) := ⟨_, rfl⟩
  have hws : ∀ x ∈ ws, x ≤ W := by rw [← hWn.out]; exact le_tot ws
  rw [hWn.out] at hW hsub k ⊢
  have HS := Lib.hid hsub
  have HW := Lib.hid hws
  clear hsub hws h
  obtain ⟨i0, hi0, hz0, hz1, hz2⟩ := info_parts u64_info
  have hmk : ∀ V : World, (Instr.makeSlice 27 (.int .i64 0) (.int .i64 (ws.length : Int))).run Try.prog V =
      .ok (.slice (some ⟨V.heap.size, 0, none⟩) 0 ws.length) (V.alloc (.cells (madeCells #[.int .u64 0] ws.length) 22)) := by
    intro V
    have h := run_make (P := Try.prog) V 27 22 i0 (.int .u64 0) Try.underlying27 hi0 hz0 .i64 .i64 0 (ws.length : Int) (by omega) (by omega) (by rw [hz2]; omega) (by omega)
    rw [hz1, Nat.mul_one] at h
    exact h
  refine (callsIn_wide (n := 4)).1 ?_
  refine callsIn_of_wp_marks Try.func19 rfl trivial ?_ rfl
  simp only [Try.ntmps19, List.size_toArray, List.length_cons, List.length_nil, Nat.reduceAdd, Nat.reduceSub, Array.replicate_succ, Array.replicate_zero, List.push_toArray, List.append_toArray, List.nil_append, List.cons_append]
  gi_wp2_with (first
    | (refine ⟨trivial, ?_⟩; gi_at_call 34; refine (callsIn_wide.2 (k _ (((Below.refl _ w).alloc (Nat.le_refl _) _).alloc (by simp) _))).mono ?_; rintro e w' ⟨rfl, rfl⟩)
    | (refine ⟨trivial, ?_⟩; gi_at_call 35; refine (callsIn_wide.2 (told_made T W A ws.length c _)).mono ?_; rintro e w' ⟨rfl, rfl⟩))
  obtain ⟨hP, hR, hO, hB0, hz⟩ := split_start w T ws.length 27 22 (Nat.le_trans h1 (by decide)) _ rfl
  generalize (((w.alloc (.cells #[.slice (some ⟨w.heap.size + 1 + 1, 0, none⟩) 0 ws.length] 27)).alloc (.cells #[.int .u64 T] 22)).alloc (.cells (madeCells #[.int .u64 0] ws.length) 22)) = W0 at hP hR hO hB0 hz ⊢
  have b1 := Boxed.new W0 22 (.int .u64 T)
  have b2 := Boxed.new (W0.alloc (.cells #[.int .u64 T] 22)) 22 (.int .u64 W)
  have b0 := Boxed.new ((W0.alloc (.cells #[.int .u64 T] 22)).alloc (.cells #[.int .u64 W] 22)) 27 (.slice A ws.length c)
  simp only [World.size_alloc, hz] at b1 b2 b0
  have hB1 : Below w.heap.size w (((W0.alloc (.cells #[.int .u64 T] 22)).alloc (.cells #[.int .u64 W] 22)).alloc (.cells #[.slice A ws.length c] 27)) :=
    ((hB0.alloc (by omega) _).alloc (by simp; omega) _).alloc (by simp; omega) _
  refine wpIn_rangeFunc_ownG rfl (by omega) (gf := 48) (lb := #[.pointer (some ⟨w.heap.size + 1 + 1 + 1 + 1 + 1, 0, none⟩), .pointer (some ⟨w.heap.size + 1 + 1 + 1, 0, none⟩), .pointer (some ⟨w.heap.size + 1 + 1 + 1 + 1, 0, none⟩)]) rfl trivial (enters_of Try.func48 (by kernel_rfl) rfl)
    (told_stops (4 - 1) (by omega) (w.heap.size + 1 + 1 + 1 + 1 + 1) (w.heap.size + 1 + 1 + 1) (w.heap.size + 1 + 1 + 1 + 1) w.heap.size (w.heap.size + 1 + 1 + 1) (w.heap.size + 6) T W ws A c hT hW HW.out hlen (by omega) (by omega) (by omega) (by omega) _ (by simp; omega) b0.cell ((b1.alloc _).alloc _).cell (b2.alloc _).cell (hr.below hB1))
    KeepC.trans (KeepC.book (by simp; omega)) (Below.refl _ _) (fun _ => rfl)
    (fun pre V => ((∃ v, Boxed V w.heap.size 27 v ∧ V.ownsRow w.heap.size 22 1 v pre.length (u64s (parts T W ws pre)) ∧ (∀ g, v.ownBlock = some g → g = w.heap.size + 2 ∨ w.heap.size + 6 ≤ g)) ∧
      Boxed V (w.heap.size + 1) 22 (.int .u64 (sub64 T (parts T W ws pre)))) ∧ (Below w.heap.size w V ∧ w.heap.size + 6 ≤ V.heap.size))
    (fun _ _ _ => False)
    (OwnFrom.and (Own.from (own_both (holdsRow_own w.heap.size w.heap.size 27 22 1 (fun pre : List (Place ws) => pre.length) (fun pre => u64s (parts T W ws pre)) (fun _ v => ∀ g, v.ownBlock = some g → g = w.heap.size + 2 ∨ w.heap.size + 6 ≤ g)) (own_box (w.heap.size + 1) 22 fun pre => .int .u64 (sub64 T (parts T W ws pre)))) _)
      (OwnFrom.and (ownFrom_below (Nat.le_refl _) (by simp; omega)) (fun _ _ _ _ hs hg _ => Nat.le_trans hs hg.size)))
    (fun _ _ _ _ _ hs _ _ => hs)
    ⟨⟨⟨_, ((hP.alloc _).alloc _).alloc _, ((hO.alloc _).alloc _).alloc _, fun g e => by injection e with e; exact .inl e.symm⟩, ((hR.alloc _).alloc _).alloc _⟩, hB1, by simp; omega⟩
    (fun x => { tmps := #[.int .u64 T, .slice A ws.length c, undef, undef, .pointer (some ⟨w.heap.size, 0, none⟩), .pointer (some ⟨w.heap.size + 1, 0, none⟩), .int .i64 0, .int .u64 W, undef, .int .u64 (prt T W ws[x.1] : Nat),
      .tuple #[.int .u64 W, .int .i64 0], .slice A ws.length c, .tuple #[.int .u64 W, .int .i64 0], .int .u64 W, .int .i64 0, .int .i64 0, .bool false, undef, .slice A ws.length c, .int .i64 ws.length, .slice (some ⟨w.heap.size + 1 + 1, 0, none⟩) 0 ws.length,
      .int .u64 T, .int .u64 T, .int .u64 W, .slice A ws.length c, .func (.func 48) #[] #[.pointer (some ⟨w.heap.size + 1 + 1 + 1 + 1 + 1, 0, none⟩), .pointer (some ⟨w.heap.size + 1 + 1 + 1, 0, none⟩), .pointer (some ⟨w.heap.size + 1 + 1 + 1 + 1, 0, none⟩)],
      .int .i64 (x.1 : Int), .int .u64 (prt T W ws[x.1] : Nat), undef, undef, undef, undef, undef, undef, undef, undef, undef], defers := [] }) ?assign ?body ?done ?stop
  case assign =>
    intro l x V K hK
    gi_wp2
    exact hK
  case body =>
    rintro l pre x V ⟨⟨⟨v, hv, hrow, hG⟩, hbx⟩, hB, hsz⟩ hlt
    have hc := hv.cell
    have hbc := hbx.cell
    have hbf := hbx.frozen
    have hpl : pre.length < 256 := by omega
    gi_wp2_with (gi_at_builtin; refine wpListIn_append_own_at _ rfl _ _ 27 rfl w.heap.size 22 i0 (.int .u64 0) 1 8 Try.underlying27 hi0 hz0 hz1 hz2 rfl (by decide) v _ _ rfl (hrow.alloc _) ⟨V.heap.size, 0, none⟩ 1 1 [.int .u64 (prt T W ws[x.1] : Nat)] rfl rfl (cell_one_new _ _ _) (by simp [Value.oneCell']) (by simp only [maxLen]; omega) (by omega) (by have := hB.size; simp; omega) ?_; intro v' w1 hown' hgrow _ hat; obtain ⟨g', cap', rfl, hq1, hq2, hq3, hq4, HA⟩ := app_after (lay_split w.heap.size) (by decide) hv hrow hbx hG hsz hown' hgrow hat; clear hat hgrow hown' hrow hc hbc hbf)
    obtain ⟨j1, j2, j3, j4, j5, j6, j7, _⟩ := HA.out
    refine ⟨(j3.trans (KeepsOthers.setCell _ _ _)).from _, j5.trans (KeepC.setCell _ (by show w.heap.size ≤ w.heap.size + 1 ∧ w.heap.size + 1 < _; omega) _), ⟨⟨_, box_other j1 (by omega) _, ?_, j7⟩, ?_⟩, ?_, ?_⟩
    · rw [List.length_append, parts_snoc, u64s_snoc]
      exact own_other j2 (by omega) (by omega) j7 _
    · rw [parts_snoc, sub64_snoc]
      exact j6.set _
    · exact hB.trans (j4.setCell (p := ⟨w.heap.size + 1, 0, none⟩) (by show w.heap.size ≤ w.heap.size + 1; omega) _)
    · exact Nat.le_trans hsz (by have := j4.size; simpa [World.setCell] using this)
  case done =>
    rintro D ys V hD rfl ⟨⟨⟨v, hv, hrow, hG⟩, hbx⟩, hB, hsz⟩ hK
    rw [parts_all] at hbx hrow
    rw [HS.out] at hbx
    rw [places_len] at hrow
    have hc := hv.cell
    have hf := hv.frozen
    have hbc := hbx.cell
    have hbf := hbx.frozen
    obtain ⟨A', n', c', rfl⟩ : ∃ A' n' c', v = .slice A' n' c' := by
      rcases hrow.2 with ⟨rfl, _⟩ | ⟨g, cap, _, rfl, _⟩
      · exact ⟨_, _, _, rfl⟩
      · exact ⟨_, _, _, rfl⟩
    have hmix : Try.prog.follows .mixedOrders = true := by kernel_rfl
    gi_wp2
    gi_region_o
    all_goals gi_wp2
    have x1 := box_other (hv.set (.slice A' n' c')) (show w.heap.size + 1 ≠ w.heap.size by omega) (.int .u64 ((T - tot (ws.map (prt T W)) : Nat) : Int))
    have x2 := (box_other hbx (show w.heap.size ≠ w.heap.size + 1 by omega) (.slice A' n' c')).set (.int .u64 ((T - tot (ws.map (prt T W)) : Nat) : Int))
    have x3 := own_other (own_other hrow (show w.heap.size < w.heap.size + 6 by omega) (by omega) hG (.slice A' n' c')) (show w.heap.size + 1 < w.heap.size + 6 by omega) (by omega) hG (.int .u64 ((T - tot (ws.map (prt T W)) : Nat) : Int))
    have x4 := (hB.setCell (p := ⟨w.heap.size, 0, none⟩) (Nat.le_refl _) (.slice A' n' c')).setCell (p := ⟨w.heap.size + 1, 0, none⟩) (by show w.heap.size ≤ w.heap.size + 1; omega) (.int .u64 ((T - tot (ws.map (prt T W)) : Nat) : Int))
    have hK' := ((KeepsOthers.setCell V ⟨w.heap.size, 0, none⟩ (.slice A' n' c')).trans (KeepsOthers.setCell _ ⟨w.heap.size + 1, 0, none⟩ (.int .u64 ((T - tot (ws.map (prt T W)) : Nat) : Int)))).same D _ hK rfl
    generalize ((V.setCell ⟨w.heap.size, 0, none⟩ (.slice A' n' c')).setCell ⟨w.heap.size + 1, 0, none⟩ (.int .u64 ((T - tot (ws.map (prt T W)) : Nat) : Int))) = X at x1 x2 x3 x4 hK' ⊢
    have hK2 : X.drew.heap[D]? = some (.deferred (some [])) := hK'
    refine ⟨by simp, .inl ⟨_, _, rfl, run_takeDeferred hK2, ?_⟩⟩
    have y1 := cell_kept (show X.drew.cell? _ = _ from x1.cell) (grownBy_putObj' X.drew D (.deferred none)) (fun r e => by cases e; exact ⟨_, hK2, rfl⟩)
    have y2 := cell_kept (show X.drew.cell? _ = _ from x2.cell) (grownBy_putObj' X.drew D (.deferred none)) (fun r e => by cases e; exact ⟨_, hK2, rfl⟩)
    refine ⟨.tuple #[.slice A' n' c', .int .u64 ((T - tot (ws.map (prt T W)) : Nat) : Int), .int .i64 0], ?_, _, rfl, ownsRow_putObj (show X.drew.ownsRow _ _ _ _ _ _ from x3) _ hK2 rfl, ?_⟩
    · simp [results, Try.f19, go_sem, y1, y2]
    · exact Below.trans (below_drewN x4 1) (belowK_b (w := w) (Nat.le_refl _) X.drew D _ _ (by simp at hD; omega) hK2 rfl rfl)
  case stop =>
    rintro D c pre V _ _ h _
    exact h.elim
end Go.Proofs.Ytijenmkhbkbnfaa
