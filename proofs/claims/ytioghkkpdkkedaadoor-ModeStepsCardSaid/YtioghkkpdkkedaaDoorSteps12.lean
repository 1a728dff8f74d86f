/- Law ModeSteps (P12.1 to P12.3): of any calm, any stakes and any delay the next calm, the quorum, the mode and its word are the document's. No condition. -/
import Derived.Test.YtioghkkpdkkedaaDoorStake
import Derived.Test.YtioghkkpdkkedaaDoorModeB
import Derived.Test.YtioghkkpdkkedaaDoorLaidStr
import Derived.Test.YtioghkkpdkkedaaDoorSeq
import Derived.Test.YtioghkkpdkkedaaDoorCards
import Derived.Test.YtioghkkpdkkedaaDoorTie
namespace Go.Proofs.YtioghkkpdkkedaaDoor.ModeSteps
open Go.RowKit Go.ChangeShapes Go.WideShapes Go.ChangeAt
set_option linter.unusedVariables false
set_option linter.unusedSimpArgs false

set_option maxRecDepth 100000 in
set_option maxHeartbeats 2000000 in
theorem walk (p : Par) (c : Int) (pr ac : Nat) (em : Bool) (w : World) (hf : p.Fits) (hp : pr < 18446744073709551616) (ha : ac < 18446744073709551616) (hT : WordsIn w) :
    Calls Tryd.prog 3 #[.agg p.vals, .int .i64 c, .agg #[.int .u64 (pr : Int), .int .u64 (ac : Int), .bool em]] w fun ev w' => ev = .returned (.bool true) ∧ Below w.heap.size w w' := by
  have hP0 := ParAt.new w p 24
  have hP := hP0.up ((Below.refl _ _).alloc (Nat.le_refl _) (.cells #[.int .u64 (pr : Int), .int .u64 (ac : Int), .bool em] 26))
  have hX : StakeAt ((w.alloc (.cells p.vals 24)).alloc (.cells #[.int .u64 (pr : Int), .int .u64 (ac : Int), .bool em] 26)) (w.heap.size + 1) pr ac em 26 := StakeAt.new _ _ _ _ _ (by simp)
  have hB : Below w.heap.size w ((w.alloc (.cells p.vals 24)).alloc (.cells #[.int .u64 (pr : Int), .int .u64 (ac : Int), .bool em] 26)) := ((Below.refl _ _).alloc (Nat.le_refl _) _).alloc (by simp) _
  have hT := hT.up hB
  clear hP0
  have v14 : p.vals[14]? = some (.int .i64 p.delay) := rfl
  obtain ⟨q, hq⟩ : ∃ q, Hid (decide (0 < ac ∧ 2 * ac < 3 * pr) = q) := ⟨_, rfl⟩
  obtain ⟨n, hn⟩ : ∃ n, Hid ((if q = true then 0 else calmer c) = n) := ⟨_, rfl⟩
  obtain ⟨m, hm⟩ : ∃ m, Hid (modeOf p.delay c em = m) := ⟨_, rfl⟩
  obtain ⟨s, hs⟩ : ∃ s, Hid (word c = s) := ⟨_, rfl⟩
  have ks := fun w => mode_step p c n pr ac q w hp ha hq hn
  have kr := fun w => refmode_step c n pr ac q w hp ha hq hn
  have ko := fun w => mode_of p c m em w hm
  have kq := fun w => refmode_of p.delay c m em w hm
  have kw := fun w h => mode_word c s w h hs
  have kx := fun w => refmode_word c s w hs
  clear hq hn hm hs hf hp ha
  go_enter Tryd.func3, Tryd.ntmps3
  go_wp2_with (first
    | (refine load_par _ rfl rfl _ p _ rfl (by assumption) ?_)
    | (go_at_call 4; refine (mode_awake _).mono ?_; rintro e w1 ⟨rfl, hb1⟩; have hP := hP.up hb1; have hX := hX.up hb1; have hT := hT.up hb1; have hB := Below.then hB hb1; have x0 := hX.c0; have x1 := hX.c1; clear hb1)
    | (go_at_call 5; refine (ks _).mono ?_; clear ks; rintro e w1 ⟨rfl, hb1⟩; have hP := hP.up hb1; have hX := hX.up hb1; have hT := hT.up hb1; have hB := Below.then hB hb1; have x0 := hX.c0; have x1 := hX.c1; clear hb1)
    | (go_at_call 6; refine (kr _).mono ?_; clear kr; rintro e w1 ⟨rfl, hb1⟩; have hP := hP.up hb1; have hX := hX.up hb1; have hT := hT.up hb1; have hB := Below.then hB hb1; have x0 := hX.c0; have x1 := hX.c1; clear hb1))
  have cells : ∀ w', Below w1.heap.size w1 w' → ParAt w' w.heap.size p 24 := fun w' h => hP.up h
  have xells : ∀ w', Below w1.heap.size w1 w' → StakeAt w' (w.heap.size + 1) pr ac em 26 := fun w' h => hX.up h
  have wells : ∀ w', Below w1.heap.size w1 w' → WordsIn w' := fun w' h => hT.up h
  clear hP hX hT x0 x1
  refine region_list [] (fun _ w' => Below w1.heap.size w1 w') (by kernel_rfl) (by kernel_rfl) (Below.refl _ _).drew ?_
  iterate 9 ((refine' SeqS.calm _ (by rfl) (by rfl) (fun w => ?_) ?_; rotate_left; · (go_simp <;> with_reducible rfl)); simp only [Act.put, List.setIfInBounds_toArray, List.set_cons_zero, List.set_cons_succ])
  refine SeqS.take _ (by rfl) (by rfl) (fun ph w' hS => exec_load_par _ rfl _ _ _ rfl (cells w' hS)) ?_
  simp only [Act.put, List.setIfInBounds_toArray, List.set_cons_zero, List.set_cons_succ]
  iterate 2 ((refine' SeqS.calm _ (by rfl) (by rfl) (fun w => ?_) ?_; rotate_left; · (go_simp <;> with_reducible rfl)); simp only [Act.put, List.setIfInBounds_toArray, List.set_cons_zero, List.set_cons_succ])
  refine' SeqS.take _ (by rfl) (by rfl) (fun ph w' hS => ?_) ?_; rotate_left; · (have x2 := (xells w' hS).c2; go_simp <;> with_reducible rfl)
  simp only [Act.put, List.setIfInBounds_toArray, List.set_cons_zero, List.set_cons_succ]
  refine SeqS.call (below_call (Nat.le_refl _) (fun w _ => ko w)) (by rfl) (by rfl) (fun w => ?_) ?_; · go_simp
  simp only [Act.put, List.setIfInBounds_toArray, List.set_cons_zero, List.set_cons_succ]
  refine' SeqS.calm _ (by rfl) (by rfl) (fun w => ?_) ?_; rotate_left; · (go_simp <;> with_reducible rfl)
  simp only [Act.put, List.setIfInBounds_toArray, List.set_cons_zero, List.set_cons_succ]
  refine' SeqS.take _ (by rfl) (by rfl) (fun ph w' hS => ?_) ?_; rotate_left; · (have p14 := ((cells w' hS).cell 14).trans v14; go_simp <;> with_reducible rfl)
  simp only [Act.put, List.setIfInBounds_toArray, List.set_cons_zero, List.set_cons_succ]
  iterate 2 ((refine' SeqS.calm _ (by rfl) (by rfl) (fun w => ?_) ?_; rotate_left; · (go_simp <;> with_reducible rfl)); simp only [Act.put, List.setIfInBounds_toArray, List.set_cons_zero, List.set_cons_succ])
  refine' SeqS.take _ (by rfl) (by rfl) (fun ph w' hS => ?_) ?_; rotate_left; · (have x2 := (xells w' hS).c2; go_simp <;> with_reducible rfl)
  simp only [Act.put, List.setIfInBounds_toArray, List.set_cons_zero, List.set_cons_succ]
  refine SeqS.call (below_call (Nat.le_refl _) (fun w _ => kq w)) (by rfl) (by rfl) (fun w => ?_) ?_; · go_simp
  simp only [Act.put, List.setIfInBounds_toArray, List.set_cons_zero, List.set_cons_succ]
  iterate 4 ((refine' SeqS.calm _ (by rfl) (by rfl) (fun w => ?_) ?_; rotate_left; · (go_simp <;> with_reducible rfl)); simp only [Act.put, List.setIfInBounds_toArray, List.set_cons_zero, List.set_cons_succ])
  refine SeqS.call (below_call (Nat.le_refl _) (fun w h => kw w (wells w h))) (by rfl) (by rfl) (fun w => ?_) ?_; · go_simp
  simp only [Act.put, List.setIfInBounds_toArray, List.set_cons_zero, List.set_cons_succ]
  refine' SeqS.calm _ (by rfl) (by rfl) (fun w => ?_) ?_; rotate_left; · (go_simp <;> with_reducible rfl)
  simp only [Act.put, List.setIfInBounds_toArray, List.set_cons_zero, List.set_cons_succ]
  refine SeqS.call (below_call (Nat.le_refl _) (fun w _ => kx w)) (by rfl) (by rfl) (fun w => ?_) ?_; · go_simp
  simp only [Act.put, List.setIfInBounds_toArray, List.set_cons_zero, List.set_cons_succ]
  iterate 3 ((refine' SeqS.calm _ (by rfl) (by rfl) (fun w => ?_) ?_; rotate_left; · (go_simp <;> with_reducible rfl)); simp only [Act.put, List.setIfInBounds_toArray, List.set_cons_zero, List.set_cons_succ])
  intro w3 hw3
  have hB := Below.then hB hw3
  go_wp2
  go_ret
  exact ⟨by first | rfl | simp, hB⟩

theorem own : ownKnob Tryd.prog.godebug = none := by kernel_rfl
theorem laidOut : laidOutB Tryd.prog = true := by kernel_rfl
theorem gWords : Tryd.prog.globalNamed "bullion/mode.words" = some 0 := by kernel_rfl
theorem gWordsType : (Tryd.prog.globals[0]?).map (·.type) = some 37 := by kernel_rfl
theorem cellsT : Tryd.prog.cellsOf 37 = 5 := by kernel_rfl
theorem cellsE : Tryd.prog.cellsOf 9 = 1 := by kernel_rfl

/-- What the row's list gives. -/
theorem table {W : World} (h : laidMetH Tryd.prog Rows.modeStepsRow.laid W) : WordsIn W := by
  have h1 := strs_of_head (rest := []) (ls := [[], [110, 111, 114, 109, 97, 108], [100, 101, 108, 97, 121], [108, 101, 97, 107], [101, 109, 101, 114, 103, 101, 110, 99, 121]]) gWords gWordsType Tryd.underlying37 Tryd.underlying9 cellsE cellsT h
  intro i hi
  rw [h1 i hi]
  match i, hi with
  | 0, _ => rfl
  | 1, _ => rfl
  | 2, _ => rfl
  | 3, _ => rfl
  | 4, _ => rfl

/-- What the walk gives, for every argument and every world that holds the table. -/
theorem contract (H : Type) (enc : TypeId × Value → H) (W : World) (base : Nat) (args : Array Value) (ds gs : List (DataW H)) (before : List MemPlace)
    (hval0 : ∀ (j : Nat) t v, Tryd.f3.params[j]? = some t → args[j]? = some v → Value.okWide Tryd.prog W .any base t v)
    (hW : DataW.Whole enc Tryd.prog Tryd.f3.params.toList Rows.modeStepsSpec.vars false W args.toList ds gs before) (hL : laidMetH Tryd.prog Rows.modeStepsRow.laid W) :
    Calls Tryd.prog 3 args W fun e W' => ∃ v, e = .returned v ∧ Rows.modeStepsSpec.post enc Tryd.prog Tryd.f3 false true false false W args v W' := by
  have hval : ∀ (j : Nat) t v, Tryd.f3.params[j]? = some t → args[j]? = some v → Value.okWide Tryd.prog W .any base t v := hval0
  have hW' := hW
  obtain ⟨p, q, hA0, hV, rfl, hfz, hnd⟩ := hW
  have hA : DataW.TrodAll enc Tryd.prog W 0 (fun _ => true) true Tryd.f3.params.toList args.toList ds p := hA0
  rw [Tryd.params3] at hA hval
  obtain ⟨v0, vs0, d0, ds0, p0, q0, hargs, rfl, rfl, h0, r0⟩ := trodAll_cons hA
  obtain ⟨v1, vs1, d1, ds1, p1, q1, rfl, rfl, rfl, h1, r1⟩ := trodAll_cons r0
  obtain ⟨v2, vs2, d2, ds2, p2, q2, rfl, rfl, rfl, h2, r2⟩ := trodAll_cons r1
  obtain ⟨rfl, rfl, rfl⟩ := trodAll_nil r2
  obtain rfl : args = #[v0, v1, v2] := by cases args; simp_all
  obtain ⟨rfl, rfl⟩ := trodVars_none hV
  obtain ⟨a0, rfl, f0⟩ := open_par (hval 0 24 v0 rfl rfl) h0
  obtain ⟨a1, rfl, rfl, rfl, w1⟩ := open_int Tryd.underlying3 (hval 1 3 v1 rfl rfl) h1
  obtain ⟨x2, y2, b2, rfl, f2, g2⟩ := open_stakes (hval 2 26 v2 rfl rfl) h2
  clear hA0 hval0
  refine (walk a0 a1 x2 y2 b2 W f0 f2 g2 (table hL)).mono fun e W' ⟨he, hg⟩ => ?_
  subst he
  exact ⟨_, rfl, law_post laidOut (by kernel_rfl) rfl rfl Tryd.underlying4 rfl hW' hg⟩

/-- A world for the witness: the settled one, the table holding what its initialiser lays. -/
def someArgs : Array Value := #[.agg #[.int .u64 0, .int .u64 0, .int .u64 0, .int .u64 0, .int .u64 0, .int .u64 0, .int .u64 0, .int .u64 0, .int .u64 0, .int .u64 0, .int .u64 0, .int .u64 0, .int .u64 0, .int .u64 0, .int .i64 0, .int .i64 0, .int .i64 0, .int .i64 0, .int .i64 0, .int .i64 0, .int .i64 0, .int .i64 0, .int .i64 0, .int .i64 0], .int .i64 0, .agg #[.int .u64 0, .int .u64 0, .bool false]]
noncomputable def laidWorld (os : Os) : World :=
  { World.holding Tryd.prog os ⟨#[], #[], []⟩ with heap := (World.holding Tryd.prog os ⟨#[], #[], []⟩).heap.modify 0 fun
      | .cells _ t frozen => .cells #[.string ⟨#[]⟩, .string ⟨#[110, 111, 114, 109, 97, 108]⟩, .string ⟨#[100, 101, 108, 97, 121]⟩, .string ⟨#[108, 101, 97, 107]⟩, .string ⟨#[101, 109, 101, 114, 103, 101, 110, 99, 121]⟩] t frozen
      | o => o }
theorem laid_met (os : Os) : laidMet Tryd.prog Rows.modeStepsRow.laid ((laidWorld os).forCall (fun _ _ => 0) ⟨#[], someArgs, []⟩).memory :=
  laidMet_of_run' 8 (by kernel_rfl) (by kernel_rfl)
theorem reads (os : Os) {H : Type} (enc : TypeId × Value → H) : ∃ ds places, DataW.whole enc Tryd.prog ((laidWorld os).forCall (fun _ _ => 0) ⟨#[], someArgs, []⟩).memory Tryd.f3.params.toList Rows.modeStepsSpec.vars false someArgs.toList 8 = some (ds, [], places) :=
  ⟨[.agg [.lit (.int .u64 0), .lit (.int .u64 0), .lit (.int .u64 0), .lit (.int .u64 0), .lit (.int .u64 0), .lit (.int .u64 0), .lit (.int .u64 0), .lit (.int .u64 0), .lit (.int .u64 0), .lit (.int .u64 0), .lit (.int .u64 0), .lit (.int .u64 0), .lit (.int .u64 0), .lit (.int .u64 0), .lit (.int .i64 0), .lit (.int .i64 0), .lit (.int .i64 0), .lit (.int .i64 0), .lit (.int .i64 0), .lit (.int .i64 0), .lit (.int .i64 0), .lit (.int .i64 0), .lit (.int .i64 0), .lit (.int .i64 0)], .lit (.int .i64 0), .agg [.lit (.int .u64 0), .lit (.int .u64 0), .lit (.bool false)]], [], by kernel_rfl⟩

set_option maxRecDepth 100000 in
theorem lifted (os : Os) (started : os.Started) (H : Type) (enc : TypeId × Value → H) (F : Stop.Interp) :
    ReturnsInHanded {} Tryd.checked os 3 .any ((OpenSpec.ofChange Rows.modeStepsSpec).preRow enc Tryd.prog Tryd.f3 Rows.modeStepsRow.domain false Rows.modeStepsRow.laid) (((OpenSpec.ofChange Rows.modeStepsSpec).at F).post enc Tryd.prog Tryd.f3 false true false false) := by
  obtain ⟨ds, places, hx⟩ := reads os enc
  refine returnsInHanded_of_row (C := Tryd.checked) (s := OpenSpec.ofChange Rows.modeStepsSpec) own started (by kernel_rfl) Tryd.func3
    (witness_row_at (enc := enc) (C := Tryd.checked) false (laidWorld os) someArgs rfl (by kernel_rfl) (by kernel_rfl) (by kernel_rfl)
      (OpenSpec.preRow_of_cond 8 hx (by kernel_rfl) (fun k hk => by cases hk) (by kernel_rfl) (laid_met os))) ?_
  intro W base args ds gs before hval hW _ _ _ hL _ _
  exact contract H enc W base args ds gs before hval hW hL

theorem said : Rows.ModeStepsSaid :=
  OpenClaim.holds_of_cond 3 Tryd.f3 rfl rfl rfl rfl rfl rfl rfl ⟨rfl, rfl, rfl, rfl, rfl⟩ rfl rfl rfl rfl rfl (by kernel_rfl) Tryd.func3 (by kernel_rfl)
    (of_decide_eq_true (by kernel_rfl)) (by unfold Func.isWrapper; first | (rw [if_pos (by decide +kernel)]; kernel_rfl) | (rw [if_neg (by decide +kernel)]; exact ⟨rfl, rfl⟩))
    (fun os started H enc _ F => by rw [OpenClaim.pre_eq_preRow]; exact lifted os started H enc F)

/-- No parameter wants a stand-in; the program's own looks are off. -/
theorem plain (f : FuncId) (fn : Func) (hf : Tryd.pinned.checked.prog.funcNamed "bullion/bullionlaw12.ModeSteps" = some f) (hfn : Tryd.pinned.checked.prog.funcs[f]? = some fn) :
    false = Tryd.pinned.checked.prog.looks [] ∧ ∀ (j : Nat) t, fn.params[j]? = some t → Tryd.pinned.checked.prog.wantsStandIn t = false := by
  obtain rfl : f = 3 := Option.some.inj ((show Tryd.prog.funcNamed "bullion/bullionlaw12.ModeSteps" = some 3 by kernel_rfl).symm.trans hf) |>.symm
  obtain rfl : fn = Tryd.f3 := (Option.some.inj (Tryd.func3.symm.trans hfn)).symm
  refine ⟨by kernel_rfl, fun j t ht => ?_⟩
  rw [Tryd.params3] at ht
  have hm := Array.mem_of_getElem? ht
  simp only [List.mem_toArray, List.mem_cons, List.not_mem_nil, or_false] at hm
  rcases hm with rfl | rfl | rfl
  · exact (show Tryd.prog.wantsStandIn 24 = false by kernel_rfl)
  · exact (show Tryd.prog.wantsStandIn 3 = false by kernel_rfl)
  · exact (show Tryd.prog.wantsStandIn 26 = false by kernel_rfl)

/-- The statement: the card. -/
theorem proved : Rows.ModeStepsCardSaid :=
  Claim7.holds_tied_plain_at .later [] _ _ _ _ said (fun _ h => by cases h) (by kernel_rfl) (fun _ h => by cases h) modeSteps_row_tie rfl ⟨rfl, rfl⟩ (by kernel_rfl) rfl plain (by kernel_rfl)
#print axioms proved

end Go.Proofs.YtioghkkpdkkedaaDoor.ModeSteps
