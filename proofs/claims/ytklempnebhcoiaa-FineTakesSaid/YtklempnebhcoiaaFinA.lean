/- Layer 15 (fine): what is lost, how it is split, who is without it. By contracts. -/
import Derived.Test.YtklempnebhcoiaaFinM
import Derived.Test.YtklempnebhcoiaaStdW
import Derived.Test.YtklempnebhcoiaaCheck
import Derived.Test.YtklempnebhcoiaaCut
import Derived.Test.YtklempnebhcoiaaSeq
namespace Go.Proofs.Ytklempnebhcoiaa
open Go.RowKit
set_option linter.unusedVariables false
set_option linter.unusedSimpArgs false

section
variable {ops : Array Oper} {rest : List Oper} {o : Oper} {a : Act} {w : World} {Q : Exit → Act → World → Prop}
theorem away_built (s : Std) (p : Par) : Try.prog.built 51 [(0, .agg s.vals), (1, .agg p.vals)] = some (wvals s p) := by kernel_rfl
/-- Who was away: a standing, and parameters. -/
theorem build_away (x y : Operand) (ho : o.op = .build 51 #[(0, x), (1, y)]) (hgd : Region.wanted o (yielded ops a.tmps) = true) (s : Std) (p : Par) (hx : a.eval x = .agg s.vals) (hy : a.eval y = .agg p.vals)
    (h : wpList Try.prog ops Q rest (a.put o.dst (.agg (wvals s p))) w) : wpList Try.prog ops Q (o :: rest) a w :=
  wpList_step fun K hK => by
    rw [if_pos hgd]
    have hb : Try.prog.built 51 ((#[(0, x), (1, y)] : Array (Nat × Operand)).map fun (i, x) => (i, a.eval x)).toList = some (wvals s p) := by
      simp only [List.map_toArray, List.map_cons, List.map_nil, hx, hy]
      exact away_built s p
    refine wp_build 51 #[(0, x), (1, y)] ho (by rw [hb]; rfl) ?_
    rw [hb]
    exact hK _ _ h
theorem load_away (x : Operand) (ho : o.op = .load 51 x) (hgd : Region.wanted o (yielded ops a.tmps) = true) (g : Nat) (s : Std) (p : Par) (T : TypeId) (hx : a.eval x = .pointer (some ⟨g, 0, none⟩)) (hW : WorkAt w g s p T)
    (h : wpList Try.prog ops Q rest (a.put o.dst (.agg (wvals s p))) w) : wpList Try.prog ops Q (o :: rest) a w :=
  wpList_step fun K hK => by
    rw [if_pos hgd]
    exact wp_load_row 51 x ho g hx T (wvals s p) (0, 0) _ hW Try.underlying51 rfl (by kernel_rfl) (hK _ _ h)
end
theorem exec_load_away {o : Oper} {a : Act} {w : World} (x : Operand) (ho : o.op = .load 51 x) (g : Nat) (s : Std) (p : Par) (T : TypeId) (hx : a.eval x = .pointer (some ⟨g, 0, none⟩)) (hW : WorkAt w g s p T) :
    (execOp a.eval o).run Try.prog w = .ok (.value (.agg (wvals s p))) w := by
  unfold execOp
  simp only [ho, hx, Instr.loadAt, Instr.sureAddr, Sem.run_bind, Sem.run_pure, Result.andThen_ok, run_loadVar_row w g T 51 (wvals s p) (0, 0) _ hW Try.underlying51 rfl (by kernel_rfl)]

theorem up_big (a b c n : Nat) (w : World) (ha : a < 18446744073709551616) (hb : b < 18446744073709551616) (hc : c < 18446744073709551616) (h0 : 0 < c) (h : Ceil (a * b) c n) (hn : 18446744073709551616 ≤ n) :
    Calls Try.prog 26 #[.int .u64 a, .int .u64 b, .int .u64 c] w fun e w' => e = .returned (.tuple #[.int .u64 0, .int .i64 10]) ∧ Below w.heap.size w w' := by
  rcases h.parts h0 with e | ⟨q, r, rfl, e, hr, hr0⟩
  · exact ratio_up_over a b c n 0 w ha hb (Lib.hid e) h0 hn
  · rcases Nat.lt_or_ge q 18446744073709551616 with hq | hq
    · obtain rfl : q = 18446744073709551615 := by omega
      exact ratio_up_top a b c r w ha hb hc (Lib.hid e) hr hr0
    · exact ratio_up_over a b c q r w ha hb (Lib.hid e) hr hq


set_option maxRecDepth 100000 in
set_option maxHeartbeats 1000000 in
theorem leaked_is (s : Std) (p : Par) (q n : Nat) (w : World) (hf : s.Fits) (h0 : 0 < q) (hq : q < 18446744073709551616) (hn : Ceil (s.eff * s.score) q n) :
    Calls Try.prog 51 #[.agg (wvals s p), .int .u64 (q : Int)] w fun e w' => e = .returned (.int .u64 ((min n 18446744073709551615 : Nat) : Int)) ∧ Below w.heap.size w w' := by
  have hW : WorkAt (w.alloc (.cells (wvals s p) 51)) w.heap.size s p 51 := WorkAt.new w s p _
  have hB : Below w.heap.size w (w.alloc (.cells (wvals s p) 51)) := (Below.refl _ _).alloc (Nat.le_refl _) _
  have c1 : (w.alloc (.cells (wvals s p) 51)).cell? ⟨w.heap.size, 1, none⟩ = some (.int .u64 (s.eff : Int)) := hW.cell 1
  have c2 := hW.score
  have f1 := hf.eff
  have f2 := hf.score
  rcases Nat.lt_or_ge n 18446744073709551616 with hl | hl
  · have ku := fun w => up_is s.eff s.score q n w f1 f2 hq h0 hn hl
    rw [show min n 18446744073709551615 = n by omega]
    clear hf hn hq hl hW f1 f2
    go_enter Try.func51, Try.ntmps51
    go_wp2_with (go_at_call 26; refine (ku _).mono ?_; clear ku; rintro e w1 ⟨rfl, hb1⟩; have hB := Below.then hB hb1; clear hb1)
    go_ret
    exact ⟨by first | rfl | simp, hB⟩
  · have ku := fun w => up_big s.eff s.score q n w f1 f2 hq h0 hn hl
    rw [show min n 18446744073709551615 = 18446744073709551615 by omega, show ((18446744073709551615 : Nat) : Int) = 18446744073709551615 from rfl]
    clear hf hn hq hl hW f1 f2
    go_enter Try.func51, Try.ntmps51
    go_wp2_with (go_at_call 26; refine (ku _).mono ?_; clear ku; rintro e w1 ⟨rfl, hb1⟩; have hB := Below.then hB hb1; clear hb1)
    go_ret
    exact ⟨by first | rfl | simp, hB⟩


set_option maxRecDepth 100000 in
set_option maxHeartbeats 1000000 in
theorem alost_is (s : Std) (p : Par) (m : Int) (n : Nat) (w : World) (hf : s.Fits) (hp : Par.Spans p) (hn : Hid (min (Std.lost p m s) 18446744073709551615 = n)) :
    Calls Try.prog 36 #[.agg (wvals s p), .int .i64 m] w fun e w' => e = .returned (.int .u64 (n : Int)) ∧ Below w.heap.size w w' := by
  have hn := hn.out
  have q0 := hp.quot0
  have q1 := hp.quot1
  have e0 := hp.quotEm0
  have e1 := hp.quotEm1
  have a0 := hp.absent0
  have a1 := hp.absent1
  have f1 := hf.eff
  have hW : WorkAt (w.alloc (.cells (wvals s p) 51)) w.heap.size s p 51 := WorkAt.new w s p _
  have hB : Below w.heap.size w (w.alloc (.cells (wvals s p) 51)) := (Below.refl _ _).alloc (Nat.le_refl _) _
  have cells := fun k => hW.cell k
  by_cases h3 : m = 3
  · subst h3
    have k := fun w => leaked_is s p p.quot _ w hf q0 (by omega) (ceil_over _ p.quot q0)
    rw [Std.lost, if_pos rfl] at hn
    rw [hn] at k
    have c11 : (w.alloc (.cells (wvals s p) 51)).cell? ⟨w.heap.size, 11, none⟩ = some (.int .u64 (p.quot : Int)) := cells 11
    clear hn hf hp q0 q1 e0 e1 a0 a1 f1 cells
    go_enter Try.func36, Try.ntmps36
    go_wp2_with (first
      | (refine load_away _ rfl rfl _ s p _ rfl (by assumption) ?_)
      | (go_at_call 51; refine (k _).mono ?_; clear k; rintro e w1 ⟨rfl, hb1⟩; have hB := Below.then hB hb1; clear hb1))
    go_ret
    exact ⟨by first | rfl | simp, hB⟩
  · by_cases h4 : m = 4
    · subst h4
      have k := fun w => leaked_is s p p.quotEm _ w hf e0 (by omega) (ceil_over _ p.quotEm e0)
      rw [Std.lost, if_neg h3, if_pos rfl] at hn
      rw [hn] at k
      have c13 : (w.alloc (.cells (wvals s p) 51)).cell? ⟨w.heap.size, 13, none⟩ = some (.int .u64 (p.quotEm : Int)) := cells 13
      clear hn hf hp q0 q1 e0 e1 a0 a1 f1 cells h3
      go_enter Try.func36, Try.ntmps36
      go_wp2_with (first
        | (refine load_away _ rfl rfl _ s p _ rfl (by assumption) ?_)
        | (go_at_call 51; refine (k _).mono ?_; clear k; rintro e w1 ⟨rfl, hb1⟩; have hB := Below.then hB hb1; clear hb1))
      go_ret
      exact ⟨by first | rfl | simp, hB⟩
    · obtain ⟨a, ha⟩ : ∃ a : Nat, p.absent = (a : Int) := ⟨p.absent.toNat, by omega⟩
      rw [Std.lost, if_neg h3, if_neg h4, ha, Int.toNat_natCast] at hn
      have hle : prt s.eff 10000 a ≤ s.eff := prt_le (by omega)
      have k := fun w => share_cut_ok s.eff a n w f1 (by omega) (Lib.hid (by rw [← hn]; omega))
      have c1 : (w.alloc (.cells (wvals s p) 51)).cell? ⟨w.heap.size, 1, none⟩ = some (.int .u64 (s.eff : Int)) := cells 1
      have c21 : (w.alloc (.cells (wvals s p) 51)).cell? ⟨w.heap.size, 21, none⟩ = some (.int .i64 p.absent) := cells 21
      rw [ha] at c21
      have z3 : (m == 3) = false := by simpa using h3
      have z4 : (m == 4) = false := by simpa using h4
      clear hn hf hp q0 q1 e0 e1 a0 a1 f1 cells ha hle
      go_enter Try.func36, Try.ntmps36
      go_wp2_with (first
        | (refine load_away _ rfl rfl _ s p _ rfl (by assumption) ?_)
        | (go_at_call 25; refine (k _).mono ?_; clear k; rintro e w1 ⟨rfl, hb1⟩; have hB := Below.then hB hb1; clear hb1))
      go_ret
      exact ⟨by first | rfl | simp, hB⟩


set_option maxRecDepth 100000 in
set_option maxHeartbeats 1000000 in
theorem fine_is (s : Std) (p : Par) (m : Int) (n : Nat) (w : World) (hf : s.Fits) (hp : Par.Spans p) (hn : Hid (Std.fine p m s = n)) :
    Calls Try.prog 19 #[.agg (wvals s p), .int .i64 m] w fun e w' => e = .returned (.int .u64 (n : Int)) ∧ Below w.heap.size w w' := by
  obtain ⟨l, hl⟩ : ∃ l, min (Std.lost p m s) 18446744073709551615 = l := ⟨_, rfl⟩
  have kl := fun w => alost_is s p m l w hf hp (Lib.hid hl)
  have hfb := hf.bal
  have e4 : min (l : Int) (s.bal : Int) = (n : Int) := by
    have := hn.out
    unfold Std.fine at this
    omega
  have e5 : min l s.bal = n := by omega
  have hW : WorkAt (w.alloc (.cells (wvals s p) 51)) w.heap.size s p 51 := WorkAt.new w s p _
  have hB : Below w.heap.size w (w.alloc (.cells (wvals s p) 51)) := (Below.refl _ _).alloc (Nat.le_refl _) _
  clear hf hp hn hl hfb
  go_enter Try.func19, Try.ntmps19
  go_upto_region 1 with fail
  generalize hw0 : World.alloc _ _ = w0
  rw [hw0] at hW hB
  clear hw0
  have cells : ∀ w', Below w0.heap.size w0 w' → WorkAt w' w.heap.size s p 51 := fun w' h => hW.up h
  clear hW
  refine region_list [] (fun _ w' => Below w0.heap.size w0 w') (by kernel_rfl) (by kernel_rfl) (Below.refl _ _).drew ?_
  refine SeqS.take _ (by rfl) (by rfl) (fun ph w' hS => exec_load_away _ rfl _ _ _ _ rfl (cells w' hS)) ?_
  simp only [Act.put, List.setIfInBounds_toArray, List.set_cons_zero, List.set_cons_succ]
  refine' SeqS.calm _ (by rfl) (by rfl) (fun w => ?_) ?_; rotate_left; · (go_simp <;> with_reducible rfl)
  simp only [Act.put, List.setIfInBounds_toArray, List.set_cons_zero, List.set_cons_succ]
  refine SeqS.call (below_call (Nat.le_refl _) (fun w _ => kl w)) (by rfl) (by rfl) (fun w => ?_) ?_; · go_simp
  simp only [Act.put, List.setIfInBounds_toArray, List.set_cons_zero, List.set_cons_succ]
  iterate 2 ((refine' SeqS.calm _ (by rfl) (by rfl) (fun w => ?_) ?_; rotate_left; · (go_simp <;> with_reducible rfl)); simp only [Act.put, List.setIfInBounds_toArray, List.set_cons_zero, List.set_cons_succ])
  refine' SeqS.take _ (by rfl) (by rfl) (fun ph w' hS => ?_) ?_; rotate_left; · (have c0 : w'.cell? ⟨w.heap.size, 0, none⟩ = some (.int .u64 (s.bal : Int)) := (cells w' hS).cell 0; go_simp <;> with_reducible rfl)
  simp only [Act.put, List.setIfInBounds_toArray, List.set_cons_zero, List.set_cons_succ]
  iterate 2 ((refine' SeqS.calm _ (by rfl) (by rfl) (fun w => ?_) ?_; rotate_left; · (go_simp <;> with_reducible rfl)); simp only [Act.put, List.setIfInBounds_toArray, List.set_cons_zero, List.set_cons_succ])
  intro w3 hw3
  have hB3 := Below.then hB hw3
  go_wp2
  go_ret
  exact ⟨by first | rfl | simp [e4], hB3⟩

/-- What Of, Split and Take answer, in any world. -/
def FineIs (p : Par) (s : Std) (m : Int) (n : Nat) : Prop := ∀ w, Calls Try.prog 8 #[.agg p.vals, .agg s.vals, .int .i64 m] w fun e w' => e = .returned (.int .u64 (n : Int)) ∧ Below w.heap.size w w'
def SplitIs (p : Par) (n x y : Nat) : Prop := ∀ w, Calls Try.prog 14 #[.agg p.vals, .int .u64 (n : Int)] w fun e w' => e = .returned (.tuple #[.int .u64 (x : Int), .int .u64 (y : Int)]) ∧ Below w.heap.size w w'
def TakeIs (p : Par) (s : Std) (m : Int) (r : Std) (x y : Nat) : Prop := ∀ w, Calls Try.prog 9 #[.agg p.vals, .agg s.vals, .int .i64 m] w fun e w' => e = .returned (.tuple #[.agg r.vals, .int .u64 (x : Int), .int .u64 (y : Int)]) ∧ Below w.heap.size w w'

set_option maxRecDepth 100000 in
set_option maxHeartbeats 1000000 in
theorem of_no (p : Par) (s : Std) (m : Int) (kc : CheckIs p 70) : FineIs p s m 0 := by
  intro w
  have hP := (ParAt.new w p 24).up ((Below.refl _ _).alloc (Nat.le_refl _) (.cells s.vals 26))
  have hS : StdAt ((w.alloc (.cells p.vals 24)).alloc (.cells s.vals 26)) (w.heap.size + 1) s 26 := StdAt.new _ s _ (by simp)
  have hB : Below w.heap.size w ((w.alloc (.cells p.vals 24)).alloc (.cells s.vals 26)) := ((Below.refl _ _).alloc (Nat.le_refl _) _).alloc (by simp) _
  rw [show ((0 : Nat) : Int) = 0 from rfl]
  go_enter Try.func8, Try.ntmps8
  go_wp2_with (first
    | (refine load_par _ rfl rfl _ p _ rfl (by assumption) ?_)
    | (go_at_call 18; refine (kc _).mono ?_; clear kc; rintro e w1 ⟨rfl, hb1⟩; have hP := hP.up hb1; have hS := hS.up hb1; have hB := Below.then hB hb1; clear hb1)
    )
  go_ret
  exact ⟨by first | rfl | simp, hB⟩

set_option maxRecDepth 100000 in
set_option maxHeartbeats 1000000 in
theorem of_ok (p : Par) (s : Std) (m : Int) (kc : CheckIs p 0) (hp : Par.Spans p) (hf : s.Fits) : FineIs p s m (Std.fine p m s) := by
  intro w
  obtain ⟨n, hn⟩ : ∃ n, Std.fine p m s = n := ⟨_, rfl⟩
  have kf := fun w => fine_is s p m n w hf hp (Lib.hid hn)
  rw [hn]
  clear hn hf hp
  have hP := (ParAt.new w p 24).up ((Below.refl _ _).alloc (Nat.le_refl _) (.cells s.vals 26))
  have hS : StdAt ((w.alloc (.cells p.vals 24)).alloc (.cells s.vals 26)) (w.heap.size + 1) s 26 := StdAt.new _ s _ (by simp)
  have hB : Below w.heap.size w ((w.alloc (.cells p.vals 24)).alloc (.cells s.vals 26)) := ((Below.refl _ _).alloc (Nat.le_refl _) _).alloc (by simp) _
  go_enter Try.func8, Try.ntmps8
  go_wp2_with (first
    | (refine load_par _ rfl rfl _ p _ rfl (by assumption) ?_)
    | (refine load_std _ rfl rfl _ s _ rfl (by assumption) ?_)
    | (go_at_call 18; refine (kc _).mono ?_; clear kc; rintro e w1 ⟨rfl, hb1⟩; have hP := hP.up hb1; have hS := hS.up hb1; have hB := Below.then hB hb1; clear hb1)
    | (refine build_away _ _ rfl rfl s p rfl rfl ?_)
    | (go_at_call 19; refine (kf _).mono ?_; clear kf; rintro e w1 ⟨rfl, hb1⟩; have hP := hP.up hb1; have hS := hS.up hb1; have hB := Below.then hB hb1; clear hb1)
    )
  go_ret
  exact ⟨by first | rfl | simp, hB⟩


set_option maxRecDepth 100000 in
set_option maxHeartbeats 1000000 in
theorem split_no (p : Par) (n : Nat) (kc : CheckIs p 70) : SplitIs p n 0 0 := by
  intro w
  have hP := ParAt.new w p 24
  have hB : Below w.heap.size w (w.alloc (.cells p.vals 24)) := (Below.refl _ _).alloc (Nat.le_refl _) _
  rw [show ((0 : Nat) : Int) = 0 from rfl]
  go_enter Try.func14, Try.ntmps14
  go_wp2_with (first
    | (refine load_par _ rfl rfl _ p _ rfl (by assumption) ?_)
    | (go_at_call 18; refine (kc _).mono ?_; clear kc; rintro e w1 ⟨rfl, hb1⟩; have hP := hP.up hb1; have hB := Below.then hB hb1; clear hb1)
    )
  refine bodyPost_ret (v := .tuple #[.int .u64 0, .int .u64 0]) (by simp [results, Try.results14, go_sem]) rfl ⟨rfl, hB⟩


set_option maxRecDepth 100000 in
set_option maxHeartbeats 1000000 in
theorem split_ok (p : Par) (n : Nat) (kc : CheckIs p 0) (hp : Par.Spans p) (hn : n < 18446744073709551616) : SplitIs p n (burned p n) (n - burned p n) := by
  intro w
  have b0 := hp.burn0
  have b1 := hp.burn1
  have hle := burned_le hp n
  obtain ⟨a, ha⟩ : ∃ a : Nat, p.burn = (a : Int) := ⟨p.burn.toNat, by omega⟩
  obtain ⟨x, hx⟩ : ∃ x, burned p n = x := ⟨_, rfl⟩
  have k := fun w => share_cut_ok n a x w hn (by omega) (Lib.hid (by rw [← hx, burned, ha, Int.toNat_natCast]))
  have v18 := p.v18
  rw [ha] at v18
  rw [hx] at hle ⊢
  obtain ⟨y, hy⟩ : ∃ y, n - x = y := ⟨_, rfl⟩
  rw [hy]
  have e1 : (n : Int) - (x : Int) = (y : Int) := by omega
  rw [e1] at k
  clear hp hn b0 b1 hle ha hx hy e1
  have hP := ParAt.new w p 24
  have hB : Below w.heap.size w (w.alloc (.cells p.vals 24)) := (Below.refl _ _).alloc (Nat.le_refl _) _
  go_enter Try.func14, Try.ntmps14
  go_wp2_with (first
    | (refine load_par _ rfl rfl _ p _ rfl (by assumption) ?_)
    | (go_at_call 18; refine (kc _).mono ?_; clear kc; rintro e w1 ⟨rfl, hb1⟩; have hP := hP.up hb1; have hB := Below.then hB hb1; clear hb1; have c18 := (hP.cell 18).trans v18)
    | (go_at_call 25; refine (k _).mono ?_; clear k; rintro e w1 ⟨rfl, hb1⟩; have hB := Below.then hB hb1; clear hb1)
    )
  refine bodyPost_ret (v := .tuple #[.int .u64 (x : Int), .int .u64 (y : Int)]) (by simp [results, Try.results14, go_sem]) rfl ⟨rfl, hB⟩



set_option maxRecDepth 100000 in
set_option maxHeartbeats 1000000 in
theorem take_fine (p : Par) (s : Std) (m : Int) (n x y : Nat) (hn : n ≤ s.bal) (hf : s.Fits) (kf : FineIs p s m n) (ks : SplitIs p n x y) : TakeIs p s m (Std.less s n) x y := by
  intro w
  obtain ⟨v, hv⟩ : ∃ v, s.bal - n = v := ⟨_, rfl⟩
  obtain ⟨r, hr⟩ : ∃ r : Std, Std.less s n = r := ⟨_, rfl⟩
  have hb := hf.bal
  have e1 : (s.bal : Int) - (n : Int) = (v : Int) := by omega
  have e2 : IntKind.u64.wrap ((s.bal : Int) - (n : Int)) = (v : Int) := by rw [e1]; exact IntWalk.u64_in _ (by omega)
  have hrr : (⟨v, s.eff, s.score, s.streak⟩ : Std) = r := by rw [← hr, Std.less, hv]
  rw [hr]
  have HRR := Lib.hid hrr
  unfold FineIs at kf
  unfold SplitIs at ks
  clear hn hf hv hr hb e1 hrr
  go_enter Try.func9, Try.ntmps9
  go_upto_region 1 with fail
  generalize hw0 : World.alloc _ _ = w0
  have hP : ParAt w0 w.heap.size p 24 := by rw [← hw0]; exact ((ParAt.new w p _).up ((Below.refl _ _).alloc (Nat.le_refl _) _)).up ((Below.refl _ _).alloc (Nat.le_refl _) _)
  have hS : StdAt w0 (w.heap.size + 1) s 26 := by rw [← hw0]; exact (StdAt.new _ s _ (by simp)).up ((Below.refl _ _).alloc (Nat.le_refl _) _)
  have hN : StdAt w0 (w.heap.size + 1 + 1) Std.none 26 := by rw [← hw0]; exact StdAt.new _ Std.none _ (by simp)
  have hB : Below w.heap.size w w0 := by rw [← hw0]; exact (((Below.refl _ _).alloc (Nat.le_refl _) _).alloc (by simp) _).alloc (by simp; omega) _
  clear hw0
  go_upto_region 3 with (first
    | (refine load_par _ rfl rfl _ p _ rfl (by assumption) ?_)
    | (refine load_std _ rfl rfl _ s _ rfl (by assumption) ?_)
    | (go_at_call 8; refine (kf _).mono ?_; clear kf; rintro e w1 ⟨rfl, hb1⟩; have hP := hP.up hb1; have hS := hS.up hb1; have hN := hN.up hb1; have hB := Below.then hB hb1; clear hb1)
    | (go_at_call 14; refine (ks _).mono ?_; clear ks; rintro e w1 ⟨rfl, hb1⟩; have hP := hP.up hb1; have hS := hS.up hb1; have hN := hN.up hb1; have hB := Below.then hB hb1; clear hb1))
  have c0 := hS.c0
  go_wp2_with (first
    | (refine load_std _ rfl rfl _ r _ rfl (by assumption) ?_)
    | (refine store_bal _ _ rfl rfl _ s 26 v rfl rfl (by assumption) ?_; intro w2 hS2 hb2 hz2 ho2; rw [HRR.out] at hS2; have hN := (ho2 _ (by omega)).trans hN; have hB := hB.trans (hb2.mono (Nat.le_succ _)))
    | (refine store_std _ _ rfl rfl _ r Std.none 26 rfl rfl (by assumption) ?_; intro w4 hR hb4; have hB := hB.trans (hb4.mono (Nat.le_trans (Nat.le_succ _) (Nat.le_succ _)))))
  refine bodyPost_ret (res_std3 Try.results9 rfl hR) rfl ⟨rfl, hB⟩

theorem take_ok (p : Par) (s : Std) (m : Int) (kc : CheckIs p 0) (hp : Par.Spans p) (hf : s.Fits) : TakeIs p s m (Std.less s (Std.fine p m s)) (burned p (Std.fine p m s)) (Std.fine p m s - burned p (Std.fine p m s)) :=
  take_fine p s m _ _ _ (Std.fine_le p m s) hf (of_ok p s m kc hp hf) (split_ok p _ kc hp (Nat.lt_of_le_of_lt (Std.fine_le p m s) hf.bal))
theorem take_no (p : Par) (s : Std) (m : Int) (kc : CheckIs p 70) (hf : s.Fits) : TakeIs p s m s 0 0 :=
  take_fine p s m 0 0 0 (Nat.zero_le _) hf (of_no p s m kc) (split_no p 0 kc)
end Go.Proofs.Ytklempnebhcoiaa
