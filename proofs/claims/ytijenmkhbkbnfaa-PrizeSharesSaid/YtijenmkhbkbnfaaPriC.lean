/- Layer 14 (prize), the document's: Weight, Prizes, Pay. By contracts. -/
import Derived.Test.YtijenmkhbkbnfaaPriB
import Derived.Test.YtijenmkhbkbnfaaParR
import Derived.Test.YtijenmkhbkbnfaaSeqV
namespace Go.Proofs.Ytijenmkhbkbnfaa
open Go.RowKit Go.Shelf
set_option linter.unusedVariables false
set_option linter.unusedSimpArgs false


/-- What it answers, in any world. -/
def RweightIs (p : Par) (s : Std) (n : Nat) : Prop := ∀ w, Calls Try.prog 12 #[.agg p.vals, .agg s.vals] w fun e w' => e = .returned (.int .u64 (n : Int)) ∧ Below w.heap.size w w'


set_option maxRecDepth 100000 in
set_option maxHeartbeats 1000000 in
theorem rweight_none (p : Par) (s : Std) (h : p.maxEff < s.eff) : RweightIs p s 0 := by
  intro w
  have hP := (ParAt.new w p 31).up ((Below.refl _ _).alloc (Nat.le_refl _) (.cells s.vals 37))
  have hS : StdAt ((w.alloc (.cells p.vals 31)).alloc (.cells s.vals 37)) (w.heap.size + 1) s 37 := StdAt.new _ s _ (by simp)
  have hB : Below w.heap.size w ((w.alloc (.cells p.vals 31)).alloc (.cells s.vals 37)) := ((Below.refl _ _).alloc (Nat.le_refl _) _).alloc (by simp) _
  have c1 := hS.c1
  have p1 := (hP.cell 1).trans p.v1
  have d1 : decide ((p.maxEff : Int) < (s.eff : Int)) = true := decide_eq_true (by omega)
  have d2 : decide (p.maxEff < s.eff) = true := decide_eq_true h
  clear h
  go_enter Try.func12, Try.ntmps12
  go_wp2
  go_ret
  exact ⟨rfl, hB⟩

set_option maxRecDepth 100000 in
set_option maxHeartbeats 1000000 in
theorem rweight_some (p : Par) (s : Std) (x : Nat) (hp : Par.Spans p) (h : ¬ p.maxEff < s.eff) (hx : Std.weight p s = x) : RweightIs p s x := by
  intro w
  have hl := Std.weight_le hp s
  have hst := Std.weight_steps hp h
  have hc := Std.counts_in hp s
  rw [hx] at hl hst
  have he1 := hp.eff1
  have hs0 := hp.streak0
  have hs1 := hp.streak1
  obtain ⟨b, hb⟩ := Int.eq_ofNat_of_zero_le hp.boost0
  have hb1 := hp.boost1
  obtain ⟨N, hN⟩ : ∃ N, (Std.counts p s).toNat = N := ⟨_, rfl⟩
  have hcN : Std.counts p s = (N : Int) := by omega
  unfold Std.counts at hcN
  rw [hN, hb, Int.toNat_natCast] at hst
  obtain ⟨y, hy⟩ : ∃ y, b * s.eff = y := ⟨_, rfl⟩
  rw [hy] at hst
  have hyI : (b : Int) * (s.eff : Int) = (y : Int) := by rw [← hy]; exact (Int.natCast_mul _ _).symm
  have hyl : y ≤ 1000 * 1099511627776 := by rw [← hy]; exact Nat.mul_le_mul (by omega) (by omega)
  have hsum : ∀ k, k ≤ N → 1000 * s.eff + k * y ≤ x := fun k hk => by
    have := Nat.mul_le_mul_right y hk
    omega
  have m1 : IntKind.u64.wrap ((1000 : Int) * (s.eff : Int)) = ((1000 * s.eff : Nat) : Int) := by
    rw [show (1000 : Int) * (s.eff : Int) = ((1000 * s.eff : Nat) : Int) by omega]; exact IntWalk.u64_in _ (by omega)
  have m2 : IntKind.u64.wrap (b : Int) = (b : Int) := IntWalk.u64_in _ (by omega)
  have m3 : IntKind.u64.wrap ((b : Int) * (s.eff : Int)) = (y : Int) := by rw [hyI]; exact IntWalk.u64_in _ (by omega)
  obtain ⟨z, hz⟩ : ∃ z, 1000 * s.eff = z := ⟨_, rfl⟩
  rw [hz] at m1 hst hsum
  have hP := (ParAt.new w p 31).up ((Below.refl _ _).alloc (Nat.le_refl _) (.cells s.vals 37))
  have hS : StdAt ((w.alloc (.cells p.vals 31)).alloc (.cells s.vals 37)) (w.heap.size + 1) s 37 := StdAt.new _ s _ (by simp)
  have hB : Below w.heap.size w ((w.alloc (.cells p.vals 31)).alloc (.cells s.vals 37)) := ((Below.refl _ _).alloc (Nat.le_refl _) _).alloc (by simp) _
  have pv16 := p.v16
  rw [hb] at pv16
  have d1 : decide ((p.maxEff : Int) < (s.eff : Int)) = false := decide_eq_false (by omega)
  have d2 : decide (p.maxEff < s.eff) = false := decide_eq_false h
  have HSUM := Lib.hid hsum
  have HCN := Lib.hid hcN
  have HST := Lib.hid hst
  have HL := Lib.hid hl
  have HYL := Lib.hid hyl
  have HN64 : Hid (N ≤ 64) := by show N ≤ 64; omega
  clear hsum hcN hst hl hyl hc he1 hs0 hs1 hb hb1 hN hy hyI hz h hx hp
  go_enter Try.func12, Try.ntmps12
  go_upto_region 1 with fail
  generalize hw0 : World.alloc _ _ = w0
  rw [hw0] at hP hS hB
  have c1 := hS.c1
  have p1 := (hP.cell 1).trans p.v1
  clear hw0
  go_wp2
  clear c1 p1
  go_loopw [5, 6] (fun xv iv wr => ∃ k t : Nat, k ≤ N ∧ iv = .int .i64 (k : Int) ∧ xv = .int .u64 (t : Int) ∧ Hid (t = z + k * y) ∧ Below w0.heap.size w0 wr) (fun _ iv _ => N - (intOf iv).toNat)
  case atStart => exact ⟨0, z, Nat.zero_le _, rfl, rfl, by show z = z + 0 * y; omega, Below.refl _ _⟩
  case round =>
    obtain ⟨k, t, hk, rfl, rfl, HT, hBr⟩ := hrel
    have hn64 := HN64.out
    have c1 := (hS.up hBr).c1
    have c3 := (hS.up hBr).c3
    have p15 := ((hP.up hBr).cell 15).trans p.v15
    have p16 := ((hP.up hBr).cell 16).trans pv16
    by_cases hlt : k < N
    · have hcn := HCN.out
      have g1 : decide ((k : Int) < s.streak) = true := decide_eq_true (by omega)
      have g2 : decide ((k : Int) < p.streak) = true := decide_eq_true (by omega)
      have g3 : (k : Int) < s.streak := by omega
      have g4 : (k : Int) < p.streak := by omega
      obtain ⟨t2, ht2⟩ : ∃ t2, t + y = t2 := ⟨_, rfl⟩
      have ht3 : t2 = z + (k + 1) * y := by rw [← ht2, HT.out, Nat.add_mul, Nat.one_mul, Nat.add_assoc]
      have ht4 := HSUM.out (k + 1) (by omega)
      have hl := HL.out
      have a1 : IntKind.u64.wrap ((t : Int) + (y : Int)) = (t2 : Int) := by rw [show (t : Int) + (y : Int) = (t2 : Int) by omega]; exact IntWalk.u64_in _ (by omega)
      have HT2 := Lib.hid ht3
      clear hcn ht2 ht3 ht4 hl
      go_wp2
      go_roundw
      case rel => exact ⟨k + 1, t2, by omega, by go_num, rfl, HT2.out, hBr⟩
      case measure => simp [intOf]; omega
    · obtain rfl : k = N := by omega
      have ht : t = x := by rw [HT.out, HST.out]
      subst ht
      have hcn := HCN.out
      by_cases hs : (k : Int) < s.streak
      · have g1 : decide ((k : Int) < s.streak) = true := decide_eq_true hs
        have g2 : decide ((k : Int) < p.streak) = false := decide_eq_false (by omega)
        have g4 : ¬ (k : Int) < p.streak := by omega
        clear hcn
        go_wp2
        go_ret
        exact ⟨rfl, Below.then hB hBr⟩
      · have g1 : decide ((k : Int) < s.streak) = false := decide_eq_false hs
        clear hcn
        go_wp2
        go_ret
        exact ⟨rfl, Below.then hB hBr⟩

/-- What the document says, for right parameters. -/
theorem rweight_is (p : Par) (s : Std) (hp : Par.Spans p) : RweightIs p s (Std.weight p s) := by
  by_cases h : p.maxEff < s.eff
  · rw [Std.weight, if_pos h]
    exact rweight_none p s h
  · exact rweight_some p s _ hp h rfl
section
variable {ops : Array Oper} {i : Nat} {mk : List Nat} {S : World → Prop} {o : Oper} {rest : List Oper} {A : Vals → Act} {R : Told} {F : (Vals → Act) → Told → Prop}
/-- A new list of one, made of what is known. -/
theorem SeqV.row (B : Nat) (ob : Obj) (hw : ∀ val, Region.wanted o (yielded ops (A val).tmps) = true) (hm : mk.contains i = false) (hB : ∀ w, S w → B ≤ w.heap.size) (hSa : ∀ w, S w → S (w.alloc ob))
    (hy : ∀ val w, (execOp (A val).eval o).run Try.prog w = .ok (.value (.slice (some ⟨w.heap.size, 0, none⟩) 1 1)) (w.alloc ob))
    (h : SeqV Try.prog ops mk S (i + 1) rest (fun val => (A val).put o.dst (val i)) (updT R i fun _ v w => ∃ g, v = .slice (some ⟨g, 0, none⟩) 1 1 ∧ B ≤ g ∧ w.heap[g]? = some ob) F) : SeqV Try.prog ops mk S i (o :: rest) A R F :=
  ⟨fun _ v w => ∃ g, v = .slice (some ⟨g, 0, none⟩) 1 1 ∧ B ≤ g ∧ w.heap[g]? = some ob, fun val => val i, ⟨fun _ _ _ _ _ h => h, fun _ _ _ h => h, fun _ v w w' ⟨g, h1, h2, h3⟩ hb => ⟨g, h1, h2, by rw [hb.block g (Array.getElem?_eq_some_iff.1 h3).1]; exact h3⟩, fun _ _ _ => rfl, fun val w hS hR => by
    rw [if_pos (hw val)]
    unfold Oper.wp
    rw [hy val w]
    exact ⟨_, rfl, ⟨_, rfl, hB w hS, heap_alloc_new w ob⟩, hSa w hS, (Below.refl _ _).alloc (Nat.le_refl _) _, fun hc => by rw [hm] at hc; cases hc⟩⟩, h⟩
theorem exec_load_rst_at {o : Oper} {a : Act} {w : World} (x : Operand) (ho : o.op = .load 37 x) (ad : Addr) (s : Std) (hx : a.eval x = .pointer (some ad)) (hD : Std.At w ad s) :
    (execOp a.eval o).run Try.prog w = .ok (.value (.agg s.vals)) w := by
  have hr := run_std_at 37 rst_size Try.underlying37 ad s hD
  unfold execOp
  simp only [ho, hx, Instr.loadAt, Instr.sureAddr, Sem.run_bind, Sem.run_pure, Result.andThen_ok, hr]
end
theorem cells_of_one {w : World} {g : Nat} {x : Value} {t : TypeId} (h : w.heap[g]? = some (.cells #[x] t (0, 0))) : ∀ j u, ([x] : List Value)[j]? = some u → w.cell? ((⟨g, 0, none⟩ : Addr).add j) = some u := by
  intro j u hj
  obtain ⟨rfl, rfl⟩ := cells_one x j u hj
  exact cell_of_row w g 0 _ _ _ h


set_option maxRecDepth 100000 in
set_option maxHeartbeats 1000000 in
theorem rprizes_is (p : Par) (T : Nat) (l : List Std) (A : Option Addr) (c : Nat) (w : World) (hp : Par.Spans p) (hT : T < 18446744073709551616) (hr : Row w w.heap.size A (sflat l)) (hl : l.length ≤ 128) :
    Calls Try.prog 13 #[.agg p.vals, .int .u64 (T : Int), .slice A l.length c] w fun e w' => ∃ v, e = .returned (.tuple #[v, .int .u64 (T - tot (prizesOf p T l) : Nat)]) ∧
      w'.ownsRow w.heap.size 22 1 v l.length (u64s (prizesOf p T l)) ∧ Below w.heap.size w w' := by
  obtain ⟨i0, hi0, hz0, hz1, hz2⟩ := info_parts u64_info
  have ks := fun (w1 : World) (A : Option Addr) (c : Nat) (hr : Row w1 w1.heap.size A (u64s (l.map (Std.weight p)))) => ref_split_ok T (l.map (Std.weight p)) A c w1 hT hr (weights_fit hp hl)
  simp only [List.length_map] at ks
  rw [show (l.map (Std.weight p)).map (prt T (tot (l.map (Std.weight p)))) = prizesOf p T l from rfl] at ks
  obtain ⟨r, hrr⟩ : ∃ r, Hid (T - tot (prizesOf p T l) = r) := ⟨_, rfl⟩
  obtain ⟨R, hRR⟩ : ∃ R, Hid (prizesOf p T l = R) := ⟨_, rfl⟩
  obtain ⟨P, hPl⟩ : ∃ P, Hid (l.map (Std.weight p) = P) := ⟨_, rfl⟩
  have hPn : P.length = l.length := by rw [← hPl.out]; simp
  have HPN := Lib.hid hPn
  rw [hrr.out] at ks ⊢
  rw [hRR.out] at ks ⊢
  rw [hPl.out] at ks
  have KS := Lib.hid ks
  have HP := Lib.hid hp
  have hQ := ParAt.new w p 31
  have hB0 : Below w.heap.size w (w.alloc (.cells p.vals 31)) := (Below.refl _ _).alloc (Nat.le_refl _) _
  clear hPn ks hp
  go_enter Try.func13, Try.ntmps13
  go_upto_region 1 with fail
  generalize hw0 : World.alloc _ _ = w0
  rw [hw0] at hQ hB0
  clear hw0
  go_wp2
  go_loopw [8, 9] (fun bv iv wr => ∃ (k : Nat) (vo : Value), k ≤ l.length ∧ iv = .int .i64 (k : Int) ∧ vo = bv ∧ wr.ownsRow w0.heap.size 22 1 vo k (u64s (P.take k)) ∧ Below w0.heap.size w0 wr) (fun _ iv _ => l.length - (intOf iv).toNat)
  case atStart => exact ⟨0, _, Nat.zero_le _, rfl, rfl, World.ownsRow_nil _ _ _ _, Below.refl _ _⟩
  case round =>
    obtain ⟨k, vo, hk, rfl, rfl, hown, hBr⟩ := hrel
    have hB := Below.then hB0 hBr
    by_cases hlt : k < l.length
    · obtain ⟨s, hs⟩ : ∃ s, l[k]? = some s := ⟨_, List.getElem?_eq_getElem hlt⟩
      obtain ⟨a, rfl, hab, hat⟩ := std_row (hr.below hB) hs
      obtain ⟨x, hx⟩ : ∃ x, Std.weight p s = x := ⟨_, rfl⟩
      have htk : P.take (k + 1) = P.take k ++ [x] := by
        rw [List.take_add_one, ← hPl.out, List.getElem?_map, hs]
        simp [hx]
      have HTK := Lib.hid htk
      have kw := rweight_is p s HP.out
      rw [hx] at kw
      have hki : (k : Int) < (l.length : Int) := by omega
      have hk0 : (0 : Int) ≤ (k : Int) := by omega
      have hPr := hQ.up hBr
      have cells : ∀ w', Below wr.heap.size wr w' → ParAt w' w.heap.size p 31 := fun w' h => hPr.up h
      have rells : ∀ w', Below wr.heap.size wr w' → Std.At w' (a.add (k * 4)) s := fun w' h j v hv => (h.cell (by rw [addr_block, addr_block]; exact Nat.lt_of_lt_of_le hab hB.size)).trans (hat j v hv)
      clear htk hx hs hPr hat hQ
      go_wp2
      refine region_vary [] 8 (fun w' => Below wr.heap.size wr w') (by kernel_rfl) (by kernel_rfl) (Below.refl _ _).drew ?_
      simp only [List.take_succ_cons, List.take_zero, List.drop_succ_cons, List.drop_zero]
      refine' SeqV.calm0 _ (by rfl) (by rfl) (fun w => ?_) ?_; rotate_left; · (go_simp <;> with_reducible rfl)
      simp only [Act.put, List.setIfInBounds_toArray, List.set_cons_zero, List.set_cons_succ]
      refine SeqV.take0 _ (by rfl) (by rfl) (fun w' hS => exec_load_rpar _ rfl _ _ _ rfl (cells w' hS)) ?_
      simp only [Act.put, List.setIfInBounds_toArray, List.set_cons_zero, List.set_cons_succ]
      iterate 3 ((refine' SeqV.calm0 _ (by rfl) (by rfl) (fun w => ?_) ?_; rotate_left; · (go_simp <;> with_reducible rfl)); simp only [Act.put, List.setIfInBounds_toArray, List.set_cons_zero, List.set_cons_succ])
      refine SeqV.take0 _ (by rfl) (by rfl) (fun w' hS => exec_load_rst_at _ rfl _ s rfl (rells w' hS)) ?_
      simp only [Act.put, List.setIfInBounds_toArray, List.set_cons_zero, List.set_cons_succ]
      refine SeqV.call0 (below_callV (Nat.le_refl _) (fun w _ => kw w)) (by rfl) (by rfl) (fun w => ?_) ?_; · go_simp
      simp only [Act.put, List.setIfInBounds_toArray, List.set_cons_zero, List.set_cons_succ]
      refine SeqV.row wr.heap.size (.cells #[.int .u64 (x : Int)] 22) (fun _ => by rfl) (by rfl) (fun w hS => hS.size) (fun w hS => hS.alloc hS.size _) (fun val w => ?_) ?_; · go_simp
      simp only [Act.put, List.setIfInBounds_toArray, List.set_cons_zero, List.set_cons_succ]
      intro val w3 hS3 hR3 hD3
      obtain ⟨g7, e7, hB7, h7⟩ := hR3 7 (by decide)
      simp only [e7, Act.put, List.setIfInBounds_toArray, List.set_cons_zero, List.set_cons_succ]
      clear hR3 hD3 e7 cells rells
      have hown3 := own_below hown hS3
      have hB3 := Below.then hBr hS3
      refine wpList_append_own _ rfl _ _ 27 rfl w0.heap.size 22 i0 (.int .u64 0) 1 8 Try.underlying27 hi0 hz0 hz1 hz2 rfl (by decide) _ _ _ rfl hown3 ⟨g7, 0, none⟩ 1 1 [.int .u64 (x : Int)] rfl rfl (cells_of_one h7) ?c2 ?c3 ?c4 ?c5 ?_
      case c2 => intro u hu; simp at hu; subst hu; rfl
      case c3 => simp only [maxLen]; omega
      case c4 => omega
      case c5 => exact hB3.size
      intro v' w4 hown' hgrow _
      have hb' := hB3.grown hgrow hB3.size (fun k hk => (hown3.lt k hk).1)
      clear hgrow hown hown3 kw
      go_wp2
      go_roundw
      case rel =>
        refine ⟨k + 1, _, by omega, by go_num, rfl, ?_, hb'⟩
        rw [HTK.out, u64s_snoc]
        exact hown'
      case measure => simp [intOf]; omega
    · obtain rfl : k = l.length := by omega
      rw [← HPN.out, List.take_length, HPN.out] at hown
      obtain ⟨A3, c3, rfl, -, -, hr3⟩ := Row.of_own hown
      go_wp2_with (go_at_call 25; refine (KS.out _ A3 c3 hr3).mono ?_; rintro e w4 ⟨v4, rfl, hown4, hb4⟩; have hown5 := own_lower hown4 hB.size; have hB5 := Below.then hB hb4; clear hb4)
      refine bodyPost_ret (v := .tuple #[v4, .int .u64 r]) (by simp [results, Try.results13, go_sem]) rfl ⟨_, rfl, hown5, hB5⟩


section
variable {fn : Func} {s k : Nat} {T : TypeId} {x : Std} {g : Nat} {tmps : Array Value} {w : World}
theorem res_rst2 (h : fn.results = #[.cell s 37, .tmp k]) (hp : tmps.getD s undef = .pointer (some ⟨g, 0, none⟩)) (hS : StdAt w g x T) : (results fn tmps).run Try.prog w = .ok (.tuple #[.agg x.vals, tmps.getD k undef]) w := by
  have hp' : tmps[s]?.getD undef = .pointer (some ⟨g, 0, none⟩) := by simpa using hp
  simp [results, h, hp', asAddr, run_loadVar_row w g T 37 x.vals (0, 0) _ hS Try.underlying37 rfl rst_size]
end
/-- What it answers, in any world. -/
def RpayIs (p : Par) (s : Std) (n : Nat) (r : Std) (k : Nat) : Prop := ∀ w, Calls Try.prog 16 #[.agg p.vals, .agg s.vals, .int .u64 (n : Int)] w fun e w' => e = .returned (.tuple #[.agg r.vals, .int .u64 (k : Int)]) ∧ Below w.heap.size w w'


set_option maxRecDepth 100000 in
set_option maxHeartbeats 1000000 in
theorem rpay_00 (p : Par) (s : Std) (n : Nat) (hf : s.Fits) (hn : n < 18446744073709551616) (h2 : ¬ n ≤ 0) (h1 : ¬ s.bal < p.cap) : RpayIs p s n s n := by
  intro w
  have hb := hf.bal
  have d1 : decide ((s.bal : Int) < (p.cap : Int)) = false := decide_eq_false (by omega)
  have d2 : decide (s.bal < p.cap) = false := decide_eq_false h1
  have d5 : decide ((n : Int) ≤ 0) = false := decide_eq_false (by omega)
  have d6 : decide (n ≤ 0) = false := decide_eq_false (by omega)
  have d7 : (n == 0) = false := by simp; omega
  have d8 : ¬ n = 0 := by omega
  have e4 : IntKind.u64.wrap (n : Int) = (n : Int) := IntWalk.u64_in _ (by omega)
  have e3 : IntKind.u64.wrap (s.bal : Int) = (s.bal : Int) := IntWalk.u64_in _ (by omega)
  clear hb hf h1 hn h2
  go_enter Try.func16, Try.ntmps16
  go_upto_region 1 with fail
  generalize hw0 : World.alloc _ _ = w0
  have hP : ParAt w0 w.heap.size p 31 := by rw [← hw0]; exact ((ParAt.new w p _).up ((Below.refl _ _).alloc (Nat.le_refl _) _)).up ((Below.refl _ _).alloc (Nat.le_refl _) _)
  have hS : StdAt w0 (w.heap.size + 1) s 37 := by rw [← hw0]; exact (StdAt.new _ s _ (by simp)).up ((Below.refl _ _).alloc (Nat.le_refl _) _)
  have hN : StdAt w0 (w.heap.size + 1 + 1) Std.none 37 := by rw [← hw0]; exact StdAt.new _ Std.none _ (by simp)
  have hB : Below w.heap.size w w0 := by rw [← hw0]; exact (((Below.refl _ _).alloc (Nat.le_refl _) _).alloc (by simp) _).alloc (by simp; omega) _
  clear hw0
  have c0 := hS.c0
  have p3 := (hP.cell 3).trans p.v3
  go_wp2_with (first
    | (refine load_rst _ rfl rfl _ s _ rfl (by assumption) ?_)
    | (refine store_bal _ _ rfl rfl _ s 37 s.bal rfl rfl (by assumption) ?_; intro w2 hS2 hb2 hz2 ho2; have hS2 : StdAt w2 (w.heap.size + 1) s 37 := hS2; have hN := (ho2 _ (by omega)).trans hN; have hB := hB.trans (hb2.mono (Nat.le_succ _)))
    | (refine store_rst _ _ rfl rfl _ s Std.none 37 rfl rfl (by assumption) ?_; intro w4 hR hb4; have hB := hB.trans (hb4.mono (Nat.le_trans (Nat.le_succ _) (Nat.le_succ _)))))
  refine bodyPost_ret (res_rst2 Try.results16 rfl hR) rfl ⟨by first | rfl | simp, hB⟩


set_option maxRecDepth 100000 in
set_option maxHeartbeats 1000000 in
theorem rpay_01 (p : Par) (s : Std) (hf : s.Fits) (h1 : ¬ s.bal < p.cap) : RpayIs p s 0 s 0 := by
  intro w
  have hb := hf.bal
  have d1 : decide ((s.bal : Int) < (p.cap : Int)) = false := decide_eq_false (by omega)
  have d2 : decide (s.bal < p.cap) = false := decide_eq_false h1
  rw [show ((0 : Nat) : Int) = 0 from rfl]
  have e3 : IntKind.u64.wrap (s.bal : Int) = (s.bal : Int) := IntWalk.u64_in _ (by omega)
  clear hb hf h1
  go_enter Try.func16, Try.ntmps16
  go_upto_region 1 with fail
  generalize hw0 : World.alloc _ _ = w0
  have hP : ParAt w0 w.heap.size p 31 := by rw [← hw0]; exact ((ParAt.new w p _).up ((Below.refl _ _).alloc (Nat.le_refl _) _)).up ((Below.refl _ _).alloc (Nat.le_refl _) _)
  have hS : StdAt w0 (w.heap.size + 1) s 37 := by rw [← hw0]; exact (StdAt.new _ s _ (by simp)).up ((Below.refl _ _).alloc (Nat.le_refl _) _)
  have hN : StdAt w0 (w.heap.size + 1 + 1) Std.none 37 := by rw [← hw0]; exact StdAt.new _ Std.none _ (by simp)
  have hB : Below w.heap.size w w0 := by rw [← hw0]; exact (((Below.refl _ _).alloc (Nat.le_refl _) _).alloc (by simp) _).alloc (by simp; omega) _
  clear hw0
  have c0 := hS.c0
  have p3 := (hP.cell 3).trans p.v3
  go_wp2_with (first
    | (refine load_rst _ rfl rfl _ s _ rfl (by assumption) ?_)
    | (refine store_bal _ _ rfl rfl _ s 37 s.bal rfl rfl (by assumption) ?_; intro w2 hS2 hb2 hz2 ho2; have hS2 : StdAt w2 (w.heap.size + 1) s 37 := hS2; have hN := (ho2 _ (by omega)).trans hN; have hB := hB.trans (hb2.mono (Nat.le_succ _)))
    | (refine store_rst _ _ rfl rfl _ s Std.none 37 rfl rfl (by assumption) ?_; intro w4 hR hb4; have hB := hB.trans (hb4.mono (Nat.le_trans (Nat.le_succ _) (Nat.le_succ _)))))
  refine bodyPost_ret (res_rst2 Try.results16 rfl hR) rfl ⟨by first | rfl | simp, hB⟩


set_option maxRecDepth 100000 in
set_option maxHeartbeats 1000000 in
theorem rpay_10 (p : Par) (s : Std) (n : Nat) (hp : p.cap < 18446744073709551616) (hf : s.Fits) (hn : n < 18446744073709551616) (h1 : s.bal < p.cap) (h2 : ¬ n ≤ p.cap - s.bal) : RpayIs p s n (Std.paid p s n) (n - (p.cap - s.bal)) := by
  intro w
  have hb := hf.bal
  have d1 : decide ((s.bal : Int) < (p.cap : Int)) = true := decide_eq_true (by omega)
  have d2 : decide (s.bal < p.cap) = true := decide_eq_true h1
  obtain ⟨f, hff⟩ : ∃ f, p.cap - s.bal = f := ⟨_, rfl⟩
  rw [hff] at h2
  obtain ⟨r, hr⟩ : ∃ r : Std, Std.paid p s n = r := ⟨_, rfl⟩
  obtain ⟨x, hx⟩ : ∃ x, n - f = x := ⟨_, rfl⟩
  obtain ⟨v, hv⟩ : ∃ v, s.bal + min n f = v := ⟨_, rfl⟩
  have d3 : decide ((n : Int) ≤ (f : Int)) = false := decide_eq_false (by omega)
  have d4 : decide (n ≤ f) = false := decide_eq_false h2
  have e0 : IntKind.u64.wrap ((p.cap : Int) - (s.bal : Int)) = (f : Int) := by rw [show (p.cap : Int) - (s.bal : Int) = (f : Int) by omega]; exact IntWalk.u64_in _ (by omega)
  have e3 : IntKind.u64.wrap ((s.bal : Int) + (f : Int)) = (v : Int) := by rw [show (s.bal : Int) + (f : Int) = (v : Int) by omega]; exact IntWalk.u64_in _ (by omega)
  have e4 : IntKind.u64.wrap ((n : Int) - (f : Int)) = (x : Int) := by rw [show (n : Int) - (f : Int) = (x : Int) by omega]; exact IntWalk.u64_in _ (by omega)
  have hrr : (⟨v, s.eff, s.score, s.streak⟩ : Std) = r := by rw [← hr, Std.paid, hff, hv]
  rw [hff, hx, hr]
  have HRR := Lib.hid hrr
  clear hff hx hr hv hb hf hn hp h1 h2 hrr
  go_enter Try.func16, Try.ntmps16
  go_upto_region 1 with fail
  generalize hw0 : World.alloc _ _ = w0
  have hP : ParAt w0 w.heap.size p 31 := by rw [← hw0]; exact ((ParAt.new w p _).up ((Below.refl _ _).alloc (Nat.le_refl _) _)).up ((Below.refl _ _).alloc (Nat.le_refl _) _)
  have hS : StdAt w0 (w.heap.size + 1) s 37 := by rw [← hw0]; exact (StdAt.new _ s _ (by simp)).up ((Below.refl _ _).alloc (Nat.le_refl _) _)
  have hN : StdAt w0 (w.heap.size + 1 + 1) Std.none 37 := by rw [← hw0]; exact StdAt.new _ Std.none _ (by simp)
  have hB : Below w.heap.size w w0 := by rw [← hw0]; exact (((Below.refl _ _).alloc (Nat.le_refl _) _).alloc (by simp) _).alloc (by simp; omega) _
  clear hw0
  have c0 := hS.c0
  have p3 := (hP.cell 3).trans p.v3
  go_wp2_with (first
    | (refine load_rst _ rfl rfl _ r _ rfl (by assumption) ?_)
    | (refine store_bal _ _ rfl rfl _ s 37 v rfl rfl (by assumption) ?_; intro w2 hS2 hb2 hz2 ho2; rw [HRR.out] at hS2; have hN := (ho2 _ (by omega)).trans hN; have hB := hB.trans (hb2.mono (Nat.le_succ _)))
    | (refine store_rst _ _ rfl rfl _ r Std.none 37 rfl rfl (by assumption) ?_; intro w4 hR hb4; have hB := hB.trans (hb4.mono (Nat.le_trans (Nat.le_succ _) (Nat.le_succ _)))))
  refine bodyPost_ret (res_rst2 Try.results16 rfl hR) rfl ⟨by first | rfl | simp, hB⟩


set_option maxRecDepth 100000 in
set_option maxHeartbeats 1000000 in
theorem rpay_11 (p : Par) (s : Std) (n : Nat) (hp : p.cap < 18446744073709551616) (hf : s.Fits) (hn : n < 18446744073709551616) (h1 : s.bal < p.cap) (h2 : n ≤ p.cap - s.bal) : RpayIs p s n (Std.paid p s n) (n - (p.cap - s.bal)) := by
  intro w
  have hb := hf.bal
  have d1 : decide ((s.bal : Int) < (p.cap : Int)) = true := decide_eq_true (by omega)
  have d2 : decide (s.bal < p.cap) = true := decide_eq_true h1
  obtain ⟨f, hff⟩ : ∃ f, p.cap - s.bal = f := ⟨_, rfl⟩
  rw [hff] at h2
  obtain ⟨r, hr⟩ : ∃ r : Std, Std.paid p s n = r := ⟨_, rfl⟩
  obtain ⟨x, hx⟩ : ∃ x, n - f = x := ⟨_, rfl⟩
  obtain ⟨v, hv⟩ : ∃ v, s.bal + min n f = v := ⟨_, rfl⟩
  have d3 : decide ((n : Int) ≤ (f : Int)) = true := decide_eq_true (by omega)
  have d4 : decide (n ≤ f) = true := decide_eq_true h2
  have e0 : IntKind.u64.wrap ((p.cap : Int) - (s.bal : Int)) = (f : Int) := by rw [show (p.cap : Int) - (s.bal : Int) = (f : Int) by omega]; exact IntWalk.u64_in _ (by omega)
  have e3 : IntKind.u64.wrap ((s.bal : Int) + (n : Int)) = (v : Int) := by rw [show (s.bal : Int) + (n : Int) = (v : Int) by omega]; exact IntWalk.u64_in _ (by omega)
  have x0 : x = 0 := by omega
  have hrr : (⟨v, s.eff, s.score, s.streak⟩ : Std) = r := by rw [← hr, Std.paid, hff, hv]
  rw [hff, hx, hr]
  subst x0
  have HRR := Lib.hid hrr
  clear hff hx hr hv hb hf hn hp h1 h2 hrr
  go_enter Try.func16, Try.ntmps16
  go_upto_region 1 with fail
  generalize hw0 : World.alloc _ _ = w0
  have hP : ParAt w0 w.heap.size p 31 := by rw [← hw0]; exact ((ParAt.new w p _).up ((Below.refl _ _).alloc (Nat.le_refl _) _)).up ((Below.refl _ _).alloc (Nat.le_refl _) _)
  have hS : StdAt w0 (w.heap.size + 1) s 37 := by rw [← hw0]; exact (StdAt.new _ s _ (by simp)).up ((Below.refl _ _).alloc (Nat.le_refl _) _)
  have hN : StdAt w0 (w.heap.size + 1 + 1) Std.none 37 := by rw [← hw0]; exact StdAt.new _ Std.none _ (by simp)
  have hB : Below w.heap.size w w0 := by rw [← hw0]; exact (((Below.refl _ _).alloc (Nat.le_refl _) _).alloc (by simp) _).alloc (by simp; omega) _
  clear hw0
  have c0 := hS.c0
  have p3 := (hP.cell 3).trans p.v3
  go_wp2_with (first
    | (refine load_rst _ rfl rfl _ r _ rfl (by assumption) ?_)
    | (refine store_bal _ _ rfl rfl _ s 37 v rfl rfl (by assumption) ?_; intro w2 hS2 hb2 hz2 ho2; rw [HRR.out] at hS2; have hN := (ho2 _ (by omega)).trans hN; have hB := hB.trans (hb2.mono (Nat.le_succ _)))
    | (refine store_rst _ _ rfl rfl _ r Std.none 37 rfl rfl (by assumption) ?_; intro w4 hR hb4; have hB := hB.trans (hb4.mono (Nat.le_trans (Nat.le_succ _) (Nat.le_succ _)))))
  refine bodyPost_ret (res_rst2 Try.results16 rfl hR) rfl ⟨by first | rfl | simp, hB⟩

theorem rpay_is (p : Par) (s : Std) (n : Nat) (hp : p.cap < 18446744073709551616) (hf : s.Fits) (hn : n < 18446744073709551616) : RpayIs p s n (Std.paid p s n) (n - (p.cap - s.bal)) := by
  by_cases h1 : s.bal < p.cap
  · by_cases h2 : n ≤ p.cap - s.bal
    · exact rpay_11 p s n hp hf hn h1 h2
    · exact rpay_10 p s n hp hf hn h1 h2
  · have e0 : p.cap - s.bal = 0 := by omega
    have e1 : Std.paid p s n = s := by rw [Std.paid, e0, Nat.min_zero]; rfl
    rw [e0, e1, Nat.sub_zero]
    by_cases h2 : n ≤ 0
    · obtain rfl : n = 0 := by omega
      exact rpay_01 p s hf h1
    · exact rpay_00 p s n hf hn h2 h1

end Go.Proofs.Ytijenmkhbkbnfaa
