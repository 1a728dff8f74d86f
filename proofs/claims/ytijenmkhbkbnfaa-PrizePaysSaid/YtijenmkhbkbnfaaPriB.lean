/- Layer 14 (prize): weights, Prizes, Pay. By contracts. -/
import Derived.Test.YtijenmkhbkbnfaaPriA
import Derived.Test.YtijenmkhbkbnfaaMoneyB
import Derived.Test.YtijenmkhbkbnfaaRef4
namespace Go.Proofs.Ytijenmkhbkbnfaa
open Go.RowKit Go.Shelf
set_option linter.unusedVariables false
set_option linter.unusedSimpArgs false


theorem std_zero_new (w : World) (T : TypeId) : StdAt (w.alloc (.cells #[.int .u64 0, .int .u64 0, .int .u64 0, .int .i64 0] T)) w.heap.size Std.none T := StdAt.new w Std.none T rfl

set_option maxRecDepth 100000 in
set_option maxHeartbeats 1000000 in
theorem weights_is (p : Par) (l : List Std) (b : Nat) (A : Option Addr) (c : Nat) (w : World) (hP : ParAt w b p 24) (hp : Par.Spans p) (hr : Row w w.heap.size A (sflat l)) (hl : l.length ≤ 128) :
    Calls Try.prog 20 #[weigherAt b, .slice A l.length c] w fun e w' => ∃ v, e = .returned v ∧ w'.ownsRow w.heap.size 22 1 v l.length (u64s (l.map (Std.weight p))) ∧ Below w.heap.size w w' := by
  have eg := enters_of (P := Try.prog) Try.func36 (by kernel_rfl) rfl
  obtain ⟨i0, hi0, hz0, hz1, hz2⟩ := info_parts u64_info
  have hmk : ∀ V : World, (Instr.makeSlice 27 (.int .i64 0) (.int .i64 (l.length : Int))).run Try.prog V =
      .ok (.slice (some ⟨V.heap.size, 0, none⟩) 0 l.length) (V.alloc (.cells (madeCells #[.int .u64 0] l.length) 22)) := by
    intro V
    have h := run_make (P := Try.prog) V 27 22 i0 (.int .u64 0) Try.underlying27 hi0 hz0 .i64 .i64 0 (l.length : Int) (by omega) (by omega) (by rw [hz2]; omega) (by omega)
    rw [hz1, Nat.mul_one] at h
    exact h
  have HP := Lib.hid hp
  obtain ⟨P, hPl⟩ : ∃ P, Hid (l.map (Std.weight p) = P) := ⟨_, rfl⟩
  have hPn : P.length = l.length := by rw [← hPl.out]; simp
  have HPN := Lib.hid hPn
  rw [hPl.out]
  clear hp hPn
  go_enter Try.func20, Try.ntmps20
  go_wp2
  clear hmk
  have hst : (w.alloc (.cells (madeCells #[.int .u64 0] l.length) 22)).ownsRow w.heap.size 22 1 (.slice (some ⟨w.heap.size, 0, none⟩) 0 l.length) 0 [] :=
    World.ownsRow_made w _ l.length (Nat.le_refl _) (by unfold maxLen; omega) (by rw [size_madeCells]; simp)
  have hb0 : Below w.heap.size w (w.alloc (.cells (madeCells #[.int .u64 0] l.length) 22)) := (Below.refl _ w).alloc (Nat.le_refl _) _
  go_loopw [5, 13] (fun bv iv wr => ∃ (k : Nat) (vo : Value), k ≤ l.length ∧ iv = .int .i64 (k : Int) ∧ vo = bv ∧ wr.ownsRow w.heap.size 22 1 vo k (u64s (P.take k)) ∧ Below w.heap.size w wr) (fun _ iv _ => l.length - (intOf iv).toNat)
  case atStart => exact ⟨0, _, Nat.zero_le _, rfl, rfl, hst, hb0⟩
  case round =>
    obtain ⟨k, vo, hk, rfl, rfl, hown, hB⟩ := hrel
    clear hst hb0
    by_cases hlt : k < l.length
    · obtain ⟨s, hs⟩ : ∃ s, l[k]? = some s := ⟨_, List.getElem?_eq_getElem hlt⟩
      obtain ⟨a, rfl, hab, hat⟩ := std_row (hr.below hB) hs
      obtain ⟨x, hx⟩ : ∃ x, Std.weight p s = x := ⟨_, rfl⟩
      have htk : P.take (k + 1) = P.take k ++ [x] := by
        rw [List.take_add_one, ← hPl.out, List.getElem?_map, hs]
        simp [hx]
      have HTK := Lib.hid htk
      have kw := fun w h => weighs_is p s b 24 w h HP.out
      rw [hx] at kw
      have hki : (k : Int) < (l.length : Int) := by omega
      have hPr := hP.below hB hP.lt
      clear htk hx hs
      go_wp2_with (first
        | (refine load_std_at _ rfl rfl _ s rfl hat ?_)
        | (refine store_std _ _ rfl rfl _ s Std.none 36 rfl rfl (std_zero_new _ _) ?_; intro w2 hS2 hb2; have hb2 := below_made (Below.refl _ _) hb2; have hP2 := hPr.up hb2; have hown2 := own_below hown hb2; have hB2 := Below.then hB hb2; clear hb2)
        | (refine load_std _ rfl rfl _ s _ rfl hS2 ?_)
        | (go_at_call 36; refine (kw _ hP2).mono ?_; rintro e w3 ⟨rfl, hb3⟩; have hown3 := own_below hown2 hb3; have hB3 := Below.then hB2 hb3; clear hb3)
        | (go_at_fn 36; refine (kw _ hP2).mono ?_; rintro e w3 ⟨rfl, hb3⟩; have hown3 := own_below hown2 hb3; have hB3 := Below.then hB2 hb3; clear hb3)
        | (at_builtin; refine wpList_append_own _ rfl _ _ 27 rfl w.heap.size 22 i0 (.int .u64 0) 1 8 Try.underlying27 hi0 hz0 hz1 hz2 rfl (by decide) _ _ _ rfl (hown3.alloc _) ⟨w3.heap.size, 0, none⟩ 1 1 [.int .u64 x] rfl rfl ?c1 ?c2 ?c3 ?c4 ?c5 ?_))
      case c1 => exact new_one _ _ _
      case c2 => intro u hu; simp at hu; subst hu; rfl
      case c3 => simp only [maxLen]; omega
      case c4 => omega
      case c5 => have := hB3.size; simp; omega
      intro v' w4 hown' hgrow _
      have hb' := app_below_nat hB3 (Nat.le_refl _) hB3.size hown3 hgrow
      clear hgrow hown hown2 hown3 kw
      go_wp2
      go_roundw
      case rel =>
        refine ⟨k + 1, _, by omega, by go_num, rfl, ?_, hb'⟩
        rw [HTK.out, u64s_snoc]
        exact hown'
      case measure => simp [intOf]; omega
    · obtain rfl : k = l.length := by omega
      rw [← HPN.out, List.take_length, HPN.out] at hown
      go_wp2
      refine bodyPost_ret (v := vo) (by simp [results, Try.results20, go_sem]) rfl ⟨_, rfl, hown, hB⟩


theorem own_lower {w : World} {B B' : Nat} {e : TypeId} {z : Nat} {v : Value} {n : Nat} {xs : List Value} (h : w.ownsRow B e z v n xs) (hb : B' ≤ B) : w.ownsRow B' e z v n xs :=
  ⟨h.1, h.2.imp id fun ⟨g, cap, cur, h1, h2, h3⟩ => ⟨g, cap, cur, h1, Nat.le_trans hb h2, h3⟩⟩
/-- The parts, what is left: a split by the weights. -/
def prizesOf (p : Par) (T : Nat) (l : List Std) : List Nat := (l.map (Std.weight p)).map (prt T (tot (l.map (Std.weight p))))
theorem prizes_len (p : Par) (T : Nat) (l : List Std) : (prizesOf p T l).length = l.length := by simp [prizesOf]
theorem weights_fit {p : Par} (hp : Par.Spans p) {l : List Std} (hl : l.length ≤ 128) : Fits (l.map (Std.weight p)) := by
  have h : ∀ m : List Std, tot (m.map (Std.weight p)) ≤ m.length * 71468255805440000 := by
    intro m
    induction m with
    | nil => simp [tot]
    | cons s m ih =>
      have := Std.weight_le hp s
      simp only [List.map_cons, List.length_cons, tot]
      omega
  have h2 := h l
  refine ⟨by rw [List.length_map]; omega, ?_⟩
  have := Nat.mul_le_mul_right 71468255805440000 hl
  omega

set_option maxRecDepth 100000 in
set_option maxHeartbeats 1000000 in
theorem prizes_no (p : Par) (T : Nat) (l : List Std) (A : Option Addr) (c : Nat) (w : World) (kc : CheckIs p 70) :
    Calls Try.prog 8 #[.agg p.vals, .int .u64 (T : Int), .slice A l.length c] w fun e w' => e = .returned (.tuple #[.slice none 0 0, .int .u64 0, .int .i64 70]) ∧ Below w.heap.size w w' := by
  have hP := ParAt.new w p 24
  have hB : Below w.heap.size w (w.alloc (.cells p.vals 24)) := (Below.refl _ _).alloc (Nat.le_refl _) _
  go_enter Try.func8, Try.ntmps8
  go_wp2_with (first
    | (refine load_par _ rfl rfl _ p _ rfl (by assumption) ?_)
    | (go_at_call 18; refine (kc _).mono ?_; clear kc; rintro e w1 ⟨rfl, hb1⟩; have hP := hP.up hb1; have hB := Below.then hB hb1; clear hb1)
    )
  refine bodyPost_ret (v := .tuple #[.slice none 0 0, .int .u64 0, .int .i64 70]) (by simp [results, Try.results8, go_sem]) rfl ⟨rfl, hB⟩

set_option maxRecDepth 100000 in
set_option maxHeartbeats 1000000 in
theorem prizes_big (p : Par) (T : Nat) (l : List Std) (A : Option Addr) (c : Nat) (w : World) (kc : CheckIs p 0) (hl : 128 < l.length) (hm : l.length ≤ maxLen) :
    Calls Try.prog 8 #[.agg p.vals, .int .u64 (T : Int), .slice A l.length c] w fun e w' => e = .returned (.tuple #[.slice none 0 0, .int .u64 0, .int .i64 3]) ∧ Below w.heap.size w w' := by
  have hP := ParAt.new w p 24
  have hB : Below w.heap.size w (w.alloc (.cells p.vals 24)) := (Below.refl _ _).alloc (Nat.le_refl _) _
  have d1 : decide ((128 : Int) < (l.length : Int)) = true := decide_eq_true (by omega)
  have d2 : decide (128 < l.length) = true := decide_eq_true hl
  clear hm
  go_enter Try.func8, Try.ntmps8
  go_wp2_with (first
    | (refine load_par _ rfl rfl _ p _ rfl (by assumption) ?_)
    | (go_at_call 18; refine (kc _).mono ?_; clear kc; rintro e w1 ⟨rfl, hb1⟩; have hP := hP.up hb1; have hB := Below.then hB hb1; clear hb1)
    )
  refine bodyPost_ret (v := .tuple #[.slice none 0 0, .int .u64 0, .int .i64 3]) (by simp [results, Try.results8, go_sem]) rfl ⟨rfl, hB⟩

set_option maxRecDepth 100000 in
set_option maxHeartbeats 1000000 in
theorem prizes_ok (p : Par) (T : Nat) (l : List Std) (A : Option Addr) (c : Nat) (w : World) (kc : CheckIs p 0) (hp : Par.Spans p) (hT : T < 18446744073709551616) (hr : Row w w.heap.size A (sflat l)) (hl : l.length ≤ 128) :
    Calls Try.prog 8 #[.agg p.vals, .int .u64 (T : Int), .slice A l.length c] w fun e w' => ∃ v, e = .returned (.tuple #[v, .int .u64 (T - tot (prizesOf p T l) : Nat), .int .i64 0]) ∧
      w'.ownsRow w.heap.size 22 1 v l.length (u64s (prizesOf p T l)) ∧ Below w.heap.size w w' := by
  have hP := ParAt.new w p 24
  have hB : Below w.heap.size w (w.alloc (.cells p.vals 24)) := (Below.refl _ _).alloc (Nat.le_refl _) _
  have d1 : decide ((128 : Int) < (l.length : Int)) = false := decide_eq_false (by omega)
  have d2 : decide (128 < l.length) = false := decide_eq_false (by omega)
  have kw := fun (w1 : World) (h : Below w.heap.size w w1) (b : Nat) (hb : ParAt w1 b p 24) => weights_is p l b A c w1 hb hp ((hr.below h).up h.size) hl
  have ks := fun (w1 : World) (A : Option Addr) (c : Nat) (hr : Row w1 w1.heap.size A (u64s (l.map (Std.weight p)))) => share_split_ok T (l.map (Std.weight p)) A c w1 hT hr (weights_fit hp hl)
  simp only [List.length_map] at ks
  rw [show (l.map (Std.weight p)).map (prt T (tot (l.map (Std.weight p)))) = prizesOf p T l from rfl] at ks
  have hrs : ∃ r, Hid (T - tot (prizesOf p T l) = r) := ⟨_, rfl⟩
  obtain ⟨r, hrr⟩ := hrs
  obtain ⟨R, hRR⟩ : ∃ R, Hid (prizesOf p T l = R) := ⟨_, rfl⟩
  obtain ⟨W, hWW⟩ : ∃ W, Hid (l.map (Std.weight p) = W) := ⟨_, rfl⟩
  rw [hrr.out] at ks ⊢
  rw [hRR.out] at ks ⊢
  rw [hWW.out] at ks kw
  clear hr hp hl
  go_enter Try.func8, Try.ntmps8
  go_wp2_with (first
    | (refine load_par _ rfl rfl _ p _ rfl (by assumption) ?_)
    | (go_at_call 18; refine (kc _).mono ?_; clear kc; rintro e w1 ⟨rfl, hb1⟩; have hP := hP.up hb1; have hB := Below.then hB hb1; clear hb1)
    | (go_at_call 21; refine (weigher_made p _).mono ?_; rintro e w2 ⟨rfl, rfl⟩; have hQ := ParAt.new w1 p 24; have hB := hB.alloc hB.size (.cells p.vals 24))
    | (go_at_call 20; refine (kw _ hB _ hQ).mono ?_; clear kw; rintro e w3 ⟨v3, rfl, hown, hb3⟩; obtain ⟨A3, c3, rfl, -, -, hr3⟩ := Row.of_own hown; have hB := hB.trans (hb3.mono hB.size); clear hb3)
    | (go_at_call 19; refine (ks _ A3 c3 hr3).mono ?_; clear ks; rintro e w4 ⟨v4, rfl, hown4, hb4⟩; have hown5 := own_lower hown4 hB.size; have hB := Below.then hB hb4; clear hb4)
    )
  refine bodyPost_ret (v := .tuple #[v4, .int .u64 r, .int .i64 0]) (by simp [results, Try.results8, go_sem]) rfl ⟨_, rfl, hown5, hB⟩


section
variable {ops : Array Oper} {rest : List Oper} {o : Oper} {a : Act} {w : World} {Q : Exit → Act → World → Prop}
theorem StdAt.frz {w : World} {b : Nat} {s : Std} {T : TypeId} (h : StdAt w b s T) (k : Nat) : w.frozen? ⟨b, k, none⟩ = false := frozen_of_row w b k _ _ h
/-- A balance into its block; the world behind it has a new name. -/
theorem store_bal (x y : Operand) (ho : o.op = .store 22 x y) (hgd : Region.wanted o (yielded ops a.tmps) = true) (g : Nat) (s : Std) (T : TypeId) (v : Nat) (hx : a.eval x = .pointer (some ⟨g, 0, none⟩)) (hy : a.eval y = .int .u64 (v : Int)) (hS : StdAt w g s T)
    (h : ∀ w', StdAt w' g ⟨v, s.eff, s.score, s.streak⟩ T → Below g w w' → w'.heap.size = w.heap.size → (∀ k, k ≠ g → w'.heap[k]? = w.heap[k]?) → wpList Try.prog ops Q rest (a.put o.dst undef) w') : wpList Try.prog ops Q (o :: rest) a w :=
  wpList_step fun K hK => by
    rw [if_pos hgd]
    have hc := hS.c0
    have hf := hS.frz 0
    have hK' : K (a.put o.dst undef) (w.setCell ⟨g, 0, none⟩ (.int .u64 (v : Int))) := by
     refine hK _ _ (h _ ?_ (Below.setCell (p := ⟨g, 0, none⟩) (Below.refl g w) (Nat.le_refl _) _) (by simp) (fun k hk => heap_setCell_other _ _ _ _ hk))
     exact heap_setCell_same w g 0 _ _ _ hS
    unfold Oper.wp execOp
    simp only [ho, hx, hy]
    go_simp
    exact hK'
end
section
variable {fn : Func} {s k : Nat} {T : TypeId} {x : Std} {g : Nat} {tmps : Array Value} {w : World}
theorem res_std2 (h : fn.results = #[.cell s 36, .tmp k]) (hp : tmps.getD s undef = .pointer (some ⟨g, 0, none⟩)) (hS : StdAt w g x T) : (results fn tmps).run Try.prog w = .ok (.tuple #[.agg x.vals, tmps.getD k undef]) w := by
  have hp' : tmps[s]?.getD undef = .pointer (some ⟨g, 0, none⟩) := by simpa using hp
  simp [results, h, hp', asAddr, run_loadVar_row w g T 36 x.vals (0, 0) _ hS Try.underlying36 rfl std_size]
end
/-- What it answers, in any world. -/
def PayIs (p : Par) (s : Std) (n : Nat) (r : Std) (k : Nat) : Prop := ∀ w, Calls Try.prog 15 #[.agg p.vals, .agg s.vals, .int .u64 (n : Int)] w fun e w' => e = .returned (.tuple #[.agg r.vals, .int .u64 (k : Int)]) ∧ Below w.heap.size w w'


set_option maxRecDepth 100000 in
set_option maxHeartbeats 1000000 in
theorem pay_no (p : Par) (s : Std) (n : Nat) (kc : CheckIs p 70) : PayIs p s n s n := by
  intro w
  go_enter Try.func15, Try.ntmps15
  go_upto_region 1 with fail
  generalize hw0 : World.alloc _ _ = w0
  have hP : ParAt w0 w.heap.size p 24 := by rw [← hw0]; exact ((ParAt.new w p _).up ((Below.refl _ _).alloc (Nat.le_refl _) _)).up ((Below.refl _ _).alloc (Nat.le_refl _) _)
  have hS : StdAt w0 (w.heap.size + 1) s 36 := by rw [← hw0]; exact (StdAt.new _ s _ (by simp)).up ((Below.refl _ _).alloc (Nat.le_refl _) _)
  have hN : StdAt w0 (w.heap.size + 1 + 1) Std.none 36 := by rw [← hw0]; exact StdAt.new _ Std.none _ (by simp)
  have hB : Below w.heap.size w w0 := by rw [← hw0]; exact (((Below.refl _ _).alloc (Nat.le_refl _) _).alloc (by simp) _).alloc (by simp; omega) _
  clear hw0
  go_wp2_with (first
    | (refine load_par _ rfl rfl _ p _ rfl (by assumption) ?_)
    | (refine load_std _ rfl rfl _ s _ rfl (by assumption) ?_)
    | (go_at_call 18; refine (kc _).mono ?_; clear kc; rintro e w1 ⟨rfl, hb1⟩; have hP := hP.up hb1; have hS := hS.up hb1; have hN := hN.up hb1; have hB := Below.then hB hb1; clear hb1)
    | (refine store_std _ _ rfl rfl _ s Std.none 36 rfl rfl (by assumption) ?_; intro w4 hR hb4; have hB := hB.trans (hb4.mono (Nat.le_trans (Nat.le_succ _) (Nat.le_succ _)))))
  refine bodyPost_ret (res_std2 Try.results15 rfl hR) rfl ⟨rfl, hB⟩

set_option maxRecDepth 100000 in
set_option maxHeartbeats 1000000 in
theorem pay_ok (p : Par) (s : Std) (n : Nat) (kc : CheckIs p 0) (hp : p.cap < 18446744073709551616) (hf : s.Fits) (hn : n < 18446744073709551616) : PayIs p s n (Std.paid p s n) (n - (p.cap - s.bal)) := by
  intro w
  have hb := hf.bal
  have kf := fun w => fall_is p.cap s.bal w hp hb
  obtain ⟨f, hff⟩ : ∃ f, p.cap - s.bal = f := ⟨_, rfl⟩
  have kt := fun w => take_is n f w hn (by omega)
  obtain ⟨t, ht⟩ : ∃ t, min n f = t := ⟨_, rfl⟩
  obtain ⟨x, hx⟩ : ∃ x, n - f = x := ⟨_, rfl⟩
  obtain ⟨r, hr⟩ : ∃ r : Std, Std.paid p s n = r := ⟨_, rfl⟩
  obtain ⟨v, hv⟩ : ∃ v, s.bal + t = v := ⟨_, rfl⟩
  have e1 : (s.bal : Int) + (t : Int) = (v : Int) := by omega
  have e2 : IntKind.u64.wrap (v : Int) = (v : Int) := IntWalk.u64_in _ (by omega)
  have e3 : IntKind.u64.wrap ((s.bal : Int) + (t : Int)) = (v : Int) := by rw [e1, e2]
  have hrr : (⟨v, s.eff, s.score, s.streak⟩ : Std) = r := by rw [← hr, Std.paid, hff, ht, hv]
  rw [hff] at kf
  rw [hff, hx, hr]
  rw [ht, hx] at kt
  have HRR := Lib.hid hrr
  clear hff ht hx hr hv hb hf hn hp e1 hrr
  go_enter Try.func15, Try.ntmps15
  go_upto_region 1 with fail
  generalize hw0 : World.alloc _ _ = w0
  have hP : ParAt w0 w.heap.size p 24 := by rw [← hw0]; exact ((ParAt.new w p _).up ((Below.refl _ _).alloc (Nat.le_refl _) _)).up ((Below.refl _ _).alloc (Nat.le_refl _) _)
  have hS : StdAt w0 (w.heap.size + 1) s 36 := by rw [← hw0]; exact (StdAt.new _ s _ (by simp)).up ((Below.refl _ _).alloc (Nat.le_refl _) _)
  have hN : StdAt w0 (w.heap.size + 1 + 1) Std.none 36 := by rw [← hw0]; exact StdAt.new _ Std.none _ (by simp)
  have hB : Below w.heap.size w w0 := by rw [← hw0]; exact (((Below.refl _ _).alloc (Nat.le_refl _) _).alloc (by simp) _).alloc (by simp; omega) _
  clear hw0
  go_wp2_with (first
    | (refine load_par _ rfl rfl _ p _ rfl (by assumption) ?_)
    | (refine load_std _ rfl rfl _ r _ rfl (by assumption) ?_)
    | (go_at_call 18; refine (kc _).mono ?_; clear kc; rintro e w1 ⟨rfl, hb1⟩; have hP := hP.up hb1; have hS := hS.up hb1; have hN := hN.up hb1; have hB := Below.then hB hb1; clear hb1; have c3 := (hP.cell 3).trans p.v3; have c0 := hS.c0)
    | (go_at_call 27; refine (kf _).mono ?_; clear kf; rintro e w2 ⟨rfl, rfl⟩)
    | (go_at_call 26; refine (kt _).mono ?_; clear kt; rintro e w2 ⟨rfl, rfl⟩)
    | (refine store_bal _ _ rfl rfl _ s 36 v rfl rfl (by assumption) ?_; intro w2 hS2 hb2 hz2 ho2; rw [HRR.out] at hS2; have hN := (ho2 _ (by omega)).trans hN; have hB := hB.trans (hb2.mono (Nat.le_succ _)))
    | (refine store_std _ _ rfl rfl _ r Std.none 36 rfl rfl (by assumption) ?_; intro w4 hR hb4; have hB := hB.trans (hb4.mono (Nat.le_trans (Nat.le_succ _) (Nat.le_succ _)))))
  refine bodyPost_ret (res_std2 Try.results15 rfl hR) rfl ⟨rfl, hB⟩

end Go.Proofs.Ytijenmkhbkbnfaa
