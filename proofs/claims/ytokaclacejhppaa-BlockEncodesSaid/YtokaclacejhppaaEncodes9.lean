/- Law BlockEncodes (P9.1, P9.3): any deeds have the document's bytes, or the first one that is not right is told; each kind is counted. No condition. -/
import Derived.Test.YtokaclacejhppaaBlkZ
import Derived.Test.YtokaclacejhppaaRows
namespace Go.Proofs.Ytokaclacejhppaa.BlockEncodes
open Go.RowKit Go.ChangeShapes Go.WideShapes Go.ChangeAt
set_option linter.unusedVariables false
set_option linter.unusedSimpArgs false

/-- What encoding comes to, by the program and by the document. -/
def EncP (l : List De) (xs : List Nat) (at' z : Nat) : Prop :=
  ∀ (n m : Nat) (W : World) (A : Option Addr) (c : Nat), l.length = m → xs.length = n → Deeds W (· < W.heap.size) A l → Calls Try.prog 7 #[.slice A m c] W fun e w' => ∃ (A' : Option Addr) (c' : Nat), e = .returned (.tuple #[.slice A' n c', .int .i64 (at' : Int), .int .i64 (z : Int)]) ∧ Lies w' (fun k => k < w'.heap.size) A' xs ∧ Below W.heap.size W w'
def EncR (l : List De) (xs : List Nat) (at' z : Nat) : Prop :=
  ∀ (n m : Nat) (W : World) (A : Option Addr) (c : Nat), l.length = m → xs.length = n → Deeds W (· < W.heap.size) A l → Calls Try.prog 8 #[.slice A m c] W fun e w' => ∃ (A' : Option Addr) (c' : Nat), e = .returned (.tuple #[.slice A' n c', .int .i64 (at' : Int), .int .i64 (z : Int)]) ∧ Lies w' (fun k => k < w'.heap.size) A' xs ∧ Below W.heap.size W w'
theorem enc_both (l : List De) (hf : ∀ x ∈ l, x.d.Fits) (hA : ∀ x ∈ l, x.B = none → x.c = 0) : ∃ xs at' z, EncP l xs at' z ∧ EncR l xs at' z ∧ xs.length ≤ 17930 := by
  by_cases hn : l.length ≤ 64
  · rcases first_bad (l.map De.d) with h | ⟨i, d, hi, hd, hb⟩
    · have hr : ∀ x ∈ l, x.d.Right := fun x hx => h _ (List.mem_map_of_mem hx)
      refine ⟨blk (l.map De.d), 0, 0, ?_, ?_, (blk_len h (by rw [List.length_map]; exact hn)).2⟩
      · rintro n m W A c rfl rfl hD
        refine (bencode_ok l A c W hD hr hn).mono ?_
        rintro e w' ⟨v, rfl, hown, hb⟩
        obtain ⟨A', c', rfl, -, -, -, hL⟩ := Lies.own hown
        exact ⟨A', c', rfl, hL.imp (fun k hk _ => hk), hb⟩
      · rintro n m W A c rfl rfl hD
        refine (rencode_ok l _ A c W hD hf hr hn hA).mono ?_
        rintro e w' ⟨v, rfl, hown, hb⟩
        obtain ⟨A', c', rfl, -, -, -, hL⟩ := Lies.own hown
        exact ⟨A', c', rfl, hL.imp (fun k hk _ => hk), hb⟩
    · rw [List.getElem?_map] at hi
      obtain ⟨x, hx, rfl⟩ := Option.map_eq_some_iff.1 hi
      have hb' : ∀ y ∈ l.take i, y.d.Right := fun y hy => by
        rw [← List.map_take] at hb
        exact hb _ (List.mem_map_of_mem hy)
      refine ⟨[], i, 80, ?_, ?_, by simp⟩
      · rintro n m W A c rfl rfl hD
        refine (bencode_no l A c W hD i x hx hd (hf x (List.mem_of_getElem? hx)) hb' hn).mono ?_
        rintro e w' ⟨rfl, hb⟩
        exact ⟨none, 0, rfl, Lies.nil _ _ _, hb⟩
      · rintro n m W A c rfl rfl hD
        refine (rencode_no l _ A c W hD hf i x hx hd hb' hn).mono ?_
        rintro e w' ⟨rfl, hb⟩
        exact ⟨none, 0, rfl, Lies.nil _ _ _, hb⟩
  · refine ⟨[], 0, 3, ?_, ?_, by simp⟩
    · rintro n m W A c rfl rfl hD
      refine (bencode_big _ A c W (by omega)).mono ?_
      rintro e w' ⟨rfl, hb⟩
      exact ⟨none, 0, rfl, Lies.nil _ _ _, hb⟩
    · rintro n m W A c rfl rfl hD
      refine (rencode_big _ A c W (by omega)).mono ?_
      rintro e w' ⟨rfl, hb⟩
      exact ⟨none, 0, rfl, Lies.nil _ _ _, hb⟩

theorem eqItems_same {P : Program} (d : Nat) (e : TypeId) (xs : Array Value) (k' : IntKind) (he : P.underlying e = some (.int k')) (w : World) : ∀ (is : List Nat), (∀ i ∈ is, ∃ k n, xs[i * 1]? = some (.int k n)) → (Op.eqItems (d + 1) e 1 xs xs is).run P w = .ok true w
  | [], _ => by simp [Op.eqItems]
  | i :: is, h => by
    obtain ⟨k, n, hx⟩ := h i List.mem_cons_self
    have ih := eqItems_same d e xs k' he w is (fun j hj => h j (List.mem_cons_of_mem _ hj))
    unfold Op.eqItems
    simp only [Sem.run_bind, run_part_int he hx, Result.andThen_ok, run_equalIn_int w d e k k' n n he]
    simpa using ih
theorem arr_guard : Try.prog.eqGuardType Try.prog.depth 34 = false := by kernel_rfl
theorem int_cells : Try.prog.cellsOf 3 = 1 := by kernel_rfl
theorem arr_eql (c : List Nat) (hc : c.length = 8) (w : World) : (binOp .eql 34 (.agg (cis c)) (.agg (cis c))).run Try.prog w = .ok (.bool true) w := by
  have hi := arr8_elem
  obtain ⟨i, hi⟩ := Option.isSome_iff_exists.1 hi
  rw [run_eql_struct, run_equalIn_array w 9999 _ _ Try.underlying34 hi, int_cells, eqItems_same 9998 _ (cis c) _ Try.underlying3 w _ (fun j hj => by
    have hj8 : j < 8 := by simpa using hj
    exact ⟨_, _, by rw [Nat.mul_one]; exact cis_get (by omega)⟩)]
  rfl
theorem exec_eql_arr {o : Oper} {a : Act} {w : World} (x y : Operand) (t : TypeId) (ho : o.op = .binOp .eql 34 x y t) (c : List Nat) (hc : c.length = 8) (hx : a.eval x = .agg (cis c)) (hy : a.eval y = .agg (cis c)) : (execOp a.eval o).run Try.prog w = .ok (.value (.bool true)) w := by
  unfold execOp
  simp only [ho, hx, hy, Sem.run_bind, run_eqGuard_agg w _ _ _ _ _ _ arr_guard, Result.andThen_ok, arr_eql c hc w, Sem.run_pure]
theorem exec_load_arr {o : Oper} {a : Act} {w : World} (x : Operand) (ho : o.op = .load 34 x) (g : Nat) (c : List Nat) (hx : a.eval x = .pointer (some ⟨g, 0, none⟩)) (hD : CntAt w g c) (hc : c.length = 8) : (execOp a.eval o).run Try.prog w = .ok (.value (.agg (cis c))) w := by
  unfold execOp
  simp only [ho, hx, Instr.loadAt, Instr.sureAddr, Sem.run_bind, Sem.run_pure, Result.andThen_ok, run_loadVar_row w g _ 34 (cis c) (0, 0) _ hD Try.underlying34 rfl (by rw [cis_size, hc]; exact arr8_size)]

/-- The argument, in a later world. -/
structure Arg (w0 w : World) (l : List De) (A : Option Addr) : Prop where
  deeds : Deeds w (· < w0.heap.size) A l
  below : Below w0.heap.size w0 w
theorem Arg.next {w0 w w' : World} {l : List De} {A : Option Addr} (h : Arg w0 w l A) (hb : Below w.heap.size w w') : Arg w0 w' l A :=
  ⟨h.deeds.next hb, Below.then h.below hb⟩
theorem Arg.set {w0 w : World} {l : List De} {A : Option Addr} (h : Arg w0 w l A) {g p : Nat} (hg : w0.heap.size ≤ g) (v : Value) : Arg w0 (w.setCell ⟨g, p, none⟩ v) l A :=
  ⟨h.deeds.hold fun q hq => World.cell?_setCell_other w _ q v (fun e => by subst e; simp at hq; omega), h.below.setCell (by simpa using hg) v⟩
theorem Arg.all {w0 w : World} {l : List De} {A : Option Addr} (h : Arg w0 w l A) : Deeds w (· < w.heap.size) A l := h.deeds.imp (fun k hk _ => hk)

set_option maxRecDepth 100000 in
theorem walk_many (l : List De) (A : Option Addr) (c : Nat) (w : World) (hW : Arg w w l A) (hs : ¬ (Short l ∧ l.length ≤ 100)) (hl : l.length ≤ 9223372036854775807) :
    Calls Try.prog 3 #[.slice A l.length c] w fun e w' => e = .returned (.bool true) ∧ Below w.heap.size w w' := by
  have kf := fun W h => few_no l 100 (· < w.heap.size) A c W h hs hl
  clear hs hl
  go_enter Try.func3, Try.ntmps3
  go_wp2_with (first
    | (go_at_call 5; refine (blk_awake _).mono ?_; rintro e w1 ⟨rfl, hb1⟩; have hW1 := hW.next hb1)
    | (go_at_call 6; refine (kf _ hW1.deeds).mono ?_; rintro e w2 ⟨rfl, hb2⟩; have hW2 := hW1.next hb2))
  go_ret
  exact ⟨rfl, hW2.below⟩

set_option maxRecDepth 100000 in
set_option maxHeartbeats 4000000 in
theorem walk_few (l : List De) (A : Option Addr) (c : Nat) (w : World) (hW : Arg w w l A) (hs : Short l) (h100 : l.length ≤ 100) (xs : List Nat) (at' z : Nat) (hp : EncP l xs at' z) (hr : EncR l xs at' z) (hxl : xs.length ≤ 17930) :
    Calls Try.prog 3 #[.slice A l.length c] w fun e w' => e = .returned (.bool true) ∧ Below w.heap.size w w' := by
  have hz := zero_deed
  have hza := zero_arr
  have kf := fun W h => few_ok l 100 (· < w.heap.size) A c W h hs h100 (by decide)
  obtain ⟨n, hn⟩ : ∃ n, Hid (xs.length = n) := ⟨_, rfl⟩
  have kp := fun W A' c' h => hp n l.length W A' c' rfl hn.out h
  have kr := fun W A' c' h => hr n l.length W A' c' rfl hn.out h
  have kl := fun W h => bplain_is l (· < w.heap.size) A c W h (by omega)
  have kt : ∀ (W : World) (S S' : Nat → Prop) (A A' : Option Addr) (c c' : Nat), Lies W S A xs → Lies W S' A' xs → Calls Try.prog 10 #[.slice A n c, .slice A' n c'] W fun e w' => e = .returned (.bool true) ∧ Below W.heap.size W w' := fun W S S' A A' c c' h h' => by
    have k := same_true xs S S' A A' c c' W h h' (by unfold maxLen; omega)
    rwa [hn.out] at k
  have KF := Lib.hid kf
  have KP := Lib.hid kp
  have KR := Lib.hid kr
  have KL := Lib.hid kl
  have KT := Lib.hid kt
  have kk := fun W h => kinds_is l (· < w.heap.size) A c W h (by omega)
  have KK := Lib.hid kk
  clear hs hp hr hxl kf kp kr kl kt kk
  go_enter Try.func3, Try.ntmps3
  go_upto_region 9 with (first
    | (go_at_call 5; refine (blk_awake _).mono ?_; rintro e w1 ⟨rfl, hb1⟩; have hW1 := hW.next hb1)
    | (go_at_call 6; refine (KF.out _ hW1.deeds).mono ?_; rintro e w2 ⟨rfl, hb2⟩; have hW2 := hW1.next hb2; clear hW1 hb1 hb2)
    | (go_at_call 7; refine (KP.out _ _ _ hW2.all).mono ?_; rintro e w3 ⟨A3, c3, rfl, hL3, hb3⟩; have hW3 := hW2.next hb3; clear hW2 hb3)
    | (go_at_call 9; refine (KL.out _ hW3.deeds).mono ?_; rintro e w4 ⟨A4, c4, rfl, hD4, hb4⟩; have hW4 := hW3.next hb4; have hL4 := hL3.grown (grown_below hb4 none) (by simp); clear hW3 hL3 hb4)
    | (go_at_call 8; refine (KR.out _ _ _ (hD4.imp (fun k hk _ => hk))).mono ?_; rintro e w5 ⟨A5, c5, rfl, hL5, hb5⟩; have hW5 := hW4.next hb5; have hM5 := hL4.grown (grown_below hb5 none) (by simp); clear hW4 hL4 hD4 hb5)
    | (go_at_call 10; refine (KT.out _ _ _ _ _ _ _ hM5 hL5).mono ?_; rintro e w6 ⟨rfl, hb6⟩; have hW6 := hW5.next hb6; clear hW5 hM5 hL5 hb6))
  have hC7 := CntAt.new w6 [0, 0, 0, 0, 0, 0, 0, 0]
  have hW7 := hW6.next ((Below.refl _ _).alloc (Nat.le_refl _) (.cells (cis [0, 0, 0, 0, 0, 0, 0, 0]) 34))
  have hs6 := hW6.below.size
  clear hW hW6
  go_wp2
  go_loopw [47] (fun i wr => ∃ k : Nat, k ≤ l.length ∧ i = .int .i64 k ∧ Arg w wr l A ∧ CntAt wr w6.heap.size (cnts (l.take k))) (fun i _ => l.length - (intOf i).toNat)
  case atStart => exact ⟨0, Nat.zero_le _, rfl, hW7, hC7⟩
  case round =>
    clear hW7 hC7
    obtain ⟨k, hk, rfl, hW, hC⟩ := hrel
    by_cases hlt : k < l.length
    · obtain ⟨x, hx, ⟨a, rfl, hSa, hat⟩, hb, hc, hmx⟩ := hW.deeds.get hlt
      have hki : (k : Int) < (l.length : Int) := by omega
      have hk0 : (0 : Int) ≤ (k : Int) := by omega
      have HX := Lib.hid hx
      obtain ⟨p, hp⟩ : ∃ p, Hid (place x.d.kind = p) := ⟨_, rfl⟩
      obtain ⟨cs, hcs⟩ : ∃ cs, Hid (cnts (l.take k) = cs) := ⟨_, rfl⟩
      have h8 : cs.length = 8 := by rw [← hcs.out]; exact cnts_len _
      have hp8 : p < 8 := by rw [← hp.out]; exact place_lt _
      have hpl : p < cs.length := by omega
      obtain ⟨y, hy⟩ : ∃ y, cs[p]? = some y := ⟨_, List.getElem?_eq_getElem hpl⟩
      have hyl : y ≤ 1000 := by
        have h1 := cnts_le (l.take k) y (by rw [hcs.out]; exact List.mem_of_getElem? hy)
        rw [List.length_take] at h1
        omega
      rw [hcs.out] at hC
      have hcell : ∀ w', CntAt w' w6.heap.size cs → w'.cell? ⟨w6.heap.size, p, none⟩ = some (.int .i64 (y : Int)) := fun w' h => by
        rw [h.cell hpl, ← (List.getElem?_eq_some_iff.1 hy).2]
      have HCELL := Lib.hid hcell
      have HY := Lib.hid hy
      have hgw := hC.lt
      have HW := Lib.hid hW
      clear hx hb hc hmx h8 hpl hy hcell hW
      go_upto_region 13 with (first
        | (refine load_deed_at _ rfl rfl _ x rfl hat ?_)
        | (refine store_deed _ _ rfl rfl wr.heap.size x.d Dd.none x.B none x.c 0 _ rfl rfl (DeedAt.new wr Dd.none none 0 _) ?_))
      generalize hW4 : World.setRow _ _ _ = w4
      have hD4 : DeedAt w4 wr.heap.size x.d x.B x.c 39 := by rw [← hW4]; exact DeedAt.set (DeedAt.new wr Dd.none none 0 _)
      have hb4 : Below wr.heap.size wr w4 := by rw [← hW4]; exact below_setRow ((Below.refl _ _).alloc (Nat.le_refl _) _) (Nat.le_refl _) _
      clear hW4
      have c0 := hD4.k0
      have hC4 := hC.next hb4
      have hcell := HCELL.out w4 hC4
      have hfree := hC4.free p
      have HC4 := Lib.hid hC4
      have HW4 := Lib.hid (HW.out.next hb4)
      obtain ⟨kd, hkd⟩ : ∃ kd, Hid (x.d.kind = kd) := ⟨_, rfl⟩
      rw [hkd.out] at c0 hp
      clear hC hC4 hb4 hD4
      have fin : Arg w (w4.setCell ⟨w6.heap.size, p, none⟩ (.int .i64 ((y : Int) + 1))) l (some a) ∧ CntAt (w4.setCell ⟨w6.heap.size, p, none⟩ (.int .i64 ((y : Int) + 1)))  w6.heap.size (cnts (l.take (k + 1))) := by
        refine ⟨HW4.out.set hs6 _, ?_⟩
        rw [cnts_next HX.out, hkd.out, hp.out, hcs.out]
        unfold bump
        rw [HY.out]
        exact HC4.out.put p (y + 1) _ (by simp)
      have FIN := Lib.hid fin
      clear fin
      by_cases h1 : 0 < kd
      · have d1 : decide ((0 : Int) < kd) = true := by simpa using h1
        by_cases h2 : kd < 8
        · have d2 : decide (kd < (8 : Int)) = true := by simpa using h2
          obtain rfl : kd.toNat = p := by rw [← hp.out]; unfold place; rw [if_neg (by omega)]
          have hk1 : (0 : Int) ≤ kd := by omega
          clear hp
          go_wp2
          go_roundw
          case rel => exact ⟨k + 1, by omega, by go_num, FIN.out⟩
          case measure => simp [intOf]; omega
        · have d2 : decide (kd < (8 : Int)) = false := by simpa using h2
          obtain rfl : 0 = p := by rw [← hp.out]; unfold place; rw [if_pos (by omega)]
          clear hp
          go_wp2
          go_roundw
          case rel => exact ⟨k + 1, by omega, by go_num, FIN.out⟩
          case measure => simp [intOf]; omega
      · have d1 : decide ((0 : Int) < kd) = false := by simpa using h1
        obtain rfl : 0 = p := by rw [← hp.out]; unfold place; split <;> omega
        clear hp
        go_wp2
        go_roundw
        case rel => exact ⟨k + 1, by omega, by go_num, FIN.out⟩
        case measure => simp [intOf]; omega
    · obtain rfl : k = l.length := by omega
      rw [List.take_length] at hC
      have h8 := cnts_len l
      have HW := Lib.hid hW
      have HC := Lib.hid hC
      clear hW hC
      go_wp2
      refine region_list [] (fun _ w' => Below wr.heap.size wr w') (by kernel_rfl) (by kernel_rfl) (Below.refl _ _).drew ?_
      (refine' SeqS.calm _ (by rfl) (by rfl) (fun w => ?_) ?_; rotate_left; · (go_simp <;> with_reducible rfl))
      simp only [Act.put, List.setIfInBounds_toArray, List.set_cons_zero, List.set_cons_succ]
      refine SeqS.call (below_call (Nat.le_refl _) (fun w hS => KK.out w (HW.out.next hS).deeds)) (by rfl) (by rfl) (fun w => ?_) ?_; · go_simp
      simp only [Act.put, List.setIfInBounds_toArray, List.set_cons_zero, List.set_cons_succ]
      refine SeqS.take _ (by rfl) (by rfl) (fun p w' hS => exec_load_arr _ rfl w6.heap.size (cnts l) rfl (HC.out.next hS) h8) ?_
      simp only [Act.put, List.setIfInBounds_toArray, List.set_cons_zero, List.set_cons_succ]
      refine SeqS.calm _ (by rfl) (by rfl) (fun w => exec_eql_arr _ _ _ rfl (cnts l) h8 rfl rfl) ?_
      simp only [Act.put, List.setIfInBounds_toArray, List.set_cons_zero, List.set_cons_succ]
      (refine' SeqS.calm _ (by rfl) (by rfl) (fun w => ?_) ?_; rotate_left; · (go_simp <;> with_reducible rfl))
      simp only [Act.put, List.setIfInBounds_toArray, List.set_cons_zero, List.set_cons_succ]
      intro w9 hb9
      have hW9 := HW.out.next hb9
      go_wp2
      go_ret
      exact ⟨rfl, hW9.below⟩

theorem walk (l : List De) (A : Option Addr) (c : Nat) (w : World) (hf : ∀ x ∈ l, x.d.Fits) (hx : Deeds w (· < w.heap.size) A l) (hc : l.length ≤ c) (hm : c ≤ maxLen) (hA : ∀ x ∈ l, x.B = none → x.c = 0) :
    Calls Try.prog 3 #[.slice A l.length c] w fun e w' => e = .returned (.bool true) ∧ Below w.heap.size w w' := by
  have hW : Arg w w l A := ⟨hx, Below.refl _ _⟩
  by_cases hs : Short l ∧ l.length ≤ 100
  · obtain ⟨xs, at', z, h1, h2, h3⟩ := enc_both l hf hA
    exact walk_few l A c w hW hs.1 hs.2 xs at' z h1 h2 h3
  · exact walk_many l A c w hW hs (by unfold maxLen at hm; omega)

theorem own : ownKnob Try.prog.godebug = none := by kernel_rfl
theorem laidOut : laidOutB Try.prog = true := by kernel_rfl

set_option maxRecDepth 100000 in
theorem lifted (os : Os) (started : os.Started) (H : Type) (enc : TypeId × Value → H) :
    ReturnsInHanded {} Try.checked os 3 .any (Rows.blockEncodesSpec.pre6 enc Try.prog Try.f3 Rows.blockEncodesRow.domain false) (Rows.blockEncodesSpec.post enc Try.prog Try.f3 false true false false) := by
  refine returnsInHanded_of_change (C := Try.checked) own started (by kernel_rfl) Try.func3
    (ChangeSpec.witness6 (enc := enc) (C := Try.checked) false ⟨#[], #[.slice none 0 0], []⟩ 8 (by kernel_rfl) (by kernel_rfl) (by kernel_rfl) (by kernel_rfl)) ?_
  intro W base args ds gs before hval0 hW hcnd _
  have hval : ∀ (j : Nat) t v, Try.f3.params[j]? = some t → args[j]? = some v → Value.okWide Try.prog W .any base t v := hval0
  have hW' := hW
  obtain ⟨p, q, hA0, hV, rfl, hfz, hnd⟩ := hW
  have hlt : ∀ x ∈ p ++ q, x.block < W.heap.size := fun x hx => hW'.lt x hx
  have hA : DataW.TrodAll enc Try.prog W 0 (fun _ => true) true Try.f3.params.toList args.toList ds p := hA0
  rw [Try.params3] at hA hval
  obtain ⟨v0, vs0, d0, ds0, p0, q0, hargs, rfl, rfl, h0, r0⟩ := trodAll_cons hA
  obtain ⟨rfl, rfl, rfl⟩ := trodAll_nil r0
  obtain rfl : args = #[v0] := by cases args; simp_all
  obtain ⟨rfl, rfl⟩ := trodVars_none hV
  obtain ⟨A0, n0, c0, rfl⟩ := okWide_slice Try.underlying22 (hval 0 22 v0 rfl rfl)
  obtain ⟨ds0l, hl0, hf0, hc0, hm0, ho0, hA0⟩ := open_deeds h0
  subst hl0
  clear hA0 hval0
  refine (walk ds0l A0 c0 W hf0 ho0 hc0 hm0 hA0).mono fun e W' ⟨he, hg⟩ => ?_
  subst he
  exact ⟨_, rfl, law_post laidOut (by kernel_rfl) rfl rfl Try.underlying4 rfl hW' hg⟩

theorem over : Rows.blockEncodesRow.holds Try.pinned (OpenSpec.ofChange Rows.blockEncodesSpec) :=
  OpenClaim.holds_of_wide 3 Try.f3 rfl rfl rfl rfl rfl rfl rfl ⟨rfl, rfl, rfl, rfl, rfl⟩ rfl rfl rfl rfl rfl (by kernel_rfl) Try.func3 (by kernel_rfl)
    (of_decide_eq_true (by kernel_rfl)) (by unfold Func.isWrapper; first | (rw [if_pos (by decide +kernel)]; kernel_rfl) | (rw [if_neg (by decide +kernel)]; exact ⟨rfl, rfl⟩))
    (fun os started H enc _ => lifted os started H enc)

/-- The statement. -/
theorem proved : Rows.BlockEncodesSaid := over
#print axioms proved
end Go.Proofs.Ytokaclacejhppaa.BlockEncodes
