/- Law MootOpens (P23.2): any motion that is moved stands where the document says, or is refused. No condition. -/
import Derived.Test.YtcaejanfhchacaaRows
import Derived.Test.YtcaejanfhchacaaMooN
import Derived.Test.YtcaejanfhchacaaMooX
import Derived.Test.YtcaejanfhchacaaMooY
import Derived.Test.YtcaejanfhchacaaMooS
import Derived.Test.YtcaejanfhchacaaMooL
import Derived.Test.YtcaejanfhchacaaParP
import Derived.Test.YtcaejanfhchacaaDeedIn
import Derived.Test.YtcaejanfhchacaaSeqR
namespace Go.Proofs.Ytcaejanfhchacaa.MootOpens
open Go.RowKit Go.ChangeShapes Go.WideShapes Go.ChangeAt Go.Deep
set_option linter.unusedVariables false
set_option linter.unusedSimpArgs false

/-- A deed, and an epoch. -/
structure Mv where
  d : Dd
  A : Option Addr
  c : Nat
  ep : Int
def Mv.vals (x : Mv) : Array Value := x.d.vals x.A x.c ++ #[.int .i64 x.ep]
theorem mv_fields : ∃ fs : Array Field, Try.prog.underlying 50 = some (.struct fs) ∧ fs.map (fun f => (f.type, f.offset, Try.prog.cellsOf f.type)) = #[(48, 0, 34), (3, 34, 1)] := ⟨_, Try.underlying50, by kernel_rfl⟩
theorem mv_cells : Try.prog.cellsOf 50 = 35 := by kernel_rfl
set_option maxRecDepth 100000 in
theorem open_mv {H : Type} {enc : TypeId × Value → H} {w : World} {base : Nat} {held : Bool} {r : Reach} {b0 : Nat} {v : Value} {d : DataW H} {pl : List MemPlace}
    (hv : Value.okWide Try.prog w r b0 50 v) (h : DataW.Trod enc Try.prog w base (fun _ => true) held 50 v d pl) : ∃ y : Mv, v = .agg y.vals ∧ y.d.Fits := by
  obtain ⟨fs, hfs, hty⟩ := mv_fields
  obtain ⟨cs, rfl, hsz0⟩ := okWide_struct hfs hv
  obtain ⟨fuel, hf⟩ := h
  obtain ⟨n2, h⟩ := fields_open (cs := cs.toList) hfs hty hf
  have hl : cs.toList.length = 35 := by rw [Array.length_toList, hsz0, mv_cells]
  obtain ⟨y0, h0⟩ := h 0 _ _ _ rfl
  obtain ⟨y1, h1⟩ := h 1 _ _ _ rfl
  rw [List.drop_zero] at h0
  obtain ⟨d, A, c, e0, hd, -⟩ := deed_cells_open (cs := (cs.toList.take 34).toArray) (by rw [List.size_toArray, List.length_take, hl]; rfl) (by simpa using h0)
  obtain ⟨z, hz⟩ : ∃ z, cs.toList.drop 34 = [z] := List.length_eq_one_iff.1 (by rw [List.length_drop, hl])
  rw [hz] at h1
  obtain ⟨a1, rfl, -, -⟩ := int_open h1
  refine ⟨⟨d, A, c, a1⟩, ?_, hd⟩
  have e : cs.toList = (d.vals A c).toList ++ [.int .i64 a1] := by
    rw [← hz, ← e0, List.take_append_drop]
  show Value.agg cs = _
  congr 1
  rw [← Array.toList_inj, e]
  simp [Mv.vals]
theorem mv_deed (x : Mv) : ∀ j v, (x.d.vals x.A x.c).toList[j]? = some v → x.vals[0 + j]? = some v := fun j v hv => by
  have hj := (List.getElem?_eq_some_iff.1 hv).1
  rw [Array.getElem?_toList] at hv
  rw [Nat.zero_add]
  unfold Mv.vals
  rw [Array.getElem?_append_left (by simpa using hj)]
  exact hv
theorem mv_ep (x : Mv) : x.vals[34]? = some (.int .i64 x.ep) := rfl
theorem deed_asize : (Try.prog.info? 48).map (·.size) = some 34 := by kernel_rfl

theorem popen_len (p : Par) (L : List PMot) (d : Dd) (ep : Int) : (popen p L d ep).1.length ≤ L.length + 1 := by
  unfold popen
  split
  · split
    · split
      · split
        · split <;> simp
        · simp
      · simp
    · simp
  · simp

set_option maxRecDepth 100000 in
set_option maxHeartbeats 2000000 in
theorem walk_wide (p : Par) (l : List Mot) (A : Option Addr) (c : Nat) (x : Mv) (w : World) (hm : Mots w A c l) (hk : l.length ≤ 140737488355328) (h : ¬ (shorts l ∧ l.length ≤ 60)) :
    Calls Try.prog 4 #[.agg p.vals, .slice A l.length c, .agg x.vals] w fun e w' => e = .returned (.bool true) ∧ Below w.heap.size w w' := by
  have kf := fun (W : World) (hB : Below w.heap.size w W) => few23_is l A c false W (hm.up hB) hk ⟨(fun e => by cases e), fun e => absurd e h⟩
  have KF := Lib.hid kf
  clear kf hm hk h
  go_enter Try.func4, Try.ntmps4
  go_upto_region 1 with fail
  generalize hw0 : World.alloc (World.alloc _ _) _ = w0
  have hP : ParAt w0 w.heap.size p 37 := by rw [← hw0]; exact (ParAt.new w p 37).up ((Below.refl _ _).alloc (Nat.le_refl _) _)
  have hX : RecAt w0 (w.heap.size + 1) x.vals 50 := by
    rw [← hw0]
    have := RecAt.new (w.alloc (.cells p.vals 37)) x.vals 50
    rw [World.size_alloc] at this
    exact this
  have hB : Below w.heap.size w w0 := by rw [← hw0]; exact ((Below.refl _ _).alloc (Nat.le_refl _) _).alloc (by simp) _
  clear hw0
  go_wp2_with (first
    | (go_at_call 7; refine (moot_awake w0).mono ?_; rintro e w1 ⟨rfl, hb⟩; have hP := hP.up hb; have hX := hX.up hb; have hB := Below.then hB hb; clear hb)
    | (go_at_call 8; refine (KF.out _ hB).mono ?_; clear KF; rintro e w2 ⟨rfl, hb⟩; have hP := hP.up hb; have hX := hX.up hb; have hB := Below.then hB hb; clear hb; have k6 : w2.cell? ⟨w.heap.size + 1, 6, none⟩ = some (.slice x.A x.d.bits.length x.c) := hX.cell 6))
  go_ret
  exact ⟨by first | rfl | simp, hB⟩

set_option maxRecDepth 100000 in
set_option maxHeartbeats 2000000 in
theorem walk_long (p : Par) (l : List Mot) (A : Option Addr) (c : Nat) (x : Mv) (w : World) (hm : Mots w A c l) (hk : l.length ≤ 60) (h : shorts l) (hx : 100 < x.d.bits.length) :
    Calls Try.prog 4 #[.agg p.vals, .slice A l.length c, .agg x.vals] w fun e w' => e = .returned (.bool true) ∧ Below w.heap.size w w' := by
  have kf := fun (W : World) (hB : Below w.heap.size w W) => few23_is l A c true W (hm.up hB) (by omega) ⟨fun _ => ⟨h, hk⟩, fun _ => rfl⟩
  have KF := Lib.hid kf
  have d1 : decide ((100 : Int) < (x.d.bits.length : Int)) = true := decide_eq_true (by omega)
  have d2 : decide (100 < x.d.bits.length) = true := decide_eq_true hx
  clear kf hm hk h hx
  go_enter Try.func4, Try.ntmps4
  go_upto_region 1 with fail
  generalize hw0 : World.alloc (World.alloc _ _) _ = w0
  have hP : ParAt w0 w.heap.size p 37 := by rw [← hw0]; exact (ParAt.new w p 37).up ((Below.refl _ _).alloc (Nat.le_refl _) _)
  have hX : RecAt w0 (w.heap.size + 1) x.vals 50 := by
    rw [← hw0]
    have := RecAt.new (w.alloc (.cells p.vals 37)) x.vals 50
    rw [World.size_alloc] at this
    exact this
  have hB : Below w.heap.size w w0 := by rw [← hw0]; exact ((Below.refl _ _).alloc (Nat.le_refl _) _).alloc (by simp) _
  clear hw0
  go_wp2_with (first
    | (go_at_call 7; refine (moot_awake w0).mono ?_; rintro e w1 ⟨rfl, hb⟩; have hP := hP.up hb; have hX := hX.up hb; have hB := Below.then hB hb; clear hb)
    | (go_at_call 8; refine (KF.out _ hB).mono ?_; clear KF; rintro e w2 ⟨rfl, hb⟩; have hP := hP.up hb; have hX := hX.up hb; have hB := Below.then hB hb; clear hb; have k6 : w2.cell? ⟨w.heap.size + 1, 6, none⟩ = some (.slice x.A x.d.bits.length x.c) := hX.cell 6))
  go_ret
  exact ⟨by first | rfl | simp, hB⟩

set_option maxRecDepth 100000 in
set_option maxHeartbeats 8000000 in
theorem walk_held (p : Par) (l : List Mot) (A : Option Addr) (c : Nat) (x : Mv) (w : World) (hm : Mots w A c l) (h : shorts l) (hk : l.length ≤ 60) (hx : ¬ 100 < x.d.bits.length) (hp : p.Fits) (hd : x.d.Fits) :
    Calls Try.prog 4 #[.agg p.vals, .slice A l.length c, .agg x.vals] w fun e w' => e = .returned (.bool true) ∧ Below w.heap.size w w' := by
  have hl : l.length ≤ 100000 := by omega
  have kf := fun (W : World) (hB : Below w.heap.size w W) => few23_is l A c true W (hm.up hB) (by omega) ⟨fun _ => ⟨h, hk⟩, fun _ => rfl⟩
  have kv := fun (W : World) (hB : Below w.heap.size w W) => mopen_is p l A c x.d x.A x.c x.ep W hp hd (hm.up hB) hl
  have kr := fun (A' : Option Addr) (c' : Nat) (W : World) (hm : Mots W A' c' l) => ropen_is p l A' c' x.d x.A x.c x.ep W hd hm hl
  have kp := fun (l : List Mot) (A : Option Addr) (c : Nat) (W : World) (hm : Mots W A c l) hl => lplain23_is l A c W hm hl
  have hp3 : ∀ l3 : List Mot, l3.map Mot.pure = (popen p (l.map Mot.pure) x.d x.ep).1 → l3.length ≤ 100000 := fun l3 e => by
    have e1 : l3.length = (popen p (l.map Mot.pure) x.d x.ep).1.length := by rw [← e, List.length_map]
    have e2 := popen_len p (l.map Mot.pure) x.d x.ep
    rw [List.length_map] at e2
    omega
  obtain ⟨⟨L, i, y⟩, hr⟩ : ∃ r, popen p (l.map Mot.pure) x.d x.ep = r := ⟨_, rfl⟩
  rw [hr] at kv kr hp3
  have d1 : decide ((100 : Int) < (x.d.bits.length : Int)) = false := decide_eq_false (by omega)
  have d2 : decide (100 < x.d.bits.length) = false := decide_eq_false hx
  have KF := Lib.hid kf
  have KV := Lib.hid kv
  have KR := Lib.hid kr
  have KP := Lib.hid kp
  have HP3 := Lib.hid hp3
  have HM := Lib.hid hm
  have HL := Lib.hid hl
  clear kf kv kr kp hm h hr hp3 hl hx hk hp hd
  go_enter Try.func4, Try.ntmps4
  go_upto_region 1 with fail
  generalize hw0 : World.alloc (World.alloc _ _) _ = w0
  have hP : ParAt w0 w.heap.size p 37 := by rw [← hw0]; exact (ParAt.new w p 37).up ((Below.refl _ _).alloc (Nat.le_refl _) _)
  have hX : RecAt w0 (w.heap.size + 1) x.vals 50 := by
    rw [← hw0]
    have := RecAt.new (w.alloc (.cells p.vals 37)) x.vals 50
    rw [World.size_alloc] at this
    exact this
  have hB : Below w.heap.size w w0 := by rw [← hw0]; exact ((Below.refl _ _).alloc (Nat.le_refl _) _).alloc (by simp) _
  clear hw0
  go_wp2_with (first
    | (go_at_call 7; refine (moot_awake w0).mono ?_; rintro e w1 ⟨rfl, hb⟩; have hP := hP.up hb; have hX := hX.up hb; have hB := Below.then hB hb; clear hb)
    | (go_at_call 8; refine (KF.out _ hB).mono ?_; clear KF; rintro e w2 ⟨rfl, hb⟩; have hP := hP.up hb; have hX := hX.up hb; have hB := Below.then hB hb; clear hb; have k6 : w2.cell? ⟨w.heap.size + 1, 6, none⟩ = some (.slice x.A x.d.bits.length x.c) := hX.cell 6; have k34 : w2.cell? ⟨w.heap.size + 1, 34, none⟩ = some (.int .i64 x.ep) := (hX.cell 34).trans (mv_ep x))
    | ((with_reducible refine slot_is 26 rfl ?_); refine load_par _ rfl rfl _ p _ rfl hP ?_)
    | ((with_reducible refine slot_is 29 rfl ?_); refine load_rec 48 _ rfl rfl _ (x.d.vals x.A x.c) rfl (hX.sub 0 (mv_deed x)) Try.underlying48 deed_asize ?_)
    | (go_at_call 15; refine (KV.out _ hB).mono ?_; clear KV; rintro e w3 ⟨l3, A3, c3, rfl, hl3, hm3, hb⟩; clear k6 k34; have hP := hP.up hb; have hX := hX.up hb; have hB := Below.then hB hb; clear hb))
  have HM3 := Lib.hid hm3
  have HL3 := Lib.hid hl3
  have HLE3 := Lib.hid (HP3.out l3 hl3)
  clear hm3 hl3 HP3
  have CP : ∀ w1, Below w3.heap.size w3 w1 → LiesAt w1 ⟨w.heap.size, 0, none⟩ p.vals := fun w1 hb => RecAt.lies (hP.up hb)
  have CD : ∀ w1, Below w3.heap.size w3 w1 → LiesAt w1 ⟨w.heap.size + 1, 0, none⟩ (x.d.vals x.A x.c) := fun w1 hb => (hX.up hb).sub 0 (mv_deed x)
  have CE : ∀ w1, Below w3.heap.size w3 w1 → w1.cell? ⟨w.heap.size + 1, 34, none⟩ = some (.int .i64 x.ep) := fun w1 hb => ((hX.up hb).cell 34).trans (mv_ep x)
  refine region_vary [] 17 (fun w' => Below w3.heap.size w3 w') (by kernel_rfl) (by kernel_rfl) (Below.refl _ _).drew ?_
  simp only [List.take_succ_cons, List.take_zero, List.drop_succ_cons, List.drop_zero]
  refine SeqV.take (fun _ => .agg (p.vals)) (fun _ => by rfl) (by rfl) (fun _ _ _ => rfl) (fun val w1 hS hR => exec_load_rec 37 _ rfl _ (p.vals) rfl (CP w1 hS) Try.underlying37 apar_size) ?_
  simp only [Act.put, List.setIfInBounds_toArray, List.set_cons_zero, List.set_cons_succ]
  refine SeqV.call (f := 17) (args := fun val => #[.agg p.vals]) (fun _ => .agg p.vals) (fun val w1 hS hR => ?_) (fun _ => by rfl) (by rfl) (fun _ _ _ => rfl) (fun val w => ?_) ?_
  · refine (plain_is p w1).mono ?_
    rintro e w2 ⟨rfl, hb⟩
    exact ⟨rfl, hS.trans (hb.mono hS.size), hb⟩
  · go_simp
  simp only [Act.put, List.setIfInBounds_toArray, List.set_cons_zero, List.set_cons_succ]
  refine SeqV.take (fun _ => .slice A l.length c) (fun _ => by rfl) (by rfl) (fun _ _ _ => rfl) (fun val w1 hS hR => ?_) ?_; · (go_simp <;> with_reducible rfl)
  simp only [Act.put, List.setIfInBounds_toArray, List.set_cons_zero, List.set_cons_succ]
  refine SeqV.make (f := 11) (args := fun val => #[.slice A l.length c]) (fun _ v w1 => ∃ A' c', v = .slice A' (l).length c' ∧ Mots w1 A' c' (l)) (fun val w1 hS hR => ?_) (fun _ => by rfl) (by rfl) (fun _ _ _ v w h => h) (fun _ v w1 w2 ⟨A', c', h1, h3⟩ hb => ⟨A', c', h1, h3.up hb⟩) (fun val w => ?_) ?_
  · refine (KP.out l A c w1 (HM.out.up (Below.then hB hS)) HL.out).mono ?_
    rintro e w2 ⟨A', c', rfl, h, hb⟩
    exact ⟨_, rfl, ⟨A', c', rfl, h⟩, hS.trans (hb.mono hS.size), hb⟩
  · go_simp
  simp only [Act.put, List.setIfInBounds_toArray, List.set_cons_zero, List.set_cons_succ]
  refine SeqV.take (fun _ => .pointer (some ⟨w.heap.size + 1, 0, none⟩)) (fun _ => by rfl) (by rfl) (fun _ _ _ => rfl) (fun val w1 hS hR => ?_) ?_; · (go_simp <;> with_reducible rfl)
  simp only [Act.put, List.setIfInBounds_toArray, List.set_cons_zero, List.set_cons_succ]
  refine SeqV.take (fun _ => .agg (x.d.vals x.A x.c)) (fun _ => by rfl) (by rfl) (fun _ _ _ => rfl) (fun val w1 hS hR => exec_load_rec 48 _ rfl _ (x.d.vals x.A x.c) rfl (CD w1 hS) Try.underlying48 deed_asize) ?_
  simp only [Act.put, List.setIfInBounds_toArray, List.set_cons_zero, List.set_cons_succ]
  refine SeqV.call (f := 18) (args := fun val => #[.agg (x.d.vals x.A x.c)]) (fun _ => .agg (x.d.vals x.A x.c)) (fun val w1 hS hR => ?_) (fun _ => by rfl) (by rfl) (fun _ _ _ => rfl) (fun val w => ?_) ?_
  · refine (dplain_is x.d x.A x.c w1).mono ?_
    rintro e w2 ⟨rfl, hb⟩
    exact ⟨rfl, hS.trans (hb.mono hS.size), hb⟩
  · go_simp
  simp only [Act.put, List.setIfInBounds_toArray, List.set_cons_zero, List.set_cons_succ]
  refine SeqV.take (fun _ => .pointer (some ⟨w.heap.size + 1, 34, none⟩)) (fun _ => by rfl) (by rfl) (fun _ _ _ => rfl) (fun val w1 hS hR => ?_) ?_; · (go_simp <;> with_reducible rfl)
  simp only [Act.put, List.setIfInBounds_toArray, List.set_cons_zero, List.set_cons_succ]
  refine SeqV.take (fun _ => .int .i64 x.ep) (fun _ => by rfl) (by rfl) (fun _ _ _ => rfl) (fun val w1 hS hR => ?_) ?_; · (have x := CE w1 hS; go_simp <;> with_reducible rfl)
  simp only [Act.put, List.setIfInBounds_toArray, List.set_cons_zero, List.set_cons_succ]
  refine SeqV.make (f := 16) (args := fun val => #[.agg p.vals, val 3, .agg (x.d.vals x.A x.c), .int .i64 x.ep]) (fun _ v w1 => ∃ (l' : List Mot) (A' : Option Addr) (c' : Nat), v = .tuple #[.slice A' l'.length c', .int .i64 (i : Int), .int .i64 (y : Int)] ∧ l'.map Mot.pure = L ∧ Mots w1 A' c' l') (fun val w1 hS hR => ?_) (fun _ => by rfl) (by rfl) (fun _ _ _ v w h => h) (fun _ v w1 w2 ⟨l', A', c', h1, h2, h3⟩ hb => ⟨l', A', c', h1, h2, h3.up hb⟩) (fun val w => ?_) ?_
  · obtain ⟨A', c', e1, h3⟩ := hR 3 (by kernel_rfl)
    rw [e1]
    refine (KR.out A' c' w1 h3).mono ?_
    rintro e w2 ⟨l4, A4, c4, rfl, h1, h2, hb⟩
    exact ⟨_, rfl, ⟨l4, A4, c4, rfl, h1, h2⟩, hS.trans (hb.mono hS.size), hb⟩
  · go_simp
  simp only [Act.put, List.setIfInBounds_toArray, List.set_cons_zero, List.set_cons_succ]
  refine SeqV.some (fun _ v w1 => ∃ (l' : List Mot) (A' : Option Addr) (c' : Nat), v = .tuple #[.slice A' l'.length c', .int .i64 (i : Int), .int .i64 (y : Int)] ∧ l'.map Mot.pure = L ∧ Mots w1 A' c' l') (fun _ => by rfl) (by rfl) (fun _ _ _ v w h => h) (fun _ v w1 w2 ⟨l', A', c', h1, h2, h3⟩ hb => ⟨l', A', c', h1, h2, h3.up hb⟩) (fun val w1 hS hR => ?_) ?_
  · obtain ⟨l', A', c', e1, h2, h3⟩ := hR 9 (by kernel_rfl)
    refine ⟨val 9, ?_, l', A', c', e1, h2, h3⟩
    go_simp
  simp only [Act.put, List.setIfInBounds_toArray, List.set_cons_zero, List.set_cons_succ]
  refine SeqV.some (fun _ v w1 => ∃ (l' : List Mot) (A' : Option Addr) (c' : Nat), v = .slice A' l'.length c' ∧ l'.map Mot.pure = L ∧ Mots w1 A' c' l') (fun _ => by rfl) (by rfl) (fun _ _ _ v w h => h) (fun _ v w1 w2 ⟨l', A', c', h1, h2, h3⟩ hb => ⟨l', A', c', h1, h2, h3.up hb⟩) (fun val w1 hS hR => ?_) ?_
  · obtain ⟨l', A', c', e1, h2, h3⟩ := hR 10 (by kernel_rfl)
    refine ⟨.slice A' l'.length c', ?_, l', A', c', rfl, h2, h3⟩
    simp only [e1]
    go_simp
  simp only [Act.put, List.setIfInBounds_toArray, List.set_cons_zero, List.set_cons_succ]
  refine SeqV.some (fun _ v w1 => v = .int .i64 (i : Int)) (fun _ => by rfl) (by rfl) (fun _ _ _ v w h => h) (fun _ v w1 w2 h hb => h) (fun val w1 hS hR => ?_) ?_
  · obtain ⟨l', A', c', e1, h2, h3⟩ := hR 10 (by kernel_rfl)
    refine ⟨.int .i64 (i : Int), ?_, rfl⟩
    simp only [e1]
    go_simp
  simp only [Act.put, List.setIfInBounds_toArray, List.set_cons_zero, List.set_cons_succ]
  refine SeqV.some (fun _ v w1 => v = .int .i64 (y : Int)) (fun _ => by rfl) (by rfl) (fun _ _ _ v w h => h) (fun _ v w1 w2 h hb => h) (fun val w1 hS hR => ?_) ?_
  · obtain ⟨l', A', c', e1, h2, h3⟩ := hR 10 (by kernel_rfl)
    refine ⟨.int .i64 (y : Int), ?_, rfl⟩
    simp only [e1]
    go_simp
  simp only [Act.put, List.setIfInBounds_toArray, List.set_cons_zero, List.set_cons_succ]
  refine SeqV.some (fun _ v w1 => ∃ (l' : List Mot) (A' : Option Addr) (c' : Nat), v = .slice A' l'.length c' ∧ l'.map Mot.pure = L ∧ Mots w1 A' c' l') (fun _ => by rfl) (by rfl) (fun _ _ _ v w h => h) (fun _ v w1 w2 ⟨l', A', c', h1, h2, h3⟩ hb => ⟨l', A', c', h1, h2, h3.up hb⟩) (fun val w1 hS hR => ?_) ?_
  · obtain ⟨l', A', c', e1, h2, h3⟩ := hR 11 (by kernel_rfl)
    refine ⟨.slice A' l'.length c', ?_, l', A', c', rfl, h2, h3⟩
    simp only [e1]
    go_simp
  simp only [Act.put, List.setIfInBounds_toArray, List.set_cons_zero, List.set_cons_succ]
  refine SeqV.some (fun _ v w1 => v = .int .i64 (i : Int)) (fun _ => by rfl) (by rfl) (fun _ _ _ v w h => h) (fun _ v w1 w2 h hb => h) (fun val w1 hS hR => ?_) ?_
  · have e1 : val 12 = .int .i64 (i : Int) := hR 12 (by kernel_rfl)
    refine ⟨.int .i64 (i : Int), ?_, rfl⟩
    simp only [e1]
    go_simp
  simp only [Act.put, List.setIfInBounds_toArray, List.set_cons_zero, List.set_cons_succ]
  refine SeqV.some (fun _ v w1 => v = .int .i64 (y : Int)) (fun _ => by rfl) (by rfl) (fun _ _ _ v w h => h) (fun _ v w1 w2 h hb => h) (fun val w1 hS hR => ?_) ?_
  · have e1 : val 13 = .int .i64 (y : Int) := hR 13 (by kernel_rfl)
    refine ⟨.int .i64 (y : Int), ?_, rfl⟩
    simp only [e1]
    go_simp
  simp only [Act.put, List.setIfInBounds_toArray, List.set_cons_zero, List.set_cons_succ]
  intro val w4 hS4 hR4 hD4
  obtain ⟨l4, A4, c4, e14, hl4, hm4⟩ : ∃ (l' : List Mot) (A' : Option Addr) (c' : Nat), val 14 = .slice A' l'.length c' ∧ l'.map Mot.pure = L ∧ Mots w4 A' c' l' := hR4 14 (by decide)
  have e15 : val 15 = .int .i64 (i : Int) := hR4 15 (by decide)
  have e16 : val 16 = .int .i64 (y : Int) := hR4 16 (by decide)
  simp only [e14, e15, e16]
  have hB4 := Below.then hB hS4
  have HM34 := Lib.hid (HM3.out.up hS4)
  have HM4 := Lib.hid hm4
  have HL4 := Lib.hid (hl4.trans HL3.out.symm)
  clear hR4 hD4 hS4 hm4 hl4 CP CD CE hX hP KR e14 e15 e16 HM3 hB
  refine wpList_nil ?_
  go_wp2_with (first
    | (go_at_call 11; refine (KP.out l3 _ _ _ HM34.out HLE3.out).mono ?_; rintro e w5 ⟨A5, c5, rfl, hm5, hb⟩; have HM5 := Lib.hid hm5; have HM45 := Lib.hid (HM4.out.up hb); have hB5 := Below.then hB4 hb; clear hm5 hb HM4)
    | (go_at_call 12; refine (rsamelist_is l3 l4 _ _ _ _ _ HM5.out HM45.out HL4.out HLE3.out).mono ?_; rintro e w6 ⟨rfl, hb⟩; have hB6 := Below.then hB5 hb; clear hb))
  go_ret
  exact ⟨by first | rfl | simp, hB6⟩

theorem walk (p : Par) (l : List Mot) (A : Option Addr) (c : Nat) (x : Mv) (w : World) (hp : p.Fits) (hm : Mots w A c l) (hk : l.length ≤ 140737488355328) (hd : x.d.Fits) :
    Calls Try.prog 4 #[.agg p.vals, .slice A l.length c, .agg x.vals] w fun e w' => e = .returned (.bool true) ∧ Below w.heap.size w w' := by
  by_cases h : shorts l ∧ l.length ≤ 60
  · by_cases hx : 100 < x.d.bits.length
    · exact walk_long p l A c x w hm h.2 h.1 hx
    · exact walk_held p l A c x w hm h.1 h.2 hx hp hd
  · exact walk_wide p l A c x w hm hk h


theorem own : ownKnob Try.prog.godebug = none := by kernel_rfl
theorem laidOut : laidOutB Try.prog = true := by kernel_rfl

set_option maxRecDepth 100000 in
theorem lifted (os : Os) (started : os.Started) (H : Type) (enc : TypeId × Value → H) :
    ReturnsInHanded {} Try.checked os 4 .any (Rows.mootOpensSpec.pre6 enc Try.prog Try.f4 Rows.mootOpensRow.domain false) (Rows.mootOpensSpec.post enc Try.prog Try.f4 false true false false) := by
  refine returnsInHanded_of_change_sized (C := Try.checked) own started (by kernel_rfl) Try.func4
    (ChangeSpec.witness6 (enc := enc) (C := Try.checked) false ⟨#[], #[.agg #[.int .u64 0, .int .u64 0, .int .u64 0, .int .u64 0, .int .u64 0, .int .u64 0, .int .u64 0, .int .u64 0, .int .u64 0, .int .u64 0, .int .u64 0, .int .u64 0, .int .u64 0, .int .u64 0, .int .i64 0, .int .i64 0, .int .i64 0, .int .i64 0, .int .i64 0, .int .i64 0, .int .i64 0, .int .i64 0, .int .i64 0, .int .i64 0], .slice none 0 0, .agg #[.int .i64 0, .int .i64 0, .int .i64 0, .int .i64 0, .int .u64 0, .int .i64 0, .slice none 0 0, .int .i64 0, .int .u64 0, .int .u64 0, .int .u64 0, .int .u64 0, .int .u64 0, .int .u64 0, .int .u64 0, .int .u64 0, .int .u64 0, .int .u64 0, .int .u64 0, .int .u64 0, .int .u64 0, .int .u64 0, .int .i64 0, .int .i64 0, .int .i64 0, .int .i64 0, .int .i64 0, .int .i64 0, .int .i64 0, .int .i64 0, .int .i64 0, .int .i64 0, .int .i64 0, .bool false, .int .i64 0]], []⟩ 8 (by kernel_rfl) (by kernel_rfl) (by kernel_rfl) (by kernel_rfl)) ?_
  intro W base args ds gs before hval0 hW hcnd hsz0 _
  have hval : ∀ (j : Nat) t v, Try.f4.params[j]? = some t → args[j]? = some v → Value.okWide Try.prog W .any base t v := hval0
  have hW' := hW
  obtain ⟨p, q, hA0, hV, rfl, hfz, hnd⟩ := hW
  have hlt : ∀ x ∈ p ++ q, x.block < W.heap.size := fun x hx => hW'.lt x hx
  have hA : DataW.TrodAll enc Try.prog W 0 (fun _ => true) true Try.f4.params.toList args.toList ds p := hA0
  rw [Try.params4] at hA hval
  have hlight : ∀ (j : Nat) t (d : DataW H), (Try.f4.params.toList ++ Rows.mootOpensSpec.plain.varTypes Try.prog)[j]? = some t → (ds ++ gs)[j]? = some d → ∀ k ∈ d.weights Try.prog t, k ≤ reachBytes := fun j t d ht hd k hk => by simpa using List.all_eq_true.1 hsz0 _ (DataW.weights_mem_each ht hd k hk)
  rw [Try.params4] at hlight
  obtain ⟨v0, vs0, d0, ds0, p0, q0, hargs, rfl, rfl, h0, r0⟩ := trodAll_cons hA
  obtain ⟨v1, vs1, d1, ds1, p1, q1, rfl, rfl, rfl, h1, r1⟩ := trodAll_cons r0
  obtain ⟨v2, vs2, d2, ds2, p2, q2, rfl, rfl, rfl, h2, r2⟩ := trodAll_cons r1
  obtain ⟨rfl, rfl, rfl⟩ := trodAll_nil r2
  obtain rfl : args = #[v0, v1, v2] := by cases args; simp_all
  obtain ⟨rfl, rfl⟩ := trodVars_none hV
  obtain ⟨a0, rfl, f0⟩ := open_par (hval 0 37 v0 rfl rfl) h0
  obtain ⟨A1, n1, c1, rfl⟩ := okWide_slice Try.underlying22 (hval 1 22 v1 rfl rfl)
  obtain ⟨l1, hl1, hm1, hk1⟩ := open_mots h1 (hlight 1 _ _ rfl rfl)
  subst hl1
  obtain ⟨a2, rfl, f2⟩ := open_mv (hval 2 50 v2 rfl rfl) h2
  clear hA0 hval0
  refine (walk a0 l1 A1 c1 a2 W f0 hm1 hk1 f2).mono fun e W' ⟨he, hg⟩ => ?_
  subst he
  exact ⟨_, rfl, law_post laidOut (by kernel_rfl) rfl rfl Try.underlying4 rfl hW' hg⟩

theorem over : Rows.mootOpensRow.holds Try.pinned (OpenSpec.ofChange Rows.mootOpensSpec) :=
  OpenClaim.holds_of_wide 4 Try.f4 rfl rfl rfl rfl rfl rfl rfl ⟨rfl, rfl, rfl, rfl, rfl⟩ rfl rfl rfl rfl rfl (by kernel_rfl) Try.func4 (by kernel_rfl)
    (of_decide_eq_true (by kernel_rfl)) (by unfold Func.isWrapper; first | (rw [if_pos (by decide +kernel)]; kernel_rfl) | (rw [if_neg (by decide +kernel)]; exact ⟨rfl, rfl⟩))
    (fun os started H enc _ => lifted os started H enc)

/-- The statement. -/
theorem proved : Rows.MootOpensSaid := over
#print axioms proved

end Go.Proofs.Ytcaejanfhchacaa.MootOpens
